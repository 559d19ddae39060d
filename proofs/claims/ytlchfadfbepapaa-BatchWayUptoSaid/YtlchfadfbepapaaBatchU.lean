/-
  THE PROGRAM's batch: changes copied and compacted (slices.Clone, slices.CompactFunc), and whether a key stands there twice.
-/
import Derived.Test.YtlchfadfbepapaaBatchR
namespace Go.Proofs.Ytlchfadfbepapaa
open Go.RowKit Go.Shelf
/-- the cells of n changes -/
def cellsC (w : World) (b o n : Nat) : List Value := (List.range (n * 3)).map fun j => (w.cell? ⟨b, o + j, none⟩).getD undef
theorem cellsC_at {w : World} {b o n : Nat} {i : Nat} {u : Value} (hi : i < n * 3) (h : w.cell? ⟨b, o + i, none⟩ = some u) : (cellsC w b o n)[i]? = some u := by
  unfold cellsC
  rw [List.getElem?_map, List.getElem?_range hi]
  simp [h]
theorem CS.cellsC_is {w : World} {b o n c : Nat} {l : List bt.C} (h : CS w (some ⟨b, o, none⟩) n c l) {j : Nat} (hj : j < n * 3) : ∃ u, w.cell? ⟨b, o + j, none⟩ = some u ∧ u.oneCell' = true := by
  obtain ⟨b', o', e, _, hr⟩ := h.has (by omega)
  injection e with e
  injection e with e1 e2
  subst e1 e2
  have hl := h.len
  obtain ⟨p, r, X, cx, q, _⟩ := hr (j / 3) (by omega)
  have h3 : j % 3 = 0 ∨ j % 3 = 1 ∨ j % 3 = 2 := by omega
  rcases h3 with h3 | h3 | h3
  · rw [show o + j = o + j / 3 * 3 by omega]
    exact ⟨_, p, rfl⟩
  · rw [show o + j = o + j / 3 * 3 + 1 by omega]
    exact ⟨_, q, rfl⟩
  · rw [show o + j = o + j / 3 * 3 + 2 by omega]
    exact ⟨_, r, rfl⟩
theorem CS.nil_ (w : World) (A : Option Addr) (c : Nat) (hc : c ≤ 9223372036854775807) : CS w A 0 c [] := ⟨rfl, by omega, hc, fun h => by omega⟩
set_option maxHeartbeats 1000000 in
set_option maxRecDepth 100000 in
theorem cloneC_any (A : Option Addr) (n c : Nat) (l : List bt.C) (w : World) (h : CS w A n c l) (hn : n ≤ 1099511627776) :
    Calls Try.prog 65 #[.slice A n c] w fun e w' => (∃ A' c', e = .returned (.slice A' n c') ∧ CS w' A' n c' l ∧ (0 < n → ∃ g, A' = some ⟨g, 0, none⟩ ∧ w.heap.size ≤ g ∧ w'.there g 0 (n * 3))) ∧ Below w.heap.size w w' := by
  obtain ⟨i0, hi0, hz0, hs0, hb0⟩ := info_parts8 info_chg
  have hl := h.len
  have hcap := h.cap
  have hmax := h.max
  have k1 := fun W => Lib.run_eql_slice_nil (P := Try.prog) W 23 39 A n c 0 0 Try.underlying23
  cases A with
  | none =>
    have h0 : n = 0 := by
      rcases Nat.eq_zero_or_pos n with h0 | h0
      · exact h0
      · obtain ⟨b, o, he, _⟩ := h.has h0
        cases he
    subst h0
    obtain rfl : l = [] := List.eq_nil_of_length_eq_zero hl
    clear h
    go_enter Try.func65, Try.ntmps65
    go_wp2_with fail
    go_ret
    exact ⟨⟨none, 0, rfl, CS.nil_ _ _ _ (by omega), fun h => by omega⟩, Below.refl _ _⟩
  | some a =>
    obtain ⟨W1, hW1⟩ : ∃ W, W = w.alloc (.cells #[] 39) := ⟨_, rfl⟩
    have b1 : Below w.heap.size w W1 := hW1 ▸ (Below.refl _ _).alloc (Nat.le_refl _) _
    have s1 : W1.heap.size = w.heap.size + 1 := by rw [hW1]; simp
    have own1 : W1.ownsRow w.heap.size 39 3 (.slice (some ⟨w.heap.size, 0, none⟩) 0 0) 0 [] := ⟨rfl, .inr ⟨w.heap.size, 0, #[], rfl, Nat.le_refl _, hW1 ▸ heap_alloc_new w _, Nat.le_refl _, by simp [maxLen_eq], rfl, rfl⟩⟩
    have hC := h.below b1
    obtain ⟨news, hlen, hnews, hone, hat⟩ : ∃ news : List Value, news.length = n * 3 ∧ (∀ j u, news[j]? = some u → W1.cell? (a.add j) = some u) ∧ (∀ u ∈ news, u.oneCell' = true) ∧ (∀ b o, a = ⟨b, o, none⟩ → ∀ j u, j < n * 3 → W1.cell? ⟨b, o + j, none⟩ = some u → news[j]? = some u) := by
      rcases Nat.eq_zero_or_pos n with h0 | h0
      · exact ⟨[], by simp [h0], by simp, by simp, fun b o e j u hj => by omega⟩
      · obtain ⟨b, o, e, _, _⟩ := hC.has h0
        injection e with e
        subst e
        refine ⟨cellsC W1 b o n, by simp [cellsC], fun j u hu => ?_, fun u hu => ?_, fun b' o' e j u hj hu => ?_⟩
        · have hj : j < n * 3 := by have := (List.getElem?_eq_some_iff.1 hu).1; simpa [cellsC] using this
          obtain ⟨x, hx, _⟩ := hC.cellsC_is hj
          rw [cellsC_at hj hx] at hu
          rw [Addr.add_mid, hx, hu]
        · obtain ⟨j, hj, hju⟩ := List.getElem_of_mem hu
          have hj' : j < n * 3 := by simpa [cellsC] using hj
          obtain ⟨x, hx, h1⟩ := hC.cellsC_is hj'
          have := cellsC_at hj' hx
          rw [List.getElem?_eq_getElem hj, hju] at this
          injection this with this
          rw [this]
          exact h1
        · injection e with e1 e2
          subst e1 e2
          exact cellsC_at hj hu
    have HL := Lib.hid hlen
    clear hlen
    go_enter Try.func65, Try.ntmps65
    go_wp2_with (at_builtin; rw [← hW1]; refine wpList_append_own _ rfl (.tmp 5) (.tmp 6) 23 rfl w.heap.size 39 i0 _ 3 48 Try.underlying23 hi0 hz0 hs0 hb0 rfl (by omega) _ 0 _ rfl own1 a n c news rfl HL.out hnews hone (by rw [maxLen_eq]; omega) (by omega) (by omega) ?_; intro v1 w1 ho1 hg1 _)
    have hg1' : W1.grownBy w1 (some w.heap.size) := hg1
    have b2 : Below w.heap.size w w1 := b1.grown hg1' (by omega) (fun k e => by injection e with e; omega)
    rw [Nat.zero_add, List.nil_append] at ho1
    have hfin : ∃ A' c', v1 = .slice A' n c' ∧ CS w1 A' n c' l ∧ (0 < n → ∃ g, A' = some ⟨g, 0, none⟩ ∧ w.heap.size ≤ g ∧ w1.there g 0 (n * 3)) := by
      rcases Nat.eq_zero_or_pos n with h0 | h0
      · subst h0
        obtain rfl : l = [] := List.eq_nil_of_length_eq_zero hl
        rcases ho1.2 with ⟨e, _⟩ | ⟨g, cap, cur, e, _, _, _, hcm, _⟩
        · exact ⟨none, 0, e, CS.nil_ _ _ _ (by omega), fun h => by omega⟩
        · rw [maxLen_eq] at hcm
          exact ⟨_, cap, e, CS.nil_ _ _ _ (by omega), fun h => by omega⟩
      · rcases ho1.2 with ⟨_, e⟩ | ⟨g, cap, cur, e, hg, hgb, hnc, hcm, hcs, htk⟩
        · omega
        · rw [maxLen_eq] at hcm
          have hcell : ∀ j u, news[j]? = some u → w1.cell? ⟨g, j, none⟩ = some u := fun j u hu => by
            have := ho1.cells (g := g) (by rw [e]; rfl) j u hu
            rwa [Addr.add_mid, Nat.zero_add] at this
          obtain ⟨b, o, ea, hbl, hr⟩ := h.has h0
          injection ea with ea
          have hAt := hat b o ea
          refine ⟨some ⟨g, 0, none⟩, cap, e, ⟨hl, hnc, by omega, fun _ => ⟨g, 0, rfl, (Array.getElem?_eq_some_iff.1 hgb).1, fun i hi => ?_⟩⟩, fun _ => ⟨g, rfl, hg, there_of (cs := cur.toList) (by simpa using hgb) 0 (n * 3) (by simp; omega)⟩⟩
          obtain ⟨p, r, X, cx, q, hB⟩ := hr i hi
          have p2 := hcell _ _ (hAt (i * 3) _ (by omega) ((b1.cell (p := ⟨b, o + i * 3, none⟩) hbl).trans p))
          have q2 := hcell _ _ (hAt (i * 3 + 1) _ (by omega) ((b1.cell (p := ⟨b, o + (i * 3 + 1), none⟩) hbl).trans q))
          have r2 := hcell _ _ (hAt (i * 3 + 2) _ (by omega) ((b1.cell (p := ⟨b, o + (i * 3 + 2), none⟩) hbl).trans r))
          simp only [Nat.zero_add]
          exact ⟨p2, r2, X, cx, q2, hB.below b2⟩
    obtain ⟨A', c', rfl, hCS, hth⟩ := hfin
    go_ret
    exact ⟨⟨A', c', rfl, hCS, hth⟩, b2⟩
/-- n changes, whatever they are, in a block of the call's own -/
def Sh (w : World) (b n : Nat) : Prop := w.there b 0 (n * 3) ∧ ∀ i, i < n → ∃ (k : List UInt8) (A : Option Addr) (m c : Nat) (g : Bool), w.rangeAt b (i * 3) [str k, .slice A m c, .bool g]
theorem Sh.cells {w : World} {b n i : Nat} (h : Sh w b n) (hi : i < n) : ∃ (k : List UInt8) (A : Option Addr) (m c : Nat) (g : Bool), w.cell? ⟨b, i * 3, none⟩ = some (str k) ∧ w.cell? ⟨b, i * 3 + 1, none⟩ = some (.slice A m c) ∧ w.cell? ⟨b, i * 3 + 2, none⟩ = some (.bool g) := by
  obtain ⟨k, A, m, c, g, hr⟩ := h.2 i hi
  exact ⟨k, A, m, c, g, hr 0 _ rfl, hr 1 _ rfl, hr 2 _ rfl⟩
theorem Sh.of {w : World} {b n c : Nat} {l : List bt.C} (h : CS w (some ⟨b, 0, none⟩) n c l) (ht : w.there b 0 (n * 3)) : Sh w b n := ⟨ht, fun i hi => by
  obtain ⟨b', o', e, _, hr⟩ := h.has (by omega)
  injection e with e
  injection e with e1 e2
  subst e1 e2
  have hil : i < l.length := by have := h.len; omega
  obtain ⟨p, r, X, cx, q, _⟩ := hr i hil
  rw [Nat.zero_add] at p r q
  refine ⟨l[i].key, X, l[i].val.length, cx, l[i].gone, fun j v hv => ?_⟩
  match j, hv with
  | 0, hv => injection hv with hv; rw [← hv]; exact p
  | 1, hv => injection hv with hv; rw [← hv]; exact q
  | 2, hv => injection hv with hv; rw [← hv]; exact r⟩
theorem Sh.below {w w' : World} {b n : Nat} (h : Sh w b n) (hb : Below w.heap.size w w') (hl : b < w.heap.size) : Sh w' b n := by
  refine ⟨fun j hj => ?_, fun i hi => ?_⟩
  · rw [hb.cell (p := ⟨b, 0 + j, none⟩) hl, hb.frozen (p := ⟨b, 0 + j, none⟩) hl]
    exact h.1 j hj
  · obtain ⟨k, A, m, c, g, hr⟩ := h.2 i hi
    exact ⟨k, A, m, c, g, fun j v hv => (hb.cell (p := ⟨b, i * 3 + j, none⟩) hl).trans (hr j v hv)⟩
theorem Sh.set {w : World} {b n i : Nat} (h : Sh w b n) (hi : i < n) (k : List UInt8) (A : Option Addr) (m c : Nat) (g : Bool) : Sh (w.setCells b (i * 3) [str k, .slice A m c, .bool g]) b n := by
  refine ⟨World.there_setCells h.1 _ _ _, fun i' hi' => ?_⟩
  by_cases e : i' = i
  · subst e
    exact ⟨k, A, m, c, g, World.rangeAt_setCells_same w b (i' * 3) _ (fun j hj => by
      have hj' : j < 3 := hj
      have := h.1 (i' * 3 + j) (by omega)
      rwa [Nat.zero_add] at this)⟩
  · obtain ⟨k', A', m', c', g', hr⟩ := h.2 i' hi'
    exact ⟨k', A', m', c', g', World.rangeAt_setCells_apart hr b (i * 3) _ (.inr (by
      show i' * 3 + 3 ≤ i * 3 ∨ i * 3 + 3 ≤ i' * 3
      omega))⟩
theorem below_sets {B b : Nat} (hB : B ≤ b) : ∀ (vs : List Value) (o : Nat) {a w : World}, Below B a w → Below B a (w.setCells b o vs)
  | [], _, _, _, h => h
  | v :: r, o, _, _, h => below_sets hB r (o + 1) (h.setCell (p := ⟨b, o, none⟩) hB v)
theorem size_sets (b : Nat) : ∀ (vs : List Value) (o : Nat) (w : World), (w.setCells b o vs).heap.size = w.heap.size
  | [], _, _ => rfl
  | v :: r, o, w => by
    rw [World.setCells, size_sets b r]
    simp [World.setCell]
def clearV (n : Nat) : List Value := (Builtin.zeroCells (Value.agg #[str [], .slice none 0 0, .bool false]).cells n).toList
/-- 'clear' of changes: these cells are written, and no other ones -/
theorem run_clearC (w : World) (ty : TypeId) (hv : ∀ w, (zeroValue 39).run Try.prog w = .ok (.agg #[str [], .slice none 0 0, .bool false]) w) (b o n c : Nat) (hn : 0 < n) (ht : w.there b o (n * 3)) :
    (Builtin.clear_ #[23] ty #[.slice (some ⟨b, o, none⟩) n c]).run Try.prog w = .ok (.tuple #[]) (w.setCells b o (clearV n)) := by
  obtain ⟨vs, hvs⟩ : ∃ vs, (Builtin.zeroCells (Value.agg #[str [], .slice none 0 0, .bool false]).cells n).toList = vs := ⟨_, rfl⟩
  have hlen : vs.length = n * 3 := by
    rw [← hvs]
    simp [Builtin.zeroCells, Value.cells]
  have h1 : ∀ v ∈ vs, v.oneCell' = true := by
    intro v hv
    rw [← hvs] at hv
    simp only [Builtin.zeroCells, Value.cells, Array.toList_map, List.mem_map] at hv
    obtain ⟨j, _, rfl⟩ := hv
    have h3 : j % 3 = 0 ∨ j % 3 = 1 ∨ j % 3 = 2 := by omega
    rcases h3 with h3 | h3 | h3 <;> (simp only [List.size_toArray, List.length_cons, List.length_nil, Nat.zero_add, Nat.reduceAdd, h3]; rfl)
  have hst := run_storeCells_cells (P := Try.prog) b o vs 0 w (fun j hj => (ht j (by omega)).1) (fun j hj => (ht j (by omega)).2) h1
  simp only [Nat.add_zero] at hst
  rw [show clearV n = vs from hvs]
  obtain ⟨m, rfl⟩ : ∃ m, n = m + 1 := ⟨n - 1, by omega⟩
  simp [Builtin.clear_, run_underlying Try.underlying23, hv, hvs, hst]
/-- does a key stand there twice, side by side? -/
def bt.twiceP (l : List bt.C) : Prop := ∃ j, ∃ (x y : bt.C), l[j]? = some x ∧ l[j + 1]? = some y ∧ x.key = y.key
def CompactEnd (l : List bt.C) (n base : Nat) (w : World) (e : Ending) (w' : World) : Prop := ∃ A' k c', e = .returned (.slice A' k c') ∧ k ≤ n ∧ (k < n ↔ bt.twiceP l) ∧ Below base w w'
set_option maxHeartbeats 4000000 in
set_option maxRecDepth 100000 in
theorem compact_any (A : Option Addr) (n c : Nat) (l : List bt.C) (w : World) (base : Nat) (h : CS w A n c l) (hA : 0 < n → ∃ g, A = some ⟨g, 0, none⟩ ∧ base ≤ g ∧ w.there g 0 (n * 3)) :
    Calls Try.prog 64 #[.slice A n c, .func (.func 66) #[] #[]] w (CompactEnd l n base w) := by
  obtain ⟨hz, -⟩ := zero_of_info (show (Try.prog.info? 39).map (fun i => (i.zero, i.size)) = some (some (.agg #[str [], .slice none 0 0, .bool false]), 3) by kernel_rfl)
  have hl := h.len
  have hcap := h.cap
  have hmax := h.max
  have hen := enters_of Try.func66 (by kernel_rfl) rfl
  by_cases h2 : n < 2
  · have hno : ¬ bt.twiceP l := by
      rintro ⟨j, x, y, _, hy, _⟩
      have := (List.getElem?_eq_some_iff.1 hy).1
      omega
    have HNO := Lib.hid hno
    clear hno h
    go_enter Try.func64, Try.ntmps64
    go_wp2_with fail
    go_ret
    exact ⟨A, n, c, rfl, Nat.le_refl _, ⟨fun h => by omega, fun h => absurd h HNO.out⟩, Below.refl _ _⟩
  · obtain ⟨g, rfl, hbg, hth⟩ := hA (by omega)
    have hsh := Sh.of h hth
    have hgl : g < w.heap.size := by
      obtain ⟨b', o', e, hb, _⟩ := h.has (by omega)
      injection e with e
      injection e with e1 e2
      rw [e1]; exact hb
    have HS := Lib.hid hsh
    have H := Lib.hid h
    clear h hth hsh hA
    go_enter Try.func64, Try.ntmps64
    go_wp2_with fail
    go_loopw [5] (fun t wr => ∃ k : Nat, t = .int .i64 k ∧ 1 ≤ k ∧ k ≤ n ∧ Hid (∀ j (x y : bt.C), j + 1 < k → l[j]? = some x → l[j + 1]? = some y → x.key ≠ y.key) ∧ Below w.heap.size w wr) (fun t _ => n - (intOf t).toNat)
    case atStart => exact ⟨1, rfl, by omega, by omega, Lib.hid (fun j _ _ h => by omega), Below.refl _ _⟩
    case round =>
      obtain ⟨k, rfl, hk1, hkn, hz1, hb⟩ := hrel
      by_cases hlt : k < n
      · obtain ⟨b', o', e, -, hr⟩ := H.out.has (by omega)
        injection e with e
        injection e with e1 e2
        subst e1 e2
        obtain ⟨x0, x2, X, cx, x1, -⟩ := hr k (by omega)
        obtain ⟨y0, y2, Y, cy, y1, -⟩ := hr (k - 1) (by omega)
        rw [Nat.zero_add] at x0 x1 x2 y0 y1 y2
        have hxi : l[k]? = some l[k] := List.getElem?_eq_getElem (by omega)
        have hyi : l[k - 1]? = some l[k - 1] := List.getElem?_eq_getElem (by omega)
        obtain ⟨x, hx⟩ : ∃ x, l[k] = x := ⟨_, rfl⟩
        obtain ⟨y, hy⟩ : ∃ y, l[k - 1] = y := ⟨_, rfl⟩
        rw [hx] at x0 x1 x2 hxi
        rw [hy] at y0 y1 y2 hyi
        obtain ⟨mx, hmx⟩ : ∃ m, x.val.length = m := ⟨_, rfl⟩
        obtain ⟨my, hmy⟩ : ∃ m, y.val.length = m := ⟨_, rfl⟩
        rw [hmx] at x1
        rw [hmy] at y1
        obtain ⟨kx, hkx⟩ : ∃ k, x.key = k := ⟨_, rfl⟩
        obtain ⟨ky, hky⟩ : ∃ k, y.key = k := ⟨_, rfl⟩
        obtain ⟨gx, hgx⟩ : ∃ g, x.gone = g := ⟨_, rfl⟩
        obtain ⟨gy, hgy⟩ : ∃ g, y.gone = g := ⟨_, rfl⟩
        rw [hkx] at x0
        rw [hky] at y0
        rw [hgx] at x2
        rw [hgy] at y2
        have HXI := Lib.hid hxi
        have HYI := Lib.hid hyi
        have HKX := Lib.hid hkx
        have HKY := Lib.hid hky
        have HSK := Lib.hid (fun W => sameKey_any kx ky (.slice X mx cx) (.bool gx) (.slice Y my cy) (.bool gy) W)
        obtain ⟨q, hq⟩ : ∃ q, (kx == ky) = q := ⟨_, rfl⟩
        rw [hq] at HSK
        have HQ := Lib.hid hq
        have hsub : IntKind.i64.wrap ((k : Int) - 1) = ((k - 1 : Nat) : Int) := by
          rw [show (k : Int) - 1 = ((k - 1 : Nat) : Int) from by omega]
          exact IntWalk.i64_in _ ⟨by omega, by omega⟩
        have him : k - 1 < n := by omega
        clear hr hx hy hmx hmy hkx hky hgx hgy hxi hyi hq
        go_wp2_with fail
        refine wp_region_held_drew (S := fun W => Below w.heap.size w W) (by kernel_rfl) hb.drew (fun hHeld => ?_)
        refine wpAnyH_take (i := 0) (v := ?_) rfl (by kernel_rfl) (by kernel_rfl) (by kernel_rfl) (fun _ _ _ h => h) (Or.inl ⟨by rfl, ?_⟩) hHeld ?_
        rotate_left
        · intro w hSw; have f0 := (hSw.cell (p := ⟨g, k * 3, none⟩) hgl).trans x0; have f1 := (hSw.cell (p := ⟨g, k * 3 + 1, none⟩) hgl).trans x1; have f2 := (hSw.cell (p := ⟨g, k * 3 + 2, none⟩) hgl).trans x2; have f3 := (hSw.cell (p := ⟨g, (k - 1) * 3, none⟩) hgl).trans y0; have f4 := (hSw.cell (p := ⟨g, (k - 1) * 3 + 1, none⟩) hgl).trans y1; have f5 := (hSw.cell (p := ⟨g, (k - 1) * 3 + 2, none⟩) hgl).trans y2; clear hSw; go_simp; try rfl
        simp only [List.getElem_toArray, List.getElem_cons_zero, Act.put, List.setIfInBounds_toArray, List.set_cons_zero, List.set_cons_succ]
        refine wpAnyH_take (i := 1) (v := ?_) rfl (by kernel_rfl) (by kernel_rfl) (by kernel_rfl) (fun _ _ _ h => h) (Or.inl ⟨by rfl, ?_⟩) hHeld ?_
        rotate_left
        · intro w hSw; have f0 := (hSw.cell (p := ⟨g, k * 3, none⟩) hgl).trans x0; have f1 := (hSw.cell (p := ⟨g, k * 3 + 1, none⟩) hgl).trans x1; have f2 := (hSw.cell (p := ⟨g, k * 3 + 2, none⟩) hgl).trans x2; have f3 := (hSw.cell (p := ⟨g, (k - 1) * 3, none⟩) hgl).trans y0; have f4 := (hSw.cell (p := ⟨g, (k - 1) * 3 + 1, none⟩) hgl).trans y1; have f5 := (hSw.cell (p := ⟨g, (k - 1) * 3 + 2, none⟩) hgl).trans y2; clear hSw; go_simp; try rfl
        simp only [List.getElem_toArray, List.getElem_cons_zero, List.getElem_cons_succ, Act.put, List.setIfInBounds_toArray, List.set_cons_zero, List.set_cons_succ]
        refine wpAnyH_take (i := 2) (v := ?_) rfl (by kernel_rfl) (by kernel_rfl) (by kernel_rfl) (fun _ _ _ h => h) (Or.inl ⟨by rfl, ?_⟩) hHeld ?_
        rotate_left
        · intro w hSw; have f0 := (hSw.cell (p := ⟨g, k * 3, none⟩) hgl).trans x0; have f1 := (hSw.cell (p := ⟨g, k * 3 + 1, none⟩) hgl).trans x1; have f2 := (hSw.cell (p := ⟨g, k * 3 + 2, none⟩) hgl).trans x2; have f3 := (hSw.cell (p := ⟨g, (k - 1) * 3, none⟩) hgl).trans y0; have f4 := (hSw.cell (p := ⟨g, (k - 1) * 3 + 1, none⟩) hgl).trans y1; have f5 := (hSw.cell (p := ⟨g, (k - 1) * 3 + 2, none⟩) hgl).trans y2; clear hSw; go_simp; try rfl
        simp only [List.getElem_toArray, List.getElem_cons_zero, List.getElem_cons_succ, Act.put, List.setIfInBounds_toArray, List.set_cons_zero, List.set_cons_succ]
        refine wpAnyH_take (i := 3) (v := ?_) rfl (by kernel_rfl) (by kernel_rfl) (by kernel_rfl) (fun _ _ _ h => h) (Or.inl ⟨by rfl, ?_⟩) hHeld ?_
        rotate_left
        · intro w hSw; have f0 := (hSw.cell (p := ⟨g, k * 3, none⟩) hgl).trans x0; have f1 := (hSw.cell (p := ⟨g, k * 3 + 1, none⟩) hgl).trans x1; have f2 := (hSw.cell (p := ⟨g, k * 3 + 2, none⟩) hgl).trans x2; have f3 := (hSw.cell (p := ⟨g, (k - 1) * 3, none⟩) hgl).trans y0; have f4 := (hSw.cell (p := ⟨g, (k - 1) * 3 + 1, none⟩) hgl).trans y1; have f5 := (hSw.cell (p := ⟨g, (k - 1) * 3 + 2, none⟩) hgl).trans y2; clear hSw; go_simp; try rfl
        simp only [List.getElem_toArray, List.getElem_cons_zero, List.getElem_cons_succ, Act.put, List.setIfInBounds_toArray, List.set_cons_zero, List.set_cons_succ]
        refine wpAnyH_take (i := 4) (v := ?_) rfl (by kernel_rfl) (by kernel_rfl) (by kernel_rfl) (fun _ _ _ h => h) (Or.inl ⟨by rfl, ?_⟩) hHeld ?_
        rotate_left
        · intro w hSw; have f0 := (hSw.cell (p := ⟨g, k * 3, none⟩) hgl).trans x0; have f1 := (hSw.cell (p := ⟨g, k * 3 + 1, none⟩) hgl).trans x1; have f2 := (hSw.cell (p := ⟨g, k * 3 + 2, none⟩) hgl).trans x2; have f3 := (hSw.cell (p := ⟨g, (k - 1) * 3, none⟩) hgl).trans y0; have f4 := (hSw.cell (p := ⟨g, (k - 1) * 3 + 1, none⟩) hgl).trans y1; have f5 := (hSw.cell (p := ⟨g, (k - 1) * 3 + 2, none⟩) hgl).trans y2; clear hSw; go_simp; try rfl
        simp only [List.getElem_toArray, List.getElem_cons_zero, List.getElem_cons_succ, Act.put, List.setIfInBounds_toArray, List.set_cons_zero, List.set_cons_succ]
        refine wpAnyH_take (i := 5) (v := ?_) rfl (by kernel_rfl) (by kernel_rfl) (by kernel_rfl) (fun _ _ _ h => h) (Or.inl ⟨by rfl, ?_⟩) hHeld ?_
        rotate_left
        · intro w hSw; have f0 := (hSw.cell (p := ⟨g, k * 3, none⟩) hgl).trans x0; have f1 := (hSw.cell (p := ⟨g, k * 3 + 1, none⟩) hgl).trans x1; have f2 := (hSw.cell (p := ⟨g, k * 3 + 2, none⟩) hgl).trans x2; have f3 := (hSw.cell (p := ⟨g, (k - 1) * 3, none⟩) hgl).trans y0; have f4 := (hSw.cell (p := ⟨g, (k - 1) * 3 + 1, none⟩) hgl).trans y1; have f5 := (hSw.cell (p := ⟨g, (k - 1) * 3 + 2, none⟩) hgl).trans y2; clear hSw; go_simp; try rfl
        simp only [List.getElem_toArray, List.getElem_cons_zero, List.getElem_cons_succ, Act.put, List.setIfInBounds_toArray, List.set_cons_zero, List.set_cons_succ]
        refine wpAnyH_take (i := 6) (v := ?_) rfl (by kernel_rfl) (by kernel_rfl) (by kernel_rfl) (fun _ _ _ h => h) (Or.inl ⟨by rfl, ?_⟩) hHeld ?_
        rotate_left
        · intro w hSw; have f0 := (hSw.cell (p := ⟨g, k * 3, none⟩) hgl).trans x0; have f1 := (hSw.cell (p := ⟨g, k * 3 + 1, none⟩) hgl).trans x1; have f2 := (hSw.cell (p := ⟨g, k * 3 + 2, none⟩) hgl).trans x2; have f3 := (hSw.cell (p := ⟨g, (k - 1) * 3, none⟩) hgl).trans y0; have f4 := (hSw.cell (p := ⟨g, (k - 1) * 3 + 1, none⟩) hgl).trans y1; have f5 := (hSw.cell (p := ⟨g, (k - 1) * 3 + 2, none⟩) hgl).trans y2; clear hSw; go_simp; try rfl
        simp only [List.getElem_toArray, List.getElem_cons_zero, List.getElem_cons_succ, Act.put, List.setIfInBounds_toArray, List.set_cons_zero, List.set_cons_succ]
        refine wpAnyH_take (i := 7) (v := ?_) rfl (by kernel_rfl) (by kernel_rfl) (by kernel_rfl) (fun _ _ _ h => h) (Or.inl ⟨by rfl, ?_⟩) hHeld ?_
        rotate_left
        · intro w hSw; have f0 := (hSw.cell (p := ⟨g, k * 3, none⟩) hgl).trans x0; have f1 := (hSw.cell (p := ⟨g, k * 3 + 1, none⟩) hgl).trans x1; have f2 := (hSw.cell (p := ⟨g, k * 3 + 2, none⟩) hgl).trans x2; have f3 := (hSw.cell (p := ⟨g, (k - 1) * 3, none⟩) hgl).trans y0; have f4 := (hSw.cell (p := ⟨g, (k - 1) * 3 + 1, none⟩) hgl).trans y1; have f5 := (hSw.cell (p := ⟨g, (k - 1) * 3 + 2, none⟩) hgl).trans y2; clear hSw; go_simp; try rfl
        simp only [List.getElem_toArray, List.getElem_cons_zero, List.getElem_cons_succ, Act.put, List.setIfInBounds_toArray, List.set_cons_zero, List.set_cons_succ]
        refine wpAnyH_take (i := 8) (v := ?_) rfl (by kernel_rfl) (by kernel_rfl) (by kernel_rfl) (fun _ _ _ h => h) (Or.inl ⟨by rfl, ?_⟩) hHeld ?_
        rotate_left
        · intro w hSw; have f0 := (hSw.cell (p := ⟨g, k * 3, none⟩) hgl).trans x0; have f1 := (hSw.cell (p := ⟨g, k * 3 + 1, none⟩) hgl).trans x1; have f2 := (hSw.cell (p := ⟨g, k * 3 + 2, none⟩) hgl).trans x2; have f3 := (hSw.cell (p := ⟨g, (k - 1) * 3, none⟩) hgl).trans y0; have f4 := (hSw.cell (p := ⟨g, (k - 1) * 3 + 1, none⟩) hgl).trans y1; have f5 := (hSw.cell (p := ⟨g, (k - 1) * 3 + 2, none⟩) hgl).trans y2; clear hSw; go_simp; try rfl
        simp only [List.getElem_toArray, List.getElem_cons_zero, List.getElem_cons_succ, Act.put, List.setIfInBounds_toArray, List.set_cons_zero, List.set_cons_succ]
        refine wpAnyH_take (i := 9) (v := ?_) rfl (by kernel_rfl) (by kernel_rfl) (by kernel_rfl) (fun _ _ _ h => h) (Or.inl ⟨by rfl, ?_⟩) hHeld ?_
        rotate_left
        · intro w hSw; have f0 := (hSw.cell (p := ⟨g, k * 3, none⟩) hgl).trans x0; have f1 := (hSw.cell (p := ⟨g, k * 3 + 1, none⟩) hgl).trans x1; have f2 := (hSw.cell (p := ⟨g, k * 3 + 2, none⟩) hgl).trans x2; have f3 := (hSw.cell (p := ⟨g, (k - 1) * 3, none⟩) hgl).trans y0; have f4 := (hSw.cell (p := ⟨g, (k - 1) * 3 + 1, none⟩) hgl).trans y1; have f5 := (hSw.cell (p := ⟨g, (k - 1) * 3 + 2, none⟩) hgl).trans y2; clear hSw; go_simp; try rfl
        simp only [List.getElem_toArray, List.getElem_cons_zero, List.getElem_cons_succ, Act.put, List.setIfInBounds_toArray, List.set_cons_zero, List.set_cons_succ]
        refine wpAnyH_ready (rs := [10]) (by kernel_rfl) (by simp) ?_
        refine AllReadyH.cons rfl (fun K hK => ?_) AllReadyH.nil
        rw [if_pos (by rfl)]
        go_simp
        refine (HSK.out _).mono ?_
        rintro e w3 ⟨rfl, hb3⟩
        have hb4 := hHeld.trans (hb3.mono hHeld.size)
        refine hK.out _ _ hb4 (fun hHeld => ?_)
        clear hK K
        refine wpAnyH_done (by kernel_rfl) ?_ _
        clear hsub him x0 x1 x2 y0 y1 y2 HSK
        cases q with
        | false =>
          go_wp2_with fail
          go_roundw
          case rel =>
            refine ⟨k + 1, by go_num, by omega, by omega, Lib.hid fun j x' y' hj hx' hy' => ?_, hHeld⟩
            rcases Nat.lt_or_ge (j + 1) k with h1 | h1
            · exact hz1.out j x' y' h1 hx' hy'
            · have e : j = k - 1 := by omega
              subst e
              rw [show k - 1 + 1 = k by omega, HXI.out] at hy'
              rw [HYI.out] at hx'
              injection hx' with hx'
              injection hy' with hy'
              rw [← hx', ← hy', HKX.out, HKY.out]
              exact fun e => (beq_eq_false_iff_ne.1 HQ.out) e.symm
          case measure => simp [intOf]; omega
        | true =>
          have htw : bt.twiceP l := ⟨k - 1, y, x, HYI.out, by rw [show k - 1 + 1 = k by omega]; exact HXI.out, by rw [HKX.out, HKY.out]; exact (eq_of_beq HQ.out).symm⟩
          have HTW := Lib.hid htw
          clear htw HXI HYI HKX HKY HQ hz1
          generalize w3 = wo at *
          have hsho := HS.out.below hHeld hgl
          have hglo : g < wo.heap.size := Nat.lt_of_lt_of_le hgl hHeld.size
          have hbo : Below base w wo := ⟨hHeld.os, hHeld.tape, hHeld.output, hHeld.size, fun k hk => hHeld.block k (by omega)⟩
          have HSO := Lib.hid hsho
          clear hsho hb hb3 hb4 hHeld
          go_wp2_with fail
          obtain ⟨r, hr⟩ : ∃ r, n - k = r := ⟨_, rfl⟩
          obtain ⟨cr, hcr⟩ : ∃ r, c - k = r := ⟨_, rfl⟩
          rw [hr, hcr]
          have hrn : k + r = n := by omega
          have hcrc : k + cr = c := by omega
          clear hr hcr H
          go_loopw [5, 7] (fun t u wr => ∃ k' j : Nat, t = .int .i64 k' ∧ u = .int .i64 j ∧ 1 ≤ j ∧ j ≤ r ∧ k ≤ k' ∧ k' < k + j ∧ Hid (Sh wr g n) ∧ Below base w wr ∧ g < wr.heap.size) (fun _ u _ => r - (intOf u).toNat)
          case atStart => exact ⟨k, 1, rfl, rfl, by omega, by omega, by omega, by omega, HSO, hbo, hglo⟩
          case round =>
            obtain ⟨k', j, rfl, rfl, hj1, hjr, hkk, hkj, hs, hbr, hgr⟩ := hrel
            by_cases hlj : j < r
            · obtain ⟨kx, X, mx, cx, gx, x0, x1, x2⟩ := hs.out.cells (i := k + j) (by omega)
              obtain ⟨ky, Y, my, cy, gy, y0, y1, y2⟩ := hs.out.cells (i := k + (j - 1)) (by omega)
              rw [Nat.add_mul] at x0 x1 x2 y0 y1 y2
              have HSK := Lib.hid (fun W => sameKey_any kx ky (.slice X mx cx) (.bool gx) (.slice Y my cy) (.bool gy) W)
              obtain ⟨q, hq⟩ : ∃ q, (kx == ky) = q := ⟨_, rfl⟩
              rw [hq] at HSK
              have hsub : IntKind.i64.wrap ((j : Int) - 1) = ((j - 1 : Nat) : Int) := by
                rw [show (j : Int) - 1 = ((j - 1 : Nat) : Int) from by omega]
                exact IntWalk.i64_in _ ⟨by omega, by omega⟩
              have hjm : j - 1 < r := by omega
              clear hq
              go_wp2_with fail
              refine wp_region_held_drew (S := fun W => Below wr.heap.size wr W) (by kernel_rfl) (Below.refl _ _).drew (fun hHeld => ?_)
              refine wpAnyH_take (i := 0) (v := ?_) rfl (by kernel_rfl) (by kernel_rfl) (by kernel_rfl) (fun _ _ _ h => h) (Or.inl ⟨by rfl, ?_⟩) hHeld ?_
              rotate_left
              · intro w hSw; have f0 := (hSw.cell (p := ⟨g, k * 3 + j * 3, none⟩) hgr).trans x0; have f1 := (hSw.cell (p := ⟨g, k * 3 + j * 3 + 1, none⟩) hgr).trans x1; have f2 := (hSw.cell (p := ⟨g, k * 3 + j * 3 + 2, none⟩) hgr).trans x2; have f3 := (hSw.cell (p := ⟨g, k * 3 + (j - 1) * 3, none⟩) hgr).trans y0; have f4 := (hSw.cell (p := ⟨g, k * 3 + (j - 1) * 3 + 1, none⟩) hgr).trans y1; have f5 := (hSw.cell (p := ⟨g, k * 3 + (j - 1) * 3 + 2, none⟩) hgr).trans y2; clear hSw; go_simp; try rfl
              simp only [List.getElem_toArray, List.getElem_cons_zero, Act.put, List.setIfInBounds_toArray, List.set_cons_zero, List.set_cons_succ]
              refine wpAnyH_take (i := 1) (v := ?_) rfl (by kernel_rfl) (by kernel_rfl) (by kernel_rfl) (fun _ _ _ h => h) (Or.inl ⟨by rfl, ?_⟩) hHeld ?_
              rotate_left
              · intro w hSw; have f0 := (hSw.cell (p := ⟨g, k * 3 + j * 3, none⟩) hgr).trans x0; have f1 := (hSw.cell (p := ⟨g, k * 3 + j * 3 + 1, none⟩) hgr).trans x1; have f2 := (hSw.cell (p := ⟨g, k * 3 + j * 3 + 2, none⟩) hgr).trans x2; have f3 := (hSw.cell (p := ⟨g, k * 3 + (j - 1) * 3, none⟩) hgr).trans y0; have f4 := (hSw.cell (p := ⟨g, k * 3 + (j - 1) * 3 + 1, none⟩) hgr).trans y1; have f5 := (hSw.cell (p := ⟨g, k * 3 + (j - 1) * 3 + 2, none⟩) hgr).trans y2; clear hSw; go_simp; try rfl
              simp only [List.getElem_toArray, List.getElem_cons_zero, List.getElem_cons_succ, Act.put, List.setIfInBounds_toArray, List.set_cons_zero, List.set_cons_succ]
              refine wpAnyH_take (i := 2) (v := ?_) rfl (by kernel_rfl) (by kernel_rfl) (by kernel_rfl) (fun _ _ _ h => h) (Or.inl ⟨by rfl, ?_⟩) hHeld ?_
              rotate_left
              · intro w hSw; have f0 := (hSw.cell (p := ⟨g, k * 3 + j * 3, none⟩) hgr).trans x0; have f1 := (hSw.cell (p := ⟨g, k * 3 + j * 3 + 1, none⟩) hgr).trans x1; have f2 := (hSw.cell (p := ⟨g, k * 3 + j * 3 + 2, none⟩) hgr).trans x2; have f3 := (hSw.cell (p := ⟨g, k * 3 + (j - 1) * 3, none⟩) hgr).trans y0; have f4 := (hSw.cell (p := ⟨g, k * 3 + (j - 1) * 3 + 1, none⟩) hgr).trans y1; have f5 := (hSw.cell (p := ⟨g, k * 3 + (j - 1) * 3 + 2, none⟩) hgr).trans y2; clear hSw; go_simp; try rfl
              simp only [List.getElem_toArray, List.getElem_cons_zero, List.getElem_cons_succ, Act.put, List.setIfInBounds_toArray, List.set_cons_zero, List.set_cons_succ]
              refine wpAnyH_take (i := 3) (v := ?_) rfl (by kernel_rfl) (by kernel_rfl) (by kernel_rfl) (fun _ _ _ h => h) (Or.inl ⟨by rfl, ?_⟩) hHeld ?_
              rotate_left
              · intro w hSw; have f0 := (hSw.cell (p := ⟨g, k * 3 + j * 3, none⟩) hgr).trans x0; have f1 := (hSw.cell (p := ⟨g, k * 3 + j * 3 + 1, none⟩) hgr).trans x1; have f2 := (hSw.cell (p := ⟨g, k * 3 + j * 3 + 2, none⟩) hgr).trans x2; have f3 := (hSw.cell (p := ⟨g, k * 3 + (j - 1) * 3, none⟩) hgr).trans y0; have f4 := (hSw.cell (p := ⟨g, k * 3 + (j - 1) * 3 + 1, none⟩) hgr).trans y1; have f5 := (hSw.cell (p := ⟨g, k * 3 + (j - 1) * 3 + 2, none⟩) hgr).trans y2; clear hSw; go_simp; try rfl
              simp only [List.getElem_toArray, List.getElem_cons_zero, List.getElem_cons_succ, Act.put, List.setIfInBounds_toArray, List.set_cons_zero, List.set_cons_succ]
              refine wpAnyH_take (i := 4) (v := ?_) rfl (by kernel_rfl) (by kernel_rfl) (by kernel_rfl) (fun _ _ _ h => h) (Or.inl ⟨by rfl, ?_⟩) hHeld ?_
              rotate_left
              · intro w hSw; have f0 := (hSw.cell (p := ⟨g, k * 3 + j * 3, none⟩) hgr).trans x0; have f1 := (hSw.cell (p := ⟨g, k * 3 + j * 3 + 1, none⟩) hgr).trans x1; have f2 := (hSw.cell (p := ⟨g, k * 3 + j * 3 + 2, none⟩) hgr).trans x2; have f3 := (hSw.cell (p := ⟨g, k * 3 + (j - 1) * 3, none⟩) hgr).trans y0; have f4 := (hSw.cell (p := ⟨g, k * 3 + (j - 1) * 3 + 1, none⟩) hgr).trans y1; have f5 := (hSw.cell (p := ⟨g, k * 3 + (j - 1) * 3 + 2, none⟩) hgr).trans y2; clear hSw; go_simp; try rfl
              simp only [List.getElem_toArray, List.getElem_cons_zero, List.getElem_cons_succ, Act.put, List.setIfInBounds_toArray, List.set_cons_zero, List.set_cons_succ]
              refine wpAnyH_take (i := 5) (v := ?_) rfl (by kernel_rfl) (by kernel_rfl) (by kernel_rfl) (fun _ _ _ h => h) (Or.inl ⟨by rfl, ?_⟩) hHeld ?_
              rotate_left
              · intro w hSw; have f0 := (hSw.cell (p := ⟨g, k * 3 + j * 3, none⟩) hgr).trans x0; have f1 := (hSw.cell (p := ⟨g, k * 3 + j * 3 + 1, none⟩) hgr).trans x1; have f2 := (hSw.cell (p := ⟨g, k * 3 + j * 3 + 2, none⟩) hgr).trans x2; have f3 := (hSw.cell (p := ⟨g, k * 3 + (j - 1) * 3, none⟩) hgr).trans y0; have f4 := (hSw.cell (p := ⟨g, k * 3 + (j - 1) * 3 + 1, none⟩) hgr).trans y1; have f5 := (hSw.cell (p := ⟨g, k * 3 + (j - 1) * 3 + 2, none⟩) hgr).trans y2; clear hSw; go_simp; try rfl
              simp only [List.getElem_toArray, List.getElem_cons_zero, List.getElem_cons_succ, Act.put, List.setIfInBounds_toArray, List.set_cons_zero, List.set_cons_succ]
              refine wpAnyH_take (i := 6) (v := ?_) rfl (by kernel_rfl) (by kernel_rfl) (by kernel_rfl) (fun _ _ _ h => h) (Or.inl ⟨by rfl, ?_⟩) hHeld ?_
              rotate_left
              · intro w hSw; have f0 := (hSw.cell (p := ⟨g, k * 3 + j * 3, none⟩) hgr).trans x0; have f1 := (hSw.cell (p := ⟨g, k * 3 + j * 3 + 1, none⟩) hgr).trans x1; have f2 := (hSw.cell (p := ⟨g, k * 3 + j * 3 + 2, none⟩) hgr).trans x2; have f3 := (hSw.cell (p := ⟨g, k * 3 + (j - 1) * 3, none⟩) hgr).trans y0; have f4 := (hSw.cell (p := ⟨g, k * 3 + (j - 1) * 3 + 1, none⟩) hgr).trans y1; have f5 := (hSw.cell (p := ⟨g, k * 3 + (j - 1) * 3 + 2, none⟩) hgr).trans y2; clear hSw; go_simp; try rfl
              simp only [List.getElem_toArray, List.getElem_cons_zero, List.getElem_cons_succ, Act.put, List.setIfInBounds_toArray, List.set_cons_zero, List.set_cons_succ]
              refine wpAnyH_take (i := 7) (v := ?_) rfl (by kernel_rfl) (by kernel_rfl) (by kernel_rfl) (fun _ _ _ h => h) (Or.inl ⟨by rfl, ?_⟩) hHeld ?_
              rotate_left
              · intro w hSw; have f0 := (hSw.cell (p := ⟨g, k * 3 + j * 3, none⟩) hgr).trans x0; have f1 := (hSw.cell (p := ⟨g, k * 3 + j * 3 + 1, none⟩) hgr).trans x1; have f2 := (hSw.cell (p := ⟨g, k * 3 + j * 3 + 2, none⟩) hgr).trans x2; have f3 := (hSw.cell (p := ⟨g, k * 3 + (j - 1) * 3, none⟩) hgr).trans y0; have f4 := (hSw.cell (p := ⟨g, k * 3 + (j - 1) * 3 + 1, none⟩) hgr).trans y1; have f5 := (hSw.cell (p := ⟨g, k * 3 + (j - 1) * 3 + 2, none⟩) hgr).trans y2; clear hSw; go_simp; try rfl
              simp only [List.getElem_toArray, List.getElem_cons_zero, List.getElem_cons_succ, Act.put, List.setIfInBounds_toArray, List.set_cons_zero, List.set_cons_succ]
              refine wpAnyH_take (i := 8) (v := ?_) rfl (by kernel_rfl) (by kernel_rfl) (by kernel_rfl) (fun _ _ _ h => h) (Or.inl ⟨by rfl, ?_⟩) hHeld ?_
              rotate_left
              · intro w hSw; have f0 := (hSw.cell (p := ⟨g, k * 3 + j * 3, none⟩) hgr).trans x0; have f1 := (hSw.cell (p := ⟨g, k * 3 + j * 3 + 1, none⟩) hgr).trans x1; have f2 := (hSw.cell (p := ⟨g, k * 3 + j * 3 + 2, none⟩) hgr).trans x2; have f3 := (hSw.cell (p := ⟨g, k * 3 + (j - 1) * 3, none⟩) hgr).trans y0; have f4 := (hSw.cell (p := ⟨g, k * 3 + (j - 1) * 3 + 1, none⟩) hgr).trans y1; have f5 := (hSw.cell (p := ⟨g, k * 3 + (j - 1) * 3 + 2, none⟩) hgr).trans y2; clear hSw; go_simp; try rfl
              simp only [List.getElem_toArray, List.getElem_cons_zero, List.getElem_cons_succ, Act.put, List.setIfInBounds_toArray, List.set_cons_zero, List.set_cons_succ]
              refine wpAnyH_take (i := 9) (v := ?_) rfl (by kernel_rfl) (by kernel_rfl) (by kernel_rfl) (fun _ _ _ h => h) (Or.inl ⟨by rfl, ?_⟩) hHeld ?_
              rotate_left
              · intro w hSw; have f0 := (hSw.cell (p := ⟨g, k * 3 + j * 3, none⟩) hgr).trans x0; have f1 := (hSw.cell (p := ⟨g, k * 3 + j * 3 + 1, none⟩) hgr).trans x1; have f2 := (hSw.cell (p := ⟨g, k * 3 + j * 3 + 2, none⟩) hgr).trans x2; have f3 := (hSw.cell (p := ⟨g, k * 3 + (j - 1) * 3, none⟩) hgr).trans y0; have f4 := (hSw.cell (p := ⟨g, k * 3 + (j - 1) * 3 + 1, none⟩) hgr).trans y1; have f5 := (hSw.cell (p := ⟨g, k * 3 + (j - 1) * 3 + 2, none⟩) hgr).trans y2; clear hSw; go_simp; try rfl
              simp only [List.getElem_toArray, List.getElem_cons_zero, List.getElem_cons_succ, Act.put, List.setIfInBounds_toArray, List.set_cons_zero, List.set_cons_succ]
              refine wpAnyH_ready (rs := [10]) (by kernel_rfl) (by simp) ?_
              refine AllReadyH.cons rfl (fun K hK => ?_) AllReadyH.nil
              rw [if_pos (by rfl)]
              go_simp
              refine (HSK.out _).mono ?_
              rintro e w3 ⟨rfl, hb3⟩
              have hb4 := hHeld.trans (hb3.mono hHeld.size)
              refine hK.out _ _ hb4 (fun hHeld => ?_)
              clear hK K
              refine wpAnyH_take (i := 11) (v := ?_) rfl (by kernel_rfl) (by kernel_rfl) (by kernel_rfl) (fun _ _ _ h => h) (Or.inl ⟨by rfl, ?_⟩) hHeld ?_
              rotate_left
              · intro w hSw; clear hSw; go_simp; try rfl
              simp only [List.getElem_toArray, List.getElem_cons_zero, List.getElem_cons_succ, Act.put, List.setIfInBounds_toArray, List.set_cons_zero, List.set_cons_succ]
              refine wpAnyH_done (by kernel_rfl) ?_ _
              have hs3 := hs.out.below hb4 hgr
              have hg3 : g < w3.heap.size := Nat.lt_of_lt_of_le hgr hb4.size
              have hb5 : Below base w w3 := hbr.trans ⟨hb4.os, hb4.tape, hb4.output, hb4.size, fun k hk => hb4.block k (by omega)⟩
              have c0 := (hb4.cell (p := ⟨g, k * 3 + j * 3, none⟩) hgr).trans x0
              have c1 := (hb4.cell (p := ⟨g, k * 3 + j * 3 + 1, none⟩) hgr).trans x1
              have c2 := (hb4.cell (p := ⟨g, k * 3 + j * 3 + 2, none⟩) hgr).trans x2
              have HS3 := Lib.hid hs3
              clear hsub hjm x0 x1 x2 y0 y1 y2 HSK hs3 hb3 hb4 hHeld
              cases q with
              | true =>
                go_wp2_with fail
                go_roundw
                case rel => exact ⟨k', j + 1, rfl, by go_num, by omega, by omega, by omega, by omega, HS3, hb5, hg3⟩
                case measure => simp [intOf]; omega
              | false =>
                have hk'n : k' < n := by omega
                have hset := HS3.out.set hk'n kx X mx cx gx
                have HSET := Lib.hid hset
                have hb6 := below_sets hbg [str kx, .slice X mx cx, .bool gx] (k' * 3) hb5
                have hg6 : g < (w3.setCells g (k' * 3) [str kx, .slice X mx cx, .bool gx]).heap.size := by rw [size_sets]; exact hg3
                have hth3 : w3.there g (k' * 3) 3 := fun i hi => by
                  have := HS3.out.1 (k' * 3 + i) (by omega)
                  rwa [Nat.zero_add] at this
                obtain ⟨w6, hw6⟩ : ∃ w6, w3.setCells g (k' * 3) [str kx, .slice X mx cx, .bool gx] = w6 := ⟨_, rfl⟩
                rw [hw6] at HSET hb6 hg6
                have HW6 := Lib.hid hw6
                clear hset hw6
                go_wp2_with (refine wpList_store_mid rfl 39 (.tmp 56) (.tmp 55) rfl g (k' * 3) #[str kx, .slice X mx cx, .bool gx] rfl rfl hth3 rfl (by simp [Value.oneCell']) ?_; rw [HW6.out])
                go_roundw
                case rel => exact ⟨k' + 1, j + 1, by go_num, by go_num, by omega, by omega, by omega, by omega, HSET, hb6, hg6⟩
                case measure => simp [intOf]; omega
            · have hk'n : k' < n := by omega
              have hcl := fun ty => run_clearC wr ty hz g (k' * 3) (n - k') (c - k') (by omega) (fun i hi => by
                have := hs.out.1 (k' * 3 + i) (by omega)
                rwa [Nat.zero_add] at this)
              have hb6 := below_sets hbg (clearV (n - k')) (k' * 3) hbr
              obtain ⟨w6, hw6⟩ : ∃ w6, wr.setCells g (k' * 3) (clearV (n - k')) = w6 := ⟨_, rfl⟩
              rw [hw6] at hb6
              simp only [hw6] at hcl
              clear hw6
              go_wp2_with fail
              go_ret
              exact ⟨_, k', c, rfl, by omega, ⟨fun _ => HTW.out, fun _ => hk'n⟩, hb6⟩
      · have hno : ¬ bt.twiceP l := by
          rintro ⟨j, x, y, hx, hy, e⟩
          have := (List.getElem?_eq_some_iff.1 hy).1
          exact hz1.out j x y (by omega) hx hy e
        have HNO := Lib.hid hno
        have hbB : Below base w wr := ⟨hb.os, hb.tape, hb.output, hb.size, fun k hk => hb.block k (by omega)⟩
        clear hno hz1
        go_wp2_with fail
        go_ret
        exact ⟨_, n, c, rfl, Nat.le_refl _, ⟨fun h => by omega, fun h => absurd h HNO.out⟩, hbB⟩
end Go.Proofs.Ytlchfadfbepapaa
