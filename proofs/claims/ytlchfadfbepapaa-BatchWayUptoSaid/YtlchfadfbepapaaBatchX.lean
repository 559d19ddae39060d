/-
  THE PROGRAM's batch: the changes that put rows (puts), and whether rows are a table (May).
-/
import Derived.Test.YtlchfadfbepapaaBatchV
namespace Go.Proofs.Ytlchfadfbepapaa
open Go.RowKit Go.Shelf
/-- in block g the first i changes put the first i rows of t; n have room -/
def PQ (w0 w : World) (g n i : Nat) (t : List bt.R) : Prop := w.there g 0 (n * 3) ∧ ∀ j, j < i → ∀ r, t[j]? = some r → ∃ (X : Option Addr) (cx : Nat), w.rangeAt g (j * 3) [str r.key, .slice X r.val.length cx, .bool false] ∧ BS w0 X r.val.length cx r.val
theorem PQ.below {w0 w w' : World} {g n i : Nat} {t : List bt.R} (h : PQ w0 w g n i t) (hb : Below w.heap.size w w') (hl : g < w.heap.size) : PQ w0 w' g n i t := by
  refine ⟨fun j hj => ?_, fun j hj r hr => ?_⟩
  · rw [hb.cell (p := ⟨g, 0 + j, none⟩) hl, hb.frozen (p := ⟨g, 0 + j, none⟩) hl]
    exact h.1 j hj
  · obtain ⟨X, cx, h1, h2⟩ := h.2 j hj r hr
    exact ⟨X, cx, fun m v hv => (hb.cell (p := ⟨g, j * 3 + m, none⟩) hl).trans (h1 m v hv), h2⟩
theorem PQ.set {w0 w : World} {g n i : Nat} {t : List bt.R} (h : PQ w0 w g n i t) (hi : i < n) (r : bt.R) (hr : t[i]? = some r) (X : Option Addr) (cx : Nat) (hB : BS w0 X r.val.length cx r.val) :
    PQ w0 (w.setCells g (i * 3) [str r.key, .slice X r.val.length cx, .bool false]) g n (i + 1) t := by
  refine ⟨World.there_setCells h.1 _ _ _, fun j hj r' hr' => ?_⟩
  by_cases e : j = i
  · subst e
    rw [hr] at hr'
    injection hr' with hr'
    subst hr'
    exact ⟨X, cx, World.rangeAt_setCells_same w g (j * 3) _ (fun m hm => by
      have hm' : m < 3 := hm
      have := h.1 (j * 3 + m) (by omega)
      rwa [Nat.zero_add] at this), hB⟩
  · obtain ⟨X', cx', h1, h2⟩ := h.2 j (by omega) r' hr'
    exact ⟨X', cx', World.rangeAt_setCells_apart h1 g (i * 3) _ (.inr (by
      show j * 3 + 3 ≤ i * 3 ∨ i * 3 + 3 ≤ j * 3
      omega)), h2⟩
theorem PQ.cs {w0 w : World} {g n : Nat} {t : List bt.R} (h : PQ w0 w g n n t) (hl : t.length = n) (hb : Below w0.heap.size w0 w) (hg : g < w.heap.size) (hn : n ≤ 9223372036854775807) : CS w (some ⟨g, 0, none⟩) n n (t.map bt.laid) := by
  refine ⟨by rw [List.length_map, hl], Nat.le_refl _, hn, fun _ => ⟨g, 0, rfl, hg, fun i hi => ?_⟩⟩
  have hi' : i < t.length := by simpa using hi
  obtain ⟨X, cx, h1, h2⟩ := h.2 i (by omega) t[i] (List.getElem?_eq_getElem hi')
  have e : (t.map bt.laid)[i] = bt.laid t[i] := List.getElem_map ..
  rw [e, Nat.zero_add]
  exact ⟨h1 0 _ rfl, h1 2 _ rfl, X, cx, h1 1 _ rfl, h2.below hb⟩
/-- elsewhere, if this block is as it was -/
theorem PQ.far {w0 w W : World} {g n : Nat} {t : List bt.R} (h : PQ w0 w g n n t) (hl : t.length = n) (he : W.heap[g]? = w.heap[g]?) (hb : Below w0.heap.size w0 W) (hg : g < w.heap.size) (hn : n ≤ 9223372036854775807) : CS W (some ⟨g, 0, none⟩) n n (t.map bt.laid) := by
  have hgW : g < W.heap.size := by
    rcases Nat.lt_or_ge g W.heap.size with h1 | h1
    · exact h1
    · rw [Array.getElem?_eq_none h1, Array.getElem?_eq_getElem hg] at he
      cases he
  have h2 : PQ w0 W g n n t := by
    refine ⟨fun j hj => ?_, fun j hj r hr => ?_⟩
    · rw [World.cell?_of_block (w := w) (a := ⟨g, 0 + j, none⟩) he, World.frozen?_of_block (w := w) (a := ⟨g, 0 + j, none⟩) he]
      exact h.1 j hj
    · obtain ⟨X, cx, h1, h2⟩ := h.2 j hj r hr
      exact ⟨X, cx, fun m v hv => (World.cell?_of_block (w := w) (a := ⟨g, j * 3 + m, none⟩) he).trans (h1 m v hv), h2⟩
  exact h2.cs hl hb hgW hn
set_option maxHeartbeats 2000000 in
set_option maxRecDepth 100000 in
theorem puts_pq (A : Option Addr) (n c : Nat) (t : List bt.R) (w0 w : World) (h : TS w0 A n c t) (hb0 : Below w0.heap.size w0 w) (hn : n ≤ 1099511627776) :
    Calls Try.prog 37 #[.slice A n c] w fun e w' => ∃ g, e = .returned (.slice (some ⟨g, 0, none⟩) n n) ∧ PQ w0 w' g n n t ∧ w.heap.size ≤ g ∧ g < w'.heap.size ∧ Below w.heap.size w w' := by
  obtain ⟨i0, hi0, hz0, hs0, hby⟩ := info_parts8 info_chg
  obtain ⟨hzr, -⟩ := zero_of_info (show (Try.prog.info? 51).map (fun i => (i.zero, i.size)) = some (some (.agg #[str [], .slice none 0 0]), 2) by kernel_rfl)
  have hl := h.len
  have hcap := h.cap
  have hmax := h.max
  have hmk := run_make (P := Try.prog) w 23 39 i0 _ Try.underlying23 hi0 hz0 .i64 .i64 (n : Int) (n : Int) (by omega) (by omega) (by rw [hby]; omega) (by omega)
  rw [hs0, Int.toNat_natCast] at hmk
  obtain ⟨cs, hcs⟩ : ∃ cs, madeCells (Value.agg #[str [], .slice none 0 0, .bool false]).cells (n * 3) = cs := ⟨_, rfl⟩
  have hcsz : cs.size = n * 3 := by rw [← hcs]; exact size_madeCells _ _
  rw [hcs] at hmk
  obtain ⟨W1, hW1⟩ : ∃ W, w.alloc (.cells cs 39) = W := ⟨_, rfl⟩
  have nW1 : W1.heap[w.heap.size]? = some (.cells cs 39 (0, 0)) := hW1 ▸ heap_alloc_new w _
  have bW1 : Below w.heap.size w W1 := hW1 ▸ (Below.refl _ _).alloc (Nat.le_refl _) _
  have sW1 : w.heap.size < W1.heap.size := by rw [← hW1]; simp
  rw [hW1] at hmk
  have hpq : PQ w0 W1 w.heap.size n 0 t := ⟨there_of (cs := cs.toList) (by simpa using nW1) 0 (n * 3) (by simp; omega), fun j hj => by omega⟩
  obtain ⟨g, hg⟩ : ∃ g, w.heap.size = g := ⟨_, rfl⟩
  rw [hg] at hmk hpq sW1
  have hgl : g = w.heap.size := hg.symm
  have HG := Lib.hid hgl
  have HPQ := Lib.hid hpq
  have H := Lib.hid h
  clear h hg hgl hpq nW1 hW1 hcs hcsz
  go_enter Try.func37, Try.ntmps37
  go_wp2_with fail
  go_loopw [11] (fun v wr => ∃ i : Nat, v = .int .i64 i ∧ i ≤ n ∧ Hid (PQ w0 wr g n i t) ∧ Below w.heap.size w wr ∧ g < wr.heap.size) (fun v _ => n - (intOf v).toNat)
  case atStart => exact ⟨0, rfl, by omega, HPQ, bW1, sW1⟩
  case round =>
    obtain ⟨i, rfl, hi, hq, hb, hgw⟩ := hrel
    have hbw := hb0.trans (hb.mono hb0.size)
    by_cases hlt : i < n
    · have hil : i < t.length := by omega
      obtain ⟨b, o, rfl, hbl, hr⟩ := H.out.has (by omega)
      obtain ⟨p1, X, cx, q1, g1⟩ := hr i hil
      have p2 := (hbw.cell (p := ⟨b, o + i * 2, none⟩) hbl).trans p1
      have q2 := (hbw.cell (p := ⟨b, o + i * 2 + 1, none⟩) hbl).trans q1
      have hti : t[i]? = some t[i] := List.getElem?_eq_getElem hil
      obtain ⟨r, hr'⟩ : ∃ r, t[i] = r := ⟨_, rfl⟩
      rw [hr'] at p2 q2 g1 hti
      have HSET := Lib.hid (fun (W : World) (g2 : PQ w0 W g n i t) => g2.set hlt r hti X cx g1)
      obtain ⟨kk, vv⟩ := r
      simp only at p2 q2 HSET
      obtain ⟨m, hm⟩ : ∃ m, vv.length = m := ⟨_, rfl⟩
      rw [hm] at q2 HSET
      clear hr p1 q1 g1 hti hr' hm
      have HPUT := Lib.hid (fun W => putq_any kk X m cx W)
      go_wp2_with fail
      refine (HPUT.out _).mono ?_
      rintro e w2 ⟨rfl, hb2⟩
      have hbA : Below wr.heap.size wr (wr.alloc (.cells #[.string { data := List.toArray kk }, .slice X m cx] 51)) := (Below.refl _ _).alloc (Nat.le_refl _) _
      have hb3 : Below wr.heap.size wr w2 := hbA.trans (hb2.mono hbA.size)
      have hq2 := hq.out.below hb3 hgw
      have hg2 : g < w2.heap.size := Nat.lt_of_lt_of_le hgw hb3.size
      have hth : w2.there g (i * 3) 3 := fun j hj => by
        have := hq2.1 (i * 3 + j) (by omega)
        rwa [Nat.zero_add] at this
      have hq3 := HSET.out w2 hq2
      have hb4 := below_sets (b := g) (B := w.heap.size) (by have := HG.out; omega) [str kk, .slice X m cx, .bool false] (i * 3) (hb.trans (hb3.mono hb.size))
      have hg4 : g < (w2.setCells g (i * 3) [str kk, .slice X m cx, .bool false]).heap.size := by rw [size_sets]; exact hg2
      obtain ⟨w4, hw4⟩ : ∃ w4, w2.setCells g (i * 3) [str kk, .slice X m cx, .bool false] = w4 := ⟨_, rfl⟩
      rw [hw4] at hq3 hb4 hg4
      have HW4 := Lib.hid hw4
      have HQ3 := Lib.hid hq3
      clear hw4 hq2 hq3 hbA hb2 hb3
      go_wp2_with (refine wpList_store_mid rfl 39 (.tmp 23) (.tmp 22) rfl g (i * 3) #[str kk, .slice X m cx, .bool false] rfl rfl hth rfl (by simp [Value.oneCell']) ?_; rw [HW4.out])
      go_roundw
      case rel => exact ⟨i + 1, by go_num, by omega, HQ3, hb4, hg4⟩
      case measure => simp [intOf]; omega
    · have hie : i = n := by omega
      subst hie
      clear H
      go_wp2_with fail
      go_ret
      exact ⟨g, rfl, hq.out, by rw [HG.out]; exact Nat.le_refl _, hgw, hb⟩
theorem puts_any (A : Option Addr) (n c : Nat) (t : List bt.R) (w : World) (h : TS w A n c t) (hn : n ≤ 1099511627776) :
    Calls Try.prog 37 #[.slice A n c] w fun e w' => ∃ g, e = .returned (.slice (some ⟨g, 0, none⟩) n n) ∧ CS w' (some ⟨g, 0, none⟩) n n (t.map bt.laid) ∧ w.heap.size ≤ g ∧ g < w'.heap.size ∧ Below w.heap.size w w' :=
  (puts_pq A n c t w w h (Below.refl _ _) hn).mono fun _ _ ⟨g, h1, h2, h3, h4, h5⟩ => ⟨g, h1, h2.cs h.len h5 h4 (by omega), h3, h4, h5⟩
set_option maxRecDepth 100000 in
theorem mayr_any (A : Option Addr) (n c : Nat) (t : List bt.R) (w : World) (h : TS w A n c t) (hk : ∀ r ∈ t, r.key.length ≤ 9223372036854775807) (hn : n ≤ 1099511627776) :
    Calls Try.prog 10 #[.slice A n c] w fun e w' => e = .returned (.bool (bt.may t)) ∧ Below w.heap.size w w' := by
  have HP := Lib.hid (puts_any A n c t w h hn)
  have hm : bt.mayC (t.map bt.laid) = bt.may t := bt.may_laid t none
  have HM := Lib.hid (fun W (g : Nat) (hc : CS W (some ⟨g, 0, none⟩) n n (t.map bt.laid)) => mayq_any (some ⟨g, 0, none⟩) n n (t.map bt.laid) W hc (fun r hr => by
    obtain ⟨x, hx, rfl⟩ := List.mem_map.1 hr
    exact hk x hx) hn)
  rw [hm] at HM
  clear h hk hm
  go_enter Try.func10, Try.ntmps10
  go_wp2_with fail
  refine HP.out.mono ?_
  rintro e w1 ⟨g, rfl, hc, -, -, hb1⟩
  have HM2 := Lib.hid (HM.out w1 g hc)
  clear HM HP hc
  go_wp2_with fail
  refine HM2.out.mono ?_
  rintro e w2 ⟨rfl, hb2⟩
  have hb := hb1.trans (hb2.mono hb1.size)
  go_wp2_with fail
  go_ret
  exact ⟨rfl, hb⟩
end Go.Proofs.Ytlchfadfbepapaa
