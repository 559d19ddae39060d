/-
  cardexlaw05's walk: SealBegins.
-/
import Derived.Test.YtbjnmiaplegkcaaDoorSealL3
import Derived.Test.YtbjnmiaplegkcaaDoorLaw05a
import Derived.Test.YtbjnmiaplegkcaaDoorTorn
import Derived.Test.YtbjnmiaplegkcaaDoorPieces
import Derived.Deep.AppendLies
import Derived.Great.BuildSlice
import Derived.StillTailTactics
namespace Go.Proofs.YtbjnmiaplegkcaaDoor
open Go.RowKit

theorem own_lt {w : World} {base n size : Nat} {e : TypeId} {v : Value} {xs : List Value} (h : w.ownsRow base e size v n xs) : ∀ k, v.ownBlock = some k → k < w.heap.size := fun k hk => by
  rcases h.2 with ⟨rfl, _⟩ | ⟨g, _, _, rfl, _, hg, _⟩
  · simp [Value.ownBlock] at hk
  · simp only [Value.ownBlock, Option.some.injEq] at hk
    rw [← hk]
    exact (Array.getElem?_eq_some_iff.1 hg).1
theorem own_blk {w : World} {base g n c : Nat} {e : TypeId} {S : List dk.Blk} (h : w.ownsRow base e 128 (.slice (some ⟨g, 0, none⟩) n c) n (dk.cellsS S)) (hn : n = S.length) (hS : ∀ b ∈ S, b.length = 128) {i : Nat} (hi : i < S.length) : w.rangeAt g (i * 128) (dk.cells S[i]) := fun j u hj => by
  have hj' : j < 128 := by
    have := (List.getElem?_eq_some_iff.1 hj).1
    rwa [List.length_map, hS _ (List.getElem_mem hi)] at this
  have h1 := flat_get 128 (S.map dk.cells) (fun x hx => by
    obtain ⟨b, hb, rfl⟩ := List.mem_map.1 hx
    rw [List.length_map]
    exact hS b hb) i (by simpa using hi) j hj'
  rw [List.getElem_map, hj] at h1
  have h2 : i * 128 + j < n * 128 := by
    have : (i + 1) * 128 ≤ n * 128 := Nat.mul_le_mul_right _ (by omega)
    omega
  rw [h.cellAt _ h2]
  exact h1
theorem fill_blk (b : dk.Blk) (hb : b.length = 128) (cs : Array Value) (hc : cs.size = 128) : Instr.fill (fun i => some (i * 128, 128)) cs [(0, dk.val b)] = some (dk.cells b).toArray :=
  dk.fill_one 128 cs (dk.cells b).toArray (by simpa using hb) hc
theorem info_parts5 {e : TypeId} {z : Value} {sz bt : Nat} (h : (Tryd.prog.info? e).map (fun i => (i.zero, i.size, i.bytes)) = some (some z, sz, bt)) : ∃ i, Tryd.prog.info? e = some i ∧ i.zero = some z ∧ i.size = sz ∧ i.bytes = bt := by
  cases hq : Tryd.prog.info? e with
  | none => simp [hq] at h
  | some i =>
    simp only [hq, Option.map_some, Option.some.injEq, Prod.mk.injEq] at h
    exact ⟨i, rfl, h.1, h.2.1, h.2.2⟩
theorem info_blk3' : (Tryd.prog.info? 25).map (fun i => (i.zero, i.size, i.bytes)) = some (some (dk.val dk.zero), 128, 128) := by kernel_rfl

theorem wpStill_skip {P : Program} {ops : Array Oper} {w : World} {Q : Act → Prop} {a : Act} {o : Oper} {rest : List Oper} (hw : Region.wanted o (yielded ops a.tmps) = false) (h : wpStill P ops w Q rest (a.put o.dst undef)) : wpStill P ops w Q (o :: rest) a :=
  wpStill_step fun K hK => by
    rw [if_neg (by rw [hw]; exact Bool.false_ne_true)]
    exact hK _ h
section
variable {ops : Array Oper} {rest : List Oper} {o : Oper} {a : Act} {w : World} {Q : Exit → Act → World → Prop}
/-- one block, as a row of one -/
theorem wp_bs1 (x : Operand) (b : dk.Blk) (hb : b.length = 128) (hg : o.guard = none) (ho : o.op = .buildSlice 43 1 #[(0, x)]) (hx : a.eval x = dk.val b)
    (h : wpList Tryd.prog ops Q rest (a.put o.dst (.slice (some ⟨w.heap.size, 0, none⟩) 1 1)) (w.alloc (.cells (dk.cells b).toArray 25))) : wpList Tryd.prog ops Q (o :: rest) a w := by
  obtain ⟨i0, hi0, hz0, hs0, _⟩ := info_parts5 info_blk3'
  refine wpList_buildSlice hg 43 25 1 _ ho (dk.cells b).toArray i0 _ Tryd.underlying43 hi0 hz0 (by rw [hs0]; omega) (by rw [hs0]; omega) ?_ h
  rw [hs0]
  simp only [List.map_toArray, List.map_cons, List.map_nil, hx]
  exact fill_blk b hb _ (by rw [Array.size_map, Array.size_range])
/-- one block is appended -/
theorem wp_apb (x y : Operand) {v : Value} {n : Nat} {S : List dk.Blk} {B : Nat} {b : dk.Blk} (hown : w.ownsRow 0 25 128 v n (dk.cellsS S)) (hB : w.heap[B]? = some (.cells (dk.cells b).toArray 25 (0, 0))) (hb : b.length = 128) (hn : n ≤ 1048576) (hgd : o.guard = none)
    (ho : o.op = .call { callee := .builtin .append, args := #[x, y], argTypes := #[43, 43] }) (hx : a.eval x = v) (hy : a.eval y = .slice (some ⟨B, 0, none⟩) 1 1)
    (h : ∀ g cap W', W'.ownsRow 0 25 128 (.slice (some ⟨g, 0, none⟩) (n + 1) cap) (n + 1) (dk.cellsS (S ++ [b])) → w.grownBy W' v.ownBlock → (v.ownBlock = some g ∨ g = w.heap.size) → g < W'.heap.size → wpList Tryd.prog ops Q rest (a.put o.dst (.slice (some ⟨g, 0, none⟩) (n + 1) cap)) W') : wpList Tryd.prog ops Q (o :: rest) a w := by
  obtain ⟨i0, hi0, hz0, hs0, hb0⟩ := info_parts5 info_blk3'
  refine wpList_append_lies w hgd x y 43 ho 0 25 i0 _ 128 128 Tryd.underlying43 hi0 hz0 hs0 hb0 (by simp [Value.cells, zero_len]) (by omega) v n _ hx hown ⟨B, 0, none⟩ 1 1 (dk.cells b) hy (by rw [List.length_map, hb]) ?_ (bvs_one b) (by omega) (by rw [maxLen_eq]; omega) (by omega) (Nat.zero_le _) _ rfl ?_
  · have := World.news_of_block hB
    simpa using this
  · intro g cap W' h1 h2 h3 h4
    refine h g cap W' ?_ h2 h3 h4
    have e : dk.cellsS (S ++ [b]) = dk.cellsS S ++ dk.cells b := by simp [dk.cellsS]
    rw [e]
    exact h1
end
set_option maxHeartbeats 4000000 in
set_option maxRecDepth 100000 in
theorem walk_SealBegins (n : Nat) (A1 : Option Addr) (k1 c1 : Nat) (ll : List (List UInt8)) (A2 : Option Addr) (k2 c2 : Nat) (l2 : List Int) (w : World)
    (hn : n < 18446744073709551616) (h1 : RS w A1 k1 c1 ll) (h2 : IS w A2 k2 c2 l2) (ht : Tab w) :
    Calls Tryd.prog 5 #[.int .u64 n, .slice A1 k1 c1, .slice A2 k2 c2] w fun e w' => e = .returned (.bool true) ∧ Below w.heap.size w w' := by
  obtain ⟨hz, -⟩ := zero_of_info zero_blk
  have hk1 := h1.len
  have hcap1 := h1.cap
  have hmax1 := h1.max
  have hk2 := h2.len
  have hcap2 := h2.cap
  have hmax2 := h2.max
  obtain ⟨F, hF⟩ : ∃ F : Nat, n % 1152921504606846976 = F := ⟨_, rfl⟩
  have hFl : F < 1152921504606846976 := by omega
  have hFi : (n : Int) % 1152921504606846976 = (F : Int) := by omega
  have hr0 := heap_alloc_new w (.cells (dk.cells dk.zero).toArray 25)
  have hb0 : Below w.heap.size w (w.alloc (.cells (dk.cells dk.zero).toArray 25)) := (Below.refl _ _).alloc (Nat.le_refl _) _
  obtain ⟨B, hB⟩ : ∃ B, w.heap.size = B := ⟨_, rfl⟩
  rw [hB] at hr0
  have hBle : w.heap.size ≤ B := by omega
  clear hF
  go_enter Tryd.func5, Tryd.ntmps5
  go_wp2_with fail
  generalize w.alloc (.cells (dk.cells dk.zero).toArray 25) = w0 at *
  simp only [hFi]
  clear hFi
  go_loopw [8, 9] (fun v i wr => ∃ (j : Nat) (was : List dk.Blk) (b : dk.Blk) (num : Nat → Nat), i = .int .i64 j ∧ j ≤ k1 ∧ j ≤ 12 ∧ b.length = 128 ∧ (∀ x ∈ was, x.length = 128) ∧ wr.heap[B]? = some (.cells (dk.cells b).toArray 25 (0, 0)) ∧ wr.ownsRow 0 25 128 v was.length (dk.cellsS was) ∧ (∀ k, v.ownBlock = some k → w.heap.size ≤ k ∧ k ≠ B) ∧ Hid (sl.Hist F j was b num) ∧ was.length ≤ j ∧ Below w.heap.size w wr) (fun _ i _ => 12 - (intOf i).toNat)
  case atStart => exact ⟨0, [], dk.zero, fun _ => 0, rfl, by omega, by omega, zero_len, by simp, hr0, World.ownsRow_nil _ _ _ _, fun k hk => by simp [Value.ownBlock] at hk, sl.Hist.start F, by simp, hb0⟩
  case round =>
    clear hr0 hb0
    obtain ⟨j, was, b, num, rfl, hjk, hj12, hbl, hwl, hr, hown, hpk, hist, hwlen, hb⟩ := hrel
    by_cases hin : j < k1 ∧ j < 12
    · obtain ⟨q1, q2⟩ := hin
      obtain ⟨gb, go, rfl, hgl, hrow⟩ := (h1.below hb).has (by omega)
      obtain ⟨Ai, ci, hci, hBi⟩ := hrow j (by omega)
      have hBic := hBi.cap
      have hBim := hBi.max
      have hput := cs_put (F + j + 1) (by omega) Ai _ ci _ _ hBi (ht.below hb)
      rw [show ((F + j + 1 : Nat) : Int) = (F : Int) + (j : Int) + 1 from by omega] at hput
      generalize ll[j]'(by omega) = row at *
      obtain ⟨lr, hlr⟩ : ∃ lr, row.length = lr := ⟨_, rfl⟩
      rw [hlr] at hci hBi hput hBic
      by_cases hlen : lr ≤ 108
      · have hp : sl.put (F + j + 1) row = (sl.sealB (F + j + 1) row, 0) := by rw [sl.put, if_neg (by omega), if_neg (by omega)]
        rw [hp] at hput
        have hxl := sl.seal_length (F + j + 1) (show row.length ≤ 108 by omega)
        have HST := fun at_ => Lib.hid ((hist.out).step (show row.length ≤ 108 by omega) at_)
        generalize sl.sealB (F + j + 1) row = x at *
        have HP := Lib.hid hput
        have hlen' : (lr : Int) ≤ 108 := by omega
        clear hput hp hBi hlr
        go_wp2_with fail
        refine HP.out.mono ?_
        rintro e w1 ⟨rfl, hb1⟩
        have hbb1 := hb.trans (hb1.mono hb.size)
        have hr1 := (hb1.block B (Array.getElem?_eq_some_iff.1 hr).1).trans hr
        have hci1 := (hb1.cell (p := ⟨gb, go + j, none⟩) hgl).trans hci
        have hown1 := dk.own_keep (w' := w1) hown (fun k hk => hb1.block k (own_lt hown k hk))
        have hpl1 : ∀ k, u8.ownBlock = some k → w.heap.size ≤ k ∧ k ≠ B ∧ k < w1.heap.size := fun k hk => ⟨(hpk k hk).1, (hpk k hk).2, Nat.lt_of_lt_of_le (own_lt hown k hk) hb1.size⟩
        have hn1 := heap_alloc_new w1 (.cells (dk.cells dk.zero).toArray 25)
        have hgl1 := Nat.lt_of_lt_of_le hgl hb1.size
        have hBl1 := (Array.getElem?_eq_some_iff.1 hr1).1
        obtain ⟨X, hX⟩ : ∃ X, w1.heap.size = X := ⟨_, rfl⟩
        rw [hX] at hn1
        have hlen12 : was.length ≤ 12 := by omega
        have hcase : (∃ pb po q, A2 = some ⟨pb, po, none⟩ ∧ j < k2 ∧ pb < w.heap.size ∧ w.cell? ⟨pb, po + j, none⟩ = some (.int .i64 q)) ∨ ¬ j < k2 := by
          by_cases hjp : j < k2
          · obtain ⟨pb, po, e, hpb, hpc⟩ := h2.has (by omega)
            exact .inl ⟨pb, po, _, e, hjp, hpb, hpc j (by omega)⟩
          · exact .inr hjp
        clear hci hr hown hb1 hpk h1 h2 hrow
        rcases hcase with ⟨pb, po, q, rfl, hjp, hpb, hpc⟩ | hjp
        case' inl => have HCW := Lib.hid (fun (W : World) (hW : Below w.heap.size w W) => (hW.cell (p := ⟨pb, po + j, none⟩) hpb).trans hpc)
        case' inr =>
          obtain ⟨q, hq128⟩ : ∃ q : Int, q = 128 := ⟨_, rfl⟩
          have HCW := Lib.hid (fun (W : World) (hW : Below w.heap.size w W) => hW.size)
        all_goals
          have HSTq := HST q
          obtain ⟨t, htq⟩ : ∃ t, dk.torn b x q = t := ⟨_, rfl⟩
          have htl : t.length = 128 := by rw [← htq]; exact dk.torn_length _ hbl hxl
          rw [htq] at HSTq
          have HTORN := Lib.hid (fun W => rtorn_any b x q (w := W) hbl hxl)
          simp only [htq] at HTORN
          clear HST htq
          try subst hq128
          go_wp2_with (first
            | (refine wp_st0 (.tmp 10) (.tmp 41) x hn1 zero_len hxl rfl rfl rfl rfl ?_; intro w2 hW2 hc2; rw [← hX] at hc2; have hb2 := new_chg hc2; have hci2 := (hb2.cell (p := ⟨gb, go + j, none⟩) hgl1).trans hci1; have g1 := blk_range hW2; have hr2 := (hb2.block B hBl1).trans hr1; have hbb2 := hbb1.trans (hb2.mono hbb1.size); have hown2 := dk.own_keep (w' := w2) hown1 (fun k hk => hb2.block k (hpl1 k hk).2.2); have hown3 := dk.own_keep (w' := w2.alloc (.cells (dk.cells x).toArray 25)) hown2 (fun k hk => Below.heap_alloc w2 _ k (own_lt hown2 k hk)); have hnx := heap_alloc_new w2 (.cells (dk.cells x).toArray 25))
            | refine wp_ld (.tmp 10) x g1 hxl rfl rfl rfl ?_
            | refine wp_bs1 (.tmp 55) x hxl rfl rfl rfl ?_
            | (refine wp_apb (.tmp 54) (.tmp 56) hown3 hnx hxl (by omega) rfl rfl rfl rfl ?_; intro gg cp w3 hown4 hg4 hat4 hlt4; have hs2 := (Array.getElem?_eq_some_iff.1 hW2).1; have hr3 := (hg4.block B (by simp; omega) (fun e => (hpl1 B e.symm).2.1 rfl)).trans ((Below.heap_alloc w2 _ B (Array.getElem?_eq_some_iff.1 hr2).1).trans hr2); have hX3 := (hg4.block X (by simp; omega) (fun e => by have := (hpl1 X e.symm).2.2; omega)).trans ((Below.heap_alloc w2 _ X hs2).trans hW2); have hbb3 := (hbb2.alloc hbb2.size (.cells (dk.cells x).toArray 25)).grown hg4 (by simp; exact Nat.le_trans hbb2.size (by omega)) (fun k hk => (hpl1 k hk).1); have hpc3 := HCW.out w3 hbb3; have g3 := blk_range hr3; have g4 := blk_range hX3; clear g1)
            | refine wp_ld (.tmp 7) b g3 hbl rfl rfl rfl ?_
            | refine wp_ld (.tmp 10) x g4 hxl rfl rfl rfl ?_)
          have hgg : w.heap.size ≤ gg ∧ gg ≠ B ∧ gg ≠ X := by
            have hs2 := (Array.getElem?_eq_some_iff.1 hW2).1
            rcases hat4 with h | h
            · have := hpl1 gg h; exact ⟨this.1, this.2.1, by omega⟩
            · simp at h; have := hbb2.size; have := (Array.getElem?_eq_some_iff.1 hr2).1; exact ⟨by omega, by omega, by omega⟩
          have hB3 := (Array.getElem?_eq_some_iff.1 hr3).1
          clear hn1 hW2 hc2 hb2 hci2 hr2 hbb2 hown2 hown3 hnx hg4 hat4 g3 g4 hr1 hci1 hown1 hpl1 hbb1
          refine (HTORN.out w3).mono ?_
          rintro e w4 ⟨rfl, hb4⟩
          have hbb4 := hbb3.trans (hb4.mono hbb3.size)
          have hr4 := (hb4.block B hB3).trans hr3
          have hown5 := dk.own_keep (w' := w4) hown4 (fun k hk => hb4.block k (own_lt hown4 k hk))
          clear hr3 hX3 hown4 hb4
          go_wp2_with (first
            | (refine wp_st0 (.tmp 7) (.tmp 69) t hr4 hbl htl rfl rfl rfl rfl ?_; intro w5 hW5 hc5; have g5 := blk_range hW5)
            | refine wp_ld (.tmp 7) t g5 htl rfl rfl rfl ?_)
          have hbb5 : Below w.heap.size w w5 := (Chg.of_below hbb4 [B] |>.trans hc5 (Sub.refl _ _)).below (Nat.le_refl _) (fun k hk => by rw [List.mem_singleton.1 hk]; exact hBle)
          have hown6 := dk.own_keep (w' := w5) hown5 (fun k hk => hc5.block k (own_lt hown5 k hk) (fun hm => by simp only [Value.ownBlock, Option.some.injEq] at hk; have := List.mem_singleton.1 hm; exact hgg.2.1 (by omega)))
          clear hr4 hc5 hown5 g5
          obtain ⟨e5, he5⟩ : ∃ e, (sl.get t).2.2 = e := ⟨_, rfl⟩
          obtain ⟨N5, hN5⟩ : ∃ e, (sl.get t).1 = e := ⟨_, rfl⟩
          have hwh := HSTq.out.whole hFl (by omega)
          rw [he5] at hwh
          have hgc := cs_get t htl w5 (ht.below hbb5)
          rw [he5, hN5] at hgc
          obtain ⟨W1, hW1⟩ : ∃ W1, was ++ [x] = W1 := ⟨_, rfl⟩
          have hW1l : W1.length = was.length + 1 := by rw [← hW1]; simp
          have hW1b : ∀ y ∈ W1, y.length = 128 := fun y hy => by
            rw [← hW1] at hy
            rcases List.mem_append.1 hy with hy | hy
            · exact hwl y hy
            · rw [List.mem_singleton.1 hy]; exact hxl
          rw [hW1] at hwh hown6 HSTq
          have HWH := Lib.hid hwh
          have HGC := Lib.hid hgc
          have HW1L := Lib.hid hW1l
          have hB5 := (Array.getElem?_eq_some_iff.1 hW5).1
          have hcp : was.length + 1 ≤ cp ∧ cp ≤ 9223372036854775807 := by
            rcases hown6.2 with ⟨h, _⟩ | ⟨_, _, _, h, _, _, h3, h4, _⟩
            · simp at h
            · injection h with _ _ h5
              rw [maxLen_eq] at h4
              omega
          obtain ⟨hcp1, hcp2⟩ := hcp
          clear he5 hN5 hwh hgc hW1 hW1l HTORN HCW
          refine HGC.out.mono ?_
          rintro e w6 ⟨v6, rfl, _, hb6⟩
          have hbb6 := hbb5.trans (hb6.mono hbb5.size)
          have hr6 := (hb6.block B hB5).trans hW5
          have hown7 := dk.own_keep (w' := w6) hown6 (fun k hk => hb6.block k (own_lt hown6 k hk))
          clear hW5 hown6 hb6
          go_wp2_with fail
          go_loopw [16, 17] (fun r i wi => ∃ (m : Nat) (q : Bool), r = .bool q ∧ i = .int .i64 m ∧ m ≤ was.length + 1 ∧ Hid (q = true ↔ ∃ i, i < m ∧ t = W1.getD i dk.zero) ∧ wi.heap[B]? = some (.cells (dk.cells t).toArray 25 (0, 0)) ∧ wi.ownsRow 0 25 128 (.slice (some ⟨gg, 0, none⟩) (was.length + 1) cp) (was.length + 1) (dk.cellsS W1) ∧ Below w.heap.size w wi) (fun _ i _ => was.length + 1 - (intOf i).toNat)
          case' atStart => exact ⟨0, false, rfl, rfl, by omega, (by refine Iff.intro (fun h => by cases h) (fun h => ?_); obtain ⟨i, hi, _⟩ := h; omega), hr6, hown7, hbb6⟩
          case' round =>
            clear hr6 hown7 hbb6
            obtain ⟨m, q, rfl, rfl, hm, hqm, hr, hown, hbw⟩ := hrel
            by_cases hml : m < was.length + 1
            · have hmW : m < W1.length := by rw [HW1L.out]; exact hml
              have hrg := own_blk hown HW1L.out.symm hW1b hmW
              have hyl := hW1b _ (List.getElem_mem hmW)
              have hgd : W1.getD m dk.zero = W1[m] := by rw [List.getD_eq_getElem?_getD, List.getElem?_eq_getElem hmW]; rfl
              generalize W1[m] = y at *
              have hE := eq_blk t y htl hyl
              obtain ⟨r, hr2⟩ : ∃ r, decide (t = y) = r := ⟨_, rfl⟩
              rw [hr2] at hE
              have hnext : (q || r) = true ↔ ∃ i, i < m + 1 ∧ t = W1.getD i dk.zero := by
                rw [Bool.or_eq_true, hqm.out, ← hr2, decide_eq_true_iff]
                constructor
                · rintro (⟨i, hi, e⟩ | e)
                  · exact ⟨i, by omega, e⟩
                  · exact ⟨m, by omega, by rw [hgd]; exact e⟩
                · rintro ⟨i, hi, e⟩
                  by_cases him : i = m
                  · right; rw [him, hgd] at e; exact e
                  · left; exact ⟨i, by omega, e⟩
              have HNX := Lib.hid hnext
              have g7 := blk_range hr
              clear hr2 hgd hnext hqm
              by_cases hqf : q = false
              · subst hqf
                cases r
                all_goals
                  go_wp2_with fail
                  refine wp_region_still_tail 9 (by kernel_rfl) (by kernel_rfl) ?_
                  simp only [List.take_succ_cons, List.take_zero, List.drop_succ_cons, List.drop_zero]
                  iterate 2 still_step
                  refine still_ld (.tmp 7) t (show (World.drew _).rangeAt B 0 (dk.cells t) from g7) htl rfl rfl (by rfl) ?_
                  simp only [Act.put, List.setIfInBounds_toArray, List.set_cons_zero, List.set_cons_succ]
                  iterate 3 still_step
                  refine still_ld (.tmp 87) y (show (World.drew _).rangeAt gg (m * 128) (dk.cells y) from hrg) hyl rfl rfl (by rfl) ?_
                  simp only [Act.put, List.setIfInBounds_toArray, List.set_cons_zero, List.set_cons_succ]
                  iterate 2 still_step
                  refine wpStill_nil ?_
                  go_wp2_with fail
                  go_roundw
                  case rel => exact ⟨m + 1, _, rfl, by go_num, by omega, HNX.out, hr, hown, hbw.drew⟩
                  case measure => simp [intOf]; omega
              · have hqt : q = true := by cases q <;> simp_all
                have HQ := Lib.hid hqt
                clear g7 hrg hE hyl hqf hqt
                go_wp2_with fail
                refine wp_region_still_tail 9 (by kernel_rfl) (by kernel_rfl) ?_
                simp only [List.take_succ_cons, List.take_zero, List.drop_succ_cons, List.drop_zero]
                iterate 2 still_step
                iterate 6
                  refine wpStill_skip (by simp [Region.wanted, yielded, HQ.out]) ?_
                  simp only [Act.put, List.setIfInBounds_toArray, List.set_cons_zero, List.set_cons_succ]
                have hqt := HQ.out
                subst hqt
                still_step
                refine wpStill_nil ?_
                go_wp2_with fail
                go_roundw
                case rel => exact ⟨m + 1, true, rfl, by go_num, by omega, by rw [← Bool.true_or r]; exact HNX.out, hr, hown, hbw.drew⟩
                case measure => simp [intOf]; omega
            · have hml' : ¬ (m : Int) < (was.length : Int) + 1 := by omega
              have hmL : m = W1.length := by rw [HW1L.out]; omega
              have hqe : (e5 == 0) = q := by
                rw [Bool.eq_iff_iff, beq_iff_eq, HWH.out, hqm.out, hmL]
              clear hqm hmL
              cases q
              all_goals
                go_wp2_with fail
                go_roundw
                case rel => exact ⟨j + 1, W1, t, _, by go_num, by omega, by omega, htl, hW1b, hr, by rw [HW1L.out]; exact hown, fun k hk => by simp only [Value.ownBlock, Option.some.injEq] at hk; rw [← hk]; exact ⟨hgg.1, hgg.2.1⟩, HSTq.out, by rw [HW1L.out]; omega, hbw⟩
                case measure => simp [intOf]; omega
      · have hp : sl.put (F + j + 1) row = (dk.zero, 3) := by rw [sl.put, if_neg (by omega), if_pos (by omega)]
        rw [hp] at hput
        have HP := Lib.hid hput
        have hlen' : ¬ (lr : Int) ≤ 108 := by omega
        clear hput hp hBi hlr hlen
        go_wp2_with fail
        refine HP.out.mono ?_
        rintro e w1 ⟨rfl, hb1⟩
        have hbb1 := hb.trans (hb1.mono hb.size)
        have hr1 := (hb1.block B (Array.getElem?_eq_some_iff.1 hr).1).trans hr
        have hci1 := (hb1.cell (p := ⟨gb, go + j, none⟩) hgl).trans hci
        have hown1 := dk.own_keep (w' := w1) hown (fun k hk => hb1.block k (own_lt hown k hk))
        have hn1 := heap_alloc_new w1 (.cells (dk.cells dk.zero).toArray 25)
        have hgl1 := Nat.lt_of_lt_of_le hgl hb1.size
        clear hci hr hown hb1
        go_wp2_with (refine wp_st0 (.tmp 10) (.tmp 41) dk.zero hn1 zero_len zero_len rfl rfl rfl rfl ?_; intro w2 hW2 hc2; have hb2 := new_chg hc2; have hci2 := (hb2.cell (p := ⟨gb, go + j, none⟩) hgl1).trans hci1)
        go_roundw
        case rel => exact ⟨j + 1, was, b, num, by go_num, by omega, by omega, hbl, hwl, (hb2.block B (Array.getElem?_eq_some_iff.1 hr1).1).trans hr1, dk.own_keep hown1 (fun k hk => hb2.block k (own_lt hown1 k hk)), hpk, hist.out.skip, by omega, hbb1.trans (hb2.mono hbb1.size)⟩
        case measure => simp [intOf]; omega
    · have hcs : (j < k1 ∧ ¬ j < 12) ∨ ¬ j < k1 := by omega
      clear hist hown hpk h1 h2 hin
      rcases hcs with ⟨q1, q2⟩ | q1
      all_goals
        go_wp2_with fail
        refine (lives05_any _ (ht.below hb)).mono ?_
        rintro e wl ⟨rfl, hbl⟩
        go_wp2_with fail
        go_ret
        exact ⟨rfl, hb.trans (hbl.mono hb.size)⟩
end Go.Proofs.YtbjnmiaplegkcaaDoor
