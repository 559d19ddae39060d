/-
  contracts of cardexref04.Disk's methods that write no blocks: Blocks, Dark, Steps, Loose, asks, step, Arm, Sure, Read.
-/
import Derived.Test.YtajdeoackpfhoaaCore
import Derived.Test.YtajdeoackpfhoaaDiskM
import Derived.Test.YtajdeoackpfhoaaDiskW
namespace Go.Proofs.Ytajdeoackpfhoaa
open Go.RowKit

/-- cardexref04's disk -/
abbrev RM := dk.M 64 33 71
variable {w : World} {p g c : Nat} {r : List Value} {v : Value} {s : dk.St}

namespace dk
theorem M.own_len {T E P : TypeId} {w : World} {p g c : Nat} {r : List Value} {v : Value} {s : dk.St} (h : M T E P w p g c r v s) : ∃ A cap, v = .slice A s.L.length cap ∧ s.L.length ≤ cap ∧ cap ≤ 9223372036854775807 := by
  rcases h.loose.2 with ⟨rfl, h0⟩ | ⟨k, cap, _, rfl, _, _, h1, h2, _⟩
  · exact ⟨none, 0, by rw [h0], by omega, by omega⟩
  · exact ⟨_, cap, rfl, h1, by rw [maxLen_eq] at h2; exact h2⟩
theorem M.cut {T E P : TypeId} {w : World} {p g c : Nat} {r : List Value} {v : Value} {s : dk.St} (h : M T E P w p g c r v s) (n : Int) (hn : 0 ≤ n ∧ n ≤ 9223372036854775807) : M T E P (w.setCell ⟨p, 2, none⟩ (.int .i64 n)) p g c r v { s with cut := n } := by
  have hs : Same w (w.setCell ⟨p, 2, none⟩ (.int .i64 n)) (g :: v.ownBlock.toList) := fun k hk => Below.heap_setCell w _ _ k (by
    simp only [List.mem_cons, Option.mem_toList] at hk
    rcases hk with rfl | hk
    · exact fun e => h.ne1 e.symm
    · exact fun e => h.ne2 (by rw [hk, e]))
  exact ⟨(block_set h.obj _).trans rfl, (hs g (by simp)).trans h.row, h.cap, h.max, own_keep h.loose (fun k hk => hs k (by simp [hk])), ⟨h.ok.lenS, h.ok.some, h.ok.most, h.ok.lenL, h.ok.inL⟩, h.ne1, h.ne2, h.ne3, hn, h.manyR⟩
theorem M.black {T E P : TypeId} {w : World} {p g c : Nat} {r : List Value} {v : Value} {s : dk.St} (h : M T E P w p g c r v s) (n : Bool) : M T E P (w.setCell ⟨p, 3, none⟩ (.bool n)) p g c r v { s with black := n } := by
  have hs : Same w (w.setCell ⟨p, 3, none⟩ (.bool n)) (g :: v.ownBlock.toList) := fun k hk => Below.heap_setCell w _ _ k (by
    simp only [List.mem_cons, Option.mem_toList] at hk
    rcases hk with rfl | hk
    · exact fun e => h.ne1 e.symm
    · exact fun e => h.ne2 (by rw [hk, e]))
  exact ⟨(block_set h.obj _).trans rfl, (hs g (by simp)).trans h.row, h.cap, h.max, own_keep h.loose (fun k hk => hs k (by simp [hk])), ⟨h.ok.lenS, h.ok.some, h.ok.most, h.ok.lenL, h.ok.inL⟩, h.ne1, h.ne2, h.ne3, h.cutR, h.manyR⟩
theorem M.many {T E P : TypeId} {w : World} {p g c : Nat} {r : List Value} {v : Value} {s : dk.St} (h : M T E P w p g c r v s) (n : Int) (hn : 0 ≤ n ∧ n ≤ 4611686018427387904) : M T E P (w.setCell ⟨p, 4, none⟩ (.int .i64 n)) p g c r v { s with many := n } := by
  have hs : Same w (w.setCell ⟨p, 4, none⟩ (.int .i64 n)) (g :: v.ownBlock.toList) := fun k hk => Below.heap_setCell w _ _ k (by
    simp only [List.mem_cons, Option.mem_toList] at hk
    rcases hk with rfl | hk
    · exact fun e => h.ne1 e.symm
    · exact fun e => h.ne2 (by rw [hk, e]))
  exact ⟨(block_set h.obj _).trans rfl, (hs g (by simp)).trans h.row, h.cap, h.max, own_keep h.loose (fun k hk => hs k (by simp [hk])), ⟨h.ok.lenS, h.ok.some, h.ok.most, h.ok.lenL, h.ok.inL⟩, h.ne1, h.ne2, h.ne3, h.cutR, hn⟩
end dk

theorem rblocks_any (h : RM w p g c r v s) : Calls Try.prog 36 #[.pointer (some ⟨p, 0, none⟩)] w fun e w' => e = .returned (.int .i64 s.S.length) ∧ w = w' := by
  have c0 := h.c0
  go_enter Try.func36, Try.ntmps36
  go_wp2
  go_ret
  exact ⟨rfl, rfl⟩
theorem rdark_any (h : RM w p g c r v s) : Calls Try.prog 37 #[.pointer (some ⟨p, 0, none⟩)] w fun e w' => e = .returned (.bool s.black) ∧ w = w' := by
  have c3 := h.c3
  go_enter Try.func37, Try.ntmps37
  go_wp2
  go_ret
  exact ⟨rfl, rfl⟩
theorem rsteps_any (h : RM w p g c r v s) : Calls Try.prog 38 #[.pointer (some ⟨p, 0, none⟩)] w fun e w' => e = .returned (.int .i64 s.many) ∧ w = w' := by
  have c4 := h.c4
  go_enter Try.func38, Try.ntmps38
  go_wp2
  go_ret
  exact ⟨rfl, rfl⟩
theorem rloose_any (h : RM w p g c r v s) : Calls Try.prog 39 #[.pointer (some ⟨p, 0, none⟩)] w fun e w' => e = .returned (.int .i64 s.L.length) ∧ w = w' := by
  obtain ⟨A, cap, rfl, _, _⟩ := h.own_len
  have c1 := h.c1
  go_enter Try.func39, Try.ntmps39
  go_wp2
  go_ret
  exact ⟨rfl, rfl⟩
theorem rasks_any (n : Int) (h : RM w p g c r v s) : Calls Try.prog 44 #[.pointer (some ⟨p, 0, none⟩), .int .i64 n] w fun e w' => e = .returned (.int .i64 (dk.asks s n)) ∧ w = w' := by
  have c0 := h.c0
  have c3 := h.c3
  have hm := h.ok.most
  cases hb : s.black with
  | true =>
    rw [hb] at c3
    go_enter Try.func44, Try.ntmps44
    go_wp2
    go_ret
    exact ⟨ret_int (by simp [dk.asks, hb]), rfl⟩
  | false =>
    rw [hb] at c3
    by_cases h0 : n < 0
    · go_enter Try.func44, Try.ntmps44
      go_wp2
      go_ret
      exact ⟨ret_int (by simp [dk.asks, hb, h0]), rfl⟩
    · by_cases h1 : (s.S.length : Int) ≤ n
      · go_enter Try.func44, Try.ntmps44
        go_wp2
        go_ret
        exact ⟨ret_int (by simp [dk.asks, hb, h1]), rfl⟩
      · go_enter Try.func44, Try.ntmps44
        go_wp2
        go_ret
        exact ⟨ret_int (by simp [dk.asks, hb, h0, h1]), rfl⟩
theorem rstep_any (h : RM w p g c r v s) (hm : s.many < 4611686018427387904) : Calls Try.prog 45 #[.pointer (some ⟨p, 0, none⟩)] w fun e w' => e = .returned (.int .i64 (dk.step s).1) ∧ RM w' p g c r v (dk.step s).2 ∧ Chg w w' [p] := by
  have c2 := h.c2
  have f2 := h.fz 2
  have f3 := h.fz 3
  have f4 := h.fz 4
  have c3 := h.c3
  have c4 := h.c4
  obtain ⟨h0, h1⟩ := h.cutR
  obtain ⟨m0, m1⟩ := h.manyR
  by_cases hc : s.cut = 1
  · have hr : dk.step s = (9, { s with black := true }) := if_pos hc
    have hn := h.black true
    rw [hc] at c2
    rw [hr]
    clear hr hc
    go_enter Try.func45, Try.ntmps45
    go_wp2
    go_ret
    exact ⟨rfl, hn, Chg.setCell _ _ _ _⟩
  · by_cases hc2 : 1 < s.cut
    · have hr : dk.step s = (0, { s with cut := s.cut - 1, many := s.many + 1 }) := by rw [dk.step, if_neg hc, if_pos hc2]
      have hn1 := h.cut (s.cut - 1) (by omega)
      have hn := hn1.many (s.many + 1) (by omega)
      have d4 := hn1.c4
      have e4 := hn1.fz 4
      simp only at d4
      rw [hr]
      have hb : (s.cut == 1) = false := by simpa using hc
      clear hr hc
      go_enter Try.func45, Try.ntmps45
      go_wp2
      go_ret
      exact ⟨rfl, hn, (Chg.setCell _ _ _ _).trans (Chg.setCell _ _ _ _) (Sub.refl _ _)⟩
    · have hr : dk.step s = (0, { s with many := s.many + 1 }) := by rw [dk.step, if_neg hc, if_neg hc2]
      have hn := h.many (s.many + 1) (by omega)
      rw [hr]
      have hb : (s.cut == 1) = false := by simpa using hc
      clear hr hc
      go_enter Try.func45, Try.ntmps45
      go_wp2
      go_ret
      exact ⟨rfl, hn, Chg.setCell _ _ _ _⟩
theorem rarm_any (n : Int) (hn : n ≤ 9223372036854775807) (h : RM w p g c r v s) : Calls Try.prog 29 #[.pointer (some ⟨p, 0, none⟩), .int .i64 n] w fun e w' => e = .returned (.int .i64 (dk.arm s n).1) ∧ RM w' p g c r v (dk.arm s n).2 ∧ Chg w w' [p] := by
  have c3 := h.c3
  have c2 := h.c2
  have f2 := h.fz 2
  cases hb : s.black with
  | true =>
    have hr : dk.arm s n = (9, s) := by simp [dk.arm, hb]
    rw [hb] at c3
    rw [hr]
    clear hr
    go_enter Try.func29, Try.ntmps29
    go_wp2
    go_ret
    exact ⟨rfl, h, Chg.refl _ _⟩
  | false =>
    rw [hb] at c3
    by_cases h0 : n < 0
    · have hr : dk.arm s n = (2, s) := by simp [dk.arm, hb, h0]
      rw [hr]
      clear hr
      go_enter Try.func29, Try.ntmps29
      go_wp2
      go_ret
      exact ⟨rfl, h, Chg.refl _ _⟩
    · have hr : dk.arm s n = (0, { s with cut := n }) := by unfold dk.arm; rw [if_neg (by simp [hb]), if_neg h0]
      have hN := h.cut n (by omega)
      rw [hr]
      clear hb
      clear hr
      go_enter Try.func29, Try.ntmps29
      go_wp2
      go_ret
      exact ⟨rfl, hN, Chg.setCell _ _ _ _⟩

set_option maxRecDepth 100000 in
theorem rsure_any (n : Int) (h : RM w p g c r v s) : Calls Try.prog 31 #[.pointer (some ⟨p, 0, none⟩), .int .i64 n] w fun e w' => e = .returned (.tuple #[dk.val (dk.sure s n).1, .int .i64 (dk.sure s n).2]) ∧ Below w.heap.size w w' := by
  have h' := h.alloc (.cells (dk.cells dk.zero).toArray 33)
  have d0 := h'.c0
  have hm := h.ok.most
  obtain ⟨hz, -⟩ := zero_of_info zero_blk
  have hrow := heap_alloc_new w (.cells (dk.cells dk.zero).toArray 33)
  by_cases hin : n < 0 ∨ (s.S.length : Int) ≤ n
  · have hr : dk.sure s n = (dk.zero, 2) := if_pos hin
    have HR := Lib.hid hr
    clear hr
    rcases hin with h0 | h0
    · go_enter Try.func31, Try.ntmps31
      go_wp2_with (refine wp_st0 (.tmp 4) (.tmp 17) dk.zero hrow zero_len zero_len rfl rfl rfl rfl ?_; intro W hW hc)
      refine bodyPost_ret (results_cell_tmp rfl rfl (blk_load (blk_range hW) zero_len)) rfl ⟨?_, new_chg hc⟩
      rw [HR.out]
      rfl
    · have h1 : ¬ n < 0 := by omega
      go_enter Try.func31, Try.ntmps31
      go_wp2_with (refine wp_st0 (.tmp 4) (.tmp 17) dk.zero hrow zero_len zero_len rfl rfl rfl rfl ?_; intro W hW hc)
      refine bodyPost_ret (results_cell_tmp rfl rfl (blk_load (blk_range hW) zero_len)) rfl ⟨?_, new_chg hc⟩
      rw [HR.out]
      rfl
  · obtain ⟨i, rfl⟩ : ∃ i : Nat, n = i := ⟨n.toNat, by omega⟩
    have hi : i < s.S.length := by omega
    have hb := h.ok.lenS _ (List.getElem_mem hi)
    have hr : dk.sure s i = (s.S[i], 0) := by
      rw [dk.sure, if_neg hin, Int.toNat_natCast, List.getD_eq_getElem?_getD, List.getElem?_eq_getElem hi]
      rfl
    have hrange := h'.block hi
    generalize s.S[i] = b at *
    have HR := Lib.hid hr
    have h0 : ¬ (i : Int) < 0 := by omega
    clear hr hin
    go_enter Try.func31, Try.ntmps31
    go_wp2_with (first | refine wp_ld (.tmp 23) b hrange hb rfl rfl rfl ?_ | (refine wp_st0 (.tmp 4) (.tmp 24) b hrow zero_len hb rfl rfl rfl rfl ?_; intro W hW hc))
    refine bodyPost_ret (results_cell_tmp rfl rfl (blk_load (blk_range hW) hb)) rfl ⟨?_, new_chg hc⟩
    rw [HR.out]
    rfl
set_option maxHeartbeats 4000000 in
set_option maxRecDepth 100000 in
theorem rread_any (n : Int) (h : RM w p g c r v s) : Calls Try.prog 27 #[.pointer (some ⟨p, 0, none⟩), .int .i64 n] w fun e w' => e = .returned (.tuple #[dk.val (dk.read s n).1, .int .i64 (dk.read s n).2]) ∧ Below w.heap.size w w' := by
  have h1 := h.alloc (.cells (dk.cells dk.zero).toArray 33)
  obtain ⟨hz, -⟩ := zero_of_info zero_blk
  have hrow := heap_alloc_new w (.cells (dk.cells dk.zero).toArray 33)
  have ha := rasks_any n h1
  obtain ⟨q, hq⟩ : ∃ q, dk.asks s n = q := ⟨_, rfl⟩
  rw [hq] at ha
  have HA := Lib.hid ha
  by_cases h0 : q = 0
  · subst h0
    obtain ⟨hbl, hn0, hn1⟩ := dk.asks_in hq
    obtain ⟨i, rfl⟩ : ∃ i : Nat, n = i := ⟨n.toNat, by omega⟩
    have hi : i < s.S.length := by omega
    have hm := h.ok.most
    have hb0 := h.ok.lenS _ (List.getElem_mem hi)
    have hread : dk.read s i = (dk.look s.S[i] i s.L, 0) := by
      rw [dk.read, if_pos hq, Int.toNat_natCast, List.getD_eq_getElem?_getD, List.getElem?_eq_getElem hi]
      rfl
    have HR := Lib.hid hread
    have hrange := h1.block hi
    generalize s.S[i] = b0 at *
    have d0 := h1.c0
    have hk := h1.there
    have HL := Lib.hid h.ok.lenL
    clear ha hq hbl hread hn0 hn1
    go_enter Try.func27, Try.ntmps27
    go_wp2_with fail
    refine HA.out.mono ?_
    rintro e w1 ⟨rfl, rfl⟩
    have hr2 := heap_alloc_new (w.alloc (.cells (dk.cells dk.zero).toArray 33)) (.cells (dk.cells dk.zero).toArray 33)
    rw [show (w.alloc (.cells (dk.cells dk.zero).toArray 33)).heap.size = w.heap.size + 1 from by simp] at hr2
    go_wp2_with (first | refine wp_ld (.tmp 21) b0 hrange hb0 rfl rfl rfl ?_ | (refine wp_st0 (.tmp 7) (.tmp 22) b0 hr2 zero_len hb0 rfl rfl rfl rfl ?_; intro W hW hc))
    have hbW : Below w.heap.size w W := (((Chg.alloc w _ [w.heap.size + 1]).trans (Chg.alloc _ _ [w.heap.size + 1]) (Sub.refl _ _)).trans hc (Sub.refl _ _)).below (Nat.le_refl _) (fun k hk => by simp at hk; omega)
    have hW0 : W.heap[w.heap.size]? = some (.cells (dk.cells dk.zero).toArray 33 (0, 0)) := by
      rw [hc.block _ (by simp; omega) (by simp), Below.heap_alloc _ _ _ (by simp)]
      exact hrow
    clear hr2 hc hrow hrange d0 hk h1
    obtain ⟨Lv, hLv⟩ : ∃ l, s.L = l := ⟨_, rfl⟩
    have hlen : ∀ j (hj : j < s.L.length), s.L[j].2.length = 128 := fun j hj => HL.out _ (List.getElem_mem hj)
    have HLn := Lib.hid hlen
    clear hLv Lv hlen
    go_loopw [8] (fun t wr => ∃ j : Nat, j ≤ s.L.length ∧ t = .int .i64 j ∧ wr.heap[w.heap.size]? = some (.cells (dk.cells dk.zero).toArray 33 (0, 0)) ∧ wr.heap[w.heap.size + 1]? = some (.cells (dk.cells (dk.look b0 i (s.L.take j))).toArray 33 (0, 0)) ∧ Below w.heap.size w wr) (fun t _ => s.L.length - (intOf t).toNat)
    case atStart => exact ⟨0, by omega, rfl, hW0, hW, hbW⟩
    case round =>
      clear hW hW0 hbW
      obtain ⟨j, hj, rfl, hW0, hW, hb⟩ := hrel
      have hM := h.below hb
      have d1 := hM.c1
      have hcl : (dk.look b0 i (s.L.take j)).length = 128 := dk.look_len _ (fun x hx => HL.out x (List.mem_of_mem_take hx)) _ _ hb0
      by_cases hlt : j < s.L.length
      · obtain ⟨k, cap, hv, hcap, hmax, dN, dB⟩ := hM.put_ hlt
        have hbl := HLn.out j hlt
        have hst : dk.look b0 i (s.L.take (j + 1)) = if s.L[j].1 = (i : Int) then s.L[j].2 else dk.look b0 i (s.L.take j) := by
          rw [List.take_succ_eq_append_getElem hlt, dk.look_snoc]
        rw [hv] at d1
        have hM2 := hM.ok.inL _ (List.getElem_mem hlt)
        generalize hx : s.L[j] = x at *
        obtain ⟨xn, xb⟩ := x
        simp only at hst dN dB hbl hM2
        have HST := Lib.hid hst
        clear hst hx hM
        obtain ⟨hx0, hx1⟩ := hM2
        by_cases he : xn = (i : Int)
        · subst he
          go_wp2_with (first | refine wp_ld (.tmp 48) xb dB hbl rfl rfl rfl ?_ | (refine wp_st0 (.tmp 7) (.tmp 49) xb hW hcl hbl rfl rfl rfl rfl ?_; intro W2 hW2 hc2))
          go_roundw
          case rel =>
            refine ⟨j + 1, by omega, by go_num, by rw [hc2.block _ (Nat.lt_of_lt_of_le (Array.getElem?_eq_some_iff.1 hW0).1 (Nat.le_refl _)) (by simp)]; exact hW0, by rw [HST.out, if_pos rfl]; exact hW2, (Chg.of_below hb [w.heap.size + 1]).trans hc2 (Sub.refl _ _) |>.below (Nat.le_refl _) (fun k hk => by simp at hk; omega)⟩
          case measure => simp [intOf]; omega
        · have hne : (xn == (i : Int)) = false := by simpa using he
          rw [if_neg he] at HST
          go_wp2
          go_roundw
          case rel => exact ⟨j + 1, by omega, by go_num, hW0, by rw [HST.out]; exact hW, hb⟩
          case measure => simp [intOf]; omega
      · obtain ⟨A, cap, hv, hcap, hmax⟩ := hM.own_len
        rw [hv] at d1
        have hj' : j = s.L.length := by omega
        rw [List.take_of_length_le (by omega)] at hW hcl
        have hrg := blk_range hW
        clear hj
        go_wp2_with (first | refine wp_ld (.tmp 7) _ hrg hcl rfl rfl rfl ?_ | (refine wp_st0 (.tmp 4) (.tmp 50) _ hW0 zero_len hcl rfl rfl rfl rfl ?_; intro W2 hW2 hc2))
        refine bodyPost_ret (results_cell_tmp rfl rfl (blk_load (blk_range hW2) hcl)) rfl ⟨?_, (Chg.of_below hb [w.heap.size]).trans hc2 (Sub.refl _ _) |>.below (Nat.le_refl _) (fun k hk => by simp at hk; omega)⟩
        rw [HR.out]
        rfl
  · have hr : dk.read s n = (dk.zero, q) := by
      rw [dk.read, hq, if_neg h0]
    have HR := Lib.hid hr
    have hqb : (q == 0) = false := by simpa using h0
    clear hr hq ha
    go_enter Try.func27, Try.ntmps27
    go_wp2_with fail
    refine HA.out.mono ?_
    rintro e w1 ⟨rfl, rfl⟩
    go_wp2_with (refine wp_st0 (.tmp 4) (.tmp 14) dk.zero hrow zero_len zero_len rfl rfl rfl rfl ?_; intro W hW hc)
    refine bodyPost_ret (results_cell_tmp rfl rfl (blk_load (blk_range hW) zero_len)) rfl ⟨?_, new_chg hc⟩
    rw [HR.out]
    rfl
end Go.Proofs.Ytajdeoackpfhoaa
