/-
  contracts of the program's own disk, over any disk in memory: none, has, lit, usable, step, Blocks, Dark, Steps, Loose, Arm, Sure, Rot, New.
-/
import Derived.Test.YtajdeoackpfhoaaDiskR3
import Derived.Test.YtajdeoackpfhoaaDiskR5
namespace Go.Proofs.Ytajdeoackpfhoaa
open Go.RowKit

/-- the program's disk -/
abbrev PM := dk.M 59 33 68
variable {w : World} {p g c : Nat} {r : List Value} {v : Value} {s : dk.St}

/-- what is asked ahead of a block, dark or not -/
def dk.has (s : dk.St) (n : Int) : Int := if n < 0 ∨ (s.S.length : Int) ≤ n then 2 else 0
def dk.lit (s : dk.St) : Int := if s.black then 9 else 0

theorem pblocks_any (h : PM w p g c r v s) : Calls Try.prog 25 #[.pointer (some ⟨p, 0, none⟩)] w fun e w' => e = .returned (.int .i64 s.S.length) ∧ w = w' := by
  have c0 := h.c0
  go_enter Try.func25, Try.ntmps25
  go_wp2
  go_ret
  exact ⟨rfl, rfl⟩
theorem pdark_any (h : PM w p g c r v s) : Calls Try.prog 22 #[.pointer (some ⟨p, 0, none⟩)] w fun e w' => e = .returned (.bool s.black) ∧ w = w' := by
  have c3 := h.c3
  go_enter Try.func22, Try.ntmps22
  go_wp2
  go_ret
  exact ⟨rfl, rfl⟩
theorem psteps_any (h : PM w p g c r v s) : Calls Try.prog 23 #[.pointer (some ⟨p, 0, none⟩)] w fun e w' => e = .returned (.int .i64 s.many) ∧ w = w' := by
  have c4 := h.c4
  go_enter Try.func23, Try.ntmps23
  go_wp2
  go_ret
  exact ⟨rfl, rfl⟩
theorem ploose_any (h : PM w p g c r v s) : Calls Try.prog 20 #[.pointer (some ⟨p, 0, none⟩)] w fun e w' => e = .returned (.int .i64 s.L.length) ∧ w = w' := by
  obtain ⟨A, cap, rfl, _, _⟩ := h.own_len
  have c1 := h.c1
  go_enter Try.func20, Try.ntmps20
  go_wp2
  go_ret
  exact ⟨rfl, rfl⟩
theorem pnone_any (h : PM w p g c r v s) : Calls Try.prog 33 #[.pointer (some ⟨p, 0, none⟩)] w fun e w' => e = .returned (.bool false) ∧ w = w' := by
  have c0 := h.c0
  have hm := h.ok.some
  have hm2 := h.ok.most
  have hne : ((s.S.length : Int) == 0) = false := by rw [beq_eq_false_iff_ne]; omega
  go_enter Try.func33, Try.ntmps33
  go_wp2
  go_ret
  exact ⟨rfl, rfl⟩
theorem phas_any (n : Int) (h : PM w p g c r v s) : Calls Try.prog 43 #[.pointer (some ⟨p, 0, none⟩), .int .i64 n] w fun e w' => e = .returned (.int .i64 (dk.has s n)) ∧ w = w' := by
  have c0 := h.c0
  have hm := h.ok.most
  have HN := Lib.hid (pnone_any h)
  have hcs : n < 0 ∨ (¬ n < 0 ∧ (s.S.length : Int) ≤ n) ∨ (¬ n < 0 ∧ ¬ (s.S.length : Int) ≤ n) := by omega
  rcases hcs with h0 | ⟨h0, h1⟩ | ⟨h0, h1⟩
  all_goals
    go_enter Try.func43, Try.ntmps43
    go_wp2_with fail
    refine HN.out.mono ?_
    rintro e w1 ⟨rfl, rfl⟩
    go_wp2_with fail
    go_ret
    exact ⟨ret_int (by simp [dk.has, *]), rfl⟩
theorem plit_any (h : PM w p g c r v s) : Calls Try.prog 42 #[.pointer (some ⟨p, 0, none⟩)] w fun e w' => e = .returned (.int .i64 (dk.lit s)) ∧ w = w' := by
  have c3 := h.c3
  have HN := Lib.hid (pnone_any h)
  cases hb : s.black
  all_goals
    rw [hb] at c3
    go_enter Try.func42, Try.ntmps42
    go_wp2_with fail
    refine HN.out.mono ?_
    rintro e w1 ⟨rfl, rfl⟩
    go_wp2_with fail
    go_ret
    exact ⟨ret_int (by simp [dk.lit, hb]), rfl⟩
theorem pusable_any (n : Int) (h : PM w p g c r v s) : Calls Try.prog 40 #[.pointer (some ⟨p, 0, none⟩), .int .i64 n] w fun e w' => e = .returned (.int .i64 (dk.asks s n)) ∧ w = w' := by
  have HL := Lib.hid (plit_any h)
  have HH := Lib.hid (phas_any n h)
  cases hb : s.black with
  | true =>
    have hl : dk.lit s = 9 := by simp [dk.lit, hb]
    rw [hl] at HL
    clear hl
    go_enter Try.func40, Try.ntmps40
    go_wp2_with fail
    refine HL.out.mono ?_
    rintro e w1 ⟨rfl, rfl⟩
    go_wp2_with fail
    go_ret
    exact ⟨ret_int (by simp [dk.asks, hb]), rfl⟩
  | false =>
    have hl : dk.lit s = 0 := by simp [dk.lit, hb]
    have ha : dk.has s n = dk.asks s n := by simp [dk.has, dk.asks, hb]
    rw [hl] at HL
    rw [ha] at HH
    clear hl ha
    go_enter Try.func40, Try.ntmps40
    go_wp2_with fail
    refine HL.out.mono ?_
    rintro e w1 ⟨rfl, rfl⟩
    go_wp2_with fail
    refine HH.out.mono ?_
    rintro e w1 ⟨rfl, rfl⟩
    go_wp2_with fail
    go_ret
    exact ⟨rfl, rfl⟩
theorem pstep_any (h : PM w p g c r v s) (hm : s.many < 4611686018427387904) : Calls Try.prog 41 #[.pointer (some ⟨p, 0, none⟩)] w fun e w' => e = .returned (.int .i64 (dk.step s).1) ∧ PM w' p g c r v (dk.step s).2 ∧ Chg w w' [p] := by
  have c2 := h.c2
  have f2 := h.fz 2
  have f3 := h.fz 3
  have f4 := h.fz 4
  have c3 := h.c3
  have c4 := h.c4
  obtain ⟨h0, h1⟩ := h.cutR
  obtain ⟨m0, m1⟩ := h.manyR
  by_cases hc : s.cut = 1
  · have hr : dk.step s = (9, { s with black := true }) := if_pos hc
    have hn := h.black true
    rw [hc] at c2
    rw [hr]
    clear hr hc
    go_enter Try.func41, Try.ntmps41
    go_wp2
    go_ret
    exact ⟨rfl, hn, Chg.setCell _ _ _ _⟩
  · by_cases hc2 : 1 < s.cut
    · have hr : dk.step s = (0, { s with cut := s.cut - 1, many := s.many + 1 }) := by rw [dk.step, if_neg hc, if_pos hc2]
      have hn1 := h.cut (s.cut - 1) (by omega)
      have hn := hn1.many (s.many + 1) (by omega)
      have d4 := hn1.c4
      have e4 := hn1.fz 4
      simp only at d4
      rw [hr]
      have hb : (s.cut == 1) = false := by simpa using hc
      have hb0 : (s.cut == 0) = false := by simp; omega
      clear hr hc
      go_enter Try.func41, Try.ntmps41
      go_wp2
      go_ret
      exact ⟨rfl, hn, (Chg.setCell _ _ _ _).trans (Chg.setCell _ _ _ _) (Sub.refl _ _)⟩
    · have hr : dk.step s = (0, { s with many := s.many + 1 }) := by rw [dk.step, if_neg hc, if_neg hc2]
      have hn := h.many (s.many + 1) (by omega)
      have hz : s.cut = 0 := by omega
      rw [hr]
      rw [hz] at c2
      clear hr hc hc2
      go_enter Try.func41, Try.ntmps41
      go_wp2
      go_ret
      exact ⟨rfl, hn, Chg.setCell _ _ _ _⟩
theorem parm_any (n : Int) (hn : n ≤ 9223372036854775807) (h : PM w p g c r v s) : Calls Try.prog 21 #[.pointer (some ⟨p, 0, none⟩), .int .i64 n] w fun e w' => e = .returned (.int .i64 (dk.arm s n).1) ∧ PM w' p g c r v (dk.arm s n).2 ∧ Chg w w' [p] := by
  have c2 := h.c2
  have f2 := h.fz 2
  have HL := Lib.hid (plit_any h)
  cases hb : s.black with
  | true =>
    have hr : dk.arm s n = (9, s) := by simp [dk.arm, hb]
    have hl : dk.lit s = 9 := by simp [dk.lit, hb]
    rw [hl] at HL
    rw [hr]
    clear hr hl
    go_enter Try.func21, Try.ntmps21
    go_wp2_with fail
    refine HL.out.mono ?_
    rintro e w1 ⟨rfl, rfl⟩
    go_wp2_with fail
    go_ret
    exact ⟨rfl, h, Chg.refl _ _⟩
  | false =>
    have hl : dk.lit s = 0 := by simp [dk.lit, hb]
    rw [hl] at HL
    clear hl
    by_cases h0 : n < 0
    · have hr : dk.arm s n = (2, s) := by simp [dk.arm, hb, h0]
      rw [hr]
      clear hr
      go_enter Try.func21, Try.ntmps21
      go_wp2_with fail
      refine HL.out.mono ?_
      rintro e w1 ⟨rfl, rfl⟩
      go_wp2_with fail
      go_ret
      exact ⟨rfl, h, Chg.refl _ _⟩
    · have hr : dk.arm s n = (0, { s with cut := n }) := by unfold dk.arm; rw [if_neg (by simp [hb]), if_neg h0]
      have hN := h.cut n (by omega)
      rw [hr]
      clear hb
      clear hr
      go_enter Try.func21, Try.ntmps21
      go_wp2_with fail
      refine HL.out.mono ?_
      rintro e w1 ⟨rfl, rfl⟩
      go_wp2_with fail
      go_ret
      exact ⟨rfl, hN, Chg.setCell _ _ _ _⟩
set_option maxRecDepth 100000 in
theorem psure_any (n : Int) (h : PM w p g c r v s) : Calls Try.prog 19 #[.pointer (some ⟨p, 0, none⟩), .int .i64 n] w fun e w' => e = .returned (.tuple #[dk.val (dk.sure s n).1, .int .i64 (dk.sure s n).2]) ∧ Below w.heap.size w w' := by
  have h' := h.alloc (.cells (dk.cells dk.zero).toArray 33)
  have d0 := h'.c0
  have hm := h.ok.most
  obtain ⟨hz, -⟩ := zero_of_info zero_blk
  have hrow := heap_alloc_new w (.cells (dk.cells dk.zero).toArray 33)
  have HH := Lib.hid (phas_any n h')
  by_cases hin : n < 0 ∨ (s.S.length : Int) ≤ n
  · have hr : dk.sure s n = (dk.zero, 2) := if_pos hin
    have hh : dk.has s n = 2 := if_pos hin
    have HR := Lib.hid hr
    rw [hh] at HH
    clear hr hh hin
    go_enter Try.func19, Try.ntmps19
    go_wp2_with fail
    refine HH.out.mono ?_
    rintro e w1 ⟨rfl, rfl⟩
    go_wp2_with (refine wp_st0 (.tmp 4) (.tmp 12) dk.zero hrow zero_len zero_len rfl rfl rfl rfl ?_; intro W hW hc)
    refine bodyPost_ret (results_cell_tmp rfl rfl (blk_load (blk_range hW) zero_len)) rfl ⟨?_, new_chg hc⟩
    rw [HR.out]
    rfl
  · obtain ⟨i, rfl⟩ : ∃ i : Nat, n = i := ⟨n.toNat, by omega⟩
    have hi : i < s.S.length := by omega
    have hb := h.ok.lenS _ (List.getElem_mem hi)
    have hh : dk.has s i = 0 := if_neg hin
    have hr : dk.sure s i = (s.S[i], 0) := by
      rw [dk.sure, if_neg hin, Int.toNat_natCast, List.getD_eq_getElem?_getD, List.getElem?_eq_getElem hi]
      rfl
    have hrange := h'.block hi
    generalize s.S[i] = b at *
    have HR := Lib.hid hr
    have h0 : ¬ (i : Int) < 0 := by omega
    rw [hh] at HH
    clear hr hin hh
    go_enter Try.func19, Try.ntmps19
    go_wp2_with fail
    refine HH.out.mono ?_
    rintro e w1 ⟨rfl, rfl⟩
    go_wp2_with (first | refine wp_ld (.tmp 19) b hrange hb rfl rfl rfl ?_ | (refine wp_st0 (.tmp 4) (.tmp 20) b hrow zero_len hb rfl rfl rfl rfl ?_; intro W hW hc))
    refine bodyPost_ret (results_cell_tmp rfl rfl (blk_load (blk_range hW) hb)) rfl ⟨?_, new_chg hc⟩
    rw [HR.out]
    rfl
set_option maxHeartbeats 4000000 in
set_option maxRecDepth 100000 in
theorem prot_any (n at_ : Int) (x : UInt8) (h : PM w p g c r v s) : Calls Try.prog 24 #[.pointer (some ⟨p, 0, none⟩), .int .i64 n, .int .i64 at_, bv x] w fun e w' =>
    e = .returned (.int .i64 (dk.rot s n at_ x).1) ∧ PM w' p g c r v (dk.rot s n at_ x).2 ∧ Chg w w' (dk.fp p g v) := by
  have c0 := h.c0
  have hm := h.ok.most
  have HH := Lib.hid (phas_any n h)
  by_cases hin : n < 0 ∨ (s.S.length : Int) ≤ n
  · have hr : dk.rot s n at_ x = (2, s) := if_pos (by omega)
    have hh : dk.has s n = 2 := if_pos hin
    have HR := Lib.hid hr
    rw [hh] at HH
    clear hr hh hin
    go_enter Try.func24, Try.ntmps24
    go_wp2_with fail
    refine HH.out.mono ?_
    rintro e w1 ⟨rfl, rfl⟩
    go_wp2_with fail
    go_ret
    exact ⟨ret_int (by rw [HR.out]), by rw [HR.out]; exact h, Chg.refl _ _⟩
  · have hh : dk.has s n = 0 := if_neg hin
    rw [hh] at HH
    clear hh
    by_cases hat : at_ < 0 ∨ 128 ≤ at_
    · have hr : dk.rot s n at_ x = (2, s) := if_pos (by omega)
      have HR := Lib.hid hr
      clear hr hin
      have hcs : at_ < 0 ∨ (¬ at_ < 0 ∧ 128 ≤ at_) := by omega
      clear hat
      rcases hcs with h2 | ⟨h2, h3⟩
      all_goals
        go_enter Try.func24, Try.ntmps24
        go_wp2_with fail
        refine HH.out.mono ?_
        rintro e w1 ⟨rfl, rfl⟩
        go_wp2_with fail
        go_ret
        exact ⟨ret_int (by rw [HR.out]), by rw [HR.out]; exact h, Chg.refl _ _⟩
    · obtain ⟨i, rfl⟩ : ∃ i : Nat, n = i := ⟨n.toNat, by omega⟩
      obtain ⟨k, rfl⟩ : ∃ k : Nat, at_ = k := ⟨at_.toNat, by omega⟩
      have hi : i < s.S.length := by omega
      have hk : k < 128 := by omega
      have hbl := h.ok.lenS _ (List.getElem_mem hi)
      have hr : dk.rot s i k x = (0, { s with S := s.S.set i (s.S[i].set k (s.S[i].getD k 0 ^^^ x)) }) := by
        rw [dk.rot, if_neg (by omega), Int.toNat_natCast, Int.toNat_natCast, List.getD_eq_getElem?_getD, List.getElem?_eq_getElem hi]
        rfl
      have HR := Lib.hid hr
      have hrange := h.block hi
      have hMB : ∀ y, PM (w.drew.setCell ⟨g, i * 128 + k, none⟩ (bv y)) p g c r v { s with S := s.S.set i (s.S[i].set k y) } := fun y => h.drew.byte hi hk
      generalize s.S[i] = b at *
      have hkb : k < b.length := by omega
      have hcell := hrange k (bv b[k]) (by rw [List.getElem?_map, List.getElem?_eq_getElem hkb]; rfl)
      have hfz : w.frozen? ⟨g, i * 128 + k, none⟩ = false := by simp [World.frozen?, h.row]
      have hCB : ∀ y, Chg w (w.drew.setCell ⟨g, i * 128 + k, none⟩ (bv y)) (dk.fp p g v) := fun y => (Chg.drew w (dk.fp p g v)).trans (Chg.setCell _ _ _ _) dk.sub_g
      have hget : b.getD k 0 = b[k] := by rw [List.getD_eq_getElem?_getD, List.getElem?_eq_getElem hkb]; rfl
      rw [hget] at HR
      generalize b[k] = y at *
      have hx := x.toNat_lt
      have hy := y.toNat_lt
      have h0 : ¬ (i : Int) < 0 := by omega
      have h1 : ¬ (s.S.length : Int) ≤ i := by omega
      have h2 : ¬ (k : Int) < 0 := by omega
      have h3 : ¬ (128 : Int) ≤ k := by omega
      clear hr hin hrange hat
      go_enter Try.func24, Try.ntmps24
      go_wp2_with fail
      refine HH.out.mono ?_
      rintro e w1 ⟨rfl, rfl⟩
      go_wp2_with fail
      go_still_tail 13, (by kernel_rfl)
      change wpList _ _ _ _ _ w.drew
      go_wp2_with fail
      go_ret
      rw [xor_bv]
      exact ⟨ret_int (by rw [HR.out]), by rw [HR.out]; exact hMB _, hCB _⟩
set_option maxRecDepth 100000 in
theorem pnew_yes (n : Nat) (h : 64 ≤ n) (h2 : n ≤ 4096) : Calls Try.prog 8 #[.int .i64 n] w fun e w' => ∃ p g, e = .returned (.tuple #[.pointer (some ⟨p, 0, none⟩), .int .i64 0]) ∧
    PM w' p g n [] (.slice none 0 0) (fresh n) ∧ Chg w w' [] ∧ w.heap.size ≤ p ∧ w.heap.size ≤ g := by
  obtain ⟨i0, hi0, hz0, hs0, hb0⟩ := info_parts4 info_blk3
  have hmk := fun W => run_make (P := Try.prog) W 56 33 i0 _ Try.underlying56 hi0 hz0 .i64 .i64 (n : Int) (n : Int) (by omega) (by omega) (by rw [hb0]; omega) (by omega)
  rw [hs0, Int.toNat_natCast] at hmk
  simp only [made_blocks] at hmk
  obtain ⟨C, hC⟩ : ∃ C, (dk.cellsS (List.replicate n dk.zero)).toArray = C := ⟨_, rfl⟩
  rw [hC] at hmk
  have HC := Lib.hid hC
  clear hC
  go_enter Try.func8, Try.ntmps8
  go_wp2_with fail
  go_ret2
  have e0 := heap_alloc_new w (.cells C 33)
  have e1 := heap_alloc_new (w.alloc (.cells C 33)) (.cells #[.slice (some ⟨w.heap.size, 0, none⟩) n n, .slice none 0 0, .int .i64 0, .bool false, .int .i64 0] 59)
  rw [show (w.alloc (.cells C 33)).heap.size = w.heap.size + 1 from by simp] at e1
  refine ⟨w.heap.size + 1, w.heap.size, rfl, ⟨?_, ?_, ?_, by omega, World.ownsRow_nil _ _ _ _, fresh_ok h h2, by omega, by simp [Value.ownBlock], by simp [Value.ownBlock], by simp [fresh], by simp [fresh]⟩, (Chg.alloc w _ []).trans (Chg.alloc _ _ []) (Sub.refl _ _), by omega, Nat.le_refl _⟩
  · rw [e1]
    simp [fresh]
  · rw [Below.heap_alloc _ _ _ (by simp), e0, ← HC.out]
    simp [fresh]
  · simp [fresh]
theorem pnew_no (n : Int) (h : n < 64 ∨ 4096 < n) : Calls Try.prog 8 #[.int .i64 n] w fun e w' => e = .returned (.tuple #[.pointer none, .int .i64 2]) ∧ w = w' := by
  have hcs : n < 64 ∨ (¬ n < 64 ∧ 4096 < n) := by omega
  rcases hcs with h0 | ⟨h0, h1⟩
  all_goals
    go_enter Try.func8, Try.ntmps8
    go_wp2_with fail
    go_ret2
    exact ⟨rfl, rfl⟩
end Go.Proofs.Ytajdeoackpfhoaa
