/-
  contract of the program's Read: what was written last is found from behind.
-/
import Derived.Test.YtajdeoackpfhoaaDiskP
namespace Go.Proofs.Ytajdeoackpfhoaa
open Go.RowKit
variable {w : World} {p g c : Nat} {r : List Value} {v : Value} {s : dk.St}

set_option maxHeartbeats 4000000 in
set_option maxRecDepth 100000 in
theorem pread_any (n : Int) (h : PM w p g c r v s) : Calls Try.prog 18 #[.pointer (some ⟨p, 0, none⟩), .int .i64 n] w fun e w' => e = .returned (.tuple #[dk.val (dk.read s n).1, .int .i64 (dk.read s n).2]) ∧ Below w.heap.size w w' := by
  have h1 := h.alloc (.cells (dk.cells dk.zero).toArray 33)
  obtain ⟨hz, -⟩ := zero_of_info zero_blk
  have hrow := heap_alloc_new w (.cells (dk.cells dk.zero).toArray 33)
  have hb1 : Below w.heap.size w (w.alloc (.cells (dk.cells dk.zero).toArray 33)) := (Below.refl _ _).alloc (Nat.le_refl _) _
  have ha := pusable_any n h1
  obtain ⟨q, hq⟩ : ∃ q, dk.asks s n = q := ⟨_, rfl⟩
  rw [hq] at ha
  have HA := Lib.hid ha
  by_cases h0 : q = 0
  · subst h0
    obtain ⟨hbl, hn0, hn1⟩ := dk.asks_in hq
    obtain ⟨i, rfl⟩ : ∃ i : Nat, n = i := ⟨n.toNat, by omega⟩
    have hi : i < s.S.length := by omega
    have hm := h.ok.most
    have hb0 := h.ok.lenS _ (List.getElem_mem hi)
    have hread : dk.read s i = (dk.look s.S[i] i s.L, 0) := by
      rw [dk.read, if_pos hq, Int.toNat_natCast, List.getD_eq_getElem?_getD, List.getElem?_eq_getElem hi]
      rfl
    have HR := Lib.hid hread
    have HB := Lib.hid (fun (W : World) (hW : PM W p g c r v s) => hW.block hi)
    generalize s.S[i] = b0 at *
    have HLn := Lib.hid (fun j (hj : j < s.L.length) => h.ok.lenL _ (List.getElem_mem hj))
    obtain ⟨A0, cap0, hv0, hcap0, hmax0⟩ := h1.own_len
    have d1 := h1.c1
    rw [hv0] at d1
    clear ha hq hbl hread hn0 hn1
    go_enter Try.func18, Try.ntmps18
    go_wp2_with fail
    refine HA.out.mono ?_
    rintro e w1 ⟨rfl, rfl⟩
    go_wp2_with fail
    clear d1
    go_loopw [7] (fun t wr => ∃ j : Nat, j ≤ s.L.length ∧ t = .int .i64 ((j : Int) - 1) ∧ dk.look b0 i (s.L.take j) = dk.look b0 i s.L ∧ wr.heap[w.heap.size]? = some (.cells (dk.cells dk.zero).toArray 33 (0, 0)) ∧ Below w.heap.size w wr) (fun t _ => (intOf t + 1).toNat)
    case atStart => exact ⟨s.L.length, Nat.le_refl _, by go_num, by rw [List.take_length], hrow, hb1⟩
    case round =>
      clear hrow hb1 h1
      obtain ⟨j, hj, rfl, hlk, hW, hb⟩ := hrel
      have hM := h.below hb
      cases j with
      | zero =>
        have hrange := HB.out _ hM
        have d0 := hM.c0
        have hres : dk.look b0 i s.L = b0 := by rw [← hlk]; rfl
        rw [hres] at HR
        clear hlk hres
        go_wp2_with (first | refine wp_ld (.tmp 48) b0 hrange hb0 rfl rfl rfl ?_ | (refine wp_st0 (.tmp 4) (.tmp 49) b0 hW zero_len hb0 rfl rfl rfl rfl ?_; intro W2 hW2 hc2))
        refine bodyPost_ret (results_cell_tmp rfl rfl (blk_load (blk_range hW2) hb0)) rfl ⟨?_, (Chg.of_below hb [w.heap.size]).trans hc2 (Sub.refl _ _) |>.below (Nat.le_refl _) (fun k hk => by simp at hk; omega)⟩
        rw [HR.out]
        rfl
      | succ j =>
        have hlt : j < s.L.length := by omega
        have d1 := hM.c1
        obtain ⟨k, cap, hv, hcap, hmax, dN, dB⟩ := hM.put_ hlt
        have hbl := HLn.out j hlt
        have hst : dk.look b0 i (s.L.take (j + 1)) = if s.L[j].1 = (i : Int) then s.L[j].2 else dk.look b0 i (s.L.take j) := by
          rw [List.take_succ_eq_append_getElem hlt, dk.look_snoc]
        rw [hv] at d1
        have hM2 := hM.ok.inL _ (List.getElem_mem hlt)
        generalize hx : s.L[j] = x at *
        obtain ⟨xn, xb⟩ := x
        simp only at hst dN dB hbl hM2
        rw [hlk] at hst
        obtain ⟨hx0, hx1⟩ := hM2
        have hjj : ((j + 1 : Nat) : Int) - 1 = j := by omega
        simp only [hjj]
        clear hx hM hlk hjj
        by_cases he : xn = (i : Int)
        · subst he
          rw [if_pos rfl] at hst
          rw [hst] at HR
          clear hst
          go_wp2_with (first | refine wp_ld (.tmp 41) xb dB hbl rfl rfl rfl ?_ | (refine wp_st0 (.tmp 4) (.tmp 42) xb hW zero_len hbl rfl rfl rfl rfl ?_; intro W2 hW2 hc2))
          refine bodyPost_ret (results_cell_tmp rfl rfl (blk_load (blk_range hW2) hbl)) rfl ⟨?_, (Chg.of_below hb [w.heap.size]).trans hc2 (Sub.refl _ _) |>.below (Nat.le_refl _) (fun k hk => by simp at hk; omega)⟩
          rw [HR.out]
          rfl
        · have hne : (xn == (i : Int)) = false := by simpa using he
          rw [if_neg he] at hst
          have HST := Lib.hid hst
          clear hst
          go_wp2
          go_roundw
          case rel => exact ⟨j, by omega, by go_num, HST.out.symm, hW, hb⟩
          case measure => simp [intOf]
  · have hr : dk.read s n = (dk.zero, q) := by
      rw [dk.read, hq, if_neg h0]
    have HR := Lib.hid hr
    have hqb : (q == 0) = false := by simpa using h0
    clear hr hq ha
    go_enter Try.func18, Try.ntmps18
    go_wp2_with fail
    refine HA.out.mono ?_
    rintro e w1 ⟨rfl, rfl⟩
    go_wp2_with (refine wp_st0 (.tmp 4) (.tmp 13) dk.zero hrow zero_len zero_len rfl rfl rfl rfl ?_; intro W hW hc)
    refine bodyPost_ret (results_cell_tmp rfl rfl (blk_load (blk_range hW) zero_len)) rfl ⟨?_, new_chg hc⟩
    rw [HR.out]
    rfl
end Go.Proofs.Ytajdeoackpfhoaa
