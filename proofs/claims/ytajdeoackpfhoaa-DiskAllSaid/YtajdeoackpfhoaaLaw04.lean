/-
  cardexlaw04's walks: written.
-/
import Derived.Test.YtajdeoackpfhoaaDiskC
import Derived.Test.YtajdeoackpfhoaaDiskO
namespace Go.Proofs.Ytajdeoackpfhoaa
open Go.RowKit

namespace dk
theorem write_ok {s : St} {n : Int} {b : Blk} (hc : s.cut = 0) (hb : s.black = false) (h0 : 0 ≤ n) (h1 : n < s.S.length) : write s n b = (0, { s with L := s.L ++ [(n, b)], many := s.many + 1 }) := by
  have ha : asks s n = 0 := by
    unfold asks
    rw [if_neg (by rw [hb]; simp), if_neg (by omega)]
  have hs : step s = (0, { s with many := s.many + 1 }) := by
    unfold step
    rw [if_neg (by rw [hc]; omega), if_neg (by rw [hc]; omega)]
  rw [write, if_pos ha, hs, if_pos rfl]
def conv (x : UInt8 × Blk) : Int × Blk := (((x.1.toNat % 16 : Nat) : Int), x.2)
/-- a disk of 64 blocks to which these were written -/
def stw (l : List (UInt8 × Blk)) : St := ⟨List.replicate 64 zero, l.map conv, 0, false, (l.length : Int)⟩
theorem stw_snoc (l : List (UInt8 × Blk)) (x : UInt8 × Blk) : write (stw l) ((x.1.toNat % 16 : Nat) : Int) x.2 = (0, stw (l ++ [x])) := by
  rw [write_ok rfl rfl (by omega) (by simp [stw]; omega)]
  simp [stw, conv]
end dk

theorem rem16 (x : UInt8) : IntKind.i64.wrap (Int.tmod (x.toNat : Int) 16) = ((x.toNat % 16 : Nat) : Int) := by
  have := x.toNat_lt
  rw [IntKind.wrap_i64, Int.tmod_eq_emod_of_nonneg (by omega)]
  omega
set_option maxHeartbeats 4000000 in
set_option maxRecDepth 100000 in
theorem written_any (A : Option Addr) (n c : Nat) (l : List (UInt8 × dk.Blk)) (w : World) (h : PS w A n c l) : Calls Try.prog 16 #[.slice A n c] w fun e w' =>
    ∃ F d, e = .returned (.tuple #[d, .bool true]) ∧ CD w' F d (dk.stw (l.take 40)) ∧ Below w.heap.size w w' ∧ (∀ k ∈ F, w.heap.size ≤ k) := by
  have hl := h.len
  have hcap := h.cap
  have hmax := h.max
  go_enter Try.func16, Try.ntmps16
  go_wp2_with fail
  refine (cd_new 64 (by omega) (by omega)).mono ?_
  rintro e w1 ⟨F0, d, rfl, hD0, hb0, hF0⟩
  obtain ⟨p, rfl⟩ := hD0.form
  go_wp2_with fail
  go_loopw [5, 6] (fun e i wr => ∃ (j : Nat) (F : List Nat), e = .int .i64 0 ∧ i = .int .i64 j ∧ j ≤ n ∧ j ≤ 40 ∧ CD wr F (.pointer (some ⟨p, 0, none⟩)) (dk.stw (l.take j)) ∧ Below w.heap.size w wr ∧ (∀ k ∈ F, w.heap.size ≤ k)) (fun _ i _ => 40 - (intOf i).toNat)
  case atStart => exact ⟨0, F0, rfl, rfl, by omega, by omega, hD0, hb0, hF0⟩
  case round =>
    obtain ⟨j, F, rfl, rfl, hjn, hj40, hD, hb, hF⟩ := hrel
    have hP := h.below hb
    clear h hD0 hb0 hF0
    by_cases hin : j < n ∧ j < 40
    · obtain ⟨h1, h2⟩ := hin
      obtain ⟨b, o, rfl, hbl, hc⟩ := hP.has (by omega)
      obtain ⟨cN, cB⟩ := hc j (by omega)
      have hx := hP.blk _ (List.getElem_mem (show j < l.length by omega))
      have hst : l.take (j + 1) = l.take j ++ [l[j]'(by omega)] := List.take_succ_eq_append_getElem (by omega)
      have hw := dk.stw_snoc (l.take j) (l[j]'(by omega))
      rw [← hst] at hw
      generalize l[j]'(by omega) = x at *
      obtain ⟨xn, xb⟩ := x
      simp only at cN cB hx hw
      have hfew : (dk.stw (l.take j)).Few := by
        constructor
        · simp [dk.stw]; omega
        · simp [dk.stw]; omega
      have hwr := cd_write ((xn.toNat % 16 : Nat) : Int) xb hx (h := show CD wr.drew F _ _ from hD.below ((Below.refl _ _).drew)) hfew
      rw [hw] at hwr
      have HW := Lib.hid hwr
      have hxn := xn.toNat_lt
      clear hc hst hw hwr hfew
      go_wp2_with fail
      refine wp_region_still_tail 13 (by kernel_rfl) (by kernel_rfl) ?_
      simp only [List.take_succ_cons, List.take_zero, List.drop_succ_cons, List.drop_zero]
      iterate 12 still_step
      rw [rem16 xn]
      refine still_ld (.tmp 36) xb (show wr.drew.rangeAt b (o + j * 129 + 1) (dk.cells xb) from cB) hx rfl rfl (by rfl) ?_
      simp only [Act.put, List.setIfInBounds_toArray, List.set_cons_zero, List.set_cons_succ]
      refine wpStill_nil ?_
      change wpList _ _ _ _ _ wr.drew
      clear cN cB
      go_wp2_with fail
      refine HW.out.mono ?_
      rintro e w2 ⟨F2, rfl, hD2, hC2, hS2⟩
      go_wp2_with fail
      go_roundw
      case rel =>
        refine ⟨j + 1, F2, rfl, by go_num, by omega, by omega, hD2, ((Chg.of_below hb F).trans (Chg.drew _ F) (Sub.refl _ _)).trans hC2 (Sub.refl _ _) |>.below (Nat.le_refl _) hF, fun k hk => ?_⟩
        rcases hS2 k hk with h3 | h3
        · exact hF k h3
        · exact Nat.le_trans hb.size h3
      case measure => simp [intOf]; omega
    · have htk : l.take j = l.take 40 := by
        by_cases h40 : j = 40
        · rw [h40]
        · rw [List.take_of_length_le (by omega), List.take_of_length_le (by omega)]
      rw [htk] at hD
      have hcs : (j < n ∧ ¬ j < 40) ∨ ¬ j < n := by omega
      rcases hcs with ⟨h1, h2⟩ | h1
      all_goals
        go_wp2_with fail
        go_ret2
        exact ⟨F, _, rfl, hD, hb, hF⟩
end Go.Proofs.Ytajdeoackpfhoaa
