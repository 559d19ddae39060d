/-
  cardexlaw04.lives.
-/
import Derived.Test.YtajdeoackpfhoaaDiskC
import Derived.Test.YtajdeoackpfhoaaDiskE
namespace Go.Proofs.Ytajdeoackpfhoaa
open Go.RowKit

namespace livesd
def B : dk.Blk := [17, 17, 17, 17] ++ List.replicate 124 0
def T : dk.Blk := [17, 17, 17] ++ List.replicate 125 0
def s1 : dk.St := (dk.arm (fresh 64) 2).2
def s2 : dk.St := (dk.write s1 0 B).2
def s3 : dk.St := (dk.flush s2).2
def s4 : dk.St := dk.crash s3 [3]
theorem e1 : (dk.arm (fresh 64) 2).1 = 0 := by decide +kernel
theorem e2 : (dk.write s1 0 B).1 = 0 := by decide +kernel
theorem e3 : (dk.flush s2).1 = 9 := by decide +kernel
theorem e4 : dk.read s3 0 = (dk.zero, 9) := by decide +kernel
theorem e5 : dk.read s4 0 = (T, 0) := by decide +kernel
theorem e6 : s4.many = 1 := by decide +kernel
theorem e7 : (dk.write s4 64 dk.zero).1 = 2 := by decide +kernel
theorem lB : B.length = 128 := by decide +kernel
theorem lT : T.length = 128 := by decide +kernel
theorem f0 : (fresh 64).Few := ⟨by decide +kernel, by decide +kernel⟩
theorem f1 : s1.Few := ⟨by decide +kernel, by decide +kernel⟩
theorem f2 : s2.Few := ⟨by decide +kernel, by decide +kernel⟩
theorem f4 : s4.Few := ⟨by decide +kernel, by decide +kernel⟩
theorem setB : (((((dk.cells dk.zero).set 0 (Value.int IntKind.u8 17)).set 1 (Value.int IntKind.u8 17)).set 2 (Value.int IntKind.u8 17)).set 3 (Value.int IntKind.u8 17)) = dk.cells B := by kernel_rfl
theorem setT : ((((dk.cells dk.zero).set 0 (Value.int IntKind.u8 17)).set 1 (Value.int IntKind.u8 17)).set 2 (Value.int IntKind.u8 17)) = dk.cells T := by kernel_rfl
end livesd

set_option maxHeartbeats 4000000 in
set_option maxRecDepth 100000 in
theorem lives04_any (w : World) : Calls Try.prog 10 #[] w fun e w' => e = .returned (.bool true) ∧ Below w.heap.size w w' := by
  obtain ⟨hz, -⟩ := zero_of_info zero_blk
  have E1 := Lib.hid livesd.e1
  have E2 := Lib.hid livesd.e2
  have E3 := Lib.hid livesd.e3
  have E4 := Lib.hid livesd.e4
  have E5 := Lib.hid livesd.e5
  go_enter Try.func10, Try.ntmps10
  go_wp2_with fail
  refine (cd_new 64 (by omega) (by omega)).mono ?_
  rintro e w1 ⟨F1, d, rfl, hD1, hb1, hF1⟩
  obtain ⟨p, rfl⟩ := hD1.form
  go_wp2_with fail
  refine (cd_no 63 (by omega)).mono ?_
  rintro e w2 ⟨rfl, rfl⟩
  go_wp2_with fail
  refine (cd_arm 2 (by omega) hD1).mono ?_
  rintro e w2 ⟨F2, rfl, hD2, hC2, hS2⟩
  rw [E1.out]
  go_wp2_with fail
  rw [livesd.setB]
  change CD w2 F2 _ livesd.s1 at hD2
  have hb2 : Below w.heap.size w w2 := (Chg.of_below hb1 F1 |>.trans hC2 (Sub.refl _ _)).below (Nat.le_refl _) hF1
  have hF2 : ∀ k ∈ F2, w.heap.size ≤ k := fun k hk => (hS2 k hk).elim (hF1 k) (fun h => Nat.le_trans hb1.size h)
  refine (cd_write 0 livesd.B livesd.lB hD2 livesd.f1).mono ?_
  rintro e w3 ⟨F3, rfl, hD3, hC3, hS3⟩
  change CD w3 F3 _ livesd.s2 at hD3
  have hb3 : Below w.heap.size w w3 := (Chg.of_below hb2 F2 |>.trans hC3 (Sub.refl _ _)).below (Nat.le_refl _) hF2
  have hF3 : ∀ k ∈ F3, w.heap.size ≤ k := fun k hk => (hS3 k hk).elim (hF2 k) (fun h => Nat.le_trans hb2.size h)
  rw [E2.out]
  clear hD1 hD2 hC2 hS2 hC3 hS3
  go_wp2_with fail
  refine (cd_flush hD3 livesd.f2).mono ?_
  rintro e w4 ⟨F4, rfl, hD4, hC4, hS4⟩
  change CD w4 F4 _ livesd.s3 at hD4
  have hb4 : Below w.heap.size w w4 := (Chg.of_below hb3 F3 |>.trans hC4 (Sub.refl _ _)).below (Nat.le_refl _) hF3
  have hF4 : ∀ k ∈ F4, w.heap.size ≤ k := fun k hk => (hS4 k hk).elim (hF3 k) (fun h => Nat.le_trans hb3.size h)
  rw [E3.out]
  clear hD3 hC4 hS4
  go_wp2_with fail
  refine (cd_read 0 hD4).mono ?_
  rintro e w5 ⟨rfl, hb45⟩
  have hD5 := hD4.below hb45
  have hb5 := hb4.trans (hb45.mono hb4.size)
  rw [E4.out]
  have hr5 := heap_alloc_new w5 (.cells (dk.cells dk.zero).toArray 33)
  go_wp2_with (refine wp_st0 (.tmp 8) (.tmp 31) dk.zero hr5 zero_len zero_len rfl rfl rfl rfl ?_; intro w6 hW6 hC6; have hb56 := new_chg hC6; have hD6 := hD5.below hb56)
  have hb6 := hb5.trans (hb56.mono hb5.size)
  have hI : IS (w6.alloc (.cells #[.int .i64 3] 3)) (some ⟨w6.heap.size, 0, none⟩) 1 1 [3] := ⟨rfl, Nat.le_refl _, by omega, fun _ => ⟨_, _, rfl, by simp, fun i hi => by
    obtain rfl : i = 0 := by simp at hi; omega
    exact cell_of_row _ _ 0 #[.int .i64 3] 3 (0, 0) (heap_alloc_new w6 _)⟩⟩
  have hDa := hD6.below ((Below.refl _ _).alloc (Nat.le_refl _) (.cells #[.int .i64 3] 3))
  have hba := hb6.alloc hb6.size (.cells #[.int .i64 3] 3)
  refine (cd_crash _ _ _ _ hI (fun _ b o e hk => by
    injection e with e
    injection e with e1 e2
    have := hD6.there b hk
    omega) hDa).mono ?_
  rintro e w7 ⟨F7, rfl, hD7, hC7, hS7⟩
  change CD w7 F7 _ livesd.s4 at hD7
  have hb7 : Below w.heap.size w w7 := (Chg.of_below hba F4 |>.trans hC7 (Sub.refl _ _)).below (Nat.le_refl _) hF4
  have hF7 : ∀ k ∈ F7, w.heap.size ≤ k := fun k hk => (hS7 k hk).elim (hF4 k) (fun h => Nat.le_trans hba.size h)
  clear hD6 hDa hC7 hS7 hI hb45 hD5 hD4 hW6 hC6 hr5 hb56
  go_wp2_with fail
  refine (cd_read 0 hD7).mono ?_
  rintro e w8 ⟨rfl, hb78⟩
  have hD8 := hD7.below hb78
  have hb8 := hb7.trans (hb78.mono hb7.size)
  rw [E5.out]
  have hE : ∀ W, (Op.equalIn 10000 33 (.agg (dk.cells livesd.T).toArray) (.agg ((((dk.cells dk.zero).set 0 (Value.int IntKind.u8 17)).set 1 (Value.int IntKind.u8 17)).set 2 (Value.int IntKind.u8 17)).toArray)).run Try.prog W = .ok true W := fun W => by
    rw [livesd.setT]
    exact (eq_blk livesd.T livesd.T livesd.lT livesd.lT W).trans (by rw [decide_eq_true rfl])
  have hr8 := heap_alloc_new w8 (.cells (dk.cells dk.zero).toArray 33)
  go_wp2_with (first | (refine wp_st0 (.tmp 11) (.tmp 39) livesd.T hr8 zero_len livesd.lT rfl rfl rfl rfl ?_; intro w9 hW9 hC9; have hb89 := new_chg hC9; have hD9 := hD8.below hb89; have hrg := blk_range hW9) | refine wp_ldw (.tmp 11) livesd.T hrg livesd.lT rfl rfl (by rfl) ?_)
  have hb9 := hb8.trans (hb89.mono hb8.size)
  refine (cd_steps hD9).mono ?_
  rintro e w10 ⟨rfl, rfl⟩
  rw [livesd.e6]
  clear hE hr8 hW9 hC9 hrg
  go_wp2_with fail
  refine (cd_write 64 dk.zero zero_len hD9 livesd.f4).mono ?_
  rintro e w11 ⟨F11, rfl, hD11, hC11, hS11⟩
  rw [livesd.e7]
  go_wp2_with fail
  go_ret
  exact ⟨rfl, (Chg.of_below hb9 F7 |>.trans hC11 (Sub.refl _ _)).below (Nat.le_refl _) hF7⟩
end Go.Proofs.Ytajdeoackpfhoaa
