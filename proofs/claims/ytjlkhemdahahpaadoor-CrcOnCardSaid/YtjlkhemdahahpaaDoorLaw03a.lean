/-
  cardexlaw03's walk: CrcOn.
-/
import Derived.Test.YtjlkhemdahahpaaDoorLaw03
namespace Go.Proofs.YtjlkhemdahahpaaDoor
open Go.RowKit

theorem on_nat (x y : crc.W) (i : Nat) (w : World) (hi : i < 2147483648) (h : crc.on (8 * i) x = y) : Calls Tryd.prog 8 #[wv x, .int .i64 (i : Int)] w fun e w' => e = .returned (wv y) ∧ w = w' := by
  have := on_any x (i : Int) w (by omega)
  rw [Int.toNat_natCast, h] at this
  exact this

set_option maxHeartbeats 4000000 in
set_option maxRecDepth 100000 in
theorem walk_CrcOn (a b n m : Int) (w : World) (wa : (Lit.int .u32 a).wf = true) (wb : (Lit.int .u32 b).wf = true) (wn : (Lit.int .u32 n).wf = true) (wm : (Lit.int .u32 m).wf = true) (ht : Tab w) :
    Calls Tryd.prog 5 #[.int .u32 a, .int .u32 b, .int .u32 n, .int .u32 m] w fun e w' => e = .returned (.bool true) ∧ Below w.heap.size w w' := by
  obtain ⟨x, rfl⟩ := u32_word wa
  obtain ⟨z, rfl⟩ := u32_word wb
  obtain ⟨N, rfl, hN⟩ := u32_nat wn
  obtain ⟨M, rfl, hM⟩ := u32_nat wm
  clear wa wb wn wm
  obtain ⟨i, hi⟩ : ∃ i, N % 1073741824 = i := ⟨_, rfl⟩
  obtain ⟨k, hk⟩ : ∃ k, M % 1073741824 = k := ⟨_, rfl⟩
  have hi' : i < 1073741824 := by omega
  have hk' : k < 1073741824 := by omega
  have ei : (N : Int) % 1073741824 = (i : Int) := by omega
  have ek : (M : Int) % 1073741824 = (k : Int) := by omega
  clear hi hk
  obtain ⟨y1, h1⟩ : ∃ y, crc.on (8 * i) x = y := ⟨_, rfl⟩
  obtain ⟨y2, h2⟩ : ∃ y, crc.on (8 * k) y1 = y := ⟨_, rfl⟩
  have h3 : crc.on (8 * (i + k)) x = y2 := by rw [Nat.mul_add, crc.on_add, h1, h2]
  obtain ⟨z1, h4⟩ : ∃ y, crc.on (8 * i) z = y := ⟨_, rfl⟩
  obtain ⟨xz, h5⟩ : ∃ y, x ^^^ z = y := ⟨_, rfl⟩
  obtain ⟨yz, h6⟩ : ∃ y, y1 ^^^ z1 = y := ⟨_, rfl⟩
  have h7 : crc.on (8 * i) xz = yz := by rw [← h5, crc.on_xor, h1, h4, h6]
  have e5 : bits .xor .u32 (x.toNat : Int) (z.toNat : Int) = (xz.toNat : Int) := by rw [wv_xor, h5]
  have e6 : bits .xor .u32 (y1.toNat : Int) (z1.toNat : Int) = (yz.toNat : Int) := by rw [wv_xor, h6]
  have H1 := Lib.hid (on_nat x y1 i w (by omega) h1)
  have H2 := Lib.hid (on_nat y1 y2 k w (by omega) h2)
  have h3' := on_nat x y2 (i + k) w (by omega) h3
  rw [Int.natCast_add] at h3'
  have H3 := Lib.hid h3'
  have H4 := Lib.hid (on_nat z z1 i w (by omega) h4)
  have H7 := Lib.hid (on_nat xz yz i w (by omega) h7)
  have h8 := on_any x (-(k : Int)) w (by omega)
  rw [Int.toNat_of_nonpos (by omega), Nat.mul_zero, crc.on] at h8
  have H8 := Lib.hid h8
  clear h1 h2 h3 h3' h4 h5 h6 h7 h8
  go_enter Tryd.func5, Tryd.ntmps5
  go_wp2_with fail
  refine H1.out.mono ?_
  rintro e w1 ⟨rfl, rfl⟩
  go_wp2_with fail
  refine H2.out.mono ?_
  rintro e w1 ⟨rfl, rfl⟩
  go_wp2_with fail
  refine H3.out.mono ?_
  rintro e w1 ⟨rfl, rfl⟩
  go_wp2_with fail
  refine H1.out.mono ?_
  rintro e w1 ⟨rfl, rfl⟩
  go_wp2_with fail
  refine H4.out.mono ?_
  rintro e w1 ⟨rfl, rfl⟩
  go_wp2_with fail
  refine H7.out.mono ?_
  rintro e w1 ⟨rfl, rfl⟩
  go_wp2_with fail
  refine H8.out.mono ?_
  rintro e w1 ⟨rfl, rfl⟩
  go_wp2_with fail
  clear H1 H2 H3 H4 H7 H8 e5 e6
  obtain ⟨q, hq⟩ : ∃ q, i % 100 = q := ⟨_, rfl⟩
  have hq' : q < 100 := by omega
  have eq : (i : Int) % 100 = (q : Int) := by omega
  clear hq
  go_loop [11, 12] (fun r t => ∃ j : Nat, j ≤ q ∧ t = .int .i64 j ∧ r = wv (crc.on (8 * j) x)) (fun _ t => q - (intOf t).toNat)
  case atStart => exact ⟨0, by omega, rfl, rfl⟩
  case round =>
    obtain ⟨j, hj, rfl, rfl⟩ := hrel
    by_cases hlt : j < q
    · have HI := Lib.hid (into_any (crc.on (8 * j) x) 0 w ht)
      rw [into_zero, ← crc.on_add] at HI
      go_wp2_with fail
      refine HI.out.mono ?_
      rintro e w1 ⟨rfl, rfl⟩
      go_wp2_with fail
      go_roundw
      case rel => exact ⟨j + 1, by omega, by go_num, rfl⟩
      case measure => simp [intOf]; omega
    · obtain rfl : j = q := by omega
      obtain ⟨y, hy⟩ : ∃ y, crc.on (8 * j) x = y := ⟨_, rfl⟩
      have HQ := Lib.hid (on_nat x y j w (by omega) hy)
      rw [hy]
      clear hy
      go_wp2_with fail
      refine HQ.out.mono ?_
      rintro e w1 ⟨rfl, rfl⟩
      go_wp2_with fail
      refine (lives_any _ ht).mono ?_
      rintro e w1 ⟨rfl, hb⟩
      go_wp2_with fail
      go_ret
      exact ⟨rfl, hb⟩
end Go.Proofs.YtjlkhemdahahpaaDoor
