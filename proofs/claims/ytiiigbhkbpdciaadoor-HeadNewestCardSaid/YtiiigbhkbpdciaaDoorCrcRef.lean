/-
  contracts of cardexref03's functions: bit, On, Into, turned, More, Of, Join.
-/
import Derived.Test.YtiiigbhkbpdciaaDoorCrc
namespace Go.Proofs.YtiiigbhkbpdciaaDoor
open Go.RowKit

theorem wv_bit_eq (x : crc.W) : (bits .and .u32 (x.toNat : Int) 1 == 0) = !x.getLsbD 0 := by
  rw [wv_bit]
  cases x.getLsbD 0 <;> rfl
theorem rbit_any (x : crc.W) (w : World) : Calls Tryd.prog 47 #[wv x] w fun e w' => e = .returned (wv (crc.one x)) ∧ w = w' := by
  go_enter Tryd.func47, Tryd.ntmps47
  go_wp2
  all_goals go_ret
  · next h =>
    rw [wv_bit_eq] at h
    refine ⟨wv_ret ?_, rfl⟩
    rw [wv_half, crc.one_even x (by simpa using h)]
  · next h =>
    rw [wv_bit_eq] at h
    refine ⟨wv_ret ?_, rfl⟩
    rw [wv_half]
    refine (wv_xor _ 2197175160#32).trans ?_
    rw [crc.one, if_pos (by simpa using h)]

theorem ron_any (x : crc.W) (n : Int) (w : World) (hn : n ≤ 9223372036854775807) : Calls Tryd.prog 45 #[wv x, .int .i64 n] w fun e w' => e = .returned (wv (crc.on (8 * n.toNat) x)) ∧ w = w' := by
  go_enter Tryd.func45, Tryd.ntmps45
  go_wp2_with fail
  go_loop [0, 5] (fun r i => ∃ j : Nat, j ≤ n.toNat ∧ i = .int .i64 j ∧ r = wv (crc.on (8 * j) x)) (fun _ i => n.toNat - (intOf i).toNat)
  case atStart => exact ⟨0, by omega, rfl, rfl⟩
  case round =>
    obtain ⟨j, hj, rfl, rfl⟩ := hrel
    by_cases hlt : j < n.toNat
    · have hlt' : (j : Int) < n := by omega
      go_wp2_with fail
      go_loop [0, 6] (fun r i => ∃ k : Nat, k ≤ 8 ∧ i = .int .i64 k ∧ r = wv (crc.on (8 * j + k) x)) (fun _ i => 8 - (intOf i).toNat)
      case atStart => exact ⟨0, by omega, rfl, rfl⟩
      case round =>
        obtain ⟨k, hk, rfl, rfl⟩ := hrel
        by_cases hk8 : k < 8
        · go_wp2_with (go_at_call 47; refine (rbit_any _ _).mono ?_; rintro e w1 ⟨rfl, rfl⟩)
          go_roundw
          case rel => exact ⟨k + 1, by omega, by go_num, by rw [← crc.on_succ', Nat.add_assoc]⟩
          case measure => simp [intOf]; omega
        · obtain rfl : k = 8 := by omega
          go_wp2
          go_roundw
          case rel => exact ⟨j + 1, by omega, by go_num, rfl⟩
          case measure => simp [intOf]; omega
    · obtain rfl : j = n.toNat := by omega
      have hlt' : ¬ ((n.toNat : Nat) : Int) < n := by omega
      go_wp2
      go_ret
      exact ⟨rfl, rfl⟩

theorem rinto_any (x : crc.W) (c : UInt8) (w : World) : Calls Tryd.prog 41 #[wv x, bv c] w fun e w' => e = .returned (wv (crc.into x c)) ∧ w = w' := by
  have hc := c.toNat_lt
  obtain ⟨y, hy⟩ : ∃ y : crc.W, y = x ^^^ crc.wb c := ⟨_, rfl⟩
  have e1 : bits .xor .u32 (x.toNat : Int) (c.toNat : Int) = (y.toNat : Int) := by rw [u8_word, wv_xor, hy]
  have e2 : crc.into x c = crc.on 8 y := by rw [hy]; rfl
  have HY := Lib.hid e2
  have H4 := Lib.hid (ron_any y 1 w (by omega))
  clear hy e2
  go_enter Tryd.func41, Tryd.ntmps41
  go_wp2_with fail
  refine H4.out.mono ?_
  rintro e w1 ⟨rfl, rfl⟩
  go_wp2_with fail
  go_ret
  refine ⟨congrArg Ending.returned (congrArg wv ?_), rfl⟩
  rw [HY.out]

theorem rturned_any (x : crc.W) (w : World) : Calls Tryd.prog 33 #[wv x] w fun e w' => e = .returned (wv (~~~ x)) ∧ w = w' := by
  have hx := x.isLt
  have e1 : (4294967295 : Int) - (x.toNat : Int) = ((~~~ x).toNat : Int) := by rw [BitVec.toNat_not]; omega
  have E1 := Lib.hid e1
  clear e1
  go_enter Tryd.func33, Tryd.ntmps33
  go_wp2
  go_ret
  exact ⟨wv_ret E1.out, rfl⟩

theorem rmore_any (s : crc.W) (A : Option Addr) (n c : Nat) (l : List UInt8) (w : World) (hB : BS w A n c l) : Calls Tryd.prog 32 #[wv s, .slice A n c] w fun e w' => e = .returned (wv (crc.more s l)) ∧ w = w' := by
  obtain ⟨t, ht⟩ : ∃ t : crc.W, ~~~ s = t := ⟨_, rfl⟩
  have HT := Lib.hid ht
  have H1 := Lib.hid (rturned_any s w)
  rw [ht] at H1
  clear ht
  go_enter Tryd.func32, Tryd.ntmps32
  go_wp2_with fail
  refine H1.out.mono ?_
  rintro e w1 ⟨rfl, rfl⟩
  go_wp2_with fail
  go_loop [1, 5] (fun b r => ∃ (A' : Option Addr) (k c' : Nat) (m : List UInt8) (y : crc.W), b = .slice A' k c' ∧ r = wv y ∧ BS w A' k c' m ∧ Hid (crc.go t l = crc.go y m)) (fun b _ => lenV b)
  case atStart => exact ⟨A, n, c, l, t, rfl, rfl, hB, Lib.hid rfl⟩
  case round =>
    obtain ⟨A', k, c', m, y, rfl, rfl, hb, HG⟩ := hrel
    have hcap := hb.cap
    have hmax := hb.max
    by_cases h0 : 0 < k
    · obtain ⟨b, o, rfl, hbl, hcell⟩ := hb.has h0
      obtain ⟨x, m', rfl⟩ : ∃ x m', m = x :: m' := by
        cases m with
        | nil => have := hb.len; simp at this; omega
        | cons x m' => exact ⟨x, m', rfl⟩
      have hx := hcell 0 (by simp)
      rw [Nat.add_zero] at hx
      simp only [List.getElem_cons_zero] at hx
      clear hcell
      have hnext : BS w (some ⟨b, o + 1, none⟩) (k - 1) (c' - 1) m' := by
        rcases Nat.eq_or_lt_of_le h0 with h1 | h1
        · have hl := hb.len
          obtain rfl : m' = [] := List.eq_nil_of_length_eq_zero (by simp at hl; omega)
          rw [show k - 1 = 0 from by omega]
          exact BS.empty (by omega)
        · have := drop_bs hb (j := 1) (by omega)
          simpa [Addr.add_lit] using this
      have hnext0 : ∀ A2, k = 1 → BS w A2 0 (c' - 1) m' := fun A2 h1 => by
        have hl := hb.len
        obtain rfl : m' = [] := List.eq_nil_of_length_eq_zero (by simp at hl; omega)
        exact BS.empty (by omega)
      have HI := Lib.hid (rinto_any y x w)
      obtain ⟨z, hz⟩ : ∃ z : crc.W, crc.into y x = z := ⟨_, rfl⟩
      rw [hz] at HI
      have hgo : crc.go t l = crc.go z m' := by rw [HG.out, ← hz]; rfl
      have HG2 := Lib.hid hgo
      clear hz hgo HG
      go_wp2_with fail
      refine HI.out.mono ?_
      rintro e w1 ⟨rfl, rfl⟩
      go_wp2_with fail
      go_roundw
      case rel =>
        by_cases hc1 : c' = 1
        · have hk1 : k = 1 := by omega
          refine ⟨_, k - 1, c' - 1, m', z, rfl, rfl, ?_, HG2⟩
          rw [show k - 1 = 0 from by omega]
          exact hnext0 _ hk1
        · rw [if_neg hc1]
          exact ⟨_, _, _, m', z, rfl, rfl, hnext, HG2⟩
      case measure => simp [lenV]; omega
    · obtain rfl : k = 0 := by omega
      obtain rfl : m = [] := List.eq_nil_of_length_eq_zero hb.len
      go_wp2_with fail
      refine (rturned_any y _).mono ?_
      rintro e w1 ⟨rfl, rfl⟩
      go_wp2_with fail
      go_ret
      refine ⟨congrArg Ending.returned (congrArg wv ?_), rfl⟩
      rw [crc.more, HT.out, HG.out]
      rfl

theorem rof_any (A : Option Addr) (n c : Nat) (l : List UInt8) (w : World) (hB : BS w A n c l) : Calls Tryd.prog 22 #[.slice A n c] w fun e w' => e = .returned (wv (crc.of l)) ∧ w = w' := by
  have H1 := Lib.hid (rturned_any 4294967295#32 w)
  rw [show ~~~ (4294967295#32 : crc.W) = 0#32 from by decide] at H1
  go_enter Tryd.func22, Tryd.ntmps22
  go_wp2_with fail
  refine H1.out.mono ?_
  rintro e w1 ⟨rfl, rfl⟩
  go_wp2_with fail
  refine (rmore_any 0#32 _ _ _ l _ hB).mono ?_
  rintro e w1 ⟨rfl, rfl⟩
  go_wp2_with fail
  go_ret
  exact ⟨rfl, rfl⟩

end Go.Proofs.YtiiigbhkbpdciaaDoor
