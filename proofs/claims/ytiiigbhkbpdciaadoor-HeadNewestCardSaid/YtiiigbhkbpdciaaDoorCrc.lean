/-
  contracts of crc's functions: byOne, byFour, times, On, Into, More, Of, Join.
-/
import Derived.Test.YtiiigbhkbpdciaaDoorCore
import Derived.Test.YtiiigbhkbpdciaaDoorCrcL
namespace Go.Proofs.YtiiigbhkbpdciaaDoor
open Go.RowKit

/-- a rest as a value -/
abbrev wv (x : crc.W) : Value := .int .u32 (x.toNat : Int)
theorem wv_ret {x : crc.W} {a : Int} (h : a = (x.toNat : Int)) : Ending.returned (.int .u32 a) = .returned (wv x) := by rw [h]
theorem wv_shr (x : crc.W) (j : Nat) : (x.toNat : Int) / (2 : Int) ^ j = ((x >>> j).toNat : Int) := by
  rw [BitVec.toNat_ushiftRight, Nat.shiftRight_eq_div_pow, Int.natCast_ediv, Int.natCast_pow]
  rfl
theorem wv_half (x : crc.W) : (x.toNat : Int) / (2 : Int) = ((x >>> 1).toNat : Int) := by
  rw [← wv_shr, Int.pow_one]
theorem wv_xor (x y : crc.W) : bits .xor .u32 (x.toNat : Int) (y.toNat : Int) = ((x ^^^ y).toNat : Int) := by
  rw [u32_xor_nat _ _ x.isLt y.isLt, BitVec.toNat_xor]
theorem wv_and (x y : crc.W) : bits .and .u32 (x.toNat : Int) (y.toNat : Int) = ((x &&& y).toNat : Int) := by
  rw [u32_and_nat _ _ x.isLt y.isLt, BitVec.toNat_and]
theorem wv_bit (x : crc.W) : bits .and .u32 (x.toNat : Int) 1 = if x.getLsbD 0 then 1 else 0 := by
  rw [show (1 : Int) = ((1 : Nat) : Int) from rfl, u32_and_nat _ _ x.isLt (by omega), Nat.and_one_is_mod]
  have e : x.getLsbD 0 = decide (x.toNat % 2 = 1) := by
    rw [← BitVec.testBit_toNat, Nat.testBit_zero]
  rw [e]
  by_cases h : x.toNat % 2 = 1
  · simp [h]
  · simp [h]; omega
theorem wv_bit_ne (x : crc.W) : (bits .and .u32 (x.toNat : Int) 1 != 0) = x.getLsbD 0 := by
  rw [wv_bit]
  cases x.getLsbD 0 <;> rfl

theorem i64_odd (n : Nat) (h : n < 9223372036854775808) : (bits .and .i64 (n : Int) 1 != 0) = (n % 2 == 1) := by
  have e : bits .and .i64 (n : Int) 1 = ((n % 2 : Nat) : Int) := by
    show IntKind.i64.wrap ((BitVec.ofInt 64 (n : Int) &&& BitVec.ofInt 64 ((1 : Nat) : Int)).toNat : Int) = _
    rw [BitVec.toNat_and, ofInt_u64 n (by omega), ofInt_u64 1 (by omega), nat_mask1, IntKind.wrap_i64]
    omega
  rw [e, Bool.eq_iff_iff]
  simp
  omega

/-- THE TABLE IN MEMORY: for each four lowest bits what they leave. -/
structure Tab (w : World) : Prop where
  lt : 1 < w.heap.size
  at_ : ∀ i, i < 16 → w.cell? ⟨1, i, none⟩ = some (wv (crc.on 4 (BitVec.ofNat 32 i)))
theorem Tab.below {w w' : World} (h : Tab w) (hb : Below w.heap.size w w') : Tab w' :=
  ⟨Nat.lt_of_lt_of_le h.lt hb.size, fun i hi => (hb.cell h.lt).trans (h.at_ i hi)⟩
theorem Tab.drew {w : World} (h : Tab w) : Tab w.drew := ⟨h.lt, h.at_⟩
theorem Tab.drewN {w : World} (h : Tab w) (k : Nat) : Tab (w.drewN k) := ⟨h.lt, h.at_⟩
theorem Tab.alloc {w : World} (h : Tab w) (o : Obj) : Tab (w.alloc o) := h.below ((Below.refl _ _).alloc (Nat.le_refl _) o)

theorem byFour_any (x : crc.W) (w : World) (ht : Tab w) : Calls Tryd.prog 48 #[wv x] w fun e w' => e = .returned (wv (crc.on 4 x)) ∧ w = w' := by
  have e1 : bits .and .u32 (x.toNat : Int) 15 = ((x.toNat % 16 : Nat) : Int) := by
    rw [show (15 : Int) = ((15 : Nat) : Int) from rfl, u32_and_nat _ _ x.isLt (by omega), nat_mask4]
  have hc := ht.at_ (x.toNat % 16) (by omega)
  go_enter Tryd.func48, Tryd.ntmps48
  go_wp2
  go_ret
  refine ⟨wv_ret ?_, rfl⟩
  have e2 : (x.toNat : Int) / (16 : Int) = ((x >>> 4).toNat : Int) := wv_shr x 4
  have e3 : BitVec.ofNat 32 (x.toNat % 16) = x &&& 15#32 := by
    apply BitVec.eq_of_toNat_eq
    rw [BitVec.toNat_ofNat, BitVec.toNat_and, show (15#32 : crc.W).toNat = 15 from rfl, nat_mask4]
    omega
  rw [e2, wv_xor, e3, ← crc.on4]

theorem u8_word (c : UInt8) : (c.toNat : Int) = ((crc.wb c).toNat : Int) := by
  have := c.toNat_lt
  rw [crc.wb, BitVec.toNat_ofNat]
  omega
/-- Into: the rest behind a byte. -/
theorem into_any (x : crc.W) (c : UInt8) (w : World) (ht : Tab w) : Calls Tryd.prog 46 #[wv x, bv c] w fun e w' => e = .returned (wv (crc.into x c)) ∧ w = w' := by
  have hc := c.toNat_lt
  obtain ⟨y, hy⟩ : ∃ y : crc.W, y = x ^^^ crc.wb c := ⟨_, rfl⟩
  have e1 : bits .xor .u32 (x.toNat : Int) (c.toNat : Int) = (y.toNat : Int) := by rw [u8_word, wv_xor, hy]
  have HY := Lib.hid hy
  have h4 := byFour_any y w ht
  obtain ⟨z, hz⟩ : ∃ z : crc.W, z = crc.on 4 y := ⟨_, rfl⟩
  have HZ := Lib.hid hz
  rw [← hz] at h4
  have h5 := byFour_any z w ht
  obtain ⟨u, hu⟩ : ∃ u : crc.W, u = crc.on 4 z := ⟨_, rfl⟩
  have HU := Lib.hid hu
  rw [← hu] at h5
  have H4 := Lib.hid h4
  have H5 := Lib.hid h5
  clear hy hz hu h4 h5
  go_enter Tryd.func46, Tryd.ntmps46
  go_wp2_with fail
  refine H4.out.mono ?_
  rintro e w1 ⟨rfl, rfl⟩
  go_wp2_with fail
  refine H5.out.mono ?_
  rintro e w1 ⟨rfl, rfl⟩
  go_wp2_with fail
  go_ret
  refine ⟨congrArg Ending.returned (congrArg wv ?_), rfl⟩
  rw [HU.out, HZ.out, HY.out, crc.into_four]

theorem wv_not (x : crc.W) : bits .xor .u32 IntKind.u32.max (x.toNat : Int) = ((~~~ x).toNat : Int) := by
  rw [show IntKind.u32.max = ((4294967295#32 : crc.W).toNat : Int) from rfl, wv_xor, show (4294967295#32 : crc.W) = BitVec.allOnes 32 from rfl, BitVec.allOnes_xor]

/-- More: the sum of some bytes and these, of the sum of those. -/
theorem more_any (s : crc.W) (A : Option Addr) (n c : Nat) (l : List UInt8) (w : World) (hB : BS w A n c l) (ht : Tab w) : Calls Tryd.prog 44 #[wv s, .slice A n c] w fun e w' => e = .returned (wv (crc.more s l)) ∧ w = w' := by
  have hl := hB.len
  have hsm := hB.small
  have HL := Lib.hid hl
  clear hl
  go_enter Tryd.func44, Tryd.ntmps44
  go_wp2_with fail
  go_loop [5, 12] (fun r i => ∃ j : Nat, j ≤ n ∧ i = .int .i64 j ∧ r = wv (crc.go (~~~ s) (l.take j))) (fun _ i => n - (intOf i).toNat)
  case atStart => exact ⟨0, by omega, rfl, congrArg (Value.int .u32) (wv_not s)⟩
  case round =>
    obtain ⟨j, hj, rfl, rfl⟩ := hrel
    by_cases hlt : j < n
    · obtain ⟨b, o, rfl, hbl, hcell⟩ := hB.has (by omega)
      have hx := hcell j (by rw [HL.out]; exact hlt)
      generalize hy : l[j]'(by rw [HL.out]; exact hlt) = y at hx
      have hst : l.take (j + 1) = l.take j ++ [y] := by rw [List.take_succ_eq_append_getElem (by rw [HL.out]; exact hlt), hy]
      have HST := Lib.hid hst
      clear hst hy hcell
      go_wp2_with (go_at_call 46; refine (into_any _ y _ ht).mono ?_; rintro e w1 ⟨rfl, rfl⟩)
      go_roundw
      case rel =>
        refine ⟨j + 1, by omega, by go_num, ?_⟩
        rw [HST.out, crc.go_snoc]
      case measure => simp [intOf]; omega
    · obtain rfl : j = n := by omega
      go_wp2
      go_ret
      refine ⟨wv_ret ?_, rfl⟩
      rw [wv_not, List.take_of_length_le (by rw [HL.out]; exact Nat.le_refl _)]
      rfl

/-- Of: the sum. -/
theorem of_any (A : Option Addr) (n c : Nat) (l : List UInt8) (w : World) (h : BS w A n c l) (ht : Tab w) : Calls Tryd.prog 37 #[.slice A n c] w fun e w' => e = .returned (wv (crc.of l)) ∧ w = w' := by
  go_enter Tryd.func37, Tryd.ntmps37
  go_wp2_with (go_at_call 44; refine (more_any 0#32 _ _ _ l _ h ht).mono ?_; rintro e w1 ⟨rfl, rfl⟩)
  go_ret
  exact ⟨rfl, rfl⟩

end Go.Proofs.YtiiigbhkbpdciaaDoor
