/-
  MARKED NUMBERS: contracts of num.Mark, GetMark and cardexref01's.
-/
import Derived.Test.YteblbnelbdimbaaRowz
import Derived.Shelf.Small.Bits
namespace Go.Proofs.Yteblbnelbdimbaa
open Go.RowKit

def len32_ren : Go.Shelf.Ren := ⟨fun | 128 => 34 | n => n, fun | 51 => 37 | 3 => 3 | 4 => 4 | 46 => 49 | 5 => 5 | 9 => 9 | n => n, fun | n => n⟩
theorem len32_lays : Go.Proofs.Lays.n128 Try.prog len32_ren := {
  mixed := by kernel_rfl
  f128 := Try.func34.trans (congrArg some (by kernel_rfl))
  t3 := Try.underlying3, a3 := Try.isAgg3, z3 := Try.sizeOf3, v3 := Try.zeroValue3
  t4 := Try.underlying4, a4 := Try.isAgg4, z4 := Try.sizeOf4, v4 := Try.zeroValue4
  t5 := Try.underlying5, a5 := Try.isAgg5, z5 := Try.sizeOf5, v5 := Try.zeroValue5
  t9 := Try.underlying9, a9 := Try.isAgg9, z9 := Try.sizeOf9, v9 := Try.zeroValue9
  t46 := Try.underlying49, a46 := Try.isAgg49, z46 := Try.sizeOf49, v46 := Try.zeroValue49
  t51 := Try.underlying37, a51 := Try.isAgg37, z51 := Try.sizeOf37, v51 := Try.zeroValue37 }
theorem len32_any (n : Nat) (w : World) (hn : n < 4294967296) :
    Calls Try.prog 34 #[.int .u32 n] w fun e w' => e = .returned (.int .i64 (Lib.bitLen n)) ∧ w = w' :=
  (Any.bits_Len32 len32_lays n w (by omega) (by omega)).mono fun e w' h => ⟨h.1, h.2.symm⟩

/-- how many groups of seven bits a mark has -/
def groups (n : Nat) : Nat := if n < 128 then 1 else if n < 16384 then 2 else if n < 2097152 then 3 else if n < 268435456 then 4 else 5

theorem bitLen_pow (n k : Nat) (hn : n < 18446744073709551616) (hk : k ≤ 64) : Lib.bitLen n ≤ k ↔ n < 2 ^ k := by
  constructor
  · intro h
    rcases Nat.lt_or_ge n (2 ^ k) with h1 | h1
    · exact h1
    · have h2 := Lib.bitLen_shift k n h1 hn
      have h0 : n / 2 ^ k ≠ 0 := by
        have : 0 < 2 ^ k := Nat.pow_pos (by omega)
        rw [Nat.ne_zero_iff_zero_lt, Nat.div_pos_iff]
        exact ⟨this, h1⟩
      have h3 := Lib.bitLen_half (n / 2 ^ k) h0 (Nat.lt_of_le_of_lt (Nat.div_le_self _ _) hn)
      omega
  · exact Lib.bitLen_le n k hk
theorem groups_any (n : Nat) (w : World) (hn : n < 4294967296) :
    Calls Try.prog 33 #[.int .u32 n] w fun e w' => e = .returned (.int .i64 (groups n)) ∧ w = w' := by
  have b7 := bitLen_pow n 7 (by omega) (by omega)
  have b14 := bitLen_pow n 14 (by omega) (by omega)
  have b21 := bitLen_pow n 21 (by omega) (by omega)
  have b28 := bitLen_pow n 28 (by omega) (by omega)
  have b32 := (bitLen_pow n 32 (by omega) (by omega)).2 (by omega)
  have b0 := bitLen_pow n 0 (by omega) (by omega)
  obtain ⟨b, hb⟩ : ∃ b, b = Lib.bitLen n := ⟨_, rfl⟩
  have hg : max 1 (((b : Int) + 7 - 1) / 7) = groups n := by
    rw [← hb] at b7 b14 b21 b28 b32 b0
    unfold groups
    repeat' split
    all_goals omega
  have HG := Lib.hid hg
  rw [← hb] at b32
  have cL := len32_any n w hn
  rw [← hb] at cL
  clear b7 b14 b21 b28 b0 hb hg
  go_enter Try.func33, Try.ntmps33
  go_wp2_with (go_at_call 34; refine cL.mono ?_; rintro e w' ⟨rfl, rfl⟩)
  go_ret
  exact ⟨ret_int HG.out, rfl⟩

theorem or128 : ∀ x : Fin 256, x.val ||| 128 = x.val % 128 + 128 := by decide +kernel
theorem and128 : ∀ x : Fin 256, (x.val &&& 128 = 0) = (x.val < 128) := by
  intro x
  have : ∀ x : Fin 256, (x.val &&& 128 = 0) ↔ (x.val < 128) := by decide +kernel
  exact propext (this x)
theorem andNot128 (x : Nat) (hx : x < 256) : bits .andNot .u8 (x : Int) 128 = ((x % 128 : Nat) : Int) := by
  rw [show (128 : Int) = ((128 : Nat) : Int) from rfl, u8_andNot_nat x 128 hx (by omega), show 255 - 128 = 127 from rfl, nat_mask7]
theorem bits_or128 (x : Nat) (hx : x < 256) : bits .or .u8 (x : Int) 128 = ((x % 128 + 128 : Nat) : Int) := by
  rw [show (128 : Int) = ((128 : Nat) : Int) from rfl, u8_or_nat x 128 hx (by omega), or128 ⟨x, hx⟩]

/-- the byte of the groups from bit 7 * k on, behind which another one comes -/
def grp (n k : Nat) : UInt8 := UInt8.ofNat (n / 2 ^ (7 * k) % 128 + 128)
/-- the first j bytes of the mark of last + 1 -/
def markL (last n j : Nat) : List UInt8 := (List.range j).map fun i => grp n (last - i)
def markBytes (n : Nat) : List UInt8 := markL (groups n - 1) n (groups n - 1) ++ [UInt8.ofNat (n % 128)]
theorem markL_length (last n j : Nat) : (markL last n j).length = j := by simp [markL]
theorem markL_succ (last n j : Nat) : markL last n (j + 1) = markL last n j ++ [grp n (last - j)] := by simp [markL, List.range_succ]
theorem groups_le (n : Nat) : 1 ≤ groups n ∧ groups n ≤ 5 := by
  unfold groups
  repeat' split
  all_goals omega
theorem markBytes_length (n : Nat) : (markBytes n).length = groups n := by
  have := groups_le n
  simp [markBytes, markL_length]
  omega
theorem mark_step (last n j : Nat) (h : j < last + 1) : (markL last n j ++ List.replicate (last + 1 - j) 0).set j (grp n (last - j)) = markL last n (j + 1) ++ List.replicate (last + 1 - (j + 1)) 0 := by
  rw [List.set_append_right _ _ (by rw [markL_length]; omega), markL_length, Nat.sub_self, show last + 1 - j = (last + 1 - (j + 1)) + 1 from by omega, List.replicate_succ, List.set_cons_zero, markL_succ]
  simp
theorem mark_end (last n : Nat) : (markL last n (last + 1)).set last (UInt8.ofNat (n % 128)) = markL last n last ++ [UInt8.ofNat (n % 128)] := by
  rw [markL_succ, List.set_append_right _ _ (by rw [markL_length]; omega), markL_length, Nat.sub_self]
  rfl
theorem grp_val (n k : Nat) : Value.int .u8 (bits .or .u8 ((n : Int) / 2 ^ (7 * k) % 256) 128) = bv (grp n k) := by
  have e : ((n : Int) / 2 ^ (7 * k) % 256) = ((n / 2 ^ (7 * k) % 256 : Nat) : Int) := by simp
  rw [e, bits_or128 _ (Nat.mod_lt _ (by omega))]
  simp only [bv, grp, UInt8.toNat_ofNat']
  congr 2
  omega

theorem mark_any (n : Nat) (w : World) (hn : n < 4294967296) :
    Calls Try.prog 23 #[.int .u32 n] w (OwnEnd 5 (markBytes n) w) := by
  obtain ⟨i0, hi, hz0, hz1, hz2⟩ := info_parts info_u8
  have hg := groups_le n
  obtain ⟨last, hlast⟩ : ∃ last, groups n = last + 1 := ⟨groups n - 1, by omega⟩
  have hmb : markBytes n = markL last n last ++ [UInt8.ofNat (n % 128)] := by simp [markBytes, hlast]
  rw [hmb]
  have hl4 : last ≤ 4 := by omega
  have cG := groups_any n w hn
  rw [hlast] at cG
  have hmk := fun W => run_make_bytes (P := Try.prog) 23 5 i0 Try.underlying23 hi hz0 hz1 hz2 .i64 .i64 (last + 1) (by omega) W
  simp only [show ((last + 1 : Nat) : Int) = (last : Int) + 1 from by omega] at hmk cG
  clear hmb hg hlast
  go_enter Try.func23, Try.ntmps23
  go_wp2_with (go_at_call 33; refine cG.mono ?_; rintro e w' ⟨rfl, rfl⟩)
  go_loopw [5, 14] (fun _ i wr => ∃ j : Nat, j ≤ last + 1 ∧ i = .int .i64 j ∧ RowB 5 wr w.heap.size (markL last n j ++ List.replicate (last + 1 - j) 0) ∧ Below w.heap.size w wr) (fun _ i _ => last + 1 - (intOf i).toNat)
  case atStart => exact ⟨0, by omega, rfl, by simpa [markL] using zeroB_row w 5 (last + 1), (Below.refl _ _).alloc (Nat.le_refl _) _⟩
  case round =>
    obtain ⟨j, hj, rfl, hr, hb⟩ := hrel
    by_cases hlt : j < last + 1
    · have hc := hr.cell (i := j) (by simp [markL_length]; omega)
      have hf := hr.frozen j
      go_wp2
      go_roundw
      case rel =>
        refine ⟨j + 1, by omega, by go_num, ?_, hb.setCell (Nat.le_refl _) _⟩
        have h1 := hr.set_ j (grp n (last - j))
        rw [mark_step last n j hlt] at h1
        rw [grp_val]
        exact h1
      case measure => simp [intOf]; omega
    · obtain rfl : j = last + 1 := by omega
      simp only [Nat.sub_self, List.replicate_zero, List.append_nil] at hr
      have hc := hr.cell (i := last) (by simp [markL_length])
      have hf := hr.frozen last
      have hy : (markL last n (last + 1))[last]'(by simp [markL_length]) = grp n 0 := by simp [markL]
      rw [hy] at hc
      clear hy
      obtain ⟨y, hy⟩ : ∃ y, y = grp n 0 := ⟨_, rfl⟩
      rw [← hy] at hc
      have HY := Lib.hid hy
      clear hy
      go_wp2
      go_ret
      have h1 := hr.set_ last (UInt8.ofNat (n % 128))
      rw [mark_end] at h1
      have e1 : Value.int .u8 (bits .andNot .u8 (y.toNat : Int) 128) = bv (UInt8.ofNat (n % 128)) := by
        rw [andNot128 _ y.toNat_lt, HY.out]
        simp only [bv, grp, UInt8.toNat_ofNat']
        congr 2
        simp
        omega
      rw [e1]
      have h2 := h1.own_all (base := w.heap.size) (Nat.le_refl _) (by simp [markL_length]; omega)
      refine ⟨_, ?_, h2, hb.setCell (Nat.le_refl _) _⟩
      exact ret_slice (by simp [markL_length]) (by simp [markL_length])

/-- the groups of n from the lowest on: the first k + 1 of them -/
def lowL (n k : Nat) : List UInt8 := UInt8.ofNat (n % 128) :: (List.range k).map fun i => grp n (i + 1)
theorem lowL_length (n k : Nat) : (lowL n k).length = k + 1 := by simp [lowL]
theorem lowL_succ (n k : Nat) : lowL n (k + 1) = lowL n k ++ [grp n (k + 1)] := by simp [lowL, List.range_succ]
theorem lowL_rev (n k : Nat) : (lowL n k).reverse = markL k n k ++ [UInt8.ofNat (n % 128)] := by
  unfold lowL markL
  rw [List.reverse_cons]
  congr 1
  apply List.ext_getElem (by simp)
  intro i h1 h2
  simp at h1 h2
  simp only [List.getElem_reverse, List.getElem_map, List.length_map, List.length_range, List.getElem_range]
  congr 1
  omega
theorem groups_of (n k : Nat) (h1 : n / 2 ^ (7 * k) < 128) (h2 : k = 0 ∨ 128 ≤ n / 2 ^ (7 * (k - 1))) (hn : n < 4294967296) : k = groups n - 1 := by
  have hk : k ≤ 5 := by
    rcases Nat.lt_or_ge k 6 with h | h
    · omega
    · exfalso
      rcases h2 with h2 | h2
      · omega
      · have : n / 2 ^ (7 * (k - 1)) = 0 := by
          rw [Nat.div_eq_zero_iff]
          exact .inr (Nat.lt_of_lt_of_le (show n < 2 ^ 32 from hn) (Nat.pow_le_pow_right (by omega) (by omega)))
        omega
  unfold groups
  rcases (show k = 0 ∨ k = 1 ∨ k = 2 ∨ k = 3 ∨ k = 4 ∨ k = 5 by omega) with rfl | rfl | rfl | rfl | rfl | rfl
  all_goals simp at h1 h2
  all_goals (repeat' split)
  all_goals omega
theorem grp_of_div (n k : Nat) : Value.int .u8 (((n / 2 ^ (7 * k) % 128 : Nat) : Int) + 128) = bv (grp n k) := by
  simp only [bv, grp, UInt8.toNat_ofNat']
  congr 1
  omega

set_option maxRecDepth 100000 in
theorem rmark_any (n : Nat) (w : World) (hn : n < 4294967296) :
    Calls Try.prog 24 #[.int .u32 n] w (OwnEnd 5 (markBytes n) w) := by
  obtain ⟨i0, hi, hz0, hz1, hz2⟩ := info_parts info_u8
  go_enter Try.func24, Try.ntmps24
  go_wp2_with fail
  go_loopw [0, 3] (fun m b wr => ∃ (k q : Nat) (A : Option Addr) (c : Nat), m = .int .u32 (q : Int) ∧ q ≤ n ∧ Hid (q = n / 2 ^ (7 * k)) ∧ Hid (k = 0 ∨ 128 ≤ n / 2 ^ (7 * (k - 1))) ∧ k ≤ 5 ∧ b = .slice A (k + 1) c ∧ OwnB 5 wr w.heap.size b (lowL n k) ∧ Below w.heap.size w wr) (fun m _ _ => (intOf m).toNat)
  case atStart =>
    refine ⟨0, n, _, _, rfl, Nat.le_refl _, Lib.hid (by simp), Lib.hid (.inl rfl), by omega, rfl, ?_, (Below.refl _ _).alloc (Nat.le_refl _) _⟩
    have e : Value.int .u8 ((n : Int) % 128) = bv (UInt8.ofNat (n % 128)) := by
      simp only [bv, UInt8.toNat_ofNat']
      congr 1
      omega
    rw [e]
    exact .inr ⟨w.heap.size, [], rfl, Nat.le_refl _, heap_alloc_new w _, by simp [lowL], by simp [lowL]⟩
  case round =>
    obtain ⟨k, q, A, c, rfl, hq, HQ, HK, hk5, rfl, ho, hb⟩ := hrel
    have hsz := hb.size
    by_cases hlt : 128 ≤ q
    · go_wp2_with (at_builtin; refine wpList_append_bytes _ rfl (.tmp 14) (.tmp 19) 23 rfl 5 i0 Try.underlying23 hi hz0 hz1 hz2 w.heap.size _ _ rfl (ho.alloc _) _ 1 1 [UInt8.ofNat (q / 128 % 128 + 128)] rfl (BS.one' _ _ _ (by simp; omega)) (by rw [lowL_length]; omega) (by simp; omega) ?_; intro v1 w1 ho1 hg1 _ _)
      go_roundw
      case rel =>
        obtain ⟨A1, c1, rfl, hb1⟩ := ho1.form
        have hq' : n / 2 ^ (7 * (k + 1)) = q / 128 := by
          rw [HQ.out, Nat.div_div_eq_div_mul, show 7 * (k + 1) = 7 * k + 7 from by omega, Nat.pow_add]
        have e1 : (lowL n k ++ [UInt8.ofNat (q / 128 % 128 + 128)]) = lowL n (k + 1) := by rw [lowL_succ, grp, hq']
        rw [e1] at ho1
        simp only [e1, lowL_length] at ho1 ⊢
        have hk4 : k + 1 ≤ 5 := by
          rcases Nat.lt_or_ge k 5 with h | h
          · omega
          · exfalso
            have h5 : 2 ^ 35 ≤ 2 ^ (7 * k) := Nat.pow_le_pow_right (by omega) (by omega)
            have : n / 2 ^ (7 * k) = 0 := by
              rw [Nat.div_eq_zero_iff]
              exact .inr (by omega)
            have := HQ.out
            omega
        exact ⟨k + 1, q / 128, A1, c1, by go_num, by omega, Lib.hid hq'.symm, Lib.hid (.inr (by rw [Nat.add_sub_cancel, ← HQ.out]; exact hlt)), hk4, rfl, ho1, OwnB.step (hb.alloc hsz _) (ho.alloc _) hg1 (by simp; omega)⟩
      case measure => simp [intOf]; omega
    · have hk : k = groups n - 1 := groups_of n k (by rw [← HQ.out]; omega) HK.out hn
      have hmb : markBytes n = (lowL n k).reverse := by rw [lowL_rev, markBytes, ← hk]
      have HMB := Lib.hid hmb
      clear hk hmb
      go_wp2_with fail
      obtain ⟨wo, rfl⟩ : ∃ wo : World, wo = wr := ⟨_, rfl⟩
      have hbs := ho.bs
      go_loopw [4, 5] (fun b i wx => ∃ (m : Nat) (A' : Option Addr) (c' : Nat), m ≤ k + 1 ∧ ((m = 0 ∧ i = .int .i64 (-1)) ∨ (∃ m' : Nat, m = m' + 1 ∧ i = .int .i64 m')) ∧ b = .slice A' (k + 1 - m) c' ∧ OwnB 5 wx wo.heap.size b ((lowL n k).drop m).reverse ∧ Below wo.heap.size wo wx) (fun _ i _ => (intOf i + 1).toNat)
      case atStart => exact ⟨k + 1, none, 0, Nat.le_refl _, .inr ⟨k, rfl, rfl⟩, by rw [Nat.sub_self], by rw [List.drop_of_length_le (by rw [lowL_length]; exact Nat.le_refl _)]; exact OwnB.nil_ _ _ _, Below.refl _ _⟩
      case round =>
        obtain ⟨m, A', c', hm, him, rfl, ho2, hb2⟩ := hrel
        have hsz2 := hb2.size
        rcases him with ⟨rfl, rfl⟩ | ⟨m', rfl, rfl⟩
        · go_wp2_with fail
          go_ret
          rw [List.drop_zero, ← HMB.out] at ho2
          exact ⟨_, rfl, ho2.mono hsz, hb.trans (hb2.mono hsz)⟩
        · obtain ⟨b, o, rfl, hbl, hcell⟩ := hbs.has (by omega)
          have hml : m' < (lowL n k).length := by rw [lowL_length]; omega
          have hx := (hb2.cell (p := ⟨b, o + m', none⟩) hbl).trans (hcell m' hml)
          generalize hy : (lowL n k)[m'] = y at hx
          have hdr : ((lowL n k).drop m').reverse = ((lowL n k).drop (m' + 1)).reverse ++ [y] := by
            rw [List.drop_eq_getElem_cons hml, List.reverse_cons, hy]
          have HD := Lib.hid hdr
          clear hy hcell hdr
          have hyb := y.toNat_lt
          go_wp2_with (at_builtin; refine wpList_append_bytes _ rfl (.tmp 28) (.tmp 33) 23 rfl 5 i0 Try.underlying23 hi hz0 hz1 hz2 wo.heap.size _ _ rfl (ho2.alloc _) _ 1 1 [y] rfl (BS.one _ _ _) (by simp [lowL_length]; omega) (by simp; omega) ?_; intro v1 w1 ho1 hg1 _ _)
          go_roundw
          case rel =>
            rw [← HD.out] at ho1
            obtain ⟨A1, c1, rfl, hb1⟩ := ho1.form
            have hlen : ((lowL n k).drop m').reverse.length = k + 1 - m' := by simp [lowL_length]
            rw [hlen] at ho1 ⊢
            refine ⟨m', A1, c1, by omega, ?_, rfl, ho1, OwnB.step (hb2.alloc hsz2 _) (ho2.alloc _) hg1 (by simp; omega)⟩
            rcases m' with _ | m'
            · exact .inl ⟨rfl, by go_num⟩
            · exact .inr ⟨m', rfl, by go_num⟩
          case measure => simp [intOf]

/-- a mark read: i bytes of it have been read, their number is q -/
def markGo : List UInt8 → Nat → Nat → Nat × Nat × Int
  | [], _, _ => (0, 0, 4)
  | c :: r, i, q =>
    if i = 0 ∧ c.toNat = 128 then (0, 0, 5)
    else if 4294967296 ≤ q * 128 + c.toNat % 128 then (0, 0, 5)
    else if c.toNat < 128 then (q * 128 + c.toNat % 128, i + 1, 0)
    else markGo r (i + 1) (q * 128 + c.toNat % 128)
/-- what GetMark answers -/
def getMarkR (l : List UInt8) (at_ : Int) : Nat × Int × Int :=
  if 0 ≤ at_ ∧ at_ ≤ l.length then
    (if (markGo (l.drop at_.toNat) 0 0).2.2 = 0 then ((markGo (l.drop at_.toNat) 0 0).1, at_ + (markGo (l.drop at_.toNat) 0 0).2.1, 0) else (0, 0, (markGo (l.drop at_.toNat) 0 0).2.2))
  else (0, 0, 2)
def MarkEnd (r : Nat × Int × Int) (w : World) (e : Ending) (w' : World) : Prop := e = .returned (.tuple #[.int .u32 (r.1 : Int), .int .i64 r.2.1, .int .i64 r.2.2]) ∧ w = w'

theorem getMark_yes (A : Option Addr) (n c : Nat) (l : List UInt8) (at_ : Nat) (w : World) (h : BS w A n c l) (hat : at_ ≤ n) :
    Calls Try.prog 21 #[.slice A n c, .int .i64 at_] w (MarkEnd (getMarkR l at_) w) := by
  have hcap := h.cap
  have hmax := h.max
  have hsm := h.small
  have hlen := h.len
  obtain ⟨R, hR⟩ : ∃ R, R = getMarkR l at_ := ⟨_, rfl⟩
  rw [← hR]
  have hR' : R = (if (markGo (l.drop at_) 0 0).2.2 = 0 then ((markGo (l.drop at_) 0 0).1, (at_ : Int) + (markGo (l.drop at_) 0 0).2.1, 0) else (0, 0, (markGo (l.drop at_) 0 0).2.2)) := by
    rw [hR]
    have : (0 : Int) ≤ at_ ∧ (at_ : Int) ≤ l.length := by omega
    simp only [getMarkR, if_pos this, Int.toNat_natCast]
  have HR := Lib.hid hR'
  have HL := Lib.hid hlen
  clear hR hR' hlen
  obtain ⟨A1, c1, hA1, hB⟩ : ∃ A1 c1, (∀ (x : Option Addr), x = (if c = at_ then A else A.map fun x => x.add at_) → Value.slice x (n - at_) (c - at_) = Value.slice A1 (n - at_) c1) ∧ BS w A1 (n - at_) c1 (l.drop at_) := by
    by_cases hc : c = at_
    · refine ⟨A, 0, fun x hx => by rw [hx, if_pos hc, hc, Nat.sub_self], ?_⟩
      have e1 : n - at_ = 0 := by omega
      have e2 : l.drop at_ = [] := List.drop_of_length_le (by rw [HL.out]; omega)
      rw [e1, e2]
      exact BS.empty (by omega)
    · refine ⟨_, c - at_, fun x hx => by rw [hx, if_neg hc], ?_⟩
      rcases Nat.eq_zero_or_pos (n - at_) with h0 | h0
      · have e2 : l.drop at_ = [] := List.drop_of_length_le (by rw [HL.out]; omega)
        rw [h0, e2]
        exact BS.empty (by omega)
      · have := h.cut (at_ := at_) (k := n - at_) (c' := c - at_) (by omega) (by omega) (by omega) h0
        rwa [List.take_of_length_le (by simp [HL.out])] at this
  obtain ⟨L, hL⟩ : ∃ L, L = l.drop at_ := ⟨_, rfl⟩
  rw [← hL] at hB HR
  clear hL
  have hLl := Lib.hid hB.len
  go_enter Try.func21, Try.ntmps21
  go_wp2_with (go_at_call 30; refine (isPlace_yes _ _ _ _ _ (by omega) (by omega)).mono ?_; rintro e w' ⟨rfl, rfl⟩)
  go_loop [7, 8, 9, 18] (fun sm _ _ i => ∃ j q : Nat, j ≤ n - at_ ∧ sm = .int .u64 (q : Int) ∧ q < 4294967296 ∧ Hid (markGo L 0 0 = markGo (L.drop j) j q) ∧ i = .int .i64 j) (fun _ _ _ i => n - at_ - (intOf i).toNat)
  case atStart => exact ⟨0, 0, by omega, rfl, by omega, Lib.hid rfl, rfl⟩
  case round =>
    obtain ⟨j, q, hj, rfl, hq, HG, rfl⟩ := hrel
    by_cases hlt : j < n - at_
    · have hjl : j < L.length := by rw [hLl.out]; exact hlt
      obtain ⟨b, o, rfl, _, hcell⟩ := hB.has (by omega)
      have hx := hcell j hjl
      generalize hy : L[j] = y at hx
      have hstep : markGo L 0 0 = markGo (y :: L.drop (j + 1)) j q := by rw [HG.out, List.drop_eq_getElem_cons hjl, hy]
      simp only [markGo] at hstep
      have HS := Lib.hid hstep
      clear hy hcell hstep
      have hyb := y.toNat_lt
      have hAN := andNot128 y.toNat hyb
      obtain ⟨q', hq'⟩ : ∃ q', q' = q * 128 + y.toNat % 128 := ⟨_, rfl⟩
      rw [← hq'] at HS
      have hOR : bits .or .u64 ((q : Int) * 128) ((y.toNat : Int) % 128) = (q' : Int) := by
        rw [show (q : Int) * 128 = ((q * 128 : Nat) : Int) from by simp, show (y.toNat : Int) % 128 = ((y.toNat % 128 : Nat) : Int) from by simp, u64_or_nat _ _ (by omega) (by omega), nat_join 7 _ _ (by omega) (by omega), hq']
      have hAD : (bits .and .u8 (y.toNat : Int) 128 == 0) = decide (y.toNat < 128) := by
        rw [show (128 : Int) = ((128 : Nat) : Int) from rfl, u8_and_nat _ _ hyb (by omega)]
        have := and128 ⟨y.toNat, hyb⟩
        simp only at this
        rw [Bool.eq_iff_iff, beq_iff_eq, decide_eq_true_iff, ← this]
        omega
      have hqb : q' < 549755813888 := by omega
      have HQ := Lib.hid hq'
      clear hq'
      by_cases h1 : j = 0 ∧ y.toNat = 128
      · obtain ⟨rfl, hy⟩ := h1
        have hend : R = (0, 0, 5) := by rw [HR.out, HS.out]; simp [hy]
        have HE := Lib.hid hend
        have hx0 : w.cell? ⟨b, o, none⟩ = some (bv y) := hx
        have t2 : ((y.toNat : Int) == 128) = true := by rw [beq_iff_eq]; omega
        clear hend hAD hOR hy
        go_wp2
        go_ret3
        exact ⟨by rw [HE.out]; rfl, rfl⟩
      · by_cases h2 : 4294967296 ≤ q'
        · have hend : R = (0, 0, 5) := by rw [HR.out, HS.out, if_neg h1, if_pos h2]; rfl
          have HE := Lib.hid hend
          clear hend hAD
          by_cases hj0 : j = 0
          · subst hj0
            have hx0 : w.cell? ⟨b, o, none⟩ = some (bv y) := hx
            have t2 : ((y.toNat : Int) == 128) = false := by rw [beq_eq_false_iff_ne]; omega
            clear h1
            go_wp2
            go_ret3
            exact ⟨by rw [HE.out]; rfl, rfl⟩
          · have t1 : ((j : Int) == 0) = false := by rw [beq_eq_false_iff_ne]; omega
            go_wp2
            go_ret3
            exact ⟨by rw [HE.out]; rfl, rfl⟩
        · by_cases h3 : y.toNat < 128
          · have hend : R = (q', (at_ : Int) + j + 1, 0) := by
              rw [HR.out, HS.out, if_neg h1, if_neg h2, if_pos h3]
              simp
              omega
            have HE := Lib.hid hend
            have hAD' : (bits .and .u8 (y.toNat : Int) 128 == 0) = true := by rw [hAD]; exact decide_eq_true h3
            clear hend hAD
            by_cases hj0 : j = 0
            · subst hj0
              have hx0 : w.cell? ⟨b, o, none⟩ = some (bv y) := hx
              have t2 : ((y.toNat : Int) == 128) = false := by rw [beq_eq_false_iff_ne]; omega
              clear h1
              go_wp2
              go_ret3
              exact ⟨by rw [HE.out]; rfl, rfl⟩
            · have t1 : ((j : Int) == 0) = false := by rw [beq_eq_false_iff_ne]; omega
              clear h1
              go_wp2
              go_ret3
              exact ⟨by rw [HE.out]; rfl, rfl⟩
          · have hAD' : (bits .and .u8 (y.toNat : Int) 128 == 0) = false := by rw [hAD]; exact decide_eq_false h3
            have hgo : markGo L 0 0 = markGo (L.drop (j + 1)) (j + 1) q' := by rw [HS.out, if_neg h1, if_neg h2, if_neg h3]
            have HN := Lib.hid hgo
            clear hAD hgo
            by_cases hj0 : j = 0
            · subst hj0
              have hx0 : w.cell? ⟨b, o, none⟩ = some (bv y) := hx
              have t2 : ((y.toNat : Int) == 128) = false := by rw [beq_eq_false_iff_ne]; omega
              clear h1
              go_wp2
              go_round
              case rel => exact ⟨0 + 1, q', by omega, rfl, by omega, HN, by go_num⟩
              case measure => simp [intOf]; omega
            · have t1 : ((j : Int) == 0) = false := by rw [beq_eq_false_iff_ne]; omega
              clear h1
              go_wp2
              go_round
              case rel => exact ⟨j + 1, q', by omega, rfl, by omega, HN, by go_num⟩
              case measure => simp [intOf]; omega
    · have hend : R = (0, 0, 4) := by
        rw [HR.out, HG.out, List.drop_of_length_le (by rw [hLl.out]; omega)]
        simp [markGo]
      have HE := Lib.hid hend
      clear hend
      go_wp2
      go_ret3
      exact ⟨by rw [HE.out]; rfl, rfl⟩
theorem getMark_any (A : Option Addr) (n c : Nat) (l : List UInt8) (at_ : Int) (w : World) (h : BS w A n c l) :
    Calls Try.prog 21 #[.slice A n c, .int .i64 at_] w (MarkEnd (getMarkR l at_) w) := by
  by_cases hp : 0 ≤ at_ ∧ at_ ≤ n
  · obtain ⟨j, rfl⟩ := Int.eq_ofNat_of_zero_le hp.1
    exact getMark_yes A n c l j w h (by omega)
  · have hr : getMarkR l at_ = (0, 0, 2) := by
      have := h.len
      unfold getMarkR
      rw [if_neg (by omega)]
    rw [hr]
    clear hr
    have hp' : at_ < 0 ∨ (n : Int) < at_ := by omega
    go_enter Try.func21, Try.ntmps21
    go_wp2_with (go_at_call 30; refine (isPlace_no _ _ _ _ _ hp').mono ?_; rintro e w' ⟨rfl, rfl⟩)
    go_ret3
    exact ⟨rfl, rfl⟩

set_option maxRecDepth 100000 in
theorem rgetMark_yes (A : Option Addr) (n c : Nat) (l : List UInt8) (at_ : Nat) (w : World) (h : BS w A n c l) (hat : at_ ≤ n) :
    Calls Try.prog 22 #[.slice A n c, .int .i64 at_] w (MarkEnd (getMarkR l at_) w) := by
  have hcap := h.cap
  have hmax := h.max
  have hsm := h.small
  have hlen := h.len
  obtain ⟨R, hR⟩ : ∃ R, R = getMarkR l at_ := ⟨_, rfl⟩
  rw [← hR]
  have hR' : R = (if (markGo (l.drop at_) 0 0).2.2 = 0 then ((markGo (l.drop at_) 0 0).1, (at_ : Int) + (markGo (l.drop at_) 0 0).2.1, 0) else (0, 0, (markGo (l.drop at_) 0 0).2.2)) := by
    rw [hR]
    have : (0 : Int) ≤ at_ ∧ (at_ : Int) ≤ l.length := by omega
    simp only [getMarkR, if_pos this, Int.toNat_natCast]
  have HR := Lib.hid hR'
  have HL := Lib.hid hlen
  clear hR hR' hlen
  go_enter Try.func22, Try.ntmps22
  go_wp2_with fail
  go_loop [7, 8] (fun sm i => ∃ j q : Nat, j ≤ n - at_ ∧ sm = .int .u64 (q : Int) ∧ q < 4294967296 ∧ Hid (markGo (l.drop at_) 0 0 = markGo (l.drop (at_ + j)) j q) ∧ i = .int .i64 ((at_ + j : Nat) : Int)) (fun _ i => n - (intOf i).toNat)
  case atStart => exact ⟨0, 0, by omega, rfl, by omega, Lib.hid rfl, rfl⟩
  case round =>
    obtain ⟨j, q, hj, rfl, hq, HG, rfl⟩ := hrel
    by_cases hlt : at_ + j < n
    · have hjl : at_ + j < l.length := by rw [HL.out]; exact hlt
      obtain ⟨b, o, rfl, _, hcell⟩ := h.has (by omega)
      have hx := hcell (at_ + j) hjl
      generalize hy : l[at_ + j] = y at hx
      have hstep : markGo (l.drop at_) 0 0 = markGo (y :: l.drop (at_ + j + 1)) j q := by rw [HG.out, List.drop_eq_getElem_cons hjl, hy]
      simp only [markGo] at hstep
      have HS := Lib.hid hstep
      clear hy hcell hstep
      have hyb := y.toNat_lt
      obtain ⟨q', hq'⟩ : ∃ q', q' = q * 128 + y.toNat % 128 := ⟨_, rfl⟩
      rw [← hq'] at HS
      have hqb : q' < 549755813888 := by omega
      have hv : 128 * (q : Int) + (y.toNat : Int) % 128 = (q' : Int) := by omega
      have HQ := Lib.hid hq'
      clear hq'
      by_cases h1 : j = 0 ∧ y.toNat = 128
      · obtain ⟨rfl, hy⟩ := h1
        have hend : R = (0, 0, 5) := by rw [HR.out, HS.out]; simp [hy]
        have HE := Lib.hid hend
        have hx0 : w.cell? ⟨b, o + at_, none⟩ = some (bv y) := hx
        have t2 : ((y.toNat : Int) == 128) = true := by rw [beq_iff_eq]; omega
        clear hend hy hv
        go_wp2
        go_ret3
        exact ⟨by rw [HE.out]; rfl, rfl⟩
      · have hx1 : j = 0 → w.cell? ⟨b, o + at_, none⟩ = some (bv y) := by rintro rfl; exact hx
        have t3 : j = 0 → ((y.toNat : Int) == 128) = false := fun h0 => by rw [beq_eq_false_iff_ne]; omega
        have t1 : j ≠ 0 → (((at_ : Int) + (j : Int)) == (at_ : Int)) = false := fun h0 => by rw [beq_eq_false_iff_ne]; omega
        have HV := Lib.hid hv
        clear hv
        by_cases h2 : 4294967296 ≤ q'
        · have hend : R = (0, 0, 5) := by rw [HR.out, HS.out, if_neg h1, if_pos h2]; rfl
          have HE := Lib.hid hend
          clear hend
          have h2' : 4294967296 ≤ 128 * (q : Int) + (y.toNat : Int) % 128 := by rw [HV.out]; omega
          by_cases hj0 : j = 0
          · subst hj0
            have hx0 := hx1 rfl
            have t2 := t3 rfl
            clear h1 hx1 t1 t3
            go_wp2
            go_ret3
            exact ⟨by rw [HE.out]; rfl, rfl⟩
          · have t2 := t1 hj0
            clear h1 hx1 t1 t3
            go_wp2
            go_ret3
            exact ⟨by rw [HE.out]; rfl, rfl⟩
        · have h2' : decide (4294967296 ≤ 128 * (q : Int) + (y.toNat : Int) % 128) = false := by rw [HV.out]; exact decide_eq_false (by omega)
          by_cases h3 : y.toNat < 128
          · have hend : R = (q', (at_ : Int) + j + 1, 0) := by
              rw [HR.out, HS.out, if_neg h1, if_neg h2, if_pos h3]
              simp
              omega
            have HE := Lib.hid hend
            clear hend
            by_cases hj0 : j = 0
            · subst hj0
              have hx0 := hx1 rfl
              have t2 := t3 rfl
              clear h1 hx1 t1 t3
              go_wp2
              go_ret3
              exact ⟨by rw [HE.out]; have := HV.out; simp; omega, rfl⟩
            · have t2 := t1 hj0
              clear h1 hx1 t1 t3
              go_wp2
              go_ret3
              exact ⟨by rw [HE.out]; have := HV.out; simp; omega, rfl⟩
          · have hgo : markGo (l.drop at_) 0 0 = markGo (l.drop (at_ + (j + 1))) (j + 1) q' := by rw [HS.out, if_neg h1, if_neg h2, if_neg h3]; rfl
            have HN := Lib.hid hgo
            clear hgo
            by_cases hj0 : j = 0
            · subst hj0
              have hx0 := hx1 rfl
              have t2 := t3 rfl
              clear h1 hx1 t1 t3
              go_wp2
              go_round
              case rel => exact ⟨0 + 1, q', by omega, by rw [HV.out], by omega, HN, by go_num⟩
              case measure => simp [intOf]; omega
            · have t2 := t1 hj0
              clear h1 hx1 t1 t3
              go_wp2
              go_round
              case rel => exact ⟨j + 1, q', by omega, by rw [HV.out], by omega, HN, by go_num⟩
              case measure => simp [intOf]; omega
    · have hend : R = (0, 0, 4) := by
        rw [HR.out, HG.out, List.drop_of_length_le (by rw [HL.out]; omega)]
        simp [markGo]
      have HE := Lib.hid hend
      clear hend
      go_wp2
      go_ret3
      exact ⟨by rw [HE.out]; rfl, rfl⟩
theorem rgetMark_any (A : Option Addr) (n c : Nat) (l : List UInt8) (at_ : Int) (w : World) (h : BS w A n c l) :
    Calls Try.prog 22 #[.slice A n c, .int .i64 at_] w (MarkEnd (getMarkR l at_) w) := by
  by_cases hp : 0 ≤ at_ ∧ at_ ≤ n
  · obtain ⟨j, rfl⟩ := Int.eq_ofNat_of_zero_le hp.1
    exact rgetMark_yes A n c l j w h (by omega)
  · have hr : getMarkR l at_ = (0, 0, 2) := by
      have := h.len
      unfold getMarkR
      rw [if_neg (by omega)]
    rw [hr]
    clear hr
    have hsm := h.small
    by_cases hneg : at_ < 0
    · go_enter Try.func22, Try.ntmps22
      go_wp2_with fail
      go_ret3
      exact ⟨rfl, rfl⟩
    · have hbig : (n : Int) < at_ := by omega
      go_enter Try.func22, Try.ntmps22
      go_wp2_with fail
      go_ret3
      exact ⟨rfl, rfl⟩

end Go.Proofs.Yteblbnelbdimbaa
