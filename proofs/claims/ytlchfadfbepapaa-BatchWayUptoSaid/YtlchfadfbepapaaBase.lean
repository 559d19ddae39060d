/-
  THE SMALL CALLEES: contracts of num's and cardexref01's small functions.
-/
import Derived.Test.YtlchfadfbepapaaRows
import Derived.Test.YtlchfadfbepapaaWords
import Derived.Test.YtlchfadfbepapaaCore
import Derived.Deep.QuietTactic
import Derived.BigQuiet
import Derived.WalkSpells
namespace Go.Proofs.Ytlchfadfbepapaa
open Go.RowKit

/-- 1, 2, 4, 8 -/
def isSz (n : Int) : Bool := n == 1 || n == 2 || n == 4 || n == 8
theorem isSz_cases {n : Int} (h : isSz n = true) : n = 1 ∨ n = 2 ∨ n = 4 ∨ n = 8 := by simpa [isSz, or_assoc] using h
theorem isSz_not {n : Int} (h : isSz n = false) : n ≠ 1 ∧ n ≠ 2 ∧ n ≠ 4 ∧ n ≠ 8 := by
  simp only [isSz, Bool.or_eq_false_iff, beq_eq_false_iff_ne] at h
  exact ⟨h.1.1.1, h.1.1.2, h.1.2, h.2⟩

theorem isSize_any (n : Int) (w : World) : Calls Try.prog 58 #[.int .i64 n] w fun e w' => e = .returned (.bool (isSz n)) ∧ w = w' := by
  by_cases h1 : n = 1
  · subst h1; go_enter Try.func58, Try.ntmps58; go_wp2; go_ret; exact ⟨rfl, rfl⟩
  by_cases h2 : n = 2
  · subst h2; go_enter Try.func58, Try.ntmps58; go_wp2; go_ret; exact ⟨rfl, rfl⟩
  by_cases h4 : n = 4
  · subst h4; go_enter Try.func58, Try.ntmps58; go_wp2; go_ret; exact ⟨rfl, rfl⟩
  by_cases h8 : n = 8
  · subst h8; go_enter Try.func58, Try.ntmps58; go_wp2; go_ret; exact ⟨rfl, rfl⟩
  have hz : isSz n = false := by simp [isSz, h1, h2, h4, h8]
  rw [hz]
  have b1 : (n == 1) = false := by simpa using h1
  have b2 : (n == 2) = false := by simpa using h2
  have b4 : (n == 4) = false := by simpa using h4
  have b8 : (n == 8) = false := by simpa using h8
  clear hz
  go_enter Try.func58, Try.ntmps58
  go_wp2
  go_ret
  exact ⟨rfl, rfl⟩

theorem size_any (n : Int) (w : World) : Calls Try.prog 61 #[.int .i64 n] w fun e w' => e = .returned (.bool (isSz n)) ∧ w = w' := by
  by_cases h1 : n = 1
  · subst h1; go_enter Try.func61, Try.ntmps61; go_wp2; go_ret; exact ⟨rfl, rfl⟩
  by_cases h2 : n = 2
  · subst h2; go_enter Try.func61, Try.ntmps61; go_wp2; go_ret; exact ⟨rfl, rfl⟩
  by_cases h4 : n = 4
  · subst h4; go_enter Try.func61, Try.ntmps61; go_wp2; go_ret; exact ⟨rfl, rfl⟩
  by_cases h8 : n = 8
  · subst h8; go_enter Try.func61, Try.ntmps61; go_wp2; go_ret; exact ⟨rfl, rfl⟩
  have hz : isSz n = false := by simp [isSz, h1, h2, h4, h8]
  rw [hz]
  have b1 : (n == 1) = false := by simpa using h1
  have b2 : (n == 2) = false := by simpa using h2
  have b4 : (n == 4) = false := by simpa using h4
  have b8 : (n == 8) = false := by simpa using h8
  clear hz
  go_enter Try.func61, Try.ntmps61
  go_wp2
  go_ret
  exact ⟨rfl, rfl⟩

theorem isPlace_yes (A : Option Addr) (n c : Nat) (at_ : Int) (w : World) (h0 : 0 ≤ at_) (h1 : at_ ≤ n) :
    Calls Try.prog 67 #[.slice A n c, .int .i64 at_] w fun e w' => e = .returned (.bool true) ∧ w = w' := by
  go_enter Try.func67, Try.ntmps67
  go_wp2
  go_ret
  exact ⟨rfl, rfl⟩
theorem isPlace_no (A : Option Addr) (n c : Nat) (at_ : Int) (w : World) (h : at_ < 0 ∨ n < at_) :
    Calls Try.prog 67 #[.slice A n c, .int .i64 at_] w fun e w' => e = .returned (.bool false) ∧ w = w' := by
  rcases h with h | h
  · have h' : ¬ 0 ≤ at_ := by omega
    go_enter Try.func67, Try.ntmps67
    go_wp2
    go_ret
    exact ⟨rfl, rfl⟩
  · have h0 : 0 ≤ at_ := by omega
    have h1 : ¬ at_ ≤ n := by omega
    go_enter Try.func67, Try.ntmps67
    go_wp2
    go_ret
    exact ⟨rfl, rfl⟩

theorem fits_any (n : Nat) (k : Nat) (w : World) (hk : k ≤ 8) :
    Calls Try.prog 59 #[.int .u64 n, .int .i64 k] w fun e w' => e = .returned (.bool (decide (n < 256 ^ k))) ∧ w = w' := by
  go_enter Try.func59, Try.ntmps59
  go_wp2
  go_ret
  refine ⟨ret_bool ?_, rfl⟩
  have e : (256 : Nat) ^ k = 2 ^ (8 * k) := by rw [Nat.pow_mul]
  have e2 : ((n : Int) / 2 ^ (8 * k) == 0) = decide (n / 2 ^ (8 * k) = 0) := by
    rw [show ((2 : Int) ^ (8 * k)) = ((2 ^ (8 * k) : Nat) : Int) from by simp, show (n : Int) / ((2 ^ (8 * k) : Nat) : Int) = ((n / 2 ^ (8 * k) : Nat) : Int) from by simp]
    generalize n / 2 ^ (8 * k) = q
    rw [Bool.eq_iff_iff, beq_iff_eq, decide_eq_true_iff]
    omega
  refine e2.trans ?_
  rw [e, decide_eq_decide, Nat.div_eq_zero_iff]
  have : 0 < 2 ^ (8 * k) := Nat.pow_pos (by omega)
  omega

theorem cut_any (A : Option Addr) (n c : Nat) (l : List UInt8) (at_ k : Nat) (w : World) (h : BS w A n c l) (hk : at_ + k ≤ n) :
    Calls Try.prog 68 #[.slice A n c, .int .i64 at_, .int .i64 k] w fun e w' => ∃ A', e = .returned (.slice A' k k) ∧ BS w A' k k ((l.drop at_).take k) ∧ w = w' := by
  have hc := h.cap
  have hm := h.max
  have hsm := h.small
  by_cases h0 : k = 0
  · subst h0
    go_enter Try.func68, Try.ntmps68
    go_wp2
    go_ret
    exact ⟨A, rfl, by rw [List.take_zero]; exact BS.empty (by omega), rfl⟩
  · have h1 : ¬ at_ + k = at_ := by omega
    go_enter Try.func68, Try.ntmps68
    go_wp2
    go_ret
    exact ⟨_, ret_slice (by omega) (by omega), h.cut hk (Nat.le_refl _) (by omega) (by omega), rfl⟩

/-- the lowest byte first -/
def leBytes (n : Nat) : Nat → List UInt8
  | 0 => []
  | k + 1 => leBytes n k ++ [UInt8.ofNat (n / 2 ^ (8 * k))]
theorem leBytes_length (n k : Nat) : (leBytes n k).length = k := by induction k with
  | zero => rfl
  | succ k ih => simp [leBytes, ih]

theorem byte_of (n m : Nat) : Value.int .u8 ((n : Int) / 2 ^ m % 256) = bv (UInt8.ofNat (n / 2 ^ m)) := by
  have e : ((2 : Int) ^ m) = ((2 ^ m : Nat) : Int) := by simp
  simp only [bv, e, UInt8.toNat_ofNat']
  congr 1
theorem le_step (n k j : Nat) (h : j < k) : (leBytes n j ++ List.replicate (k - j) 0).set j (UInt8.ofNat (n / 2 ^ (8 * j))) = leBytes n (j + 1) ++ List.replicate (k - (j + 1)) 0 := by
  rw [List.set_append_right _ _ (by rw [leBytes_length]; omega), leBytes_length, Nat.sub_self, show k - j = (k - (j + 1)) + 1 from by omega, List.replicate_succ, List.set_cons_zero]
  simp [leBytes]
theorem lowestFirst_any (n : Nat) (k : Nat) (w : World) (hk : k ≤ 8) :
    Calls Try.prog 60 #[.int .u64 n, .int .i64 k] w fun e w' => ∃ v, e = .returned v ∧ OwnB 5 w' w.heap.size v (leBytes n k) ∧ Below w.heap.size w w' := by
  obtain ⟨i0, hi, hz0, hz1, hz2⟩ := info_parts info_u8
  have hmk := fun W => run_make_bytes (P := Try.prog) 24 5 i0 Try.underlying24 hi hz0 hz1 hz2 .i64 .i64 k (by omega) W
  go_enter Try.func60, Try.ntmps60
  go_wp2_with fail
  go_loopw [6, 11] (fun _ i wr => ∃ j : Nat, j ≤ k ∧ i = .int .i64 j ∧ RowB 5 wr w.heap.size (leBytes n j ++ List.replicate (k - j) 0) ∧ Below w.heap.size w wr) (fun _ i _ => k - (intOf i).toNat)
  case atStart => exact ⟨0, by omega, rfl, by simpa [leBytes] using zeroB_row w 5 k, (Below.refl _ _).alloc (Nat.le_refl _) _⟩
  case round =>
    obtain ⟨j, hj, rfl, hr, hb⟩ := hrel
    by_cases hlt : j < k
    · have hc := hr.cell (i := j) (by simp [leBytes_length]; omega)
      have hf := hr.frozen j
      go_wp2
      go_roundw
      case rel =>
        refine ⟨j + 1, by omega, by go_num, ?_, hb.setCell (Nat.le_refl _) _⟩
        have h1 := hr.set_ j (UInt8.ofNat (n / 2 ^ (8 * j)))
        rw [le_step n k j hlt] at h1
        rw [byte_of n (8 * j)]
        exact h1
      case measure => simp [intOf]; omega
    · obtain rfl : j = k := by omega
      go_wp2
      go_ret
      have h1 := hr.own_all (base := w.heap.size) (Nat.le_refl _) (by simp [leBytes_length]; omega)
      simp only [Nat.sub_self, List.replicate_zero, List.append_nil, leBytes_length] at h1
      exact ⟨_, rfl, h1, hb⟩

/-- the size is one, and the number is one of it -/
def putOk (n : Nat) (s : Int) : Bool := isSz s && decide (n < 256 ^ s.toNat)
/-- how a call that answers bytes and an error ends -/
def BytesEnd (E : TypeId) (ok : Bool) (err : Int) (l : List UInt8) (w : World) (e : Ending) (w' : World) : Prop :=
  (ok = false → e = .returned (.tuple #[.slice none 0 0, .int .i64 err])) ∧ (ok = true → ∃ v, e = .returned (.tuple #[v, .int .i64 0]) ∧ OwnB E w' w.heap.size v l) ∧ Below w.heap.size w w'

theorem put_no (n : Nat) (s : Int) (w : World) (h : putOk n s = false) :
    Calls Try.prog 33 #[.int .u64 n, .int .i64 s] w fun e w' => e = .returned (.tuple #[.slice none 0 0, .int .i64 2]) ∧ w = w' := by
  rcases hz : isSz s with _ | _
  · clear h
    go_enter Try.func33, Try.ntmps33
    go_wp2_with (go_at_call 58; refine (isSize_any _ _).mono ?_; rintro e w' ⟨rfl, rfl⟩)
    go_ret2
    exact ⟨rfl, rfl⟩
  · obtain ⟨k, rfl⟩ : ∃ k : Nat, s = (k : Int) := by rcases isSz_cases hz with h | h | h | h <;> exact ⟨s.toNat, by omega⟩
    have hk : k ≤ 8 := by rcases isSz_cases hz with h | h | h | h <;> omega
    have hd : decide (n < 256 ^ k) = false := by simpa [putOk, hz] using h
    clear h
    go_enter Try.func33, Try.ntmps33
    go_wp2_with (first | (go_at_call 58; refine (isSize_any _ _).mono ?_; rintro e w' ⟨rfl, rfl⟩) | (go_at_call 59; refine (fits_any n k _ hk).mono ?_; rintro e w' ⟨rfl, rfl⟩))
    go_ret2
    exact ⟨rfl, rfl⟩
theorem put_yes (n : Nat) (k : Nat) (w : World) (h : putOk n k = true) :
    Calls Try.prog 33 #[.int .u64 n, .int .i64 k] w fun e w' => ∃ v, e = .returned (.tuple #[v, .int .i64 0]) ∧ OwnB 5 w' w.heap.size v (leBytes n k) ∧ Below w.heap.size w w' := by
  have hz : isSz k = true := by simp [putOk] at h; exact h.1
  have hk : k ≤ 8 := by rcases isSz_cases hz with h | h | h | h <;> omega
  have hd : decide (n < 256 ^ k) = true := by simpa [putOk, hz] using h
  clear h
  go_enter Try.func33, Try.ntmps33
  go_wp2_with (first | (go_at_call 58; refine (isSize_any _ _).mono ?_; rintro e w' ⟨rfl, rfl⟩) | (go_at_call 59; refine (fits_any n k _ hk).mono ?_; rintro e w' ⟨rfl, rfl⟩) | (go_at_call 60; refine (lowestFirst_any n k _ hk).mono ?_; rintro e w' ⟨v, rfl, ho, hb⟩))
  go_ret2
  exact ⟨_, rfl, ho, hb⟩

theorem rput_no_size (n : Nat) (s : Int) (w : World) (hz : isSz s = false) :
    Calls Try.prog 35 #[.int .u64 n, .int .i64 s] w fun e w' => e = .returned (.tuple #[.slice none 0 0, .int .i64 2]) ∧ w = w' := by
  go_enter Try.func35, Try.ntmps35
  go_wp2_with (go_at_call 61; refine (size_any _ _).mono ?_; rintro e w' ⟨rfl, rfl⟩)
  go_ret2
  exact ⟨rfl, rfl⟩
theorem rput_size (n : Nat) (k : Nat) (w : World) (hn : n < 18446744073709551616) (hz : isSz k = true) :
    Calls Try.prog 35 #[.int .u64 n, .int .i64 k] w (BytesEnd 5 (putOk n k) 2 (leBytes n k) w) := by
  obtain ⟨i0, hi, hz0, hz1, hz2⟩ := info_parts info_u8
  have hk : k ≤ 8 := by rcases isSz_cases hz with h | h | h | h <;> omega
  go_enter Try.func35, Try.ntmps35
  go_wp2_with (go_at_call 61; refine (size_any _ _).mono ?_; rintro e w' ⟨rfl, rfl⟩)
  go_loopw [0, 6] (fun m b wr => ∃ (j q : Nat) (A : Option Addr) (c : Nat), j ≤ k ∧ m = .int .u64 (q : Int) ∧ q < 18446744073709551616 ∧ Hid (q = n / 2 ^ (8 * j)) ∧ b = .slice A j c ∧ OwnB 5 wr w.heap.size b (leBytes n j) ∧ Below w.heap.size w wr) (fun _ b _ => k - lenV b)
  case atStart => exact ⟨0, n, none, 0, by omega, rfl, hn, Lib.hid (by simp), rfl, OwnB.nil_ _ _ _, Below.refl _ _⟩
  case round =>
    obtain ⟨j, q, A, c, hj, rfl, hq, HQ, rfl, ho, hb⟩ := hrel
    have hsz := hb.size
    by_cases hlt : j < k
    · go_wp2_with (at_builtin; refine wpList_append_bytes _ rfl (.tmp 14) (.tmp 18) 24 rfl 5 i0 Try.underlying24 hi hz0 hz1 hz2 w.heap.size _ _ rfl (ho.alloc _) _ 1 1 [UInt8.ofNat q] rfl (BS.one' _ _ _ (by simp)) (by rw [leBytes_length]; omega) (by simp; omega) ?_; intro v1 w1 ho1 hg1 _ _)
      go_roundw
      case rel =>
        obtain ⟨A1, c1, rfl, hb1⟩ := ho1.form
        have e1 : (leBytes n j ++ [UInt8.ofNat q]) = leBytes n (j + 1) := by rw [leBytes, HQ.out]
        rw [e1] at ho1
        simp only [e1, leBytes_length] at ho1 ⊢
        refine ⟨j + 1, q / 256, A1, c1, by omega, by go_num, by omega, Lib.hid ?_, rfl, ho1, OwnB.step (hb.alloc hsz _) (ho.alloc _) hg1 (by simp; omega)⟩
        rw [HQ.out, Nat.div_div_eq_div_mul, show 8 * (j + 1) = 8 * j + 8 from by omega, Nat.pow_add]
      case measure =>
        obtain ⟨A1, c1, rfl, hb1⟩ := ho1.form
        simp [lenV, leBytes_length]
        omega
    · obtain rfl : j = k := by omega
      have hd : decide (n < 256 ^ j) = decide (q = 0) := by
        rw [HQ.out, decide_eq_decide, Nat.div_eq_zero_iff, show (256 : Nat) ^ j = 2 ^ (8 * j) from by rw [Nat.pow_mul]]
        have : 0 < 2 ^ (8 * j) := Nat.pow_pos (by omega)
        omega
      have hp : putOk n (j : Int) = decide (q = 0) := by simp only [putOk, hz, Int.toNat_natCast, hd, Bool.true_and]
      have HP : Hid (putOk n (j : Int) = decide (q = 0)) := Lib.hid hp
      clear hp hd
      by_cases h0 : q = 0
      · subst h0
        go_wp2_with fail
        go_ret2
        exact ⟨fun h => (by rw [HP.out] at h; simp at h), fun _ => ⟨_, rfl, ho⟩, hb⟩
      · have hne : ((q : Int) != 0) = true := by rw [bne_iff_ne]; omega
        go_wp2_with fail
        go_ret2
        exact ⟨fun _ => rfl, fun h => absurd (of_decide_eq_true (HP.out.symm.trans h)) h0, hb⟩
theorem rput_any (n : Nat) (s : Int) (w : World) (hn : n < 18446744073709551616) :
    Calls Try.prog 35 #[.int .u64 n, .int .i64 s] w (BytesEnd 5 (putOk n s) 2 (leBytes n s.toNat) w) := by
  rcases hz : isSz s with _ | _
  · have hp : putOk n s = false := by simp [putOk, hz]
    rw [hp]
    exact (rput_no_size n s w hz).mono fun e w' h => ⟨fun _ => h.1, fun h => (by cases h), h.2 ▸ Below.refl _ _⟩
  · obtain ⟨k, rfl⟩ : ∃ k : Nat, s = (k : Int) := by rcases isSz_cases hz with h | h | h | h <;> exact ⟨s.toNat, by omega⟩
    exact rput_size n k w hn hz

theorem put_any (n : Nat) (s : Int) (w : World) :
    Calls Try.prog 33 #[.int .u64 n, .int .i64 s] w (BytesEnd 5 (putOk n s) 2 (leBytes n s.toNat) w) := by
  rcases hp : putOk n s with _ | _
  · exact (put_no n s w hp).mono fun e w' h => ⟨fun _ => h.1, fun h => (by cases h), h.2 ▸ Below.refl _ _⟩
  · have hz : isSz s = true := by simp [putOk] at hp; exact hp.1
    obtain ⟨k, rfl⟩ : ∃ k : Nat, s = (k : Int) := by rcases isSz_cases hz with h | h | h | h <;> exact ⟨s.toNat, by omega⟩
    exact (put_yes n k w hp).mono fun e w' ⟨v, h1, h2, h3⟩ => ⟨fun h => by (cases h), fun _ => ⟨v, h1, h2⟩, h3⟩

/-- the number whose bytes these are, the lowest first -/
def leVal : List UInt8 → Nat
  | [] => 0
  | b :: r => b.toNat + 256 * leVal r
theorem leVal_snoc (l : List UInt8) (x : UInt8) : leVal (l ++ [x]) = leVal l + x.toNat * 2 ^ (8 * l.length) := by
  induction l with
  | nil => simp [leVal]
  | cons b r ih =>
    simp only [List.cons_append, leVal, ih, List.length_cons]
    rw [show 8 * (r.length + 1) = 8 * r.length + 8 from by omega, Nat.pow_add]
    generalize 2 ^ (8 * r.length) = p
    rw [show x.toNat * (p * 2 ^ 8) = 256 * (x.toNat * p) from by rw [show (2 : Nat) ^ 8 = 256 from rfl, Nat.mul_comm p 256, Nat.mul_left_comm]]
    omega
theorem leVal_lt (l : List UInt8) : leVal l < 2 ^ (8 * l.length) := by
  induction l with
  | nil => simp [leVal]
  | cons b r ih =>
    have := b.toNat_lt
    simp only [leVal, List.length_cons]
    rw [show 8 * (r.length + 1) = 8 * r.length + 8 from by omega, Nat.pow_add, show (2 : Nat) ^ 8 = 256 from rfl]
    omega

/-- what Get answers -/
def getR (l : List UInt8) (at_ s : Int) : Nat × Int :=
  if isSz s && decide (0 ≤ at_ ∧ at_ ≤ l.length) then (if at_ + s ≤ l.length then (leVal ((l.drop at_.toNat).take s.toNat), 0) else (0, 4)) else (0, 2)

theorem get_yes (A : Option Addr) (n c : Nat) (l : List UInt8) (at_ k : Nat) (w : World) (h : BS w A n c l) (hz : isSz k = true) (hat : at_ + k ≤ n) :
    Calls Try.prog 44 #[.slice A n c, .int .i64 at_, .int .i64 k] w fun e w' => e = .returned (.tuple #[.int .u64 (leVal ((l.drop at_).take k)), .int .i64 0]) ∧ w = w' := by
  have hk : k ≤ 8 := by rcases isSz_cases hz with h | h | h | h <;> omega
  have hc := h.cap
  have hm := h.max
  have hsm := h.small
  go_enter Try.func44, Try.ntmps44
  go_wp2_with (first | (go_at_call 58; refine (isSize_any _ _).mono ?_; rintro e w' ⟨rfl, rfl⟩) | (go_at_call 67; refine (isPlace_yes _ _ _ _ _ (by omega) (by omega)).mono ?_; rintro e w' ⟨rfl, rfl⟩) | (go_at_call 68; refine (cut_any A n c l at_ k _ h hat).mono ?_; rintro e w' ⟨A', rfl, hcut, rfl⟩))
  go_loop [8, 9, 10, 31] (fun m _ _ i => ∃ (j q : Nat), j ≤ k ∧ m = .int .u64 (q : Int) ∧ q < 18446744073709551616 ∧ Hid (q = leVal (((l.drop at_).take k).take j)) ∧ i = .int .i64 j) (fun _ _ _ i => k - (intOf i).toNat)
  case atStart => exact ⟨0, 0, by omega, rfl, by omega, Lib.hid (by simp [leVal]), rfl⟩
  case round =>
    obtain ⟨j, q, hj, rfl, hq, HQ, rfl⟩ := hrel
    by_cases hlt : j < k
    · obtain ⟨b, o, rfl, _, hcell⟩ := hcut.has (by omega)
      have hx := hcell j (by rw [hcut.len]; omega)
      generalize hy : ((l.drop at_).take k)[j]'(by rw [hcut.len]; omega) = y at hx
      have HY := Lib.hid hy
      clear hy hcell
      have hyb := y.toNat_lt
      have hj8 : j ≤ 7 := by omega
      have hql : q < 2 ^ (8 * j) := by
        have := leVal_lt (((l.drop at_).take k).take j)
        rw [List.length_take, hcut.len, Nat.min_eq_left hj, ← HQ.out] at this
        exact this
      have hsn : leVal (((l.drop at_).take k).take (j + 1)) = q + y.toNat * 2 ^ (8 * j) := by
        rw [List.take_succ_eq_append_getElem (by rw [hcut.len]; omega), leVal_snoc, HY.out, ← HQ.out, List.length_take, hcut.len, Nat.min_eq_left hj]
      have hlt64 : q + y.toNat * 2 ^ (8 * j) < 18446744073709551616 := by
        have h1 := leVal_lt (((l.drop at_).take k).take (j + 1))
        rw [hsn] at h1
        have h2 : 8 * (((l.drop at_).take k).take (j + 1)).length ≤ 64 := by rw [List.length_take, hcut.len]; omega
        exact Nat.lt_of_lt_of_le h1 (Nat.pow_le_pow_right (by omega) h2)
      have HS := Lib.hid hsn
      have HO := Lib.hid (or_shl (y := y.toNat) hql hlt64)
      clear hsn
      have HL := Lib.hid hlt64
      clear hlt64 hql
      go_wp2
      go_round
      case rel => exact ⟨j + 1, q + y.toNat * 2 ^ (8 * j), by omega, by rw [HO.out], HL.out, Lib.hid HS.out.symm, by go_num⟩
      case measure => simp [intOf]; omega
    · obtain rfl : j = k := by omega
      go_wp2
      go_ret2
      refine ⟨?_, rfl⟩
      rw [HQ.out, List.take_of_length_le (i := j) (by rw [hcut.len]; omega)]
      rfl
theorem get_any (A : Option Addr) (n c : Nat) (l : List UInt8) (at_ s : Int) (w : World) (h : BS w A n c l) :
    Calls Try.prog 44 #[.slice A n c, .int .i64 at_, .int .i64 s] w fun e w' => e = .returned (.tuple #[.int .u64 (getR l at_ s).1, .int .i64 (getR l at_ s).2]) ∧ w = w' := by
  have hc := h.cap
  have hm := h.max
  have hsm := h.small
  have hl := h.len
  rcases hz : isSz s with _ | _
  · have hr : getR l at_ s = (0, 2) := by simp [getR, hz]
    rw [hr]
    clear hl hr
    go_enter Try.func44, Try.ntmps44
    go_wp2_with (go_at_call 58; refine (isSize_any _ _).mono ?_; rintro e w' ⟨rfl, rfl⟩)
    go_ret2
    exact ⟨rfl, rfl⟩
  · obtain ⟨k, rfl⟩ : ∃ k : Nat, s = (k : Int) := by rcases isSz_cases hz with h | h | h | h <;> exact ⟨s.toNat, by omega⟩
    have hk : k ≤ 8 := by rcases isSz_cases hz with h | h | h | h <;> omega
    by_cases hp : 0 ≤ at_ ∧ at_ ≤ n
    · obtain ⟨j, rfl⟩ := Int.eq_ofNat_of_zero_le hp.1
      by_cases hs : j + k ≤ n
      · have hr : getR l j k = (leVal ((l.drop j).take k), 0) := by
          have h1 : (j : Int) ≤ l.length := by omega
          have h2 : (j : Int) + k ≤ l.length := by omega
          simp [getR, hz, h2]; omega
        rw [hr]
        exact get_yes A n c l j k w h hz hs
      · have hr : getR l j k = (0, 4) := by
          have h1 : j ≤ l.length := by omega
          have h2 : ¬ (j : Int) + k ≤ l.length := by omega
          simp [getR, hz, h1, h2]
        rw [hr]
        have hs' : (n : Int) - j < k := by omega
        clear hl hr
        go_enter Try.func44, Try.ntmps44
        go_wp2_with (first | (go_at_call 58; refine (isSize_any _ _).mono ?_; rintro e w' ⟨rfl, rfl⟩) | (go_at_call 67; refine (isPlace_yes _ _ _ _ _ (by omega) (by omega)).mono ?_; rintro e w' ⟨rfl, rfl⟩))
        go_ret2
        exact ⟨rfl, rfl⟩
    · have hr : getR l at_ k = (0, 2) := by
        have h1 : ¬ (0 ≤ at_ ∧ at_ ≤ (l.length : Int)) := by omega
        simp only [getR, hz, decide_eq_false h1]
        rfl
      rw [hr]
      clear hl hr
      have hp' : at_ < 0 ∨ (n : Int) < at_ := by omega
      go_enter Try.func44, Try.ntmps44
      go_wp2_with (first | (go_at_call 58; refine (isSize_any _ _).mono ?_; rintro e w' ⟨rfl, rfl⟩) | (go_at_call 67; refine (isPlace_no _ _ _ _ _ hp').mono ?_; rintro e w' ⟨rfl, rfl⟩))
      go_ret2
      exact ⟨rfl, rfl⟩

theorem rget_yes (A : Option Addr) (n c : Nat) (l : List UInt8) (at_ k : Nat) (w : World) (h : BS w A n c l) (hz : isSz k = true) (hat : at_ + k ≤ n) :
    Calls Try.prog 46 #[.slice A n c, .int .i64 at_, .int .i64 k] w fun e w' => e = .returned (.tuple #[.int .u64 (leVal ((l.drop at_).take k)), .int .i64 0]) ∧ w = w' := by
  have hk : k ≤ 8 := by rcases isSz_cases hz with h | h | h | h <;> omega
  have hc := h.cap
  have hm := h.max
  have hsm := h.small
  have hl := h.len
  have hlk : ((l.drop at_).take k).length = k := by simp; omega
  have HK := Lib.hid hlk
  have HLl := Lib.hid hl
  clear hl hlk
  go_enter Try.func46, Try.ntmps46
  go_wp2_with (go_at_call 61; refine (size_any _ _).mono ?_; rintro e w' ⟨rfl, rfl⟩)
  go_loop [8, 9, 10] (fun m p i => ∃ (j q r : Nat), j ≤ k ∧ m = .int .u64 (q : Int) ∧ p = .int .u64 (r : Int) ∧ q < 18446744073709551616 ∧ r < 18446744073709551616 ∧ Hid (q = leVal (((l.drop at_).take k).take j)) ∧ Hid (r = 2 ^ (8 * j) % 18446744073709551616) ∧ i = .int .i64 j) (fun _ _ i => k - (intOf i).toNat)
  case atStart => exact ⟨0, 0, 1, by omega, rfl, rfl, by omega, by omega, Lib.hid (by simp [leVal]), Lib.hid (by simp), rfl⟩
  case round =>
    obtain ⟨j, q, r, hj, rfl, rfl, hq, hr, HQ, HR, rfl⟩ := hrel
    by_cases hlt : j < k
    · obtain ⟨b, o, rfl, _, hcell⟩ := h.has (by omega)
      have hx := hcell (at_ + j) (by rw [HLl.out]; omega)
      generalize hy : l[at_ + j]'(by rw [HLl.out]; omega) = y at hx
      have HY : Hid (((l.drop at_).take k)[j]'(by rw [HK.out]; omega) = y) := Lib.hid (by rw [← hy]; simp)
      clear hy hcell
      have hyb := y.toNat_lt
      have hlen : (((l.drop at_).take k).take j).length = j := by rw [List.length_take, HK.out, Nat.min_eq_left hj]
      have hsn : leVal (((l.drop at_).take k).take (j + 1)) = q + y.toNat * 2 ^ (8 * j) := by
        rw [List.take_succ_eq_append_getElem (by rw [HK.out]; omega), leVal_snoc, HY.out, ← HQ.out, hlen]
      have hlt64 : q + y.toNat * 2 ^ (8 * j) < 18446744073709551616 := by
        have h1 := leVal_lt (((l.drop at_).take k).take (j + 1))
        rw [hsn] at h1
        have h2 : 8 * (((l.drop at_).take k).take (j + 1)).length ≤ 64 := by rw [List.length_take, HK.out]; omega
        exact Nat.lt_of_lt_of_le h1 (Nat.pow_le_pow_right (by omega) h2)
      have hp : 2 ^ (8 * j) < 18446744073709551616 := Nat.lt_of_lt_of_le (Nat.pow_lt_pow_right (by omega) (show 8 * j < 64 by omega)) (Nat.le_refl _)
      have hv : IntKind.u64.wrap ((q : Int) + IntKind.u64.wrap ((r : Int) * (y.toNat : Int))) = ((q + y.toNat * 2 ^ (8 * j) : Nat) : Int) := by
        rw [HR.out, Nat.mod_eq_of_lt hp, u64_mul, Nat.mul_comm]
        generalize 2 ^ (8 * j) = p at *
        rw [Nat.mod_eq_of_lt (by omega), u64_add, Nat.mod_eq_of_lt hlt64]
      have hw2 : IntKind.u64.wrap (256 * (r : Int)) = ((2 ^ (8 * (j + 1)) % 18446744073709551616 : Nat) : Int) := by
        rw [show (256 : Int) = ((256 : Nat) : Int) from rfl, u64_mul, HR.out, Nat.mod_eq_of_lt hp, show 8 * (j + 1) = 8 * j + 8 from by omega, Nat.pow_add, Nat.mul_comm]
      have HV := Lib.hid hv
      have HW := Lib.hid hw2
      have HS := Lib.hid hsn
      have HL := Lib.hid hlt64
      clear hv hw2 hsn hlt64 hp hlen
      go_wp2
      go_round
      case rel => exact ⟨j + 1, q + y.toNat * 2 ^ (8 * j), 2 ^ (8 * (j + 1)) % 18446744073709551616, by omega, by rw [HV.out], by rw [HW.out], HL.out, Nat.mod_lt _ (by omega), Lib.hid HS.out.symm, Lib.hid rfl, by go_num⟩
      case measure => simp [intOf]; omega
    · obtain rfl : j = k := by omega
      go_wp2
      go_ret2
      refine ⟨?_, rfl⟩
      rw [HQ.out, List.take_of_length_le (i := j) (by rw [HK.out]; omega)]
      rfl
theorem rget_any (A : Option Addr) (n c : Nat) (l : List UInt8) (at_ s : Int) (w : World) (h : BS w A n c l) :
    Calls Try.prog 46 #[.slice A n c, .int .i64 at_, .int .i64 s] w fun e w' => e = .returned (.tuple #[.int .u64 (getR l at_ s).1, .int .i64 (getR l at_ s).2]) ∧ w = w' := by
  have hc := h.cap
  have hm := h.max
  have hsm := h.small
  have hl := h.len
  rcases hz : isSz s with _ | _
  · have hr : getR l at_ s = (0, 2) := by simp [getR, hz]
    rw [hr]
    clear hl hr
    go_enter Try.func46, Try.ntmps46
    go_wp2_with (go_at_call 61; refine (size_any _ _).mono ?_; rintro e w' ⟨rfl, rfl⟩)
    go_ret2
    exact ⟨rfl, rfl⟩
  · obtain ⟨k, rfl⟩ : ∃ k : Nat, s = (k : Int) := by rcases isSz_cases hz with h | h | h | h <;> exact ⟨s.toNat, by omega⟩
    have hk : k ≤ 8 := by rcases isSz_cases hz with h | h | h | h <;> omega
    by_cases hp : 0 ≤ at_ ∧ at_ ≤ n
    · obtain ⟨j, rfl⟩ := Int.eq_ofNat_of_zero_le hp.1
      by_cases hs : j + k ≤ n
      · have hr : getR l j k = (leVal ((l.drop j).take k), 0) := by
          have h1 : (j : Int) ≤ l.length := by omega
          have h2 : (j : Int) + k ≤ l.length := by omega
          simp [getR, hz, h2]; omega
        rw [hr]
        exact rget_yes A n c l j k w h hz hs
      · have hr : getR l j k = (0, 4) := by
          have h1 : j ≤ l.length := by omega
          have h2 : ¬ (j : Int) + k ≤ l.length := by omega
          simp [getR, hz, h1, h2]
        rw [hr]
        have hs' : ¬ (j : Int) + k ≤ n := by omega
        clear hl hr
        go_enter Try.func46, Try.ntmps46
        go_wp2_with (go_at_call 61; refine (size_any _ _).mono ?_; rintro e w' ⟨rfl, rfl⟩)
        go_ret2
        exact ⟨rfl, rfl⟩
    · have hr : getR l at_ k = (0, 2) := by
        have h1 : ¬ (0 ≤ at_ ∧ at_ ≤ (l.length : Int)) := by omega
        simp only [getR, hz, decide_eq_false h1]
        rfl
      rw [hr]
      clear hl hr
      by_cases hneg : at_ < 0
      · go_enter Try.func46, Try.ntmps46
        go_wp2_with (go_at_call 61; refine (size_any _ _).mono ?_; rintro e w' ⟨rfl, rfl⟩)
        go_ret2
        exact ⟨rfl, rfl⟩
      · have hbig : (n : Int) < at_ := by omega
        go_enter Try.func46, Try.ntmps46
        go_wp2_with (go_at_call 61; refine (size_any _ _).mono ?_; rintro e w' ⟨rfl, rfl⟩)
        go_ret2
        exact ⟨rfl, rfl⟩

end Go.Proofs.Ytlchfadfbepapaa
