/-
  PURE: sealed blocks: a number, a body, their sum, what is left of the number; what a block tells; what is true of them. No program is named here.
-/
import Derived.Test.YtknndmhkfonfmaaDoorM1
import Derived.Deep.RegionHeldLaw
import Derived.StillTailTactics
import Derived.Deep.DeepCutAuto
import Derived.Laws.CopyOwn
import Derived.Test.YtknndmhkfonfmaaDoorRows
import Derived.Test.YtknndmhkfonfmaaDoorCards
import Derived.Test.YtknndmhkfonfmaaDoorTie
import Derived.Deep.DeepHandedRow
import Derived.Lib.LaidTab
namespace Go.Proofs.YtknndmhkfonfmaaDoor

/-! ### Numbers and their bytes -/
theorem leVal_bytes (n : Nat) : ∀ k, leVal (leBytes n k) = n % 2 ^ (8 * k)
  | 0 => by simp [leBytes, leVal, Nat.mod_one]
  | k + 1 => by
    rw [leBytes, leVal_snoc, leVal_bytes n k, leBytes_length, UInt8.toNat_ofNat', show 8 * (k + 1) = 8 * k + 8 from by omega, Nat.pow_add, Nat.mod_mul]
    rw [Nat.mul_comm (n / 2 ^ (8 * k) % 2 ^ 8)]
theorem leBytes_get (n : Nat) : ∀ (k i : Nat), i < k → (leBytes n k)[i]? = some (UInt8.ofNat (n / 2 ^ (8 * i)))
  | 0, i, h => by omega
  | k + 1, i, h => by
    rw [leBytes]
    by_cases hi : i < k
    · rw [List.getElem?_append_left (by rw [leBytes_length]; exact hi)]
      exact leBytes_get n k i hi
    · obtain rfl : i = k := by omega
      rw [List.getElem?_append_right (by rw [leBytes_length]; omega), leBytes_length, Nat.sub_self]
      rfl
theorem leBytes_congr {n m : Nat} : ∀ (k : Nat), n % 2 ^ (8 * k) = m % 2 ^ (8 * k) → leBytes n k = leBytes m k
  | 0, _ => rfl
  | k + 1, h => by
    have e : 2 ^ (8 * (k + 1)) = 2 ^ (8 * k) * 256 := by rw [show 8 * (k + 1) = 8 * k + 8 from by omega, Nat.pow_add]
    rw [e, Nat.mod_mul, Nat.mod_mul] at h
    have hp : 0 < 2 ^ (8 * k) := Nat.pow_pos (by omega)
    have h1 : n % 2 ^ (8 * k) = m % 2 ^ (8 * k) := by
      have := congrArg (· % 2 ^ (8 * k)) h
      simpa [Nat.add_mul_mod_self_left, Nat.mod_mod] using this
    have h2 : n / 2 ^ (8 * k) % 256 = m / 2 ^ (8 * k) % 256 := by
      rw [h1] at h
      exact Nat.eq_of_mul_eq_mul_left hp (by omega)
    rw [leBytes, leBytes, leBytes_congr k h1]
    congr 2
    apply UInt8.toNat_inj.1
    rw [UInt8.toNat_ofNat', UInt8.toNat_ofNat']
    exact h2
theorem leBytes_val : ∀ (l : List UInt8) (k : Nat), l.length = k → leBytes (leVal l) k = l := by
  intro l k
  induction k generalizing l with
  | zero => intro h; rw [List.eq_nil_of_length_eq_zero h]; rfl
  | succ k ih =>
    intro h
    obtain ⟨r, x, rfl⟩ : ∃ r x, l = r ++ [x] := ⟨l.dropLast, l.getLast (fun e => by rw [e] at h; simp at h), (List.dropLast_concat_getLast _).symm⟩
    have hr : r.length = k := by simpa using h
    have hlt := leVal_lt r
    rw [hr] at hlt
    have hp : 0 < 2 ^ (8 * k) := Nat.pow_pos (by omega)
    rw [leVal_snoc, hr, leBytes, leBytes_congr (m := leVal r) k (by rw [Nat.mul_comm, Nat.add_mul_mod_self_left]), ih r hr]
    congr 2
    rw [Nat.mul_comm x.toNat, Nat.add_mul_div_left _ _ hp, Nat.div_eq_of_lt hlt, Nat.zero_add]
    simp
theorem leVal_inj {l m : List UInt8} (h : l.length = m.length) (e : leVal l = leVal m) : l = m := by
  rw [← leBytes_val l l.length rfl, e, h, leBytes_val m m.length rfl]
theorem not_byte (n i : Nat) (hn : n < 18446744073709551616) (hi : i < 8) : UInt8.ofNat ((18446744073709551615 - n) / 2 ^ (8 * i)) = ~~~ UInt8.ofNat (n / 2 ^ (8 * i)) := by
  have hx : ∀ x : UInt8, (~~~ x).toNat = 255 - x.toNat := fun x => by
    simp [UInt8.toNat_not]
  apply UInt8.toNat_inj.1
  rw [hx, UInt8.toNat_ofNat', UInt8.toNat_ofNat']
  have hcs : i = 0 ∨ i = 1 ∨ i = 2 ∨ i = 3 ∨ i = 4 ∨ i = 5 ∨ i = 6 ∨ i = 7 := by omega
  rcases hcs with rfl | rfl | rfl | rfl | rfl | rfl | rfl | rfl <;> simp only [Nat.reduceMul, Nat.reducePow] <;> omega

namespace crc
/-- one byte -/
theorem side1 (ahead behind : List UInt8) (a b : UInt8) (h : of (ahead ++ [a] ++ behind) = of (ahead ++ [b] ++ behind)) : a = b := by
  have := side (ahead) (behind) a 0 0 0 b 0 0 0
  unfold of at h
  rw [more_append, more_append 0#32 (ahead ++ [b])] at h
  have h1 := more_inj _ _ _ h
  rw [more_append, more_append 0#32 ahead] at h1
  have h2 : go (~~~ more 0#32 ahead) [a] = go (~~~ more 0#32 ahead) [b] := by
    have h3 := congrArg (fun z : W => ~~~ z) h1
    simpa only [more, BitVec.not_not] using h3
  have h3 : on 8 (~~~ more 0#32 ahead ^^^ wb a) = on 8 (~~~ more 0#32 ahead ^^^ wb b) := h2
  have h4 := congrArg (fun z : W => z ^^^ ~~~ more 0#32 ahead) (on_inj _ _ _ h3)
  simp only [BitVec.xor_comm _ (wb a), BitVec.xor_comm _ (wb b), xor_two] at h4
  have h5 := congrArg BitVec.toNat h4
  simp only [wb, BitVec.toNat_ofNat] at h5
  have ha := a.toNat_lt
  have hb := b.toNat_lt
  exact UInt8.toNat_inj.1 (by omega)
end crc

namespace sl
abbrev Blk := dk.Blk
/-- the number and the body, filled up -/
def head (n : Nat) (body : List UInt8) : List UInt8 := leBytes n 8 ++ (body ++ List.replicate (108 - body.length) 0)
/-- what is left of the number -/
def last (n : Nat) : List UInt8 := leBytes (18446744073709551615 - n) 8
def sealB (n : Nat) (body : List UInt8) : Blk := head n body ++ (leBytes (crc.of (head n body)).toNat 4 ++ last n)
def put (n : Nat) (body : List UInt8) : Blk × Int := if n = 0 then (dk.zero, 2) else if 108 < body.length then (dk.zero, 3) else (sealB n body, 0)
def number (b : Blk) : Nat := leVal (b.take 8)
def get (b : Blk) : Nat × List UInt8 × Int :=
  if number b = 0 ∨ b.drop 120 ≠ last (number b) then (0, [], 5)
  else if leVal ((b.drop 116).take 4) ≠ (crc.of (b.take 116)).toNat then (0, [], 6)
  else (number b, (b.drop 8).take 108, 0)
def worth (b : Blk) : Nat := (get b).1
def newest (a b : Blk) : Int × Int := if worth a = 0 ∧ worth b = 0 then (0, 7) else if worth a < worth b then (1, 0) else (0, 0)
def next (a b : Blk) : Int := if 0 < worth a ∧ worth b ≤ worth a then 1 else 0

theorem head_length (n : Nat) {body : List UInt8} (h : body.length ≤ 108) : (head n body).length = 116 := by
  simp [head, leBytes_length]
  omega
theorem last_length (n : Nat) : (last n).length = 8 := leBytes_length _ _
theorem seal_length (n : Nat) {body : List UInt8} (h : body.length ≤ 108) : (sealB n body).length = 128 := by
  rw [sealB, List.length_append, List.length_append, head_length n h, leBytes_length, last_length]
theorem seal_take116 (n : Nat) {body : List UInt8} (h : body.length ≤ 108) : (sealB n body).take 116 = head n body := List.take_left' (head_length n h)
theorem seal_drop116 (n : Nat) {body : List UInt8} (h : body.length ≤ 108) : (sealB n body).drop 116 = leBytes (crc.of (head n body)).toNat 4 ++ last n := List.drop_left' (head_length n h)
theorem seal_drop120 (n : Nat) {body : List UInt8} (h : body.length ≤ 108) : (sealB n body).drop 120 = last n := by
  rw [show 120 = 116 + 4 from rfl, ← List.drop_drop, seal_drop116 n h]
  exact List.drop_left' (leBytes_length _ _)
theorem seal_take8 (n : Nat) {body : List UInt8} (h : body.length ≤ 108) : (sealB n body).take 8 = leBytes n 8 := by
  have e : (sealB n body).take 8 = ((sealB n body).take 116).take 8 := by rw [List.take_take]; congr 1
  rw [e, seal_take116 n h]
  exact List.take_left' (leBytes_length _ _)
theorem seal_number {n : Nat} (hn : n < 18446744073709551616) {body : List UInt8} (h : body.length ≤ 108) : number (sealB n body) = n := by
  rw [number, seal_take8 n h, leVal_bytes]
  exact Nat.mod_eq_of_lt hn
theorem of_lt (l : List UInt8) : (crc.of l).toNat < 4294967296 := (crc.of l).isLt
/-- GET TELLS WHAT WAS PUT -/
theorem get_seal {n : Nat} (h0 : 0 < n) (hn : n < 18446744073709551616) {body : List UInt8} (h : body.length ≤ 108) : get (sealB n body) = (n, body ++ List.replicate (108 - body.length) 0, 0) := by
  have e1 := seal_number hn h
  have e2 : leVal (((sealB n body).drop 116).take 4) = (crc.of ((sealB n body).take 116)).toNat := by
    rw [seal_drop116 n h, List.take_left' (leBytes_length _ _), leVal_bytes, seal_take116 n h]
    exact Nat.mod_eq_of_lt (of_lt _)
  have e3 : ((sealB n body).drop 8).take 108 = body ++ List.replicate (108 - body.length) 0 := by
    rw [List.take_drop, show 8 + 108 = 116 from rfl, seal_take116 n h, head]
    exact List.drop_left' (leBytes_length _ _)
  unfold get
  rw [e1, if_neg (by rw [seal_drop120 n h]; simp; omega), if_neg (by rw [e2]; simp), e3]
/-- WHAT IS SEALED IS ONE THAT WAS PUT -/
theorem get_ok {b : Blk} (h : (get b).2.2 = 0) : 0 < number b ∧ b.drop 120 = last (number b) ∧ leVal ((b.drop 116).take 4) = (crc.of (b.take 116)).toNat ∧ get b = (number b, (b.drop 8).take 108, 0) := by
  unfold get at h ⊢
  split at h
  · simp at h
  · next h1 =>
    split at h
    · simp at h
    · next h2 =>
      rw [if_neg h1, if_neg h2]
      refine ⟨?_, ?_, ?_, rfl⟩
      · rcases Nat.eq_zero_or_pos (number b) with h | h
        · exact absurd (.inl h) h1
        · exact h
      · exact Decidable.byContradiction fun h => h1 (.inr h)
      · exact Decidable.byContradiction fun h => h2 h
theorem number_lt (b : Blk) : number b < 18446744073709551616 := by
  have h := leVal_lt (b.take 8)
  have h8 : (b.take 8).length ≤ 8 := by rw [List.length_take]; omega
  refine Nat.lt_of_lt_of_le h ?_
  exact Nat.pow_le_pow_right (by omega) (show 8 * (b.take 8).length ≤ 64 by omega)
theorem ok_seal {b : Blk} (hb : b.length = 128) (h : (get b).2.2 = 0) : b = sealB (number b) ((b.drop 8).take 108) := by
  obtain ⟨_, h1, h2, _⟩ := get_ok h
  have hbl : ((b.drop 8).take 108).length = 108 := by rw [List.length_take, List.length_drop]; omega
  have e0 : leBytes (number b) 8 = b.take 8 := leBytes_val _ _ (by rw [List.length_take]; omega)
  have e1 : head (number b) ((b.drop 8).take 108) = b.take 116 := by
    unfold head
    have e : b.take 8 = (b.take 116).take 8 := by rw [List.take_take]; congr 1
    rw [hbl, Nat.sub_self, List.replicate_zero, List.append_nil, e0, List.take_drop, e]
    exact List.take_append_drop 8 (b.take 116)
  have e2 : leBytes (crc.of (b.take 116)).toNat 4 = (b.drop 116).take 4 := by
    rw [← h2]
    exact leBytes_val _ _ (by rw [List.length_take, List.length_drop]; omega)
  rw [sealB, e1, e2, ← h1]
  conv => lhs; rw [← List.take_append_drop 116 b, ← List.take_append_drop 4 (b.drop 116), List.drop_drop]

/-! ### One byte changed -/
theorem list_split {α : Type} (l : List α) (k : Nat) (h : k < l.length) (x : α) : l = l.take k ++ ([l[k]] ++ l.drop (k + 1)) ∧ l.set k x = l.take k ++ ([x] ++ l.drop (k + 1)) := by
  refine ⟨?_, ?_⟩
  · rw [List.singleton_append, ← List.drop_eq_getElem_cons h, List.take_append_drop]
  · rw [List.set_eq_take_append_cons_drop, if_pos h]
    rfl
theorem xor_ne (x y : UInt8) (h : x ^^^ y = x) : y = 0 := by
  have e : x ^^^ (x ^^^ y) = x ^^^ x := by rw [h]
  rw [← UInt8.xor_assoc, UInt8.xor_self, UInt8.zero_xor] at e
  exact e
/-- A SEALED BLOCK IN WHICH ONE BYTE IS CHANGED IS REFUSED -/
theorem changed {b : Blk} (hb : b.length = 128) (h : (get b).2.2 = 0) (k : Nat) (hk : k < 128) (x : UInt8) (h' : (get (b.set k x)).2.2 = 0) : b.set k x = b := by
  obtain ⟨_, a1, a2, _⟩ := get_ok h
  obtain ⟨_, b1, b2, _⟩ := get_ok h'
  have hl : (b.set k x).length = 128 := by rw [List.length_set]; exact hb
  have hnum : ∀ c : Blk, c.length = 128 → c.take 8 = leBytes (number c) 8 := fun c hc => (leBytes_val _ _ (by rw [List.length_take]; omega)).symm
  have hin : ∀ {n m : Nat}, n < 18446744073709551616 → m < 18446744073709551616 → last n = last m → n = m := fun {n m} hn hm e => by
    have := congrArg leVal e
    rw [last, last, leVal_bytes, leVal_bytes, Nat.mod_eq_of_lt (by omega), Nat.mod_eq_of_lt (by omega)] at this
    omega
  by_cases h1 : k < 8
  · have e : (b.set k x).drop 120 = b.drop 120 := List.drop_set_of_lt (by omega)
    rw [e, a1] at b1
    have hn := hin (number_lt b) (number_lt _) b1
    have e2 : (b.set k x).take 8 = b.take 8 := by rw [hnum _ hl, hnum _ hb, hn]
    have e3 : (b.set k x).drop 8 = b.drop 8 := List.drop_set_of_lt (by omega)
    rw [← List.take_append_drop 8 (b.set k x), e2, e3, List.take_append_drop]
  · have ht : (b.set k x).take 8 = b.take 8 := List.take_set_of_le (by omega)
    have hn : number (b.set k x) = number b := by rw [number, number, ht]
    by_cases h2 : 120 ≤ k
    · rw [hn, ← a1] at b1
      have e2 : (b.set k x).take 120 = b.take 120 := List.take_set_of_le (by omega)
      rw [← List.take_append_drop 120 (b.set k x), e2, b1, List.take_append_drop]
    · by_cases h3 : 116 ≤ k
      · have e2 : (b.set k x).take 116 = b.take 116 := List.take_set_of_le (by omega)
        rw [e2, ← a2] at b2
        have e3 := leVal_inj (by simp only [List.length_take, List.length_drop, List.length_set]) b2
        have e4 : (b.set k x).drop 120 = b.drop 120 := List.drop_set_of_lt (by omega)
        rw [← List.take_append_drop 116 (b.set k x), ← List.take_append_drop 4 ((b.set k x).drop 116), e2, e3, List.drop_drop, e4, show b.drop 120 = (b.drop 116).drop 4 from by rw [List.drop_drop], List.take_append_drop, List.take_append_drop]
      · have e1 : (b.set k x).drop 116 = b.drop 116 := List.drop_set_of_lt (by omega)
        rw [e1, a2] at b2
        have e2 : crc.of (b.take 116) = crc.of ((b.set k x).take 116) := BitVec.eq_of_toNat_eq b2
        have hk2 : k < (b.take 116).length := by rw [List.length_take]; omega
        obtain ⟨s1, s2⟩ := list_split (b.take 116) k hk2 x
        have e3 : (b.set k x).take 116 = (b.take 116).set k x := List.take_set ..
        rw [e3, s2, ← List.append_assoc] at e2
        conv at e2 => lhs; rw [s1, ← List.append_assoc]
        have e4 := crc.side1 _ _ _ _ e2
        rw [List.getElem_take] at e4
        rw [← e4]
        exact List.set_getElem_self _

/-! ### Beginnings -/
/-- a block whose bytes are of blocks that were sealed, of later ones ahead: f tells, of each place, whose it is (0: none's) -/
structure Mix (was : List Blk) (b : Blk) : Prop where
  len : b.length = 128
  src : ∃ f : Nat → Nat, (∀ p q, p ≤ q → f q ≤ f p) ∧ (∀ p, f p ≤ was.length) ∧ ∀ p, p < 128 → b.getD p 0 = if f p = 0 then 0 else (was.getD (f p - 1) dk.zero).getD p 0
theorem Mix.none_ : Mix [] dk.zero := ⟨List.length_replicate, fun _ => 0, fun _ _ _ => Nat.le_refl _, fun _ => Nat.le_refl _, fun p hp => by rw [if_pos rfl, List.getD_eq_getElem?_getD, dk.zero, List.getElem?_replicate, if_pos hp]; rfl⟩
theorem torn_getD (old now : Blk) (at_ : Int) (hn : now.length = 128) (p : Nat) (hp : p < 128) : (dk.torn old now at_).getD p 0 = if p < at_.toNat then now.getD p 0 else old.getD p 0 := by
  unfold dk.torn
  simp only [List.getD_eq_getElem?_getD]
  by_cases h : p < at_.toNat
  · rw [if_pos h, List.getElem?_append_left (by rw [List.length_take]; omega), List.getElem?_take_of_lt h]
  · rw [if_neg h, List.getElem?_append_right (by rw [List.length_take]; omega), List.getElem?_drop, List.length_take]
    congr 2
    omega
theorem Mix.step {was : List Blk} {b x : Blk} (h : Mix was b) (hx : x.length = 128) (at_ : Int) : Mix (was ++ [x]) (dk.torn b x at_) := by
  obtain ⟨f, h1, h2, h3⟩ := h.src
  refine ⟨dk.torn_length _ h.len hx, fun p => if p < at_.toNat then was.length + 1 else f p, fun p q hpq => ?_, fun p => ?_, fun p hp => ?_⟩
  · by_cases hq : q < at_.toNat
    · simp only [if_pos hq, if_pos (show p < at_.toNat by omega)]
      exact Nat.le_refl _
    · simp only [if_neg hq]
      split
      · have := h2 q; omega
      · exact h1 p q hpq
  · simp only [List.length_append, List.length_singleton]
    split
    · exact Nat.le_refl _
    · have := h2 p; omega
  · rw [torn_getD b x at_ hx p hp]
    by_cases ha : p < at_.toNat
    · simp only [if_pos ha, if_neg (Nat.succ_ne_zero _), Nat.add_sub_cancel]
      congr 1
      rw [List.getD_eq_getElem?_getD, List.getElem?_append_right (Nat.le_refl _), Nat.sub_self]
      rfl
    · simp only [if_neg ha]
      rw [h3 p hp]
      split
      · rfl
      · next hz =>
        congr 1
        have := h2 p
        rw [List.getD_eq_getElem?_getD, List.getD_eq_getElem?_getD, List.getElem?_append_left (by omega)]
/-- the blocks that were there as a whole: numbers that are not far from each other, none twice -/
structure Were (was : List Blk) (num : Nat → Nat) : Prop where
  sealed : ∀ i, i < was.length → ∃ body : List UInt8, body.length ≤ 108 ∧ was.getD i dk.zero = sealB (num i) body
  pos : ∀ i, i < was.length → 0 < num i
  top : ∀ i, i < was.length → num i < 2305843009213693952
  near : ∀ i j, i < was.length → j < was.length → num i < num j + 256
  once : ∀ i j, i < was.length → j < was.length → num i = num j → i = j
theorem seal_first {n : Nat} {body : List UInt8} (h : body.length ≤ 108) {k : Nat} (hk : k < 8) : (sealB n body).getD k 0 = UInt8.ofNat (n / 2 ^ (8 * k)) := by
  have e : (sealB n body)[k]? = ((sealB n body).take 8)[k]? := (List.getElem?_take_of_lt hk).symm
  rw [List.getD_eq_getElem?_getD, e, seal_take8 n h, leBytes_get n 8 k hk]
  rfl
theorem seal_last {n : Nat} (hn : n < 18446744073709551616) {body : List UInt8} (h : body.length ≤ 108) {k : Nat} (hk : k < 8) : (sealB n body).getD (120 + k) 0 = ~~~ (sealB n body).getD k 0 := by
  have e : (sealB n body)[120 + k]? = ((sealB n body).drop 120)[k]? := by rw [List.getElem?_drop]
  rw [seal_first h hk, List.getD_eq_getElem?_getD, e, seal_drop120 n h, last, leBytes_get _ 8 k hk]
  exact not_byte n k hn hk
/-- the end of a sealed block is what is left of its beginning -/
theorem ok_ends {b : Blk} (hb : b.length = 128) (h : (get b).2.2 = 0) {k : Nat} (hk : k < 8) : b.getD (120 + k) 0 = ~~~ b.getD k 0 := by
  rw [ok_seal hb h]
  exact seal_last (number_lt b) (by rw [List.length_take, List.length_drop]; omega) hk
theorem getD_ext {a b : Blk} (ha : a.length = 128) (hb : b.length = 128) (h : ∀ p, p < 128 → a.getD p 0 = b.getD p 0) : a = b := by
  apply List.ext_getElem?
  intro i
  by_cases hi : i < 128
  · have := h i hi
    rw [List.getD_eq_getElem?_getD, List.getD_eq_getElem?_getD, List.getElem?_eq_getElem (by omega), List.getElem?_eq_getElem (by omega)] at this
    rw [List.getElem?_eq_getElem (by omega), List.getElem?_eq_getElem (by omega)]
    exact congrArg some this
  · rw [List.getElem?_eq_none (by omega), List.getElem?_eq_none (by omega)]
/-- WHAT IS SEALED IS ONE THAT WAS THERE AS A WHOLE -/
theorem Mix.whole {was : List Blk} {num : Nat → Nat} {b : Blk} (h : Mix was b) (hw : Were was num) (hok : (get b).2.2 = 0) : ∃ i, i < was.length ∧ b = was.getD i dk.zero := by
  obtain ⟨f, f1, f2, f3⟩ := h.src
  have hends := fun k hk => ok_ends h.len hok (k := k) hk
  have hby : ∀ p, p < 128 → ∀ i, f p = i + 1 → b.getD p 0 = (was.getD i dk.zero).getD p 0 := fun p hp i hi => by
    rw [f3 p hp, hi, if_neg (Nat.succ_ne_zero _), Nat.add_sub_cancel]
  have hz : ∀ p, p < 128 → f p = 0 → b.getD p 0 = 0 := fun p hp hi => by rw [f3 p hp, if_pos hi]
  cases h120 : f 120 with
  | zero =>
    have h7 := hends 7 (by omega)
    rw [hz 127 (by omega) (by have := f1 120 127 (by omega); omega)] at h7
    have h7' : b.getD 7 0 = 255 := by
      have : ~~~ (~~~ b.getD 7 0) = ~~~ (0 : UInt8) := by rw [← h7]
      rw [UInt8.not_not] at this
      rw [this]; decide
    cases hf7 : f 7 with
    | zero => rw [hz 7 (by omega) hf7] at h7'; exact absurd h7' (by decide)
    | succ i =>
      have hi : i < was.length := by have := f2 7; omega
      obtain ⟨body, hbl, he⟩ := hw.sealed i hi
      rw [hby 7 (by omega) i hf7, he, seal_first hbl (by omega)] at h7'
      have ht := hw.top i hi
      have h8 := congrArg UInt8.toNat h7'
      rw [UInt8.toNat_ofNat'] at h8
      simp only [Nat.reduceMul, Nat.reducePow] at h8
      have h9 : (255 : UInt8).toNat = 255 := by decide
      omega
  | succ i =>
    have hi : i < was.length := by have := f2 120; omega
    obtain ⟨body, hbl, he⟩ := hw.sealed i hi
    cases hf0 : f 0 with
    | zero => have := f1 0 120 (by omega); omega
    | succ j =>
      have hj : j < was.length := by have := f2 0; omega
      obtain ⟨body', hbl', he'⟩ := hw.sealed j hj
      have h0 := hends 0 (by omega)
      have hti := hw.top i hi
      rw [hby 120 (by omega) i h120, hby 0 (by omega) j hf0, he, he', seal_last (k := 0) (by omega) hbl (by omega)] at h0
      have h1 : (sealB (num i) body).getD 0 0 = (sealB (num j) body').getD 0 0 := by
        have := congrArg (~~~ ·) h0
        simpa only [UInt8.not_not] using this
      rw [seal_first hbl (by omega), seal_first hbl' (by omega)] at h1
      have h2 := congrArg UInt8.toNat h1
      rw [UInt8.toNat_ofNat', UInt8.toNat_ofNat'] at h2
      simp only [Nat.mul_zero, Nat.pow_zero, Nat.div_one, Nat.reducePow] at h2
      have n1 := hw.near i j hi hj
      have n2 := hw.near j i hj hi
      have hij : i = j := hw.once i j hi hj (by omega)
      subst hij
      have hbel : ∀ p, p ≤ 120 → b.getD p 0 = (was.getD i dk.zero).getD p 0 := fun p hp => hby p (by omega) i (by have := f1 0 p (by omega); have := f1 p 120 hp; omega)
      refine ⟨i, hi, getD_ext h.len (by rw [he]; exact seal_length _ hbl) fun p hp => ?_⟩
      by_cases hp2 : p ≤ 120
      · exact hbel p hp2
      · obtain ⟨k, rfl⟩ : ∃ k, p = 120 + k := ⟨p - 120, by omega⟩
        rw [hends k (by omega), hbel k (by omega), he, seal_last (by omega) hbl (by omega)]

/-! ### A block that is laid place by place -/
def spot (first body sum last : List UInt8) (j1 j2 j3 p : Nat) : UInt8 :=
  if p < 8 then (if p < j1 then first.getD p 0 else 0) else if p < 116 then (if p - 8 < j2 then body.getD (p - 8) 0 else 0)
  else if p < 120 then (if p - 116 < j3 then sum.getD (p - 116) 0 else 0) else (if p - 120 < j1 then last.getD (p - 120) 0 else 0)
theorem getD_left {l m : List UInt8} {p : Nat} (h : p < l.length) : (l ++ m).getD p 0 = l.getD p 0 := by
  rw [List.getD_eq_getElem?_getD, List.getElem?_append_left h, List.getD_eq_getElem?_getD]
theorem getD_right {l m : List UInt8} {p : Nat} (h : l.length ≤ p) : (l ++ m).getD p 0 = m.getD (p - l.length) 0 := by
  rw [List.getD_eq_getElem?_getD, List.getElem?_append_right h, List.getD_eq_getElem?_getD]
theorem getD_over {l : List UInt8} {p : Nat} (h : l.length ≤ p) : l.getD p 0 = 0 := by
  rw [List.getD_eq_getElem?_getD, List.getElem?_eq_none h]; rfl
theorem head_spot (n : Nat) {body : List UInt8} (sum last : List UInt8) (j3 p : Nat) (hp : p < 116) : (head n body).getD p 0 = spot (leBytes n 8) body sum last 8 body.length j3 p := by
  unfold head spot
  by_cases h1 : p < 8
  · rw [if_pos h1, if_pos h1, getD_left (by rw [leBytes_length]; exact h1)]
  · rw [if_neg h1, if_pos hp, getD_right (by rw [leBytes_length]; omega), leBytes_length]
    by_cases h2 : p - 8 < body.length
    · rw [if_pos h2, getD_left h2]
    · rw [if_neg h2, getD_right (by omega), List.getD_eq_getElem?_getD, List.getElem?_replicate]
      split <;> rfl
theorem seal_spot (n : Nat) {body : List UInt8} (h : body.length ≤ 108) (p : Nat) (hp : p < 128) : (sealB n body).getD p 0 = spot (leBytes n 8) body (leBytes (crc.of (head n body)).toNat 4) (last n) 8 body.length 4 p := by
  have hl := head_length n h
  by_cases h1 : p < 116
  · rw [sealB, getD_left (by omega)]
    exact head_spot n _ _ _ p h1
  · rw [sealB, getD_right (by omega), hl]
    unfold spot
    rw [if_neg (by omega), if_neg h1]
    by_cases h2 : p < 120
    · rw [if_pos h2, if_pos (by omega), getD_left (by rw [leBytes_length]; omega)]
    · rw [if_neg h2, if_pos (by omega), getD_right (by rw [leBytes_length]; omega), leBytes_length, show p - 116 - 4 = p - 120 from by omega]
theorem getD_set (l : List UInt8) (i p : Nat) (x : UInt8) (hi : i < l.length) : (l.set i x).getD p 0 = if p = i then x else l.getD p 0 := by
  simp only [List.getD_eq_getElem?_getD, List.getElem?_set]
  by_cases h : i = p
  · rw [if_pos h, if_pos h.symm, if_pos (by omega)]; rfl
  · rw [if_neg h, if_neg (fun e => h e.symm)]
theorem take_head {bl : List UInt8} {n : Nat} {body sum last : List UInt8} (hb : body.length ≤ 108) (hl : bl.length = 128) (h : ∀ p, p < 128 → bl.getD p 0 = spot (leBytes n 8) body sum last 8 body.length 0 p) : bl.take 116 = head n body := by
  apply List.ext_getElem?
  intro i
  by_cases hi : i < 116
  · have h1 := h i (by omega)
    rw [← head_spot n sum last 0 i hi, List.getD_eq_getElem?_getD, List.getD_eq_getElem?_getD, List.getElem?_eq_getElem (by omega), List.getElem?_eq_getElem (by rw [head_length n hb]; exact hi)] at h1
    rw [List.getElem?_take_of_lt hi, List.getElem?_eq_getElem (by omega), List.getElem?_eq_getElem (by rw [head_length n hb]; exact hi)]
    exact congrArg some h1
  · rw [List.getElem?_eq_none (by rw [List.length_take]; omega), List.getElem?_eq_none (by rw [head_length n hb]; omega)]
theorem spot_zero (first body sum last : List UInt8) (p : Nat) (hp : p < 128) : (dk.zero).getD p 0 = spot first body sum last 0 0 0 p := by
  rw [List.getD_eq_getElem?_getD, dk.zero, List.getElem?_replicate, if_pos hp]
  unfold spot
  simp
theorem spot_one {first body sum last : List UInt8} {bl : List UInt8} {j : Nat} (hl : bl.length = 128) (h : ∀ p, p < 128 → bl.getD p 0 = spot first body sum last j 0 0 p) (hj : j < 8) :
    ∀ p, p < 128 → ((bl.set j (first.getD j 0)).set (120 + j) (last.getD j 0)).getD p 0 = spot first body sum last (j + 1) 0 0 p := fun p hp => by
  rw [getD_set _ _ _ _ (by rw [List.length_set]; omega), getD_set _ _ _ _ (by omega), h p hp]
  unfold spot
  by_cases h1 : p = 120 + j
  · subst h1
    rw [if_pos rfl, if_neg (by omega), if_neg (by omega), if_neg (by omega), if_pos (by omega), Nat.add_sub_cancel_left]
  · rw [if_neg h1]
    by_cases h2 : p = j
    · subst h2
      rw [if_pos rfl, if_pos hj, if_pos (by omega)]
    · rw [if_neg h2]
      by_cases h3 : p < 8
      · rw [if_pos h3, if_pos h3]
        by_cases h4 : p < j
        · rw [if_pos h4, if_pos (by omega)]
        · rw [if_neg h4, if_neg (by omega)]
      · rw [if_neg h3, if_neg h3]
        by_cases h4 : p < 116
        · rw [if_pos h4, if_pos h4]
        · rw [if_neg h4, if_neg h4]
          by_cases h5 : p < 120
          · rw [if_pos h5, if_pos h5]
          · rw [if_neg h5, if_neg h5]
            by_cases h6 : p - 120 < j
            · rw [if_pos h6, if_pos (by omega)]
            · rw [if_neg h6, if_neg (by omega)]
theorem spot_two {first body sum last : List UInt8} {bl : List UInt8} {j : Nat} (hl : bl.length = 128) (h : ∀ p, p < 128 → bl.getD p 0 = spot first body sum last 8 j 0 p) (hj : j < 108) :
    ∀ p, p < 128 → (bl.set (8 + j) (body.getD j 0)).getD p 0 = spot first body sum last 8 (j + 1) 0 p := fun p hp => by
  rw [getD_set _ _ _ _ (by omega), h p hp]
  unfold spot
  by_cases h1 : p = 8 + j
  · subst h1
    rw [if_pos rfl, if_neg (by omega), if_pos (by omega), if_pos (by omega), Nat.add_sub_cancel_left]
  · rw [if_neg h1]
    by_cases h3 : p < 8
    · rw [if_pos h3, if_pos h3, if_pos h3]
    · rw [if_neg h3, if_neg h3]
      by_cases h4 : p < 116
      · rw [if_pos h4, if_pos h4]
        by_cases h6 : p - 8 < j
        · rw [if_pos h6, if_pos (by omega)]
        · rw [if_neg h6, if_neg (by omega)]
      · rw [if_neg h4, if_neg h4]
theorem spot_three {first body sum last : List UInt8} {bl : List UInt8} {m j : Nat} (hl : bl.length = 128) (h : ∀ p, p < 128 → bl.getD p 0 = spot first body sum last 8 m j p) (hj : j < 4) :
    ∀ p, p < 128 → (bl.set (116 + j) (sum.getD j 0)).getD p 0 = spot first body sum last 8 m (j + 1) p := fun p hp => by
  rw [getD_set _ _ _ _ (by omega), h p hp]
  unfold spot
  by_cases h1 : p = 116 + j
  · subst h1
    rw [if_pos rfl, if_neg (by omega), if_neg (by omega), if_pos (by omega), if_pos (by omega), Nat.add_sub_cancel_left]
  · rw [if_neg h1]
    by_cases h3 : p < 8
    · rw [if_pos h3, if_pos h3, if_pos h3]
    · rw [if_neg h3, if_neg h3]
      by_cases h4 : p < 116
      · rw [if_pos h4, if_pos h4]
      · rw [if_neg h4, if_neg h4]
        by_cases h5 : p < 120
        · rw [if_pos h5, if_pos h5]
          by_cases h6 : p - 116 < j
          · rw [if_pos h6, if_pos (by omega)]
          · rw [if_neg h6, if_neg (by omega)]
        · rw [if_neg h5, if_neg h5]
theorem spot_sum {first body sum sum' last : List UInt8} {m p : Nat} : spot first body sum last 8 m 0 p = spot first body sum' last 8 m 0 p := by
  unfold spot
  split
  · rfl
  split
  · rfl
  split
  · rw [if_neg (by omega), if_neg (by omega)]
  · rfl
end sl
end Go.Proofs.YtknndmhkfonfmaaDoor

/-
  PURE: heads: which may be, their blocks, what a block tells, the newest of two; what is true of them. No program is named here.
-/
namespace Go.Proofs.YtknndmhkfonfmaaDoor
namespace hd
abbrev Blk := dk.Blk
structure H where
  bank : UInt8
  blocks : Nat
  batches : Nat
instance : DecidableEq H := fun a b => if h : a.bank = b.bank ∧ a.blocks = b.blocks ∧ a.batches = b.batches then .isTrue (by cases a; cases b; simp_all) else .isFalse (fun e => h (by rw [e]; exact ⟨rfl, rfl, rfl⟩))
def zero : H := ⟨0, 0, 0⟩
structure H.Ok (h : H) : Prop where
  blocks : h.blocks < 4294967296
  batches : h.batches < 4294967296
theorem zero_ok : zero.Ok := ⟨by decide, by decide⟩
abbrev cells (h : H) : List Value := [bv h.bank, .int .u32 h.blocks, .int .u32 h.batches]
abbrev val (h : H) : Value := .agg #[bv h.bank, .int .u32 h.blocks, .int .u32 h.batches]
def may (h : H) : Bool := decide (h.bank.toNat ≤ 1) && (decide (h.blocks ≤ 4096) && decide (h.batches ≤ h.blocks))
def num (n : Nat) : Bool := decide (1 ≤ n) && decide (n ≤ 4611686018427387904)
def bodyOf (h : H) : List UInt8 := [h.bank] ++ leBytes h.blocks 4 ++ leBytes h.batches 4
def put (n : Nat) (h : H) : Blk × Int := if (num n && may h) = true then (sl.sealB n (bodyOf h), 0) else (dk.zero, 2)
def headOf (l : List UInt8) : H := ⟨l.getD 0 0, leVal ((l.drop 1).take 4), leVal ((l.drop 5).take 4)⟩
def get (b : Blk) : Nat × H × Int :=
  if (sl.get b).2.2 = 0 then
    (if (put (sl.get b).1 (headOf (sl.get b).2.1)).2 = 0 ∧ (put (sl.get b).1 (headOf (sl.get b).2.1)).1 = b then ((sl.get b).1, headOf (sl.get b).2.1, 0) else (0, zero, 5))
  else (0, zero, (sl.get b).2.2)
def newest (a b : Blk) : Nat × H × Int :=
  if ¬ (get a).2.2 = 0 ∧ ¬ (get b).2.2 = 0 then (0, zero, 7) else if (get a).1 < (get b).1 then ((get b).1, (get b).2.1, 0) else ((get a).1, (get a).2.1, 0)

theorem bodyOf_length (h : H) : (bodyOf h).length = 9 := by simp [bodyOf, leBytes_length]
theorem may_ok {h : H} (hm : may h = true) : h.bank.toNat ≤ 1 ∧ h.blocks ≤ 4096 ∧ h.batches ≤ h.blocks := by
  simp only [may, Bool.and_eq_true, decide_eq_true_eq] at hm
  exact hm
theorem num_ok {n : Nat} (hn : num n = true) : 1 ≤ n ∧ n ≤ 4611686018427387904 := by
  simp only [num, Bool.and_eq_true, decide_eq_true_eq] at hn
  exact hn
theorem put_len (n : Nat) (h : H) : (put n h).1.length = 128 := by
  unfold put
  split
  · exact sl.seal_length n (by rw [bodyOf_length]; omega)
  · exact List.length_replicate
theorem put_yes {n : Nat} {h : H} (hn : num n = true) (hm : may h = true) : put n h = (sl.sealB n (bodyOf h), 0) := by
  unfold put
  rw [hn, hm]
  rfl
theorem put_no {n : Nat} {h : H} (hq : (num n && may h) = false) : put n h = (dk.zero, 2) := by
  unfold put
  rw [hq]
  rfl
theorem put_err (n : Nat) (h : H) : (put n h).2 = 0 ↔ (num n && may h) = true := by
  unfold put
  split
  · next hq => simp [hq]
  · next hq => simp [hq]
theorem put_eq {n : Nat} {h : H} (he : (put n h).2 = 0) : put n h = (sl.sealB n (bodyOf h), 0) ∧ num n = true ∧ may h = true := by
  have hq := (put_err n h).1 he
  have h2 := hq
  rw [Bool.and_eq_true] at h2
  exact ⟨put_yes h2.1 h2.2, h2.1, h2.2⟩
/-- the body, filled up, tells the head -/
theorem headOf_body (h : H) (hok : h.Ok) (m : Nat) : headOf (bodyOf h ++ List.replicate m 0) = h := by
  have e1 : ((bodyOf h ++ List.replicate m 0).drop 1).take 4 = leBytes h.blocks 4 := by
    unfold bodyOf
    rw [List.append_assoc, List.append_assoc, List.drop_left' (show ([h.bank] : List UInt8).length = 1 from rfl)]
    exact List.take_left' (leBytes_length _ _)
  have e2 : ((bodyOf h ++ List.replicate m 0).drop 5).take 4 = leBytes h.batches 4 := by
    unfold bodyOf
    rw [List.append_assoc]
    rw [List.drop_left' (by simp [leBytes_length])]
    exact List.take_left' (leBytes_length _ _)
  have e3 : (bodyOf h ++ List.replicate m 0).getD 0 0 = h.bank := by
    unfold bodyOf
    rw [List.append_assoc, List.append_assoc]
    rfl
  unfold headOf
  rw [e1, e2, e3, leVal_bytes, leVal_bytes]
  have h1 := hok.blocks
  have h2 := hok.batches
  rw [Nat.mod_eq_of_lt (by omega), Nat.mod_eq_of_lt (by omega)]
/-- WHAT IS PUT IS GOT -/
theorem get_put {n : Nat} {h : H} (hok : h.Ok) (hn : num n = true) (hm : may h = true) : get (put n h).1 = (n, h, 0) := by
  have h1 := num_ok hn
  have hp := put_yes hn hm
  have hg : sl.get (sl.sealB n (bodyOf h)) = (n, bodyOf h ++ List.replicate (108 - (bodyOf h).length) 0, 0) := sl.get_seal (by omega) (by omega) (by rw [bodyOf_length]; omega)
  rw [hp]
  unfold get
  simp only [hg]
  rw [headOf_body h hok, if_pos trivial, hp, if_pos ⟨rfl, rfl⟩]
/-- WHAT IS GOT IS PUT AS THE SAME BLOCK -/
theorem put_get {b : Blk} (h : (get b).2.2 = 0) : put (get b).1 (get b).2.1 = (b, 0) := by
  unfold get at h ⊢
  split at h
  · next h1 =>
    split at h
    · next h2 =>
      rw [if_pos h1, if_pos h2]
      exact Prod.ext h2.2 h2.1
    · cases h
  · next h1 => exact absurd h h1
/-- what is refused has no number -/
theorem get_err {b : Blk} (h : ¬ (get b).2.2 = 0) : (get b).1 = 0 ∧ (get b).2.1 = zero := by
  unfold get at h ⊢
  split at h
  · next h1 =>
    split at h
    · exact absurd rfl h
    · next h2 =>
      rw [if_pos h1, if_neg h2]
      exact ⟨rfl, rfl⟩
  · next h1 =>
    rw [if_neg h1]
    exact ⟨rfl, rfl⟩
theorem get_num {b : Blk} (h : (get b).2.2 = 0) : 1 ≤ (get b).1 ∧ (get b).1 ≤ 4611686018427387904 ∧ may (get b).2.1 = true := by
  obtain ⟨_, h1, h2⟩ := put_eq (n := (get b).1) (h := (get b).2.1) (by rw [put_get h])
  have := num_ok h1
  exact ⟨this.1, this.2, h2⟩
theorem get_lt (b : Blk) : (get b).1 ≤ 4611686018427387904 := by
  by_cases h : (get b).2.2 = 0
  · exact (get_num h).2.1
  · rw [(get_err h).1]; omega
theorem may_Ok {h : H} (hm : may h = true) : h.Ok := by
  have := may_ok hm
  exact ⟨by omega, by omega⟩
theorem get_Ok (b : Blk) : (get b).2.1.Ok := by
  by_cases h : (get b).2.2 = 0
  · exact may_Ok (get_num h).2.2
  · rw [(get_err h).2]; exact zero_ok
theorem newest_Ok (a b : Blk) : (newest a b).2.1.Ok := by
  unfold newest
  split
  · exact zero_ok
  · split
    · exact get_Ok b
    · exact get_Ok a
/-- the newest of two that may be -/
theorem newest_two {a b : Blk} {n m : Nat} {h k : H} (ha : get a = (n, h, 0)) (hb : get b = (m, k, 0)) : newest a b = if n < m then (m, k, 0) else (n, h, 0) := by
  unfold newest
  simp only [ha, hb]
  rw [if_neg (by simp)]
/-- the newest of one, and one that is none -/
theorem newest_left {a b : Blk} {n : Nat} {h : H} (ha : get a = (n, h, 0)) (hb : ¬ (get b).2.2 = 0) : newest a b = (n, h, 0) := by
  unfold newest
  simp only [ha, (get_err hb).1]
  rw [if_neg (by simp), if_neg (by omega)]
theorem newest_right {a b : Blk} {n : Nat} {h : H} (ha : ¬ (get a).2.2 = 0) (hb : get b = (n, h, 0)) (hn : 1 ≤ n) : newest a b = (n, h, 0) := by
  unfold newest
  simp only [hb, (get_err ha).1]
  rw [if_neg (by simp), if_pos (by omega)]
theorem newest_none {a b : Blk} (ha : ¬ (get a).2.2 = 0) (hb : ¬ (get b).2.2 = 0) : newest a b = (0, zero, 7) := by
  unfold newest
  rw [if_pos ⟨ha, hb⟩]
end hd
end Go.Proofs.YtknndmhkfonfmaaDoor

/-
  contracts of cardexref03's functions: bit, On, Into, turned, More, Of, Join.
-/
namespace Go.Proofs.YtknndmhkfonfmaaDoor
open Go.RowKit

theorem wv_bit_eq (x : crc.W) : (bits .and .u32 (x.toNat : Int) 1 == 0) = !x.getLsbD 0 := by
  rw [wv_bit]
  cases x.getLsbD 0 <;> rfl






end Go.Proofs.YtknndmhkfonfmaaDoor

/-
  contracts of cardexref05: ends, Put.
-/
namespace Go.Proofs.YtknndmhkfonfmaaDoor
open Go.RowKit

theorem put8 (n : Nat) (h : n < 18446744073709551616) : putOk n 8 = true := by
  simp [putOk, isSz]
  exact h
theorem put4 (n : Nat) (h : n < 4294967296) : putOk n 4 = true := by
  simp [putOk, isSz]
  exact h
theorem bs_of_block5 {W : World} {g : Nat} {e : TypeId} {p : List UInt8} {fr : Nat × Nat} (h : W.heap[g]? = some (.cells ((p.map bv).toArray) e fr)) (n : Nat) (hn : n = p.length) (hs : n ≤ 281474976710656) : BS W (some ⟨g, 0, none⟩) n n p :=
  ⟨hn.symm, Nat.le_refl _, by omega, hs, fun _ => ⟨g, 0, rfl, (Array.getElem?_eq_some_iff.1 h).1, fun i hi => by
    rw [Nat.zero_add, cell_of_row _ _ _ _ _ _ h]
    simp [hi]⟩⟩

theorem bs_take_row {e : TypeId} {w : World} {g : Nat} {bl : List UInt8} (h : RowB e w g bl) (hl : bl.length = 128) {k : Nat} (hk : k ≤ 128) : BS w (some ⟨g, 0, none⟩) k 128 (bl.take k) :=
  ⟨by rw [List.length_take]; omega, hk, by omega, by omega, fun _ => ⟨g, 0, rfl, h.lt, fun i hi => by
    rw [Nat.zero_add, h.cell (i := i) (by rw [List.length_take] at hi; omega), List.getElem_take]⟩⟩
theorem bs_drop_row {e : TypeId} {w : World} {g : Nat} {bl : List UInt8} (h : RowB e w g bl) (hl : bl.length = 128) {k m : Nat} (hk : k + m = 128) : BS w (some ⟨g, k, none⟩) m m (bl.drop k) :=
  ⟨by rw [List.length_drop]; omega, Nat.le_refl _, by omega, by omega, fun _ => ⟨g, k, rfl, h.lt, fun i hi => by
    rw [h.cell (i := k + i) (by rw [List.length_drop] at hi; omega), List.getElem_drop]⟩⟩
end Go.Proofs.YtknndmhkfonfmaaDoor

/-
  contracts of cardexref05: Get.
-/
namespace Go.Proofs.YtknndmhkfonfmaaDoor
open Go.RowKit

end Go.Proofs.YtknndmhkfonfmaaDoor

/-
  contracts of cardexref05: worth, Newest, Next.
-/
namespace Go.Proofs.YtknndmhkfonfmaaDoor
open Go.RowKit

namespace sl
theorem worth_lt (b : Blk) : worth b < 18446744073709551616 := by
  unfold worth get
  split
  · exact (by omega : 0 < 18446744073709551616)
  split
  · exact (by omega : 0 < 18446744073709551616)
  · exact number_lt b
end sl
end Go.Proofs.YtknndmhkfonfmaaDoor

/-
  contracts of cardexref06: May, number, Put.
-/
namespace Go.Proofs.YtknndmhkfonfmaaDoor
open Go.RowKit

/-- A HEAD IN MEMORY -/
def HM (E : TypeId) (w : World) (g : Nat) (h : hd.H) : Prop := w.heap[g]? = some (.cells #[bv h.bank, .int .u32 h.blocks, .int .u32 h.batches] E (0, 0))
namespace HM
variable {E : TypeId} {w w' : World} {g : Nat} {h : hd.H}
theorem lt (m : HM E w g h) : g < w.heap.size := (Array.getElem?_eq_some_iff.1 m).1
theorem c0 (m : HM E w g h) : w.cell? ⟨g, 0, none⟩ = some (bv h.bank) := by rw [cell_of_row _ _ 0 _ _ _ m]; rfl
theorem c1 (m : HM E w g h) : w.cell? ⟨g, 1, none⟩ = some (.int .u32 h.blocks) := by rw [cell_of_row _ _ 1 _ _ _ m]; rfl
theorem c2 (m : HM E w g h) : w.cell? ⟨g, 2, none⟩ = some (.int .u32 h.batches) := by rw [cell_of_row _ _ 2 _ _ _ m]; rfl
set_option maxRecDepth 100000 in
theorem fz (m : HM E w g h) (i : Nat) : w.frozen? ⟨g, i, none⟩ = false := by
  unfold HM at m
  simp [World.frozen?, m]
theorem drew (m : HM E w g h) : HM E w.drew g h := m
theorem below {B : Nat} (m : HM E w g h) (hb : Below B w w') (hB : g < B) : HM E w' g h := (hb.block g hB).trans m
theorem alloc (m : HM E w g h) (o : Obj) : HM E (w.alloc o) g h := (Below.heap_alloc w o g m.lt).trans m
theorem new (w : World) (E : TypeId) (h : hd.H) : HM E (w.alloc (.cells #[bv h.bank, .int .u32 h.blocks, .int .u32 h.batches] E)) w.heap.size h := heap_alloc_new w _
theorem chg {F : List Nat} (m : HM E w g h) (hc : Chg w w' F) (hF : g ∉ F) : HM E w' g h := (hc.block g m.lt hF).trans m
theorem range (m : HM E w g h) : w.rangeAt g 0 (hd.cells h) := range_of m 0 _ fun j v hj => by rw [Nat.zero_add]; exact hj
end HM
theorem info_head : (Tryd.prog.info? 51).map (fun i => (i.zero, i.size)) = some (some (hd.val hd.zero), 3) := by kernel_rfl



set_option maxRecDepth 100000 in
theorem own_one (w : World) (e : TypeId) (x : UInt8) (B : Nat) (hB : B ≤ w.heap.size) : OwnB e (w.alloc (.cells #[bv x] e)) B (.slice (some ⟨w.heap.size, 0, none⟩) 1 1) [x] :=
  .inr ⟨w.heap.size, [], rfl, hB, heap_alloc_new w _, by simp, by simp⟩
end Go.Proofs.YtknndmhkfonfmaaDoor

/-
  contracts of cardexref06: Get, Newest.
-/
namespace Go.Proofs.YtknndmhkfonfmaaDoor
open Go.RowKit

theorem head_size : (Tryd.prog.info? 51).map (·.size) = some 3 := by kernel_rfl
set_option maxRecDepth 100000 in
theorem head_load {w : World} {g : Nat} {h : hd.H} {E : TypeId} (m : HM E w g h) : (loadVar 51 ⟨g, 0, none⟩).run Tryd.prog w = .ok (hd.val h) w :=
  run_loadVar_mid w g 0 _ _ _ m.range Tryd.underlying51 rfl head_size
set_option maxRecDepth 100000 in
theorem results_tct {fn : Func} {s t u : Tmp} {T : TypeId} (h : fn.results = #[.tmp s, .cell t T, .tmp u]) {tmps : Array Value} {P : Program} {w : World} {a : Addr} {x : Value} (ht : tmps.getD t undef = .pointer (some a)) (hl : (loadVar T a).run P w = .ok x w) :
    (results fn tmps).run P w = .ok (.tuple #[tmps.getD s undef, x, tmps.getD u undef]) w := by
  have ht' : tmps[t]?.getD undef = .pointer (some a) := by simpa using ht
  simp [results, h, ht', asAddr, hl]
set_option maxRecDepth 100000 in
/-- a head's cells are stored one by one -/
theorem HM.set3 {E : TypeId} {w : World} {g : Nat} {old : hd.H} (m : HM E w g old) (h : hd.H) :
    HM E (((w.setCell ⟨g, 0, none⟩ (bv h.bank)).setCell ⟨g, 1, none⟩ (.int .u32 h.blocks)).setCell ⟨g, 2, none⟩ (.int .u32 h.batches)) g h ∧
      Chg w (((w.setCell ⟨g, 0, none⟩ (bv h.bank)).setCell ⟨g, 1, none⟩ (.int .u32 h.blocks)).setCell ⟨g, 2, none⟩ (.int .u32 h.batches)) [g] := by
  refine ⟨?_, ((Chg.setCell _ _ _ _).trans (Chg.setCell _ _ _ _) (Sub.refl _ _)).trans (Chg.setCell _ _ _ _) (Sub.refl _ _)⟩
  have h1 := block_set (i := 0) m (bv h.bank)
  have h2 := block_set (i := 1) h1 (.int .u32 h.blocks)
  have h3 := block_set (i := 2) h2 (.int .u32 h.batches)
  exact h3.trans (by simp)
section
variable {ops : Array Oper} {rest : List Oper} {o : Oper} {a : Act} {w : World} {Q : Exit → Act → World → Prop}
set_option maxRecDepth 100000 in
/-- a head is loaded -/
theorem wp_ldh (x : Operand) (h : hd.H) {E : TypeId} {g : Nat} (m : HM E w g h) (hgd : o.guard = none) (ho : o.op = .load 51 x) (hx : a.eval x = .pointer (some ⟨g, 0, none⟩))
    (hk : wpList Tryd.prog ops Q rest (a.put o.dst (hd.val h)) w) : wpList Tryd.prog ops Q (o :: rest) a w :=
  wpList_load_mid hgd _ x ho g 0 hx _ _ m.range Tryd.underlying51 rfl head_size hk
set_option maxRecDepth 100000 in
/-- a head is stored -/
theorem wp_sth (x y : Operand) (h old : hd.H) {E : TypeId} {g : Nat} (m : HM E w g old) (hgd : o.guard = none) (ho : o.op = .store 51 x y) (hx : a.eval x = .pointer (some ⟨g, 0, none⟩)) (hy : a.eval y = hd.val h)
    (hk : ∀ W, HM E W g h → Chg w W [g] → wpList Tryd.prog ops Q rest (a.put o.dst undef) W) : wpList Tryd.prog ops Q (o :: rest) a w := by
  have h2 := block_sets (hd.cells h) 0 (hd.cells old) w m (by simp)
  refine wpList_store_mid hgd _ x y ho g 0 (hd.cells h).toArray hx hy ?_ (by simpa using head_size) (by simp [Value.oneCell']) ?_
  · have := there_of (cs := hd.cells old) m 0 3 (by simp)
    simpa using this
  · exact hk _ (show _ = _ by simpa using h2) (Chg.setCells g _ _ _)
end

theorem cells_head : Tryd.prog.cellsOf 51 = 3 := by kernel_rfl
theorem cells_u32' : Tryd.prog.cellsOf 49 = 1 := by kernel_rfl
set_option maxRecDepth 100000 in
theorem wf_u32' {n : Nat} (h : n < 4294967296) : (Lit.int .u32 (n : Int)).wf = true := by
  simp [Lit.wf, IntKind.min, IntKind.max, IntKind.signed, IntKind.bits]
  omega
set_option maxRecDepth 100000 in
theorem lits_head (h : hd.H) (hok : h.Ok) : Tryd.prog.keyLits 2 51 (hd.val h).cells.toList = some [.int .u8 (h.bank.toNat : Int), .int .u32 (h.blocks : Int), .int .u32 (h.batches : Int)] := by
  have hc : (hd.val h).cells.toList = hd.cells h := rfl
  rw [hc]
  have k0 : Tryd.prog.keyLits 1 5 [bv h.bank] = some [.int .u8 (h.bank.toNat : Int)] := by
    unfold Program.keyLits
    rw [Tryd.underlying5]
    simp [wf_u8']
  have k1 : ∀ n : Nat, n < 4294967296 → Tryd.prog.keyLits 1 49 [.int .u32 (n : Int)] = some [.int .u32 (n : Int)] := fun n hn => by
    unfold Program.keyLits
    rw [Tryd.underlying49]
    simp [wf_u32' hn]
  have k2 := k1 h.blocks hok.blocks
  have k3 := k1 h.batches hok.batches
  unfold Program.keyLits
  rw [Tryd.underlying51]
  simp only [cells_head]
  rw [if_pos ⟨rfl, by kernel_rfl⟩]
  simp [List.mapM_cons, cells_u8', cells_u32', k0, k2, k3]
set_option maxRecDepth 100000 in
/-- heads compared -/
theorem eq_head (h k : hd.H) (hh : h.Ok) (hk : k.Ok) (W : World) : (Op.equalIn 10000 51 (hd.val h) (hd.val k)).run Tryd.prog W = .ok (decide (h = k)) W := by
  obtain ⟨r, hr, hiff⟩ := run_equalIn_deep (P := Tryd.prog) 9998 2 51 (by kernel_rfl) W 2 2 _ _ _ _ (by simp [Value.formed, Tryd.underlying51, cells_head]) (by simp [Value.formed, Tryd.underlying51, cells_head]) (lits_head h hh) (lits_head k hk)
  refine hr.trans ?_
  congr 1
  rw [Bool.eq_iff_iff, hiff, decide_eq_true_iff]
  obtain ⟨a0, a1, a2⟩ := h
  obtain ⟨b0, b1, b2⟩ := k
  simp only [List.cons.injEq, Lit.int.injEq, true_and, and_true, hd.H.mk.injEq]
  constructor
  · rintro ⟨e0, e1, e2⟩
    exact ⟨UInt8.toNat_inj.1 (by omega), by omega, by omega⟩
  · rintro ⟨rfl, rfl, rfl⟩
    exact ⟨rfl, rfl, rfl⟩

set_option maxRecDepth 100000 in
theorem hd.headOf_Ok (l : List UInt8) : (hd.headOf l).Ok := by
  refine ⟨?_, ?_⟩
  · have h1 := leVal_lt ((l.drop 1).take 4)
    refine Nat.lt_of_lt_of_le h1 ?_
    exact Nat.pow_le_pow_right (by omega) (show 8 * ((l.drop 1).take 4).length ≤ 32 by rw [List.length_take]; omega)
  · have h1 := leVal_lt ((l.drop 5).take 4)
    refine Nat.lt_of_lt_of_le h1 ?_
    exact Nat.pow_le_pow_right (by omega) (show 8 * ((l.drop 5).take 4).length ≤ 32 by rw [List.length_take]; omega)
set_option maxRecDepth 100000 in
theorem sl.get_len {b : dk.Blk} (hb : b.length = 128) (h : (sl.get b).2.2 = 0) : (sl.get b).2.1.length = 108 := by
  obtain ⟨_, _, _, h4⟩ := sl.get_ok h
  rw [h4, List.length_take, List.length_drop]
  omega
end Go.Proofs.YtknndmhkfonfmaaDoor

/-
  contracts of bytes.Clone, cardexref00.Copy, Wide, Left, Spoil.
-/
namespace Go.Proofs.YtknndmhkfonfmaaDoor
open Go.RowKit

theorem clone_any (A : Option Addr) (n c : Nat) (l : List UInt8) (w : World) (h : BS w A n c l) (hn : n ≤ 140737488355320) :
    Calls Tryd.prog 62 #[.slice A n c] w (OwnEnd 5 l w) := by
  obtain ⟨i0, hi, hz0, hz1, hz2⟩ := info_parts info_u8
  have k1 := fun W => Lib.run_eql_slice_nil (P := Tryd.prog) W 23 5 A n c 0 0 Tryd.underlying23
  cases A with
  | none =>
    obtain ⟨rfl, rfl⟩ := bs_none h
    go_enter Tryd.func62, Tryd.ntmps62
    go_wp2_with fail
    go_ret
    exact ⟨_, rfl, OwnB.nil_ _ _ _, Below.refl _ _⟩
  | some a =>
    go_enter Tryd.func62, Tryd.ntmps62
    go_wp2_with (at_builtin; refine wpList_append_bytes _ rfl (.tmp 5) (.tmp 6) 23 rfl 5 i0 Tryd.underlying23 hi hz0 hz1 hz2 w.heap.size _ _ rfl (own_empty w _) (some a) n c l rfl (h.alloc _) (by simp; omega) (by simp) ?_; intro v1 w1 ho1 hg1 _ _)
    go_ret
    exact ⟨_, rfl, ho1, OwnB.step ((Below.refl _ _).alloc (Nat.le_refl _) _) (own_empty w _) hg1 (by simp)⟩

theorem copy_any (A : Option Addr) (n c : Nat) (l : List UInt8) (w : World) (h : BS w A n c l) (hn : n ≤ 140737488355320) :
    Calls Tryd.prog 11 #[.slice A n c] w (OwnEnd 5 l w) := by
  obtain ⟨i0, hi, hz0, hz1, hz2⟩ := info_parts info_u8
  go_enter Tryd.func11, Tryd.ntmps11
  go_wp2_with (at_builtin; refine wpList_append_bytes _ rfl (.tmp 4) (.tmp 5) 23 rfl 5 i0 Tryd.underlying23 hi hz0 hz1 hz2 w.heap.size _ _ rfl (OwnB.nil_ _ _ _) A n c l rfl h (by simp; omega) (Nat.le_refl _) ?_; intro v1 w1 ho1 hg1 _ _)
  go_ret
  exact ⟨_, rfl, ho1, OwnB.step (Below.refl _ _) (OwnB.nil_ 5 _ w.heap.size) hg1 (Nat.le_refl _)⟩

theorem wide_step (l : List UInt8) (n j : Nat) (hl : l.length = n) (hj : j < n + 3) (x : UInt8) (hx : (l ++ [7, 7, 7])[j]? = some x) :
    ((l ++ [7, 7, 7]).take j ++ List.replicate (n + 3 - j) 0).set j x = (l ++ [7, 7, 7]).take (j + 1) ++ List.replicate (n + 3 - (j + 1)) 0 := by
  have hj' : j < (l ++ [7, 7, 7]).length := by simp; omega
  rw [List.set_append_right _ _ (by simp; omega), show j - (List.take j (l ++ [7, 7, 7])).length = 0 from by simp; omega, show n + 3 - j = (n + 3 - (j + 1)) + 1 from by omega, List.replicate_succ, List.set_cons_zero,
    List.take_succ_eq_append_getElem hj']
  rw [List.getElem?_eq_getElem hj'] at hx
  rw [Option.some.inj hx]
  simp




end Go.Proofs.YtknndmhkfonfmaaDoor

/-
  THE PROGRAM's seal: contracts of part, sum, numberIn, layNumber.
-/
namespace Go.Proofs.YtknndmhkfonfmaaDoor
open Go.RowKit

theorem bs_mid_row {e : TypeId} {w : World} {g : Nat} {bl : List UInt8} (h : RowB e w g bl) {at_ k : Nat} (hk : at_ + k ≤ bl.length) (hs : k ≤ 281474976710656) : BS w (some ⟨g, at_, none⟩) k k ((bl.drop at_).take k) :=
  ⟨by rw [List.length_take, List.length_drop]; omega, Nat.le_refl _, by omega, hs, fun _ => ⟨g, at_, rfl, h.lt, fun i hi => by
    rw [List.length_take, List.length_drop] at hi
    rw [h.cell (i := at_ + i) (by omega), List.getElem_take, List.getElem_drop]⟩⟩
theorem chg_setRow (w : World) (g : Nat) (cs : Array Value) : Chg w (w.setRow g cs) [g] :=
  ⟨rfl, rfl, rfl, by simp [World.setRow], fun k _ hn => setRow_other w g k cs (fun e => hn (by rw [List.mem_singleton]; exact e))⟩
theorem splice_map (bl l : List UInt8) (off : Nat) : splice (bl.map bv) off (l.map bv) = (splice bl off l).map bv := by
  simp [splice]
/-- BYTES ARE COPIED INTO A BLOCK OF BYTES: as many as there is room for -/
theorem wpList_copy_bytes {P : Program} {w : World} {ops : Array Oper} {rest : List Oper} {o : Oper} {a : Act} {Q : Exit → Act → World → Prop} (hgd : o.guard = none) (d s : Operand) (dT sT : TypeId)
    (ho : o.op = .call { callee := .builtin .copy, args := #[d, s], argTypes := #[dT, sT] }) (elem : TypeId) (hu : P.underlying dT = some (.slice elem)) (hsz : (P.info? elem).map (·.size) = some 1)
    {E : TypeId} {g off dLen dCap sLen sCap : Nat} {sp : Option Addr} {bl l : List UInt8} (hr : RowB E w g bl) (hd : a.eval d = .slice (some ⟨g, off, none⟩) dLen dCap) (hs : a.eval s = .slice sp sLen sCap) (hb : BS w sp sLen sCap l)
    (hfit : off + dLen ≤ bl.length)
    (h : ∀ w', RowB E w' g (splice bl off (l.take dLen)) → Chg w w' [g] → wpList P ops Q rest (a.put o.dst (goInt (l.take dLen).length)) w') :
    wpList P ops Q (o :: rest) a w := by
  have hl := hb.len
  have hm : (l.take dLen).length = Nat.min sLen dLen := by rw [List.length_take, hl]; exact Nat.min_comm _ _
  have hle : Nat.min sLen dLen ≤ dLen := Nat.min_le_right _ _
  by_cases h0 : Nat.min sLen dLen = 0
  · have hn : l.take dLen = [] := List.eq_nil_of_length_eq_zero (hm.trans h0)
    refine wpList_copy_nothing hgd d s dT sT ho elem hu hsz _ sp dLen dCap sLen sCap hd hs h0 ?_
    have := h w (by rw [hn]; simpa [splice] using hr) (Chg.refl _ _)
    rwa [hn] at this
  · have hpos : 0 < sLen := by
      rcases Nat.eq_zero_or_pos sLen with h1 | h1
      · exact absurd (by rw [h1]; exact Nat.zero_min _) h0
      · exact h1
    obtain ⟨b, o2, rfl, _, hc⟩ := hb.has hpos
    have hlen : ((l.take dLen).map bv).length = (l.take dLen).length := List.length_map ..
    refine wpList_copy_own hgd d s dT sT ho elem hu hsz g off dLen dCap ⟨b, o2, none⟩ sLen sCap hd hs _ _ hr ((l.take dLen).map bv) (by rw [hlen, hm]) ?_ ?_ (bvs_one _) ?_
    · intro j v hv
      rw [List.getElem?_map] at hv
      obtain ⟨y, hy, rfl⟩ := Option.map_eq_some_iff.1 hv
      have hj : j < l.length := by
        have := (List.getElem?_eq_some_iff.1 hy).1
        rw [List.length_take] at this
        omega
      have hy2 : l[j]? = some y := by
        rw [List.getElem?_take] at hy
        split at hy
        · exact hy
        · cases hy
      obtain ⟨_, rfl⟩ := List.getElem?_eq_some_iff.1 hy2
      rw [Addr.add_lit]
      exact hc j hj
    · rw [hlen, hm, List.size_toArray, List.length_map]
      omega
    · have h1 := setRow_heap w g _ ((((bl.map bv).toArray.toList.take off ++ ((l.take dLen).map bv ++ (bl.map bv).toArray.toList.drop (off + ((l.take dLen).map bv).length)))).toArray) E _ hr
      rw [hlen]
      refine h _ ?_ (chg_setRow _ _ _)
      rw [hlen] at h1
      refine h1.trans ?_
      simp only [splice, List.map_append, List.map_take, List.map_drop]

theorem blk_array : Tryd.prog.underlying 62 = some (.array (Tryd.prog.arrayLen 62) (Tryd.prog.elem 62)) := by kernel_rfl
theorem blk_len : Tryd.prog.arrayLen 62 = 128 := by kernel_rfl
theorem blk_elem : Tryd.prog.elem 62 = 5 := by kernel_rfl
theorem run_cut_blk (W : World) (g at_ k : Nat) (hk : 0 < k) (hat : at_ + k ≤ 128) :
    (Instr.sliceAt 62 (.pointer (some ⟨g, 0, none⟩)) (some (.int .i64 at_)) (some (.int .i64 ((at_ : Int) + (k : Int)))) (some (.int .i64 ((at_ : Int) + (k : Int))))).run Tryd.prog W = .ok (.slice (some ⟨g, at_, none⟩) k k) W := by
  obtain ⟨i0, hi, hz0, hz1, hz2⟩ := info_parts info_u8
  rw [run_sliceAt_array_lhm W 62 _ blk_array .i64 .i64 .i64 at_ (at_ + k) (at_ + k) (by omega) (by omega) (Int.le_refl _) (by rw [blk_len]; omega), blk_elem]
  have e1 : ((at_ : Int) + (k : Int)).toNat = at_ + k := by omega
  have e2 : (at_ : Int).toNat = at_ := by omega
  have e3 : at_ + k ≠ at_ := by omega
  simp only [sizeOf, typeInfo, Sem.run_bind, slicedAt, e1, e2, if_neg e3, Addr.add_lit, Nat.zero_add, Nat.add_sub_cancel_left]
  simp [hi, hz1, Result.andThen]

/-- part: the block's own bytes -/
theorem part_any (g at_ k : Nat) (w : World) (hk : 0 < k) (hat : at_ + k ≤ 128) :
    Calls Tryd.prog 66 #[.pointer (some ⟨g, 0, none⟩), .int .i64 at_, .int .i64 k] w fun e w' => e = .returned (.slice (some ⟨g, at_, none⟩) k k) ∧ w = w' := by
  have hc := run_cut_blk w g at_ k hk hat
  have h1 : ¬ at_ + k = at_ := by omega
  go_enter Tryd.func66, Tryd.ntmps66
  go_wp2
  go_ret
  exact ⟨rfl, rfl⟩

/-- numberIn: the number that stands at a place -/
theorem numberIn_any (E : TypeId) (g at_ k : Nat) (b : dk.Blk) (hb : b.length = 128) (w : World) (hr : RowB E w g b) (hz : isSz k = true) (hat : at_ + k ≤ 128) :
    Calls Tryd.prog 71 #[.pointer (some ⟨g, 0, none⟩), .int .i64 at_, .int .i64 k] w fun e w' => e = .returned (.int .u64 (leVal ((b.drop at_).take k))) ∧ w = w' := by
  have hk : 0 < k ∧ k ≤ 8 := by rcases isSz_cases hz with h | h | h | h <;> omega
  have hp := part_any g at_ k w hk.1 hat
  have hg := get_yes _ k k ((b.drop at_).take k) 0 k w (bs_mid_row hr (at_ := at_) (k := k) (by omega) (by omega)) hz (by omega)
  rw [List.drop_zero, List.take_take, Nat.min_self] at hg
  generalize leVal ((b.drop at_).take k) = V at *
  have HP := Lib.hid hp
  have HG := Lib.hid hg
  clear hp hg
  go_enter Tryd.func71, Tryd.ntmps71
  go_wp2_with fail
  refine HP.out.mono ?_
  rintro e w1 ⟨rfl, rfl⟩
  go_wp2_with fail
  refine HG.out.mono ?_
  rintro e w1 ⟨rfl, rfl⟩
  go_wp2_with fail
  go_ret
  exact ⟨rfl, rfl⟩

/-- sum: of the number and the body -/
theorem sum_any (E : TypeId) (g : Nat) (b : dk.Blk) (hb : b.length = 128) (w : World) (hr : RowB E w g b) (ht : Tab w) :
    Calls Tryd.prog 67 #[.pointer (some ⟨g, 0, none⟩)] w fun e w' => e = .returned (wv (crc.of (b.take 116))) ∧ w = w' := by
  have hp := part_any g 0 116 w (by omega) (by omega)
  have ho := of_any _ 116 116 _ w (bs_mid_row hr (at_ := 0) (k := 116) (by omega) (by omega)) ht
  rw [List.drop_zero] at ho
  generalize crc.of (b.take 116) = V at *
  have HP := Lib.hid hp
  have HO := Lib.hid ho
  clear hp ho
  go_enter Tryd.func67, Tryd.ntmps67
  go_wp2_with fail
  refine HP.out.mono ?_
  rintro e w1 ⟨rfl, rfl⟩
  go_wp2_with fail
  refine HO.out.mono ?_
  rintro e w1 ⟨rfl, rfl⟩
  go_wp2_with fail
  go_ret
  exact ⟨rfl, rfl⟩

/-- layNumber: a number's bytes are laid -/
theorem layNumber_any (E : TypeId) (g at_ k n : Nat) (b : dk.Blk) (hb : b.length = 128) (w : World) (hr : RowB E w g b) (hz : isSz k = true) (hat : at_ + k ≤ 128) (hn : putOk n k = true) :
    Calls Tryd.prog 65 #[.pointer (some ⟨g, 0, none⟩), .int .i64 at_, .int .i64 k, .int .u64 n] w fun e w' => e = .returned (.tuple #[]) ∧ RowB E w' g (splice b at_ (leBytes n k)) ∧ Chg w w' [g] := by
  have hk : 0 < k ∧ k ≤ 8 := by rcases isSz_cases hz with h | h | h | h <;> omega
  have hput := put_yes n k w hn
  have hll := leBytes_length n k
  have hlt : (leBytes n k).take k = leBytes n k := List.take_of_length_le (by rw [hll]; exact Nat.le_refl _)
  have HT := Lib.hid hlt
  have HLL := Lib.hid hll
  have HP := Lib.hid hput
  clear hput hlt hll
  go_enter Tryd.func65, Tryd.ntmps65
  go_wp2_with fail
  refine HP.out.mono ?_
  rintro e w1 ⟨v, rfl, ho, hb1⟩
  obtain ⟨A1, c1, rfl, hB⟩ := ho.form
  rw [HLL.out] at hB ho ⊢
  have hr1 := hr.below hb1 hr.lt
  go_wp2_with fail
  refine (part_any g at_ k _ hk.1 hat).mono ?_
  rintro e w2 ⟨rfl, rfl⟩
  go_wp2_with (refine wpList_copy_bytes rfl (.tmp 19) (.tmp 20) 23 23 rfl 5 Tryd.underlying23 (by kernel_rfl) hr1 rfl rfl hB (by omega) ?_; intro w3 hr3 hc3; rw [HT.out] at hr3)
  go_end0
  exact ⟨rfl, hr3, (Chg.of_below hb1 [g]).trans hc3 (Sub.refl _ _)⟩
end Go.Proofs.YtknndmhkfonfmaaDoor

/-
  THE PROGRAM's seal: contracts of Put, Get, Newest, Next.
-/
namespace Go.Proofs.YtknndmhkfonfmaaDoor
open Go.RowKit

theorem splice_at {α : Type} (p m r x : List α) (hx : x.length = m.length) (k : Nat) (hk : k = p.length) : splice (p ++ (m ++ r)) k x = p ++ (x ++ r) := by
  subst hk
  unfold splice
  rw [List.take_left' rfl, hx, List.drop_append, List.drop_of_length_le (by omega), List.nil_append, Nat.add_sub_cancel_left, List.drop_left' rfl]
theorem splice_length {α : Type} (L : List α) (off : Nat) (cs : List α) (h : off + cs.length ≤ L.length) : (splice L off cs).length = L.length := Go.length_splice L off cs h
namespace sl
theorem rep_split (a b : Nat) : List.replicate (a + b) (0 : UInt8) = List.replicate a 0 ++ List.replicate b 0 := List.replicate_append_replicate.symm
/-- how a block is laid -/
theorem lay1 (n : Nat) : splice dk.zero 0 (leBytes n 8) = leBytes n 8 ++ List.replicate 120 0 := by
  have h := splice_at [] (List.replicate 8 (0 : UInt8)) (List.replicate 120 0) (leBytes n 8) (by rw [leBytes_length, List.length_replicate]) 0 rfl
  rw [← rep_split] at h
  exact h
theorem lay2 (n : Nat) {body : List UInt8} (h : body.length ≤ 108) : splice (leBytes n 8 ++ List.replicate 120 0) 8 body = head n body ++ List.replicate 12 0 := by
  have h1 := splice_at (leBytes n 8) (List.replicate body.length (0 : UInt8)) (List.replicate (120 - body.length) 0) body (by rw [List.length_replicate]) 8 (leBytes_length n 8).symm
  rw [← rep_split, show body.length + (120 - body.length) = 120 from by omega] at h1
  rw [h1, head, show 120 - body.length = (108 - body.length) + 12 from by omega, rep_split, List.append_assoc, List.append_assoc]
theorem lay3 (n : Nat) {body : List UInt8} (h : body.length ≤ 108) (s : Nat) : splice (head n body ++ List.replicate 12 0) 116 (leBytes s 4) = head n body ++ (leBytes s 4 ++ List.replicate 8 0) := by
  have h1 := splice_at (head n body) (List.replicate 4 (0 : UInt8)) (List.replicate 8 0) (leBytes s 4) (by rw [leBytes_length, List.length_replicate]) 116 (head_length n h).symm
  rw [← rep_split] at h1
  exact h1
theorem lay4 (n : Nat) {body : List UInt8} (h : body.length ≤ 108) (s m : Nat) : splice (head n body ++ (leBytes s 4 ++ List.replicate 8 0)) 120 (leBytes m 8) = head n body ++ (leBytes s 4 ++ leBytes m 8) := by
  have h1 := splice_at (head n body ++ leBytes s 4) (List.replicate 8 (0 : UInt8)) [] (leBytes m 8) (by rw [leBytes_length, List.length_replicate]) 120 (by rw [List.length_append, head_length n h, leBytes_length])
  rw [List.append_nil, List.append_nil, List.append_assoc, List.append_assoc] at h1
  exact h1
end sl
theorem u64_not (n : Nat) (hn : n < 18446744073709551616) : bits .xor .u64 IntKind.u64.max (n : Int) = ((18446744073709551615 - n : Nat) : Int) := by
  have e : (IntKind.u64.max : Int) = ((18446744073709551615 : Nat) : Int) := rfl
  rw [e, u64_xor_nat _ _ (by omega) hn]
  congr 1
  have h1 : (BitVec.allOnes 64 ^^^ BitVec.ofNat 64 n).toNat = 18446744073709551615 - n := by
    rw [BitVec.allOnes_xor, BitVec.toNat_not, BitVec.toNat_ofNat, Nat.mod_eq_of_lt (by omega)]
  rw [BitVec.toNat_xor, BitVec.toNat_ofNat, Nat.mod_eq_of_lt (by omega)] at h1
  exact h1

set_option maxHeartbeats 4000000 in
set_option maxRecDepth 100000 in
theorem cs_put (n : Nat) (hn : n < 18446744073709551616) (A : Option Addr) (k c : Nat) (body : List UInt8) (w : World) (h : BS w A k c body) (ht : Tab w) : Calls Tryd.prog 52 #[.int .u64 n, .slice A k c] w fun e w' =>
    e = .returned (.tuple #[dk.val (sl.put n body).1, .int .i64 (sl.put n body).2]) ∧ Below w.heap.size w w' := by
  obtain ⟨hz, -⟩ := zero_of_info zero_blk
  have hk := h.len
  have h1 := heap_alloc_new w (.cells (dk.cells dk.zero).toArray 62)
  have hb1 : Below w.heap.size w (w.alloc (.cells (dk.cells dk.zero).toArray 62)) := (Below.refl _ _).alloc (Nat.le_refl _) _
  by_cases h0 : n = 0
  · have hp : sl.put n body = (dk.zero, 2) := if_pos h0
    have HP := Lib.hid hp
    have h0' : ((n : Int) == 0) = true := by simp [h0]
    clear hp h0
    go_enter Tryd.func52, Tryd.ntmps52
    go_wp2_with (refine wp_st0 (.tmp 4) (.tmp 9) dk.zero h1 zero_len zero_len rfl rfl rfl rfl ?_; intro W hW hc)
    refine bodyPost_ret (results_cell_tmp rfl rfl (blk_load (blk_range hW) zero_len)) rfl ⟨?_, (Chg.of_below hb1 [w.heap.size]).trans hc (Sub.refl _ _) |>.below (Nat.le_refl _) (fun k hk => by simp at hk; omega)⟩
    rw [HP.out]
    rfl
  · have h0' : ((n : Int) == 0) = false := by simp [h0]
    by_cases hlen : 108 < body.length
    · have hp : sl.put n body = (dk.zero, 3) := by rw [sl.put, if_neg h0, if_pos hlen]
      have HP := Lib.hid hp
      have hlen' : (108 : Int) < (k : Int) := by omega
      clear hp
      go_enter Tryd.func52, Tryd.ntmps52
      go_wp2_with (refine wp_st0 (.tmp 4) (.tmp 13) dk.zero h1 zero_len zero_len rfl rfl rfl rfl ?_; intro W hW hc)
      refine bodyPost_ret (results_cell_tmp rfl rfl (blk_load (blk_range hW) zero_len)) rfl ⟨?_, (Chg.of_below hb1 [w.heap.size]).trans hc (Sub.refl _ _) |>.below (Nat.le_refl _) (fun k hk => by simp at hk; omega)⟩
      rw [HP.out]
      rfl
    · have hp : sl.put n body = (sl.sealB n body, 0) := by rw [sl.put, if_neg h0, if_neg hlen]
      have HP := Lib.hid hp
      have hlen' : ¬ (108 : Int) < (k : Int) := by omega
      have hbl : body.length ≤ 108 := by omega
      have h1' := (Below.heap_alloc (w.alloc (.cells (dk.cells dk.zero).toArray 62)) (.cells (dk.cells dk.zero).toArray 62) w.heap.size (by simp)).trans h1
      have h2 := heap_alloc_new (w.alloc (.cells (dk.cells dk.zero).toArray 62)) (.cells (dk.cells dk.zero).toArray 62)
      rw [show (w.alloc (.cells (dk.cells dk.zero).toArray 62)).heap.size = w.heap.size + 1 from by simp] at h2
      have hb2 : Below w.heap.size w ((w.alloc (.cells (dk.cells dk.zero).toArray 62)).alloc (.cells (dk.cells dk.zero).toArray 62)) := hb1.alloc (by simp) _
      have hsz2 : w.heap.size + 1 < ((w.alloc (.cells (dk.cells dk.zero).toArray 62)).alloc (.cells (dk.cells dk.zero).toArray 62)).heap.size := by simp
      obtain ⟨W2, hW2⟩ : ∃ W2, (w.alloc (.cells (dk.cells dk.zero).toArray 62)).alloc (.cells (dk.cells dk.zero).toArray 62) = W2 := ⟨_, rfl⟩
      clear hp hlen h1
      go_enter Tryd.func52, Tryd.ntmps52
      go_wp2_with fail
      rw [hW2] at h1' h2 hb2 hsz2
      have r2 : RowB 62 W2 (w.heap.size + 1) dk.zero := h2
      refine (layNumber_any _ (w.heap.size + 1) 0 8 n dk.zero zero_len W2 r2 (by rfl) (by omega) (put8 n hn)).mono ?_
      rintro e w3 ⟨rfl, r3, c3⟩
      rw [sl.lay1] at r3
      have b3 := (Chg.of_below hb2 [w.heap.size + 1]).trans c3 (Sub.refl _ _) |>.below (Nat.le_refl _) (fun k hk => by simp at hk; omega)
      have z3 := (c3.block w.heap.size (by omega) (by simp)).trans h1'
      clear c3 r2 h2 hW2 hb2 h1' hsz2
      go_wp2_with fail
      refine (part_any (w.heap.size + 1) 8 108 _ (by omega) (by omega)).mono ?_
      rintro e w4 ⟨rfl, rfl⟩
      have hB3 := h.below b3
      have htk : body.take 108 = body := List.take_of_length_le hbl
      have HTK := Lib.hid htk
      have hl3 : 8 + 108 ≤ (leBytes n 8 ++ List.replicate 120 0 : List UInt8).length := by rw [List.length_append, leBytes_length, List.length_replicate]; omega
      clear htk
      go_wp2_with (refine wpList_copy_bytes rfl (.tmp 16) (.tmp 17) 23 23 rfl 5 Tryd.underlying23 (by kernel_rfl) r3 rfl rfl hB3 hl3 ?_; intro w5 r5 c5; rw [HTK.out, sl.lay2 n hbl] at r5)
      have b5 := (Chg.of_below b3 [w.heap.size + 1]).trans c5 (Sub.refl _ _) |>.below (Nat.le_refl _) (fun k hk => by simp at hk; omega)
      have z5 := (c5.block w.heap.size (by have := r3.lt; omega) (by simp)).trans z3
      have hd5 := sl.head_length n hbl
      have hl5 : (sl.head n body ++ List.replicate 12 0 : List UInt8).length = 128 := by rw [List.length_append, hd5, List.length_replicate]
      have ht5 : (sl.head n body ++ List.replicate 12 0 : List UInt8).take 116 = sl.head n body := List.take_left' hd5
      have hsum := sum_any _ (w.heap.size + 1) _ hl5 w5 r5 (ht.below b5)
      rw [ht5] at hsum
      obtain ⟨s, hs⟩ : ∃ s, crc.of (sl.head n body) = s := ⟨_, rfl⟩
      rw [hs] at hsum
      have hslt := s.isLt
      have HSUM := Lib.hid hsum
      have HS := Lib.hid hs
      have hlay := layNumber_any _ (w.heap.size + 1) 116 4 s.toNat _ hl5 w5 r5 (by rfl) (by omega) (put4 s.toNat (by omega))
      rw [sl.lay3 n hbl] at hlay
      have HLAY := Lib.hid hlay
      clear hsum hs hlay ht5 c5 hl3 HTK hB3 z3 r3 b3
      refine HSUM.out.mono ?_
      rintro e w6 ⟨rfl, rfl⟩
      go_wp2_with fail
      refine HLAY.out.mono ?_
      rintro e w7 ⟨rfl, r7, c7⟩
      have b7 := (Chg.of_below b5 [w.heap.size + 1]).trans c7 (Sub.refl _ _) |>.below (Nat.le_refl _) (fun k hk => by simp at hk; omega)
      have z7 := (c7.block w.heap.size (by have := r5.lt; omega) (by simp)).trans z5
      have hl7 : (sl.head n body ++ (leBytes s.toNat 4 ++ List.replicate 8 0) : List UInt8).length = 128 := by rw [List.length_append, hd5, List.length_append, leBytes_length, List.length_replicate]
      have hlay := layNumber_any _ (w.heap.size + 1) 120 8 (18446744073709551615 - n) _ hl7 w7 r7 (by rfl) (by omega) (put8 _ (by omega))
      rw [sl.lay4 n hbl, ← u64_not n hn] at hlay
      have HLAY2 := Lib.hid hlay
      clear hlay HLAY HSUM c7 z5 b5
      go_wp2_with fail
      refine HLAY2.out.mono ?_
      rintro e w8 ⟨rfl, r8, c8⟩
      have b8 := (Chg.of_below b7 [w.heap.size + 1]).trans c8 (Sub.refl _ _) |>.below (Nat.le_refl _) (fun k hk => by simp at hk; omega)
      have z8 := (c8.block w.heap.size (by have := r7.lt; omega) (by simp)).trans z7
      have hfin : sl.head n body ++ (leBytes s.toNat 4 ++ leBytes (18446744073709551615 - n) 8) = sl.sealB n body := by rw [sl.sealB, HS.out, sl.last]
      rw [hfin] at r8
      have hsl := sl.seal_length n hbl
      have hrg := blk_range r8
      clear hfin HLAY2 c8 z7 b7 hl7 r7 hd5
      go_wp2_with (first | refine wp_ld (.tmp 6) (sl.sealB n body) hrg hsl rfl rfl rfl ?_ | (refine wp_st0 (.tmp 4) (.tmp 25) (sl.sealB n body) z8 zero_len hsl rfl rfl rfl rfl ?_; intro W hW hc))
      refine bodyPost_ret (results_cell_tmp rfl rfl (blk_load (blk_range hW) hsl)) rfl ⟨?_, (Chg.of_below b8 [w.heap.size]).trans hc (Sub.refl _ _) |>.below (Nat.le_refl _) (fun k hk => by simp at hk; omega)⟩
      rw [HP.out]
      rfl

set_option maxHeartbeats 4000000 in
set_option maxRecDepth 100000 in
theorem cs_get (b : dk.Blk) (hb : b.length = 128) (w : World) (ht : Tab w) : Calls Tryd.prog 58 #[dk.val b] w fun e w' =>
    ∃ v, e = .returned (.tuple #[.int .u64 (sl.get b).1, v, .int .i64 (sl.get b).2.2]) ∧ OwnB 5 w' w.heap.size v (sl.get b).2.1 ∧ Below w.heap.size w w' := by
  have hr1 : RowB 62 (w.alloc (.cells (dk.cells b).toArray 62)) w.heap.size b := heap_alloc_new w _
  have hb1 : Below w.heap.size w (w.alloc (.cells (dk.cells b).toArray 62)) := (Below.refl _ _).alloc (Nat.le_refl _) _
  obtain ⟨W, hW⟩ : ∃ W, w.alloc (.cells (dk.cells b).toArray 62) = W := ⟨_, rfl⟩
  rw [hW] at hr1 hb1
  obtain ⟨N, hN⟩ : ∃ N, sl.number b = N := ⟨_, rfl⟩
  have hNlt := sl.number_lt b
  rw [hN] at hNlt
  have g1 := numberIn_any _ w.heap.size 0 8 b hb W hr1 (by rfl) (by omega)
  rw [List.drop_zero, show leVal (b.take 8) = N from hN] at g1
  have G1 := Lib.hid g1
  obtain ⟨L, hL⟩ : ∃ L, leVal (b.drop 120) = L := ⟨_, rfl⟩
  have g2 := numberIn_any _ w.heap.size 120 8 b hb W hr1 (by rfl) (by omega)
  rw [List.take_of_length_le (by rw [List.length_drop]; omega), hL] at g2
  have G2 := Lib.hid g2
  have hlast : L = 18446744073709551615 - N ↔ b.drop 120 = sl.last N := by
    rw [← hL, sl.last]
    constructor
    · intro e
      rw [← e]
      exact (leBytes_val _ _ (by rw [List.length_drop]; omega)).symm
    · intro e
      rw [e, leVal_bytes]
      exact Nat.mod_eq_of_lt (by omega)
  have hnot := u64_not N hNlt
  have HW := Lib.hid hW
  clear g1 g2 hW
  go_enter Tryd.func58, Tryd.ntmps58
  go_wp2_with fail
  rw [HW.out]
  refine G1.out.mono ?_
  rintro e w1 ⟨rfl, rfl⟩
  by_cases h0 : N = 0
  · have hget : sl.get b = (0, [], 5) := by unfold sl.get; rw [if_pos (.inl (hN.trans h0))]
    have HG := Lib.hid hget
    have h0' : ((N : Int) == 0) = true := by simp [h0]
    clear hget G1 G2 HW hnot
    go_wp2_with fail
    go_ret3
    exact ⟨_, by rw [HG.out]; rfl, by rw [HG.out]; exact OwnB.nil_ _ _ _, hb1⟩
  · have h0' : ((N : Int) == 0) = false := by simp [h0]
    clear G1 HW
    go_wp2_with fail
    refine G2.out.mono ?_
    rintro e w1 ⟨rfl, rfl⟩
    obtain ⟨M, hM⟩ : ∃ M, 18446744073709551615 - N = M := ⟨_, rfl⟩
    rw [hM] at hlast hnot
    have hnot' : bits .xor .u64 (if IntKind.u64.signed = true then -1 else IntKind.u64.max) (N : Int) = (M : Int) := by rw [if_neg (by decide)]; exact hnot
    by_cases hl : L = M
    · have hne : ((L : Int) != (M : Int)) = false := by simp [hl]
      have hdl := hlast.1 hl
      obtain ⟨V, hV⟩ : ∃ V, leVal ((b.drop 116).take 4) = V := ⟨_, rfl⟩
      have g3 := numberIn_any _ w.heap.size 116 4 b hb W hr1 (by rfl) (by omega)
      rw [hV] at g3
      obtain ⟨s, hs⟩ : ∃ s, crc.of (b.take 116) = s := ⟨_, rfl⟩
      have g4 := sum_any _ w.heap.size b hb W hr1 (ht.below hb1)
      rw [hs] at g4
      have hslt := s.isLt
      have G3 := Lib.hid g3
      have G4 := Lib.hid g4
      have HV := Lib.hid hV
      have HS := Lib.hid hs
      clear g3 g4 hV hs G2 hlast
      by_cases hsum : V = s.toNat
      · have hget : sl.get b = (N, (b.drop 8).take 108, 0) := by
          unfold sl.get
          rw [if_neg (by rw [hN, hdl]; simpa using h0), if_neg (by rw [HV.out, HS.out]; simpa using hsum), hN]
        have HG := Lib.hid hget
        have hne2 : ((V : Int) != (s.toNat : Int)) = false := by simp [hsum]
        have hcl := clone_any _ 108 108 _ W (bs_mid_row hr1 (at_ := 8) (k := 108) (by omega) (by omega)) (by omega)
        have HCL := Lib.hid hcl
        clear hget hsum hcl hl hdl hN hL
        go_wp2_with fail
        refine G3.out.mono ?_
        rintro e w1 ⟨rfl, rfl⟩
        go_wp2_with fail
        refine G4.out.mono ?_
        rintro e w1 ⟨rfl, rfl⟩
        go_wp2_with fail
        refine (part_any w.heap.size 8 108 _ (by omega) (by omega)).mono ?_
        rintro e w1 ⟨rfl, rfl⟩
        go_wp2_with fail
        refine HCL.out.mono ?_
        rintro e w2 ⟨v, rfl, ho, hb2⟩
        go_wp2_with fail
        go_ret3
        exact ⟨_, by rw [HG.out]; rfl, by rw [HG.out]; exact ho.mono hb1.size, hb1.trans (hb2.mono hb1.size)⟩
      · have hget : sl.get b = (0, [], 6) := by
          unfold sl.get
          rw [if_neg (by rw [hN, hdl]; simpa using h0), if_pos (by rw [HV.out, HS.out]; simpa using hsum)]
        have HG := Lib.hid hget
        have hne2 : ((V : Int) != (s.toNat : Int)) = true := by rw [bne_iff_ne]; omega
        clear hget hl hdl hN hL
        go_wp2_with fail
        refine G3.out.mono ?_
        rintro e w1 ⟨rfl, rfl⟩
        go_wp2_with fail
        refine G4.out.mono ?_
        rintro e w1 ⟨rfl, rfl⟩
        go_wp2_with fail
        go_ret3
        exact ⟨_, by rw [HG.out]; rfl, by rw [HG.out]; exact OwnB.nil_ _ _ _, hb1⟩
    · have hget : sl.get b = (0, [], 5) := by
        unfold sl.get
        rw [if_pos (.inr (by rw [hN]; exact fun e => hl (hlast.2 e)))]
      have HG := Lib.hid hget
      have hne : ((L : Int) != (M : Int)) = true := by rw [bne_iff_ne]; omega
      clear hget hlast G2 hN hL
      go_wp2_with fail
      go_ret3
      exact ⟨_, by rw [HG.out]; rfl, by rw [HG.out]; exact OwnB.nil_ _ _ _, hb1⟩
end Go.Proofs.YtknndmhkfonfmaaDoor

/-
  THE PROGRAM's head: the table of sizes, May, bodyOf, headIn.
-/
namespace Go.Proofs.YtknndmhkfonfmaaDoor
open Go.RowKit

/-- the table of a head's sizes -/
structure Siz (w : World) : Prop where
  lt : 0 < w.heap.size
  c0 : w.cell? ⟨0, 0, none⟩ = some (.int .i64 1)
  c1 : w.cell? ⟨0, 1, none⟩ = some (.int .i64 4)
  c2 : w.cell? ⟨0, 2, none⟩ = some (.int .i64 4)
theorem Siz.below {w w' : World} (h : Siz w) (hb : Below w.heap.size w w') : Siz w' :=
  ⟨Nat.lt_of_lt_of_le h.lt hb.size, (hb.cell h.lt).trans h.c0, (hb.cell h.lt).trans h.c1, (hb.cell h.lt).trans h.c2⟩
theorem Siz.drew {w : World} (h : Siz w) : Siz w.drew := ⟨h.lt, h.c0, h.c1, h.c2⟩
theorem Siz.drewN {w : World} (h : Siz w) (k : Nat) : Siz (w.drewN k) := ⟨h.lt, h.c0, h.c1, h.c2⟩
theorem Siz.alloc {w : World} (h : Siz w) (o : Obj) : Siz (w.alloc o) := h.below ((Below.refl _ _).alloc (Nat.le_refl _) o)
/-- the program's tables, laid -/
structure Tabs (w : World) : Prop where
  tab : Tab w
  siz : Siz w
theorem Tabs.below {w w' : World} (h : Tabs w) (hb : Below w.heap.size w w') : Tabs w' := ⟨h.tab.below hb, h.siz.below hb⟩
theorem Tabs.drew {w : World} (h : Tabs w) : Tabs w.drew := ⟨h.tab.drew, h.siz.drew⟩
theorem Tabs.drewN {w : World} (h : Tabs w) (k : Nat) : Tabs (w.drewN k) := ⟨h.tab.drewN k, h.siz.drewN k⟩
theorem Tabs.alloc {w : World} (h : Tabs w) (o : Obj) : Tabs (w.alloc o) := ⟨h.tab.alloc o, h.siz.alloc o⟩

set_option maxRecDepth 100000 in
set_option maxHeartbeats 1000000 in
theorem ch_may (h : hd.H) (_hok : h.Ok) (w : World) : Calls Tryd.prog 51 #[hd.val h] w fun e w' => e = .returned (.bool (hd.may h)) ∧ Below w.heap.size w w' := by
  have m := HM.new w 51 h
  have hb : Below w.heap.size w (w.alloc (.cells #[bv h.bank, .int .u32 h.blocks, .int .u32 h.batches] 51)) := (Below.refl _ _).alloc (Nat.le_refl _) _
  have q0 := m.c0
  have q1 := m.c1
  have q2 := m.c2
  by_cases h1 : h.bank.toNat ≤ 1
  · by_cases h2 : h.blocks ≤ 4096
    · by_cases h3 : h.batches ≤ h.blocks
      · have hm : hd.may h = true := by simp [hd.may, h1, h2, h3]
        have HM' := Lib.hid hm
        have i1 : (h.bank.toNat : Int) ≤ 1 := by omega
        have i2 : (h.blocks : Int) ≤ 4096 := by omega
        have i3 : (h.batches : Int) ≤ (h.blocks : Int) := by omega
        clear hm
        go_enter Tryd.func51, Tryd.ntmps51
        go_wp2_with fail
        go_ret
        exact ⟨by rw [HM'.out]; rfl, hb⟩
      · have hm : hd.may h = false := by simp [hd.may, h3]
        have HM' := Lib.hid hm
        have i1 : (h.bank.toNat : Int) ≤ 1 := by omega
        have i2 : (h.blocks : Int) ≤ 4096 := by omega
        have i3 : ¬ (h.batches : Int) ≤ (h.blocks : Int) := by omega
        clear hm
        go_enter Tryd.func51, Tryd.ntmps51
        go_wp2_with fail
        go_ret
        exact ⟨by rw [HM'.out]; rfl, hb⟩
    · have hm : hd.may h = false := by simp [hd.may, h2]
      have HM' := Lib.hid hm
      have i1 : (h.bank.toNat : Int) ≤ 1 := by omega
      have i2 : ¬ (h.blocks : Int) ≤ 4096 := by omega
      clear hm
      go_enter Tryd.func51, Tryd.ntmps51
      go_wp2_with fail
      go_ret
      exact ⟨by rw [HM'.out]; rfl, hb⟩
  · have hm : hd.may h = false := by simp [hd.may, h1]
    have HM' := Lib.hid hm
    have i1 : ¬ (h.bank.toNat : Int) ≤ 1 := by omega
    clear hm
    go_enter Tryd.func51, Tryd.ntmps51
    go_wp2_with fail
    go_ret
    exact ⟨by rw [HM'.out]; rfl, hb⟩

namespace hd
/-- the first j numbers of a body -/
def part (h : H) : Nat → List UInt8
  | 0 => []
  | 1 => [h.bank]
  | 2 => [h.bank] ++ leBytes h.blocks 4
  | _ => bodyOf h
def nth (h : H) : Nat → Nat
  | 0 => h.bank.toNat
  | 1 => h.blocks
  | _ => h.batches
def siz : Nat → Nat
  | 0 => 1
  | _ => 4
theorem part_step (h : H) {j : Nat} (hj : j < 3) : part h j ++ leBytes (nth h j) (siz j) = part h (j + 1) := by
  have : j = 0 ∨ j = 1 ∨ j = 2 := by omega
  rcases this with rfl | rfl | rfl
  · simp [part, nth, siz, leBytes]
  · rfl
  · rfl
end hd
set_option maxHeartbeats 4000000 in
set_option maxRecDepth 100000 in
theorem hbody_any (h : hd.H) (hok : h.Ok) (w : World) (ht : Siz w) : Calls Tryd.prog 53 #[hd.val h] w (OwnEnd 5 (hd.bodyOf h) w) := by
  obtain ⟨i0, hi, hz0, hz1, hz2⟩ := info_parts info_u8
  have m := HM.new w 51 h
  have hb : Below w.heap.size w (w.alloc (.cells #[bv h.bank, .int .u32 h.blocks, .int .u32 h.batches] 51)) := (Below.refl _ _).alloc (Nat.le_refl _) _
  have ht1 := ht.below hb
  have q0 := m.c0
  have q1 := m.c1
  have q2 := m.c2
  have hw0 : IntKind.u64.wrap (h.bank.toNat : Int) = (h.bank.toNat : Int) := IntWalk.u64_in _ ⟨by omega, by have := h.bank.toNat_lt; omega⟩
  have hw1 : IntKind.u64.wrap (h.blocks : Int) = (h.blocks : Int) := IntWalk.u64_in _ ⟨by omega, by have := hok.blocks; omega⟩
  have hw2 : IntKind.u64.wrap (h.batches : Int) = (h.batches : Int) := IntWalk.u64_in _ ⟨by omega, by have := hok.batches; omega⟩
  go_enter Tryd.func53, Tryd.ntmps53
  go_wp2_with fail
  go_loopw [3, 18] (fun v t wr => ∃ j : Nat, t = .int .i64 j ∧ j ≤ 3 ∧ OwnB 5 wr w.heap.size v (hd.part h j) ∧ Below w.heap.size w wr) (fun _ t _ => 3 - (intOf t).toNat)
  case atStart => exact ⟨0, rfl, by omega, OwnB.nil_ _ _ _, hb⟩
  case round =>
    obtain ⟨j, rfl, hj, o, hbr⟩ := hrel
    by_cases hlt : j < 3
    · have hidx : ∀ W, (Instr.index 112 (.agg #[.int .u64 (h.bank.toNat : Int), .int .u64 (h.blocks : Int), .int .u64 (h.batches : Int)]) (.int .i64 (j : Int))).run Tryd.prog W = .ok (.int .u64 (hd.nth h j : Int)) W := fun W => by
        have : j = 0 ∨ j = 1 ∨ j = 2 := by omega
        rcases this with rfl | rfl | rfl <;> rfl
      have hcl : ∀ W : World, Siz W → W.cell? ⟨0, j, none⟩ = some (.int .i64 (hd.siz j : Int)) := fun W hW => by
        have : j = 0 ∨ j = 1 ∨ j = 2 := by omega
        rcases this with rfl | rfl | rfl
        · exact hW.c0
        · exact hW.c1
        · exact hW.c2
      have htr := ht.below hbr
      have hcr := hcl wr htr
      have hok1 : putOk (hd.nth h j) (hd.siz j) = true := by
        have : j = 0 ∨ j = 1 ∨ j = 2 := by omega
        have h0 := h.bank.toNat_lt
        have h1 := hok.blocks
        have h2 := hok.batches
        rcases this with rfl | rfl | rfl <;> simp [putOk, isSz, hd.nth, hd.siz] <;> omega
      have hput := put_yes (hd.nth h j) (hd.siz j) wr hok1
      have HPUT := Lib.hid hput
      have hst := hd.part_step h hlt
      have HST := Lib.hid hst
      have hlen : (hd.part h j).length ≤ 9 := by
        have : j = 0 ∨ j = 1 ∨ j = 2 := by omega
        rcases this with rfl | rfl | rfl <;> simp [hd.part, leBytes_length]
      have hs9 : hd.siz j ≤ 4 := by unfold hd.siz; split <;> omega
      generalize hd.nth h j = x at *
      generalize hd.siz j = y at *
      clear hput hst hcl hok1
      obtain ⟨A, c, rfl, hB⟩ := o.form
      go_wp2_with fail
      refine HPUT.out.mono ?_
      rintro e w1 ⟨v1, rfl, o1, b1⟩
      obtain ⟨A1, c1, rfl, hB1⟩ := o1.form
      rw [leBytes_length] at hB1
      have o0 := o.below b1 (Nat.le_refl _)
      have hbr1 := hbr.trans (b1.mono hbr.size)
      clear HPUT b1 hB
      rw [leBytes_length]
      go_wp2_with (at_builtin; refine wpList_append_bytes _ rfl (.tmp 30) (.tmp 31) 23 rfl 5 i0 Tryd.underlying23 hi hz0 hz1 hz2 w.heap.size _ _ rfl o0 A1 y c1 _ rfl hB1 (by omega) hbr1.size ?_; intro v2 w2 o2 hg2 _ _)
      go_roundw
      case rel => exact ⟨j + 1, by go_num, by omega, HST.out ▸ o2, OwnB.step hbr1 o0 hg2 hbr1.size⟩
      case measure => simp [intOf]; omega
    · obtain rfl : j = 3 := by omega
      go_wp2_with fail
      go_ret
      exact ⟨_, rfl, o, hbr⟩
namespace hd
/-- where the number j stands -/
def pos : Nat → Nat
  | 0 => 0
  | 1 => 1
  | 2 => 5
  | _ => 9
def nthIn (l : List UInt8) (j : Nat) : Nat := leVal ((l.drop (pos j)).take (siz j))
def got (l : List UInt8) (j i : Nat) : Nat := if i < j then nthIn l i else 0
theorem got_set (l : List UInt8) {j : Nat} (hj : j < 3) : (#[Value.int .u64 (got l j 0 : Int), .int .u64 (got l j 1 : Int), .int .u64 (got l j 2 : Int)]).setIfInBounds j (.int .u64 (nthIn l j : Int)) = #[.int .u64 (got l (j + 1) 0 : Int), .int .u64 (got l (j + 1) 1 : Int), .int .u64 (got l (j + 1) 2 : Int)] := by
  have : j = 0 ∨ j = 1 ∨ j = 2 := by omega
  rcases this with rfl | rfl | rfl <;> simp [got]
theorem headOf_nth (l : List UInt8) (hl : 9 ≤ l.length) : (headOf l).bank.toNat = nthIn l 0 ∧ (headOf l).blocks = nthIn l 1 ∧ (headOf l).batches = nthIn l 2 := by
  refine ⟨?_, rfl, rfl⟩
  obtain ⟨x, r, rfl⟩ : ∃ x r, l = x :: r := by
    cases l with
    | nil => simp at hl
    | cons x r => exact ⟨x, r, rfl⟩
  simp [headOf, nthIn, pos, siz, leVal]
end hd
theorem size_sizes : (Tryd.prog.info? 113).map (·.size) = some 3 := by kernel_rfl
set_option maxHeartbeats 4000000 in
set_option maxRecDepth 100000 in
theorem hin_any (A : Option Addr) (n c : Nat) (l : List UInt8) (w : World) (hB : BS w A n c l) (hn : 9 ≤ n) (ht : Siz w) : Calls Tryd.prog 59 #[.slice A n c] w fun e w' => e = .returned (hd.val (hd.headOf l)) ∧ Below w.heap.size w w' := by
  have m := HM.new w 51 hd.zero
  have b1 : Below w.heap.size w (w.alloc (.cells #[bv hd.zero.bank, .int .u32 hd.zero.blocks, .int .u32 hd.zero.batches] 51)) := (Below.refl _ _).alloc (Nat.le_refl _) _
  have m2 := m.alloc (.cells #[.int .u64 0, .int .u64 0, .int .u64 0] 112)
  have b2 := b1.alloc b1.size (.cells #[.int .u64 0, .int .u64 0, .int .u64 0] 112)
  have r2 := heap_alloc_new (w.alloc (.cells #[bv hd.zero.bank, .int .u32 hd.zero.blocks, .int .u32 hd.zero.batches] 51)) (.cells #[.int .u64 0, .int .u64 0, .int .u64 0] 112)
  rw [show (w.alloc (.cells #[bv hd.zero.bank, .int .u32 hd.zero.blocks, .int .u32 hd.zero.batches] 51)).heap.size = w.heap.size + 1 from by simp] at r2
  have hl := hB.len
  have ht2 := ht.below b2
  have hrg : ((w.alloc (.cells #[bv hd.zero.bank, .int .u32 hd.zero.blocks, .int .u32 hd.zero.batches] 51)).alloc (.cells #[.int .u64 0, .int .u64 0, .int .u64 0] 112)).rangeAt 0 0 [.int .i64 1, .int .i64 4, .int .i64 4] := fun j v hj => by
    match j with
    | 0 => exact ht2.c0.trans hj
    | 1 => exact ht2.c1.trans hj
    | 2 => exact ht2.c2.trans hj
    | j + 3 => simp at hj
  go_enter Tryd.func59, Tryd.ntmps59
  go_wp2_with (refine wpList_load_mid rfl _ _ rfl 0 0 rfl _ _ hrg Tryd.underlying113 rfl size_sizes ?_)
  clear hrg
  go_loopw [4, 8] (fun a t wr => ∃ j : Nat, t = .int .i64 j ∧ j ≤ 3 ∧ a = .int .i64 (hd.pos j : Int) ∧ HM 51 wr w.heap.size hd.zero ∧ wr.heap[w.heap.size + 1]? = some (.cells #[Value.int .u64 (hd.got l j 0 : Int), .int .u64 (hd.got l j 1 : Int), .int .u64 (hd.got l j 2 : Int)] 112 (0, 0)) ∧ Below w.heap.size w wr) (fun _ t _ => 3 - (intOf t).toNat)
  case atStart => exact ⟨0, rfl, by omega, rfl, m2, r2, b2⟩
  case round =>
    clear m m2 r2 b1 b2 ht2
    obtain ⟨j, rfl, hj, rfl, m, r, hbr⟩ := hrel
    by_cases hlt : j < 3
    · have hidx : ∀ W, (Instr.index 113 (.agg #[.int .i64 1, .int .i64 4, .int .i64 4]) (.int .i64 (j : Int))).run Tryd.prog W = .ok (.int .i64 (hd.siz j : Int)) W := fun W => by
        have : j = 0 ∨ j = 1 ∨ j = 2 := by omega
        rcases this with rfl | rfl | rfl <;> rfl
      have hat : hd.pos j + hd.siz j ≤ n ∧ isSz (hd.siz j) = true ∧ hd.pos j + hd.siz j = hd.pos (j + 1) ∧ hd.pos j ≤ 9 ∧ hd.siz j ≤ 4 := by
        have : j = 0 ∨ j = 1 ∨ j = 2 := by omega
        rcases this with rfl | rfl | rfl <;> simp [hd.pos, hd.siz, isSz] <;> omega
      obtain ⟨hat1, hat2, hat3, hat4, hat5⟩ := hat
      have hget := get_yes A n c l (hd.pos j) (hd.siz j) wr (hB.below hbr) hat2 hat1
      rw [show leVal ((l.drop (hd.pos j)).take (hd.siz j)) = hd.nthIn l j from rfl] at hget
      have HG := Lib.hid hget
      have hset := hd.got_set l hlt
      have hcx : wr.cell? ⟨w.heap.size + 1, j, none⟩ = some (.int .u64 (hd.got l j j : Int)) := by
        rw [cell_of_row _ _ j _ _ _ r]
        have : j = 0 ∨ j = 1 ∨ j = 2 := by omega
        rcases this with rfl | rfl | rfl <;> rfl
      have hfx : wr.frozen? ⟨w.heap.size + 1, j, none⟩ = false := by simp [World.frozen?, r]
      have hblk := block_set (i := j) r (.int .u64 (hd.nthIn l j : Int))
      rw [hset] at hblk
      have HBLK := Lib.hid hblk
      have hch := Chg.setCell wr (w.heap.size + 1) j (.int .u64 (hd.nthIn l j : Int))
      have HCH := Lib.hid hch
      have HAT := Lib.hid hat3
      generalize hd.nthIn l j = x at *
      generalize hd.siz j = y at *
      generalize hd.got l j j = z at *
      clear hget hset hblk hch hat3
      go_wp2_with fail
      refine HG.out.mono ?_
      rintro e w1 ⟨rfl, rfl⟩
      go_wp2_with fail
      go_roundw
      case rel => exact ⟨j + 1, by go_num, by omega, by rw [← HAT.out]; go_num, m.chg HCH.out (by simp), HBLK.out, hbr.trans (HCH.out.below hbr.size (fun k hk => by simp at hk; omega))⟩
      case measure => simp [intOf]; omega
    · obtain rfl : j = 3 := by omega
      obtain ⟨g0, g1, g2⟩ := hd.headOf_nth l (by omega)
      have hOk := hd.headOf_Ok l
      have k0 : wr.cell? ⟨w.heap.size + 1, 0, none⟩ = some (.int .u64 ((hd.headOf l).bank.toNat : Int)) := by rw [cell_of_row _ _ 0 _ _ _ r, g0]; rfl
      have k1 : wr.cell? ⟨w.heap.size + 1, 1, none⟩ = some (.int .u64 ((hd.headOf l).blocks : Int)) := by rw [cell_of_row _ _ 1 _ _ _ r, g1]; rfl
      have k2 : wr.cell? ⟨w.heap.size + 1, 2, none⟩ = some (.int .u64 ((hd.headOf l).batches : Int)) := by rw [cell_of_row _ _ 2 _ _ _ r, g2]; rfl
      have hb0 := (hd.headOf l).bank.toNat_lt
      have hb1 := hOk.blocks
      have hb2 := hOk.batches
      have hw0 : IntKind.u8.wrap ((hd.headOf l).bank.toNat : Int) = ((hd.headOf l).bank.toNat : Int) := IntWalk.u8_in _ ⟨by omega, by omega⟩
      have hw1 : IntKind.u32.wrap ((hd.headOf l).blocks : Int) = ((hd.headOf l).blocks : Int) := IntWalk.u32_in _ ⟨by omega, by omega⟩
      have hw2 : IntKind.u32.wrap ((hd.headOf l).batches : Int) = ((hd.headOf l).batches : Int) := IntWalk.u32_in _ ⟨by omega, by omega⟩
      clear g0 g1 g2 hOk r
      obtain ⟨h, hh⟩ : ∃ h, hd.headOf l = h := ⟨_, rfl⟩
      rw [hh] at k0 k1 k2 hb0 hb1 hb2 hw0 hw1 hw2
      have HH := Lib.hid hh
      clear hh
      go_wp2_with (refine wp_sth (.tmp 2) (.tmp 34) h hd.zero m rfl rfl rfl rfl ?_; intro w7 m7 hc7)
      refine bodyPost_ret (results_cell rfl rfl (head_load m7)) rfl ⟨by rw [HH.out], (Chg.of_below hbr [w.heap.size]).trans hc7 (Sub.refl _ _) |>.below (Nat.le_refl _) (fun k hk => by simp at hk; omega)⟩
end Go.Proofs.YtknndmhkfonfmaaDoor

/-
  the tables that a row lists (crc's of four bits; head's of sizes, where there is one): what the row's list gives, and a world for the witness.
-/
namespace Go.Proofs.YtknndmhkfonfmaaDoor.laid
open Go.ChangeShapes Go.WideShapes Go.ChangeAt Go.RowKit

theorem four : Tryd.prog.globalNamed "cardex/crc.fourOn" = some 1 := by kernel_rfl
theorem fourType : (Tryd.prog.globals[1]?).map (·.type) = some 123 := by kernel_rfl
theorem fourCells : Tryd.prog.cellsOf 123 = 16 := by kernel_rfl
theorem wordCells : Tryd.prog.cellsOf 49 = 1 := by kernel_rfl
def words : List Int := [0, 274646895, 549293790, 820201905, 1098587580, 1361435347, 1640403810, 1905808397, 2197175160, 2460548119, 2722870694, 2987750089, 3280807620, 3553878443, 3811616794, 4084100981]
theorem words_on : ∀ i : Fin 16, words.getD i.val 0 = ((crc.on 4 (BitVec.ofNat 32 i.val)).toNat : Int) := by decide +kernel
/-- a variable that is listed, wherever it stands on the list, reads as its datum -/
theorem reads_of {P : Program} {w : World} : ∀ {l : List (String × DataW Unit)} {ps : List MemPlace}, DataW.LaidVars P w l ps → ∀ n d, (n, d) ∈ l →
    ∃ g t cs fuel p, P.globalNamed n = some g ∧ (P.globals[g]?).map (·.type) = some t ∧ w.var? P n = some cs ∧ DataW.trod (fun _ => ()) P w 0 (fun _ => true) false fuel t cs.toList = some (d, p)
  | [], _, _, _, _, hm => by cases hm
  | (n', d') :: r, ps, h, n, d, hm => by
    obtain ⟨g, t, cs, fuel, p, q, h1, h2, h3, h4, h5, _⟩ := h
    rcases List.mem_cons.1 hm with e | e
    · cases e
      exact ⟨g, t, cs, fuel, p, h1, h2, h3, h4⟩
    · exact reads_of h5 n d e
theorem tab_of {P : Program} {W : World} {l : List (String × DataW Unit)} {name : String} {k : IntKind} {zs : List Int} {g : Nat} {t e : TypeId} {n : Nat}
    (hg : P.globalNamed name = some g) (hty : (P.globals[g]?).map (·.type) = some t) (ht : P.underlying t = some (.array n e)) (he : P.underlying e = some (.int k)) (hce : P.cellsOf e = 1) (hct : P.cellsOf t = n)
    (h : laidMet P l W) (hm : (name, Lib.tabData k zs) ∈ l) : Lib.TabIs P W name k zs := by
  obtain ⟨ps, hv, _⟩ := h
  obtain ⟨g', t', cs, fuel, p, hg', ht', hvar, hd⟩ := reads_of hv _ _ hm
  obtain rfl := Option.some.inj (hg.symm.trans hg')
  obtain rfl := Option.some.inj (hty.symm.trans ht')
  unfold Lib.TabIs
  rw [hvar, ← Lib.cells_of_tab ht he hce hct hd]
theorem tab1 {W : World} {l : List (String × DataW Unit)} (h : laidMet Tryd.prog l W) (hm : ("cardex/crc.fourOn", Lib.tabData .u32 words) ∈ l) : Tab W := by
  have ht : Lib.TabIs Tryd.prog W "cardex/crc.fourOn" .u32 words :=
    tab_of four fourType Tryd.underlying123 Tryd.underlying49 wordCells fourCells h hm
  have hc : ∀ i, i < 16 → W.cell? ⟨1, i, none⟩ = some (wv (crc.on 4 (BitVec.ofNat 32 i))) := fun i hi => by
    rw [ht.cell four i (by simpa [words] using hi)]
    have := words_on ⟨i, hi⟩
    simp only at this
    rw [this]
  exact ⟨World.block_lt_of_cell? _ _ (hc 0 (by omega)), hc⟩
theorem siz : Tryd.prog.globalNamed "cardex/head.sizes" = some 0 := by kernel_rfl
theorem sizType : (Tryd.prog.globals[0]?).map (·.type) = some 113 := by kernel_rfl
theorem sizCells : Tryd.prog.cellsOf 113 = 3 := by kernel_rfl
theorem intCells : Tryd.prog.cellsOf 3 = 1 := by kernel_rfl
def sizes : List Int := [1, 4, 4]
theorem tab2 {W : World} {l : List (String × DataW Unit)} (h : laidMet Tryd.prog l W) (hm : ("cardex/head.sizes", Lib.tabData .i64 sizes) ∈ l) : Siz W := by
  have ht : Lib.TabIs Tryd.prog W "cardex/head.sizes" .i64 sizes :=
    tab_of siz sizType Tryd.underlying113 Tryd.underlying3 intCells sizCells h hm
  have h0 := ht.cell siz 0 (by simp [sizes])
  exact ⟨World.block_lt_of_cell? _ _ h0, h0, ht.cell siz 1 (by simp [sizes]), ht.cell siz 2 (by simp [sizes])⟩
def listed : List (String × DataW Unit) := [("cardex/crc.fourOn", Rows.laid_cardex_crc_fourOn), ("cardex/head.sizes", Rows.laid_cardex_head_sizes)]
theorem tab {W : World} (h : laidMetH Tryd.prog listed W) : Tabs W := ⟨tab1 (l := listed) h (.head _), tab2 (l := listed) h (.tail _ (.head _))⟩
/-- a world for the witness: the settled one, with the tables as their initialisers lay them -/
def lay (vs : List Value) : Obj → Obj
  | .cells _ t frozen => .cells vs.toArray t frozen
  | o => o
noncomputable def world (os : Os) : World :=
  { World.holding Tryd.prog os ⟨#[], #[], []⟩ with heap := ((World.holding Tryd.prog os ⟨#[], #[], []⟩).heap.modify 1 (lay (words.map fun z => Value.int .u32 z))).modify 0 (lay (sizes.map fun z => Value.int .i64 z)) }
end Go.Proofs.YtknndmhkfonfmaaDoor.laid

/-
  PURE: a sealed block that is begun over another one, again and again, with the same number: it is the new one, the old one, or refused. No program is named here.
-/
namespace Go.Proofs.YtknndmhkfonfmaaDoor
namespace sl
/-- the first k bytes of a number, the others of what stood there -/
def mixb (M k : Nat) (l : List UInt8) : List UInt8 := (leBytes M 8).take k ++ l.drop k
theorem mixb_length {M k : Nat} {l : List UInt8} (hl : l.length = 8) (hk : k ≤ 8) : (mixb M k l).length = 8 := by
  rw [mixb, List.length_append, List.length_take, List.length_drop, leBytes_length]
  omega
theorem mixb_mixb (M k j : Nat) (l : List UInt8) (_ : k ≤ 8) (hj : j ≤ 8) : mixb M k (mixb M j l) = mixb M (max k j) l := by
  unfold mixb
  have hl : ((leBytes M 8).take j).length = j := by rw [List.length_take, leBytes_length]; omega
  rcases Nat.le_total k j with h | h
  · rw [Nat.max_eq_right h, List.drop_append, hl, show k - j = 0 from by omega, List.drop_zero, ← List.append_assoc]
    congr 1
    obtain ⟨d, rfl⟩ : ∃ d, j = k + d := ⟨j - k, by omega⟩
    rw [List.drop_take, List.take_add, Nat.add_sub_cancel_left]
  · rw [Nat.max_eq_left h, List.drop_append, List.drop_of_length_le (by rw [hl]; exact h), List.nil_append, hl, List.drop_drop]
    congr 2
    omega
theorem take_leBytes (n k : Nat) (hk : k ≤ 8) : (leBytes n 8).take k = leBytes n k := by
  apply List.ext_getElem?
  intro i
  by_cases hi : i < k
  · rw [List.getElem?_take_of_lt hi, leBytes_get n 8 i (by omega), leBytes_get n k i hi]
  · rw [List.getElem?_eq_none (by rw [List.length_take, leBytes_length]; omega), List.getElem?_eq_none (by rw [leBytes_length]; omega)]
/-- the block is away from number M: no beginning of a block of number M over it makes its ends agree -/
def Away (X : Blk) (M : Nat) : Prop := ∀ k, 1 ≤ k → k ≤ 8 → X.drop 120 ≠ last (leVal (mixb M k (X.take 8)))
theorem last_inj {n m : Nat} (hn : n < 18446744073709551616) (hm : m < 18446744073709551616) (e : last n = last m) : n = m := by
  have := congrArg leVal e
  rw [last, last, leVal_bytes, leVal_bytes, Nat.mod_eq_of_lt (by omega), Nat.mod_eq_of_lt (by omega)] at this
  omega
theorem leVal_lt8 {l : List UInt8} (h : l.length = 8) : leVal l < 18446744073709551616 := by
  have := leVal_lt l
  rwa [h] at this
/-- 0s are away from every number that is not the greatest -/
theorem away_zero {M : Nat} (hM : M < 18446744073709551615) : Away dk.zero M := by
  intro k h1 h8 e
  have hl : (mixb M k (dk.zero.take 8)).length = 8 := mixb_length (by simp [dk.zero]) h8
  have hlt := leVal_lt8 hl
  have e2 : leVal (dk.zero.drop 120) = 0 := by decide +kernel
  have e3 := congrArg leVal e
  rw [e2, last, leVal_bytes, Nat.mod_eq_of_lt (by omega)] at e3
  have e4 : leVal (mixb M k (dk.zero.take 8)) = 18446744073709551615 := by omega
  have e5 := leBytes_val _ 8 hl
  rw [e4] at e5
  by_cases hk : k = 8
  · subst hk
    have : mixb M 8 (dk.zero.take 8) = leBytes M 8 := by
      rw [mixb, List.take_of_length_le (by rw [leBytes_length]; omega), List.drop_of_length_le (by simp [dk.zero]), List.append_nil]
    rw [this, leVal_bytes, Nat.mod_eq_of_lt (by omega)] at e4
    omega
  · have e6 := congrArg (fun l => l.getD 7 0) e5
    have e7 : (leBytes 18446744073709551615 8).getD 7 0 = 255 := by decide +kernel
    have e8 : (mixb M k (dk.zero.take 8)).getD 7 0 = 0 := by
      rw [mixb, List.getD_eq_getElem?_getD, List.getElem?_append_right (by rw [List.length_take, leBytes_length]; omega), List.getElem?_drop, List.length_take, leBytes_length, show k + (7 - min k 8) = 7 from by omega]
      rfl
    simp only [e7, e8] at e6
    exact absurd e6 (by decide)
/-- a sealed block is away from the numbers that follow it -/
theorem away_seal {n M : Nat} {body : List UInt8} (hb : body.length ≤ 108) (h1 : n < M) (h2 : M < n + 256) (hn : n < 18446744073709551616) : Away (sealB n body) M := by
  intro k hk1 hk8 e
  rw [seal_drop120 n hb, seal_take8 n hb] at e
  have hl : (mixb M k (leBytes n 8)).length = 8 := mixb_length (leBytes_length _ _) hk8
  have e1 := last_inj hn (leVal_lt8 hl) e
  have e2 := leBytes_val _ 8 hl
  rw [← e1] at e2
  have e3 := congrArg (fun l => l.getD 0 0) e2
  have e4 : (mixb M k (leBytes n 8)).getD 0 0 = UInt8.ofNat M := by
    rw [mixb, List.getD_eq_getElem?_getD, List.getElem?_append_left (by rw [List.length_take, leBytes_length]; omega), List.getElem?_take_of_lt (by omega), leBytes_get M 8 0 (by omega)]
    simp
  have e5 : (leBytes n 8).getD 0 0 = UInt8.ofNat n := by
    rw [List.getD_eq_getElem?_getD, leBytes_get n 8 0 (by omega)]
    simp
  simp only [e4, e5] at e3
  have e6 := congrArg UInt8.toNat e3
  rw [UInt8.toNat_ofNat', UInt8.toNat_ofNat'] at e6
  omega
/-- WHAT IS BEGUN IS THE OLD ONE, THE NEW ONE, OR REFUSED, AND THEN IT CAN BE BEGUN AGAIN -/
theorem torn_away {X : Blk} (hX : X.length = 128) {M : Nat} (hM : M < 18446744073709551616) {body : List UInt8} (hb : body.length ≤ 108) (hA : Away X M) (t : Int) :
    dk.torn X (sealB M body) t = X ∨ dk.torn X (sealB M body) t = sealB M body ∨ (¬ (get (dk.torn X (sealB M body) t)).2.2 = 0 ∧ Away (dk.torn X (sealB M body) t) M) := by
  have hY := seal_length M hb
  have hY8 := seal_take8 M hb
  have hYl := seal_drop120 M hb
  generalize sealB M body = Y at *
  obtain ⟨T, hT⟩ : ∃ T, t.toNat = T := ⟨_, rfl⟩
  have htorn : dk.torn X Y t = Y.take T ++ X.drop T := by rw [dk.torn, hT]
  rw [htorn]
  clear htorn hT
  by_cases h0 : T = 0
  · subst h0
    exact .inl (by simp)
  by_cases h128 : 128 ≤ T
  · refine .inr (.inl ?_)
    rw [List.take_of_length_le (by omega), List.drop_of_length_le (by omega), List.append_nil]
  refine .inr ?_
  obtain ⟨X', hX'⟩ : ∃ X', Y.take T ++ X.drop T = X' := ⟨_, rfl⟩
  rw [hX']
  have hYT : (Y.take T).length = T := by rw [List.length_take]; omega
  by_cases h120 : T ≤ 120
  · refine .inr ?_
    have hd : X'.drop 120 = X.drop 120 := by
      rw [← hX', List.drop_append, hYT, List.drop_of_length_le (by omega), List.nil_append, List.drop_drop]
      congr 1
      omega
    have ht : X'.take 8 = mixb M (min T 8) (X.take 8) := by
      rw [← hX', List.take_append, hYT, mixb, List.take_take]
      congr 1
      · rw [← hY8, List.take_take]
        congr 1
        omega
      · rw [List.drop_take]
        by_cases h8 : T ≤ 8
        · rw [Nat.min_eq_left h8]
        · rw [show 8 - T = 0 from by omega, Nat.min_eq_right (by omega), Nat.sub_self, List.take_zero, List.take_zero]
    refine ⟨fun hok => ?_, fun k hk1 hk8 e => ?_⟩
    · obtain ⟨_, h1, _, _⟩ := get_ok hok
      rw [hd, number, ht] at h1
      exact hA (min T 8) (by omega) (by omega) h1
    · rw [hd, ht, mixb_mixb M k (min T 8) _ hk8 (by omega)] at e
      exact hA (max k (min T 8)) (by omega) (by omega) e
  · have hn : X'.take 8 = leBytes M 8 := by
      rw [← hX', List.take_append_of_le_length (by omega), List.take_take, Nat.min_eq_left (by omega), hY8]
    have ht : X'.take 120 = Y.take 120 := by
      rw [← hX', List.take_append_of_le_length (by omega), List.take_take, Nat.min_eq_left (by omega)]
    by_cases he : X'.drop 120 = last M
    · refine .inl ?_
      rw [← List.take_append_drop 120 X', ht, he, ← hYl, List.take_append_drop]
    · refine .inr ⟨fun hok => ?_, fun k hk1 hk8 e => ?_⟩
      · obtain ⟨_, h1, _, _⟩ := get_ok hok
        rw [number, hn, leVal_bytes, Nat.mod_eq_of_lt hM] at h1
        exact he h1
      · have hm : mixb M k (leBytes M 8) = leBytes M 8 := by rw [mixb, List.take_append_drop]
        rw [hn, hm, leVal_bytes, Nat.mod_eq_of_lt hM] at e
        exact he e
end sl
end Go.Proofs.YtknndmhkfonfmaaDoor

/-
  ROWS: contracts of num.Row, GetRow, cardexref01's.
-/
namespace Go.Proofs.YtknndmhkfonfmaaDoor
open Go.RowKit

set_option maxRecDepth 100000 in
theorem row_any (A : Option Addr) (n c : Nat) (l : List UInt8) (w : World) (h : BS w A n c l) (hn : n ≤ 140737488355320) :
    Calls Tryd.prog 40 #[.slice A n c] w (OwnEnd 5 (leBytes n 4 ++ l) w) := by
  obtain ⟨i0, hi, hz0, hz1, hz2⟩ := info_parts info_u8
  go_enter Tryd.func40, Tryd.ntmps40
  go_wp2_with (first
    | (go_at_call 57; refine (lowestFirst_any n 4 _ (by omega)).mono ?_; rintro e w' ⟨v, rfl, ho, hb⟩)
    | (at_builtin; refine wpList_append_bytes _ rfl (.tmp 6) (.tmp 7) 23 rfl 5 i0 Tryd.underlying23 hi hz0 hz1 hz2 w.heap.size _ _ rfl ho A n c l rfl (h.below hb) (by rw [leBytes_length]; omega) hb.size ?_; intro v1 w1 ho1 hg1 _ _))
  go_ret
  exact ⟨_, rfl, ho1, OwnB.step hb ho hg1 hb.size⟩

set_option maxRecDepth 100000 in
theorem rrow_any (A : Option Addr) (n c : Nat) (l : List UInt8) (w : World) (h : BS w A n c l) (hn : n < 4294967296) :
    Calls Tryd.prog 19 #[.slice A n c] w (OwnEnd 5 (leBytes n 4 ++ l) w) := by
  obtain ⟨i0, hi, hz0, hz1, hz2⟩ := info_parts info_u8
  have hp : putOk n 4 = true := by simp [putOk, isSz]; omega
  have cP : ∀ W, Calls Tryd.prog 32 #[.int .u64 n, .int .i64 4] W fun e w' => ∃ v, e = .returned (.tuple #[v, .int .i64 0]) ∧ OwnB 5 w' W.heap.size v (leBytes n 4) ∧ Below W.heap.size W w' :=
    fun W => (rput_any n 4 W (by omega)).mono fun e w' h => by
      obtain ⟨v, h1, h2⟩ := h.2.1 hp
      exact ⟨v, h1, h2, h.2.2⟩
  clear hp
  go_enter Tryd.func19, Tryd.ntmps19
  go_wp2_with (first
    | (go_at_call 32; refine (cP _).mono ?_; rintro e w' ⟨v, rfl, ho, hb⟩)
    | (at_builtin; refine wpList_append_bytes _ rfl (.tmp 12) (.tmp 13) 23 rfl 5 i0 Tryd.underlying23 hi hz0 hz1 hz2 w.heap.size _ _ rfl ho A n c l rfl (h.below hb) (by rw [leBytes_length]; omega) hb.size ?_; intro v1 w1 ho1 hg1 _ _))
  go_ret
  exact ⟨_, rfl, ho1, OwnB.step hb ho hg1 hb.size⟩

/-- what GetRow answers -/
def getRowR (l : List UInt8) (at_ most : Int) : List UInt8 × Int × Int :=
  let g := getR l at_ 4
  if g.2 ≠ 0 then ([], 0, g.2) else if most < g.1 then ([], 0, 3) else if (l.length : Int) < at_ + 4 + g.1 then ([], 0, 4) else ((l.drop (at_.toNat + 4)).take g.1, at_ + 4 + g.1, 0)
def RowEnd (E : TypeId) (r : List UInt8 × Int × Int) (w : World) (e : Ending) (w' : World) : Prop := ∃ v, e = .returned (.tuple #[v, .int .i64 r.2.1, .int .i64 r.2.2]) ∧ OwnB E w' w.heap.size v r.1 ∧ Below w.heap.size w w'

set_option maxRecDepth 100000 in
theorem getR_ok {l : List UInt8} {at_ s : Int} {q : Nat} (h : getR l at_ s = (q, 0)) : isSz s = true ∧ 0 ≤ at_ ∧ at_ + s ≤ l.length ∧ q = leVal ((l.drop at_.toNat).take s.toNat) := by
  unfold getR at h
  split at h
  · rename_i hc
    simp at hc
    split at h
    · rename_i h2
      injection h with h3 _
      exact ⟨hc.1, hc.2.1, h2, h3.symm⟩
    · injection h with _ h3
      cases h3
  · injection h with _ h3
    cases h3
set_option maxRecDepth 100000 in
theorem getR_ok4 {l : List UInt8} {at_ : Int} {q : Nat} (h : getR l at_ 4 = (q, 0)) : 0 ≤ at_ ∧ at_ + 4 ≤ l.length ∧ q < 4294967296 := by
  obtain ⟨_, h1, h2, h3⟩ := getR_ok h
  refine ⟨h1, h2, ?_⟩
  have := leVal_lt ((l.drop at_.toNat).take (4 : Int).toNat)
  rw [← h3] at this
  refine Nat.lt_of_lt_of_le this (Nat.le_trans (Nat.pow_le_pow_right (by omega) (show _ ≤ 32 from ?_)) (Nat.le_refl _))
  have : (List.take (4 : Int).toNat (l.drop at_.toNat)).length ≤ 4 := List.length_take_le _ _
  omega
set_option maxRecDepth 100000 in
theorem row_end_nil {E : TypeId} {x y : Int} {w : World} {e : Ending} (h : e = .returned (.tuple #[.slice none 0 0, .int .i64 x, .int .i64 y])) : RowEnd E ([], x, y) w e w :=
  ⟨_, h, OwnB.nil_ _ _ _, Below.refl _ _⟩

set_option maxRecDepth 100000 in
theorem getRow_any (A : Option Addr) (n c : Nat) (l : List UInt8) (at_ most : Int) (w : World) (h : BS w A n c l) (hn : n ≤ 140737488355320) (hmo : most ≤ 9223372036854775807) :
    Calls Tryd.prog 45 #[.slice A n c, .int .i64 at_, .int .i64 most] w (RowEnd 5 (getRowR l at_ most) w) := by
  have hl := h.len
  have cG := fun W hW => get_any A n c l at_ 4 W hW
  obtain ⟨⟨q, e0⟩, hg⟩ : ∃ g, getR l at_ 4 = g := ⟨_, rfl⟩
  rw [hg] at cG
  simp only at cG
  by_cases h0 : e0 = 0
  · subst h0
    obtain ⟨hat, hat4, hq⟩ := getR_ok4 hg
    obtain ⟨at_, rfl⟩ := Int.eq_ofNat_of_zero_le hat
    rw [hl] at hat4
    by_cases h1 : most < q
    · have hr : getRowR l at_ most = ([], 0, 3) := by simp [getRowR, hg, h1]
      rw [hr]
      clear hr hg hl
      by_cases hneg : most < 0
      · go_enter Tryd.func45, Tryd.ntmps45
        go_wp2_with (go_at_call 60; refine (cG _ h).mono ?_; rintro e w' ⟨rfl, rfl⟩)
        go_ret3
        exact row_end_nil rfl
      · have h1' : (q : Int) > most := h1
        go_enter Tryd.func45, Tryd.ntmps45
        go_wp2_with (go_at_call 60; refine (cG _ h).mono ?_; rintro e w' ⟨rfl, rfl⟩)
        go_ret3
        exact row_end_nil rfl
    · have hpos : ¬ most < 0 := by omega
      have h1' : (q : Int) ≤ most := by omega
      by_cases h2 : n < at_ + 4 + q
      · have hr : getRowR l at_ most = ([], 0, 4) := by simp [getRowR, hg, h1]; omega
        rw [hr]
        clear hr hg hl
        have h2' : (n : Int) - (at_ + 4) < q := by omega
        go_enter Tryd.func45, Tryd.ntmps45
        go_wp2_with (go_at_call 60; refine (cG _ h).mono ?_; rintro e w' ⟨rfl, rfl⟩)
        go_ret3
        exact row_end_nil rfl
      · have hr : getRowR l at_ most = ((l.drop (at_ + 4)).take q, (at_ : Int) + 4 + q, 0) := by
          have : ¬ (n : Int) < at_ + 4 + q := by omega
          simp only [getRowR, hg, hl, if_neg h1, if_neg this]
          simp
        rw [hr]
        clear hr hg hl
        have h2' : (q : Int) ≤ (n : Int) - (at_ + 4) := by omega
        go_enter Tryd.func45, Tryd.ntmps45
        go_wp2_with (first
          | (go_at_call 60; refine (cG _ h).mono ?_; rintro e w' ⟨rfl, rfl⟩)
          | (go_at_call 61; refine (cut_any A n c l (at_ + 4) q _ h (by omega)).mono ?_; rintro e w' ⟨A', rfl, hcut, rfl⟩)
          | (go_at_call 62; refine (clone_any A' q q _ _ hcut (by omega)).mono ?_; rintro e w' ⟨v, rfl, ho, hb⟩))
        go_ret3

        exact ⟨_, rfl, ho, hb⟩
  · have hr : getRowR l at_ most = ([], 0, e0) := by simp [getRowR, hg, h0]
    rw [hr]
    clear hr hg hl
    have hne : (e0 != 0) = true := by rw [bne_iff_ne]; exact h0
    go_enter Tryd.func45, Tryd.ntmps45
    go_wp2_with (go_at_call 60; refine (cG _ h).mono ?_; rintro e w' ⟨rfl, rfl⟩)
    go_ret3
    exact row_end_nil rfl


end Go.Proofs.YtknndmhkfonfmaaDoor

/-
  PURE: batches as rows, with 0s behind each up to a whole block; what is read of them. No program is named here.
-/
namespace Go.Proofs.YtknndmhkfonfmaaDoor
namespace jn
abbrev Blk := dk.Blk
def rowOf (b : List UInt8) : List UInt8 := leBytes b.length 4 ++ b
/-- how many 0s stand behind so many bytes -/
def pad (n : Nat) : Nat := (128 - n % 128) % 128
def filled (l : List UInt8) : List UInt8 := l ++ List.replicate (pad l.length) 0
/-- how many blocks so many bytes take -/
def count (n : Nat) : Nat := (n + 127) / 128
/-- the block i of a row -/
def blk (row : List UInt8) (i : Nat) : Blk := (row.drop (i * 128)).take 128 ++ List.replicate (128 - ((row.drop (i * 128)).take 128).length) 0
def blocks (b : List UInt8) : List Blk := (List.range (count (rowOf b).length)).map (blk (rowOf b))
theorem rowOf_length (b : List UInt8) : (rowOf b).length = b.length + 4 := by
  rw [rowOf, List.length_append, leBytes_length]; omega
theorem pad_fill (n : Nat) : n + pad n = count n * 128 := by unfold pad count; omega
theorem filled_length (l : List UInt8) : (filled l).length = count l.length * 128 := by
  rw [filled, List.length_append, List.length_replicate, pad_fill]
theorem blk_length (row : List UInt8) (i : Nat) : (blk row i).length = 128 := by
  rw [blk, List.length_append, List.length_replicate, List.length_take]
  omega
theorem blocks_length (b : List UInt8) : (blocks b).length = count (b.length + 4) := by rw [blocks, List.length_map, List.length_range, rowOf_length]
theorem blocks_len (b : List UInt8) : ∀ x ∈ blocks b, x.length = 128 := fun x hx => by
  obtain ⟨i, _, rfl⟩ := List.mem_map.1 hx
  exact blk_length _ i
/-- the blocks, side by side, are the row with its 0s -/
theorem blk_filled (row : List UInt8) (i : Nat) (hi : i < count row.length) : blk row i = ((filled row).drop (i * 128)).take 128 := by
  have hle : i * 128 < row.length := by unfold count at hi; omega
  unfold blk filled
  rw [List.drop_append, show i * 128 - row.length = 0 from by omega, List.drop_zero, List.take_append]
  congr 1
  rw [List.take_replicate, List.length_take, List.length_drop]
  congr 1
  have hp := pad_fill row.length
  by_cases h : 128 ≤ row.length - i * 128
  · omega
  · have : count row.length = i + 1 := by unfold count at hi ⊢; omega
    rw [this] at hp
    omega
theorem flatten_range (l : List UInt8) : ∀ k, k * 128 ≤ l.length → ((List.range k).map fun i => (l.drop (i * 128)).take 128).flatten = l.take (k * 128)
  | 0, _ => by simp
  | k + 1, h => by
    rw [List.range_succ, List.map_append, List.flatten_append, flatten_range l k (by omega)]
    simp only [List.map_cons, List.map_nil, List.flatten_cons, List.flatten_nil, List.append_nil]
    rw [show (k + 1) * 128 = k * 128 + 128 from by omega, List.take_add]
theorem blocks_flatten (b : List UInt8) : (blocks b).flatten = filled (rowOf b) := by
  have h : blocks b = (List.range (count (rowOf b).length)).map fun i => ((filled (rowOf b)).drop (i * 128)).take 128 := by
    unfold blocks
    apply List.map_congr_left
    intro i hi
    exact blk_filled _ i (List.mem_range.1 hi)
  rw [h, flatten_range _ _ (by rw [filled_length]; exact Nat.le_refl _), List.take_of_length_le (by rw [filled_length]; exact Nat.le_refl _)]
/-- one batch is read: it, and what stands behind its 0s -/
def one (all : List UInt8) : Option (List UInt8 × List UInt8) :=
  if (getRowR all 0 1048576).2.2 = 0 then
    (if (all.drop (getRowR all 0 1048576).2.1.toNat).take (pad (getRowR all 0 1048576).2.1.toNat) = List.replicate (pad (getRowR all 0 1048576).2.1.toNat) 0 then some ((getRowR all 0 1048576).1, all.drop ((getRowR all 0 1048576).2.1.toNat + pad (getRowR all 0 1048576).2.1.toNat)) else none)
  else none
/-- so many batches are read -/
def parse : Nat → List UInt8 → Option (List (List UInt8) × List UInt8)
  | 0, all => some ([], all)
  | k + 1, all => (parse k all).bind fun x => (one x.2).map fun y => (x.1 ++ [y.1], y.2)
/-- a row, laid, is read -/
theorem getRow_row (b rest : List UInt8) (hb : b.length ≤ 1048576) : getRowR (filled (rowOf b) ++ rest) 0 1048576 = (b, (b.length : Int) + 4, 0) := by
  have hl : (filled (rowOf b) ++ rest).length = count (b.length + 4) * 128 + rest.length := by rw [List.length_append, filled_length, rowOf_length]
  have hc : b.length + 4 ≤ count (b.length + 4) * 128 := by unfold count; omega
  have e0 : filled (rowOf b) ++ rest = leBytes b.length 4 ++ (b ++ (List.replicate (pad (rowOf b).length) 0 ++ rest)) := by rw [filled, rowOf, List.append_assoc, List.append_assoc]
  have ht : (filled (rowOf b) ++ rest).take 4 = leBytes b.length 4 := by
    rw [e0]
    exact List.take_left' (leBytes_length _ _)
  have hg : getR (filled (rowOf b) ++ rest) 0 4 = (b.length, 0) := by
    unfold getR
    rw [hl, if_pos (by simp [isSz]; omega), if_pos (by omega)]
    congr 1
    have e1 : (0 : Int).toNat = 0 := rfl
    have e2 : (4 : Int).toNat = 4 := rfl
    rw [e1, e2, List.drop_zero, ht, leVal_bytes]
    omega
  unfold getRowR
  simp only [hg]
  rw [if_neg (by simp), if_neg (by omega), if_neg (by rw [hl]; omega)]
  refine Prod.ext ?_ (Prod.ext (by simp only; omega) rfl)
  simp only
  have e3 : ((0 : Int).toNat + 4) = 4 := rfl
  rw [e3, e0, List.drop_left' (leBytes_length _ _)]
  exact List.take_left' rfl
theorem one_row (b rest : List UInt8) (hb : b.length ≤ 1048576) : one (filled (rowOf b) ++ rest) = some (b, rest) := by
  have hg := getRow_row b rest hb
  unfold one
  rw [hg]
  simp only
  have e1 : ((b.length : Int) + 4).toNat = (rowOf b).length := by rw [rowOf_length]; omega
  have hd : (filled (rowOf b) ++ rest).drop (rowOf b).length = List.replicate (pad (rowOf b).length) 0 ++ rest := by
    rw [filled, List.append_assoc]
    exact List.drop_left' rfl
  rw [e1, if_pos trivial, hd, List.take_left' List.length_replicate, if_pos rfl, ← List.drop_drop, hd, List.drop_left' List.length_replicate]
/-- what is read of bytes is read of them where others stand behind -/
theorem getRow_app {all : List UInt8} (h : (getRowR all 0 1048576).2.2 = 0) (r : List UInt8) : getRowR (all ++ r) 0 1048576 = getRowR all 0 1048576 ∧ (getRowR all 0 1048576).2.1.toNat ≤ all.length := by
  unfold getRowR at h ⊢
  have e1 : (0 : Int).toNat = 0 := rfl
  have e2 : (4 : Int).toNat = 4 := rfl
  by_cases h4 : (4 : Int) ≤ all.length
  · have ga : getR all 0 4 = (leVal (all.take 4), 0) := by
      unfold getR
      rw [if_pos (by simp [isSz]), if_pos (by omega), e1, e2, List.drop_zero]
    have gb : getR (all ++ r) 0 4 = (leVal (all.take 4), 0) := by
      unfold getR
      rw [if_pos (by simp [isSz]; omega), if_pos (by simp; omega), e1, e2, List.drop_zero, List.take_append_of_le_length (by omega)]
    simp only [ga, ne_eq, not_true_eq_false, if_false] at h ⊢
    simp only [gb, not_true_eq_false, if_false]
    by_cases hm : (1048576 : Int) < (leVal (all.take 4) : Nat)
    · rw [if_pos hm] at h
      cases h
    · simp only [if_neg hm] at h ⊢
      by_cases hs : (all.length : Int) < 0 + 4 + (leVal (all.take 4) : Nat)
      · rw [if_pos hs] at h
        cases h
      · have hs2 : ¬ ((all ++ r).length : Int) < 0 + 4 + (leVal (all.take 4) : Nat) := by rw [List.length_append]; omega
        simp only [if_neg hs, if_neg hs2]
        refine ⟨?_, by omega⟩
        congr 1
        rw [e1, List.drop_append_of_le_length (by omega), List.take_append_of_le_length (by rw [List.length_drop]; omega)]
  · have ga : getR all 0 4 = (0, 4) := by
      unfold getR
      rw [if_pos (by simp [isSz]), if_neg (by omega)]
    simp only [ga] at h
    rw [if_pos (by simp)] at h
    cases h
theorem one_app {all : List UInt8} {x : List UInt8 × List UInt8} (h : one all = some x) (hm : all.length % 128 = 0) (r : List UInt8) : one (all ++ r) = some (x.1, x.2 ++ r) ∧ x.2.length % 128 = 0 := by
  unfold one at h ⊢
  by_cases h0 : (getRowR all 0 1048576).2.2 = 0
  · obtain ⟨e1, e2⟩ := getRow_app h0 r
    rw [if_pos h0] at h
    rw [e1, if_pos h0]
    generalize (getRowR all 0 1048576).2.1.toNat = n at *
    have hle : n + pad n ≤ all.length := by have := pad_fill n; unfold count at this; omega
    have ht : ((all ++ r).drop n).take (pad n) = (all.drop n).take (pad n) := by
      rw [List.drop_append_of_le_length e2, List.take_append_of_le_length (by rw [List.length_drop]; omega)]
    split at h
    · next hz =>
      rw [ht, if_pos hz]
      injection h with h
      rw [← h]
      simp only
      refine ⟨by rw [List.drop_append_of_le_length hle], ?_⟩
      rw [List.length_drop, pad_fill]
      omega
    · cases h
  · rw [if_neg h0] at h
    cases h
theorem parse_app : ∀ (k : Nat) {all : List UInt8} {x : List (List UInt8) × List UInt8}, parse k all = some x → all.length % 128 = 0 → ∀ r, parse k (all ++ r) = some (x.1, x.2 ++ r) ∧ x.2.length % 128 = 0
  | 0, all, x, h, hm, r => by
    simp only [parse, Option.some.injEq] at h ⊢
    subst h
    exact ⟨rfl, hm⟩
  | k + 1, all, x, h, hm, r => by
    simp only [parse] at h ⊢
    cases hp : parse k all with
    | none => rw [hp] at h; cases h
    | some y =>
      obtain ⟨e1, e2⟩ := parse_app k hp hm r
      rw [hp] at h
      simp only [Option.bind_some] at h
      rw [e1]
      simp only [Option.bind_some]
      cases ho : one y.2 with
      | none => rw [ho] at h; cases h
      | some z =>
        obtain ⟨e3, e4⟩ := one_app ho e2 r
        rw [ho] at h
        simp only [Option.map_some, Option.some.injEq] at h
        subst h
        rw [e3]
        exact ⟨rfl, e4⟩
/-- one more batch behind all -/
theorem parse_more {k : Nat} {all : List UInt8} {l : List (List UInt8)} (h : parse k all = some (l, [])) (hm : all.length % 128 = 0) (b : List UInt8) (hb : b.length ≤ 1048576) : parse (k + 1) (all ++ filled (rowOf b)) = some (l ++ [b], []) := by
  obtain ⟨e1, _⟩ := parse_app k h hm (filled (rowOf b))
  simp only [parse, e1, Option.bind_some, List.nil_append]
  have := one_row b [] hb
  rw [List.append_nil] at this
  rw [this]
  rfl
theorem parse_only (b : List UInt8) (hb : b.length ≤ 1048576) : parse 1 (filled (rowOf b)) = some ([b], []) := parse_more (k := 0) (all := []) rfl rfl b hb
end jn
end Go.Proofs.YtknndmhkfonfmaaDoor

/-
  PURE: a journal on a disk: what is laid; what is there, wherever the power is cut. No program is named here.
-/
namespace Go.Proofs.YtknndmhkfonfmaaDoor
namespace jn
abbrev St := dk.St
def half (s : St) : Nat := (s.S.length - 2) / 2
def first (s : St) (bank : UInt8) : Nat := 2 + bank.toNat * half s
def rd (s : St) (n : Int) : Blk := (dk.read s n).1
def newest (s : St) : Nat × hd.H × Int := hd.newest (rd s 0) (rd s 1)
/-- blocks are written, one behind the other, to the first error -/
def writes (s : St) (at_ : Nat) : List Blk → Int × St
  | [] => (0, s)
  | b :: r => if (dk.write s at_ b).1 = 0 then writes (dk.write s at_ b).2 (at_ + 1) r else dk.write s at_ b
/-- a head is laid -/
def layH (t : St) (h : hd.H) : Int × St :=
  if (dk.write t (sl.next (rd t 0) (rd t 1)) (hd.put ((newest t).1 + 1) h).1).1 = 0 then dk.flush (dk.write t (sl.next (rd t 0) (rd t 1)) (hd.put ((newest t).1 + 1) h).1).2
  else dk.write t (sl.next (rd t 0) (rd t 1)) (hd.put ((newest t).1 + 1) h).1
def lay (s : St) (at_ : Nat) (l : List Blk) (h : hd.H) : Int × St :=
  if (writes s at_ l).1 = 0 then
    (if (dk.flush (writes s at_ l).2).1 = 0 then layH (dk.flush (writes s at_ l).2).2 h else dk.flush (writes s at_ l).2)
  else writes s at_ l
def make (s : St) : Int × St := if s.black then (9, s) else lay s 0 [dk.zero, dk.zero] hd.zero
def bytes (s : St) (at_ k : Nat) : List UInt8 := ((List.range k).map fun i => rd s ((at_ + i : Nat) : Int)).flatten
def batches (s : St) (h : hd.H) : List (List UInt8) × Bool :=
  if half s < h.blocks then ([], false)
  else match parse h.batches (bytes s (first s h.bank) h.blocks) with
    | none => ([], false)
    | some x => (x.1, x.2.isEmpty)
def opens (s : St) : Int :=
  if s.black then 9 else if ¬ (newest s).2.2 = 0 ∨ 2305843009213693952 < (newest s).1 then 5 else if (batches s (newest s).2.1).2 then 0 else 5
def appendH (h : hd.H) (b : List UInt8) : hd.H := ⟨h.bank, h.blocks + (blocks b).length, h.batches + 1⟩
def replaceH (h : hd.H) (b : List UInt8) : hd.H := ⟨1 - h.bank, (blocks b).length, 1⟩
def append (s : St) (h : hd.H) (b : List UInt8) : Int × St :=
  if 1048576 < b.length then (3, s) else if s.black then (9, s) else if half s < h.blocks + (blocks b).length then (10, s) else lay s (first s h.bank + h.blocks) (blocks b) (appendH h b)
def replace (s : St) (h : hd.H) (b : List UInt8) : Int × St :=
  if 1048576 < b.length then (3, s) else if s.black then (9, s) else if half s < (blocks b).length then (10, s) else lay s (first s (1 - h.bank)) (blocks b) (replaceH h b)

/-! ### Steps -/
theorem step_cases (s : St) : ((dk.step s).1 = 0 ∧ (dk.step s).2.black = s.black ∧ (dk.step s).2.many = s.many + 1) ∨ ((dk.step s).1 = 9 ∧ (dk.step s).2.black = true ∧ (dk.step s).2.many = s.many) := by
  unfold dk.step
  split
  · exact .inr ⟨rfl, rfl, rfl⟩
  · exact .inl ⟨rfl, rfl, rfl⟩
/-- a write in the light, to a block that is there: done, or the power is cut -/
theorem write_cases {s : St} (hb : s.black = false) {n : Nat} (hn : n < s.S.length) (b : Blk) :
    ((dk.write s n b).1 = 0 ∧ (dk.write s n b).2.black = false ∧ (dk.write s n b).2.S = s.S ∧ (dk.write s n b).2.L = s.L ++ [((n : Int), b)] ∧ (dk.write s n b).2.many = s.many + 1) ∨
    ((dk.write s n b).1 = 9 ∧ (dk.write s n b).2.black = true ∧ (dk.write s n b).2.S = s.S ∧ (dk.write s n b).2.L = s.L ∧ (dk.write s n b).2.many = s.many) := by
  have ha : dk.asks s n = 0 := by
    unfold dk.asks
    rw [if_neg (by rw [hb]; simp), if_neg (by omega)]
  unfold dk.write
  rw [if_pos ha]
  rcases step_cases s with ⟨h1, h2, h3⟩ | ⟨h1, h2, h3⟩
  · rw [if_pos h1]
    exact .inl ⟨rfl, h2.trans hb, dk.step_S s, rfl, h3⟩
  · rw [if_neg (by rw [h1]; decide)]
    exact .inr ⟨rfl, h2, dk.step_S s, dk.step_L s, h3⟩
theorem flush_cases {s : St} (hb : s.black = false) :
    ((dk.flush s).1 = 0 ∧ (dk.flush s).2.black = false ∧ (dk.flush s).2.S = dk.lay s.S s.L ∧ (dk.flush s).2.L = [] ∧ (dk.flush s).2.many = s.many + 1) ∨
    ((dk.flush s).1 = 9 ∧ (dk.flush s).2.black = true ∧ (dk.flush s).2.S = s.S ∧ (dk.flush s).2.L = s.L ∧ (dk.flush s).2.many = s.many) := by
  unfold dk.flush
  rw [if_neg (by rw [hb]; simp)]
  rcases step_cases s with ⟨h1, h2, h3⟩ | ⟨h1, h2, h3⟩
  · rw [if_pos h1]
    exact .inl ⟨rfl, h2.trans hb, rfl, rfl, h3⟩
  · rw [if_neg (by rw [h1]; decide)]
    exact .inr ⟨rfl, h2, dk.step_S s, dk.step_L s, h3⟩
def zipAt (at_ : Nat) : List Blk → List (Int × Blk)
  | [] => []
  | b :: r => ((at_ : Int), b) :: zipAt (at_ + 1) r
/-- all of these are writes of the blocks from at_ on, less than hi -/
def InR (lo hi : Nat) (M : List (Int × Blk)) : Prop := ∀ x ∈ M, (lo : Int) ≤ x.1 ∧ x.1 < (hi : Int) ∧ x.2.length = 128
theorem zipAt_in : ∀ (l : List Blk) (at_ : Nat), (∀ b ∈ l, b.length = 128) → InR at_ (at_ + l.length) (zipAt at_ l)
  | [], _, _, x, hx => by cases hx
  | b :: r, at_, h, x, hx => by
    rcases List.mem_cons.1 hx with rfl | hx
    · exact ⟨Int.le_refl _, by simp only [List.length_cons]; omega, h _ (List.mem_cons_self ..)⟩
    · have := zipAt_in r (at_ + 1) (fun b hb => h b (List.mem_cons_of_mem _ hb)) x hx
      simp only [List.length_cons]
      exact ⟨by omega, by omega, this.2.2⟩
theorem writes_cases : ∀ (l : List Blk) (s : St) (at_ : Nat), s.black = false → at_ + l.length ≤ s.S.length → (∀ b ∈ l, b.length = 128) →
    ((writes s at_ l).1 = 0 ∧ (writes s at_ l).2.black = false ∧ (writes s at_ l).2.S = s.S ∧ (writes s at_ l).2.L = s.L ++ zipAt at_ l ∧ (writes s at_ l).2.many = s.many + l.length) ∨
    ((writes s at_ l).1 = 9 ∧ (writes s at_ l).2.black = true ∧ (writes s at_ l).2.S = s.S ∧ (∃ M, (writes s at_ l).2.L = s.L ++ M ∧ InR at_ (at_ + l.length) M ∧ M.length ≤ l.length) ∧ (writes s at_ l).2.many ≤ s.many + l.length)
  | [], s, at_, hb, _, _ => .inl ⟨rfl, hb, rfl, by simp [writes, zipAt], by simp [writes]⟩
  | b :: r, s, at_, hb, hl, h => by
    simp only [List.length_cons] at hl ⊢
    simp only [writes]
    rcases write_cases hb (n := at_) (by omega) b with ⟨w1, w2, w3, w4, w5⟩ | ⟨w1, w2, w3, w4, w5⟩
    · rw [if_pos w1]
      rcases writes_cases r (dk.write s at_ b).2 (at_ + 1) w2 (by rw [w3]; omega) (fun x hx => h x (List.mem_cons_of_mem _ hx)) with ⟨v1, v2, v3, v4, v5⟩ | ⟨v1, v2, v3, ⟨M, v4, v5, v7⟩, v6⟩
      · refine .inl ⟨v1, v2, by rw [v3, w3], ?_, by rw [v5, w5]; omega⟩
        rw [v4, w4, List.append_assoc]
        rfl
      · refine .inr ⟨v1, v2, by rw [v3, w3], ⟨((at_ : Int), b) :: M, ?_, ?_, by simp only [List.length_cons]; omega⟩, by omega⟩
        · rw [v4, w4, List.append_assoc]
          rfl
        · intro x hx
          rcases List.mem_cons.1 hx with rfl | hx
          · exact ⟨Int.le_refl _, by simp only; omega, h _ (List.mem_cons_self ..)⟩
          · have := v5 x hx
            exact ⟨by omega, by omega, this.2.2⟩
    · rw [if_neg (by rw [w1]; decide)]
      exact .inr ⟨w1, w2, w3, ⟨[], by rw [w4, List.append_nil], (fun x hx => by cases hx), by simp⟩, by omega⟩
/-! ### What other blocks have -/
/-- S' has what S has but between lo and hi -/
structure Agree (lo hi : Nat) (S S' : List Blk) : Prop where
  len : S'.length = S.length
  get : ∀ k, (k < lo ∨ hi ≤ k) → S'.getD k dk.zero = S.getD k dk.zero
theorem Agree.refl (lo hi : Nat) (S : List Blk) : Agree lo hi S S := ⟨rfl, fun _ _ => rfl⟩
theorem Agree.trans {lo hi : Nat} {S S1 S2 : List Blk} (h : Agree lo hi S S1) (h2 : Agree lo hi S1 S2) : Agree lo hi S S2 := ⟨h2.len.trans h.len, fun k hk => (h2.get k hk).trans (h.get k hk)⟩
theorem getD_set_ne {S : List Blk} {i k : Nat} (h : i ≠ k) (b : Blk) : (S.set i b).getD k dk.zero = S.getD k dk.zero := by
  simp only [List.getD_eq_getElem?_getD]
  rw [List.getElem?_set_ne h]
theorem getD_set_eq {S : List Blk} {i : Nat} (h : i < S.length) (b : Blk) : (S.set i b).getD i dk.zero = b := by
  rw [List.getD_eq_getElem?_getD, List.getElem?_set, if_pos rfl, if_pos h]
  rfl
theorem agree_set {lo hi : Nat} (S : List Blk) {i : Nat} (h1 : lo ≤ i) (h2 : i < hi) (b : Blk) : Agree lo hi S (S.set i b) :=
  ⟨List.length_set, fun k hk => getD_set_ne (by omega) b⟩
theorem agree_tear {lo hi : Nat} : ∀ (M : List (Int × Blk)) (S : List Blk) (p : List Int), InR lo hi M → Agree lo hi S (dk.tear S M p)
  | [], S, _, _ => Agree.refl _ _ _
  | x :: r, S, p, h => by
    have hx := h x (List.mem_cons_self ..)
    exact (agree_set S (i := x.1.toNat) (by omega) (by omega) _).trans (agree_tear r _ _ (fun y hy => h y (List.mem_cons_of_mem _ hy)))
theorem agree_lay {lo hi : Nat} : ∀ (M : List (Int × Blk)) (S : List Blk), InR lo hi M → Agree lo hi S (dk.lay S M)
  | [], S, _ => Agree.refl _ _ _
  | x :: r, S, h => by
    have hx := h x (List.mem_cons_self ..)
    exact (agree_set S (i := x.1.toNat) (by omega) (by omega) _).trans (agree_lay r _ (fun y hy => h y (List.mem_cons_of_mem _ hy)))
/-- what was written is there -/
theorem lay_zip : ∀ (l : List Blk) (at_ : Nat) (S : List Blk), at_ + l.length ≤ S.length → ∀ i, i < l.length → (dk.lay S (zipAt at_ l)).getD (at_ + i) dk.zero = l.getD i dk.zero
  | [], _, _, _, i, hi => by simp at hi
  | b :: r, at_, S, h, i, hi => by
    simp only [List.length_cons] at h hi
    simp only [zipAt, dk.lay, Int.toNat_natCast]
    cases i with
    | zero =>
      have hfar : ∀ (r : List Blk) (a : Nat) (S : List Blk) (k : Nat), k < a → (dk.lay S (zipAt a r)).getD k dk.zero = S.getD k dk.zero := by
        intro r
        induction r with
        | nil => intro a S k _; rfl
        | cons x r ih =>
          intro a S k hk
          simp only [zipAt, dk.lay, Int.toNat_natCast]
          rw [ih (a + 1) _ k (by omega), getD_set_ne (by omega)]
      simp only [Nat.add_zero]
      rw [hfar r (at_ + 1) _ at_ (by omega), getD_set_eq (by omega)]
      rfl
    | succ i =>
      have := lay_zip r (at_ + 1) (S.set at_ b) (by rw [List.length_set]; omega) i (by omega)
      rw [show at_ + (i + 1) = at_ + 1 + i from by omega, this]
      rfl
end jn
end Go.Proofs.YtknndmhkfonfmaaDoor

/-
  PURE: WHEREVER THE POWER IS CUT: the batches are those ahead of what was under way, or behind it. No program is named here.
-/
namespace Go.Proofs.YtknndmhkfonfmaaDoor
namespace jn
theorem get_le (X : Blk) : (hd.get X).1 ≤ sl.worth X := by
  unfold hd.get sl.worth
  split
  · split
    · exact Nat.le_refl _
    · exact Nat.zero_le _
  · exact Nat.zero_le _
theorem newest_a {a b : Blk} {N : Nat} {h : hd.H} (ha : hd.get a = (N, h, 0)) (hb : sl.worth b < N) : hd.newest a b = (N, h, 0) := by
  have := get_le b
  unfold hd.newest
  simp only [ha]
  rw [if_neg (by simp), if_neg (by omega)]
theorem newest_b {a b : Blk} {N : Nat} {h : hd.H} (hb : hd.get b = (N, h, 0)) (ha : sl.worth a < N) : hd.newest a b = (N, h, 0) := by
  have := get_le a
  unfold hd.newest
  simp only [hb]
  rw [if_neg (by simp), if_pos (by omega)]
theorem worth_seal6 {n : Nat} (h0 : 0 < n) (hn : n < 18446744073709551616) {body : List UInt8} (h : body.length ≤ 108) : sl.worth (sl.sealB n body) = n := by
  rw [sl.worth, sl.get_seal h0 hn h]
theorem worth_bad {X : Blk} (h : ¬ (sl.get X).2.2 = 0) : sl.worth X = 0 := by
  unfold sl.worth
  unfold sl.get at h ⊢
  split
  · rfl
  · split
    · rfl
    · next h1 h2 =>
      rw [if_neg h1, if_neg h2] at h
      exact absurd rfl h
/-- the two heads: the one that counts, and the other one -/
structure Two (S : List Blk) (c N : Nat) (h : hd.H) : Prop where
  c2 : c < 2
  num : hd.num N = true
  may : hd.may h = true
  here : S.getD c dk.zero = sl.sealB N (hd.bodyOf h)
  away : sl.Away (S.getD (1 - c) dk.zero) (N + 1)
  less : sl.worth (S.getD (1 - c) dk.zero) < N
theorem Two.newest {S : List Blk} {c N : Nat} {h : hd.H} (t : Two S c N h) : hd.newest (S.getD 0 dk.zero) (S.getD 1 dk.zero) = (N, h, 0) := by
  have hg : hd.get (sl.sealB N (hd.bodyOf h)) = (N, h, 0) := by
    have := hd.get_put (hd.may_Ok t.may) t.num t.may
    rwa [hd.put_yes t.num t.may] at this
  have hc := t.c2
  have hh := t.here
  have hl := t.less
  have hcs : c = 0 ∨ c = 1 := by omega
  rcases hcs with rfl | rfl
  · rw [hh]; exact newest_a hg hl
  · rw [hh]; exact newest_b hg hl
theorem Two.next {S : List Blk} {c N : Nat} {h : hd.H} (t : Two S c N h) : sl.next (S.getD 0 dk.zero) (S.getD 1 dk.zero) = ((1 - c : Nat) : Int) := by
  have hn := hd.num_ok t.num
  have hw : sl.worth (sl.sealB N (hd.bodyOf h)) = N := worth_seal6 (by omega) (by omega) (by rw [hd.bodyOf_length]; omega)
  have hc := t.c2
  have hh := t.here
  have hl := t.less
  unfold sl.next
  have hcs : c = 0 ∨ c = 1 := by omega
  rcases hcs with rfl | rfl
  · rw [hh, hw, if_pos ⟨by omega, by simpa using Nat.le_of_lt hl⟩]; rfl
  · rw [hh, hw, if_neg (fun h => by have := h.2; simp only [Nat.sub_self] at hl; omega)]; rfl
theorem Two.agree {S S' : List Blk} {c N : Nat} {h : hd.H} (t : Two S c N h) {lo hi : Nat} (ha : Agree lo hi S S') (h2 : 2 ≤ lo) : Two S' c N h := by
  have hc := t.c2
  have e1 := ha.get c (.inl (by omega))
  have e2 := ha.get (1 - c) (.inl (by omega))
  exact ⟨t.c2, t.num, t.may, by rw [e1]; exact t.here, by rw [e2]; exact t.away, by rw [e2]; exact t.less⟩
/-- a new head in the other place -/
theorem Two.laid {S : List Blk} {c N : Nat} {h h' : hd.H} (t : Two S c N h) (hl : 2 ≤ S.length) (hn : hd.num (N + 1) = true) (hm : hd.may h' = true) : Two (S.set (1 - c) (sl.sealB (N + 1) (hd.bodyOf h'))) (1 - c) (N + 1) h' := by
  have hc := t.c2
  have n1 := hd.num_ok t.num
  have e1 : (S.set (1 - c) (sl.sealB (N + 1) (hd.bodyOf h'))).getD (1 - (1 - c)) dk.zero = sl.sealB N (hd.bodyOf h) := by
    rw [show 1 - (1 - c) = c from by omega, getD_set_ne (by omega)]
    exact t.here
  refine ⟨by omega, hn, hm, getD_set_eq (by omega) _, ?_, ?_⟩
  · rw [e1]
    exact sl.away_seal (by rw [hd.bodyOf_length]; omega) (by omega) (by omega) (by omega)
  · rw [e1, worth_seal6 (by omega) (by omega) (by rw [hd.bodyOf_length]; omega)]
    omega
/-- only a beginning of a new head in the other place -/
theorem Two.begun {S : List Blk} {c N : Nat} {h h' : hd.H} (t : Two S c N h) (hS : ∀ b ∈ S, b.length = 128) (hl : 2 ≤ S.length) (hn : hd.num (N + 1) = true) (hm : hd.may h' = true) (k : Int) :
    Two (S.set (1 - c) (dk.torn (S.getD (1 - c) dk.zero) (sl.sealB (N + 1) (hd.bodyOf h')) k)) c N h ∨ Two (S.set (1 - c) (dk.torn (S.getD (1 - c) dk.zero) (sl.sealB (N + 1) (hd.bodyOf h')) k)) (1 - c) (N + 1) h' := by
  have hc := t.c2
  have n1 := hd.num_ok hn
  have hbl : (hd.bodyOf h').length ≤ 108 := by rw [hd.bodyOf_length]; omega
  have hold : ∀ X', (sl.Away X' (N + 1)) → sl.worth X' < N → Two (S.set (1 - c) X') c N h := fun X' h1 h2 =>
    ⟨t.c2, t.num, t.may, by rw [getD_set_ne (by omega)]; exact t.here, by rw [getD_set_eq (by omega)]; exact h1, by rw [getD_set_eq (by omega)]; exact h2⟩
  rcases sl.torn_away (dk.getD_len hS (1 - c)) (M := N + 1) (by omega) hbl t.away k with e | e | ⟨e1, e2⟩
  · rw [e]
    exact .inl (hold _ t.away t.less)
  · rw [e]
    exact .inr (t.laid hl hn hm)
  · exact .inl (hold _ e2 (by rw [worth_bad e1]; have := hd.num_ok t.num; omega))
theorem Two.zero : Two ([sl.sealB 1 (hd.bodyOf hd.zero), dk.zero]) 0 1 hd.zero :=
  ⟨by omega, by decide, by decide, rfl, sl.away_zero (by omega), by show sl.worth dk.zero < 1; decide +kernel⟩
end jn
end Go.Proofs.YtknndmhkfonfmaaDoor
