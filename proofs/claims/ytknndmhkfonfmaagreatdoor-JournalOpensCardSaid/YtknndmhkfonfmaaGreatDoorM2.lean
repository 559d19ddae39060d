/-
  PURE: sealed blocks: a number, a body, their sum, what is left of the number; what a block tells; what is true of them. No program is named here.
-/
import Derived.Test.YtknndmhkfonfmaaGreatDoorM1
import Derived.Deep.RegionHeldLaw
import Derived.StillTailTactics
import Derived.Deep.DeepCutAuto
namespace Go.Proofs.YtknndmhkfonfmaaGreatDoor

/-! ### Numbers and their bytes -/
theorem leVal_bytes (n : Nat) : ∀ k, leVal (leBytes n k) = n % 2 ^ (8 * k)
  | 0 => by simp [leBytes, leVal, Nat.mod_one]
  | k + 1 => by
    rw [leBytes, leVal_snoc, leVal_bytes n k, leBytes_length, UInt8.toNat_ofNat', show 8 * (k + 1) = 8 * k + 8 from by omega, Nat.pow_add, Nat.mod_mul]
    rw [Nat.mul_comm (n / 2 ^ (8 * k) % 2 ^ 8)]
theorem leBytes_get (n : Nat) : ∀ (k i : Nat), i < k → (leBytes n k)[i]? = some (UInt8.ofNat (n / 2 ^ (8 * i)))
  | 0, i, h => by omega
  | k + 1, i, h => by
    rw [leBytes]
    by_cases hi : i < k
    · rw [List.getElem?_append_left (by rw [leBytes_length]; exact hi)]
      exact leBytes_get n k i hi
    · obtain rfl : i = k := by omega
      rw [List.getElem?_append_right (by rw [leBytes_length]; omega), leBytes_length, Nat.sub_self]
      rfl
theorem leBytes_congr {n m : Nat} : ∀ (k : Nat), n % 2 ^ (8 * k) = m % 2 ^ (8 * k) → leBytes n k = leBytes m k
  | 0, _ => rfl
  | k + 1, h => by
    have e : 2 ^ (8 * (k + 1)) = 2 ^ (8 * k) * 256 := by rw [show 8 * (k + 1) = 8 * k + 8 from by omega, Nat.pow_add]
    rw [e, Nat.mod_mul, Nat.mod_mul] at h
    have hp : 0 < 2 ^ (8 * k) := Nat.pow_pos (by omega)
    have h1 : n % 2 ^ (8 * k) = m % 2 ^ (8 * k) := by
      have := congrArg (· % 2 ^ (8 * k)) h
      simpa [Nat.add_mul_mod_self_left, Nat.mod_mod] using this
    have h2 : n / 2 ^ (8 * k) % 256 = m / 2 ^ (8 * k) % 256 := by
      rw [h1] at h
      exact Nat.eq_of_mul_eq_mul_left hp (by omega)
    rw [leBytes, leBytes, leBytes_congr k h1]
    congr 2
    apply UInt8.toNat_inj.1
    rw [UInt8.toNat_ofNat', UInt8.toNat_ofNat']
    exact h2
theorem leBytes_val : ∀ (l : List UInt8) (k : Nat), l.length = k → leBytes (leVal l) k = l := by
  intro l k
  induction k generalizing l with
  | zero => intro h; rw [List.eq_nil_of_length_eq_zero h]; rfl
  | succ k ih =>
    intro h
    obtain ⟨r, x, rfl⟩ : ∃ r x, l = r ++ [x] := ⟨l.dropLast, l.getLast (fun e => by rw [e] at h; simp at h), (List.dropLast_concat_getLast _).symm⟩
    have hr : r.length = k := by simpa using h
    have hlt := leVal_lt r
    rw [hr] at hlt
    have hp : 0 < 2 ^ (8 * k) := Nat.pow_pos (by omega)
    rw [leVal_snoc, hr, leBytes, leBytes_congr (m := leVal r) k (by rw [Nat.mul_comm, Nat.add_mul_mod_self_left]), ih r hr]
    congr 2
    rw [Nat.mul_comm x.toNat, Nat.add_mul_div_left _ _ hp, Nat.div_eq_of_lt hlt, Nat.zero_add]
    simp
theorem leVal_inj {l m : List UInt8} (h : l.length = m.length) (e : leVal l = leVal m) : l = m := by
  rw [← leBytes_val l l.length rfl, e, h, leBytes_val m m.length rfl]
theorem not_byte (n i : Nat) (hn : n < 18446744073709551616) (hi : i < 8) : UInt8.ofNat ((18446744073709551615 - n) / 2 ^ (8 * i)) = ~~~ UInt8.ofNat (n / 2 ^ (8 * i)) := by
  have hx : ∀ x : UInt8, (~~~ x).toNat = 255 - x.toNat := fun x => by
    simp [UInt8.toNat_not]
  apply UInt8.toNat_inj.1
  rw [hx, UInt8.toNat_ofNat', UInt8.toNat_ofNat']
  have hcs : i = 0 ∨ i = 1 ∨ i = 2 ∨ i = 3 ∨ i = 4 ∨ i = 5 ∨ i = 6 ∨ i = 7 := by omega
  rcases hcs with rfl | rfl | rfl | rfl | rfl | rfl | rfl | rfl <;> simp only [Nat.reduceMul, Nat.reducePow] <;> omega

namespace crc
/-- one byte -/
theorem side1 (ahead behind : List UInt8) (a b : UInt8) (h : of (ahead ++ [a] ++ behind) = of (ahead ++ [b] ++ behind)) : a = b := by
  have := side (ahead) (behind) a 0 0 0 b 0 0 0
  unfold of at h
  rw [more_append, more_append 0#32 (ahead ++ [b])] at h
  have h1 := more_inj _ _ _ h
  rw [more_append, more_append 0#32 ahead] at h1
  have h2 : go (~~~ more 0#32 ahead) [a] = go (~~~ more 0#32 ahead) [b] := by
    have h3 := congrArg (fun z : W => ~~~ z) h1
    simpa only [more, BitVec.not_not] using h3
  have h3 : on 8 (~~~ more 0#32 ahead ^^^ wb a) = on 8 (~~~ more 0#32 ahead ^^^ wb b) := h2
  have h4 := congrArg (fun z : W => z ^^^ ~~~ more 0#32 ahead) (on_inj _ _ _ h3)
  simp only [BitVec.xor_comm _ (wb a), BitVec.xor_comm _ (wb b), xor_two] at h4
  have h5 := congrArg BitVec.toNat h4
  simp only [wb, BitVec.toNat_ofNat] at h5
  have ha := a.toNat_lt
  have hb := b.toNat_lt
  exact UInt8.toNat_inj.1 (by omega)
end crc

namespace sl
abbrev Blk := dk.Blk
/-- the number and the body, filled up -/
def head (n : Nat) (body : List UInt8) : List UInt8 := leBytes n 8 ++ (body ++ List.replicate (108 - body.length) 0)
/-- what is left of the number -/
def last (n : Nat) : List UInt8 := leBytes (18446744073709551615 - n) 8
def sealB (n : Nat) (body : List UInt8) : Blk := head n body ++ (leBytes (crc.of (head n body)).toNat 4 ++ last n)
def put (n : Nat) (body : List UInt8) : Blk × Int := if n = 0 then (dk.zero, 2) else if 108 < body.length then (dk.zero, 3) else (sealB n body, 0)
def number (b : Blk) : Nat := leVal (b.take 8)
def get (b : Blk) : Nat × List UInt8 × Int :=
  if number b = 0 ∨ b.drop 120 ≠ last (number b) then (0, [], 5)
  else if leVal ((b.drop 116).take 4) ≠ (crc.of (b.take 116)).toNat then (0, [], 6)
  else (number b, (b.drop 8).take 108, 0)
def worth (b : Blk) : Nat := (get b).1
def newest (a b : Blk) : Int × Int := if worth a = 0 ∧ worth b = 0 then (0, 7) else if worth a < worth b then (1, 0) else (0, 0)
def next (a b : Blk) : Int := if 0 < worth a ∧ worth b ≤ worth a then 1 else 0

theorem head_length (n : Nat) {body : List UInt8} (h : body.length ≤ 108) : (head n body).length = 116 := by
  simp [head, leBytes_length]
  omega
theorem last_length (n : Nat) : (last n).length = 8 := leBytes_length _ _
theorem seal_length (n : Nat) {body : List UInt8} (h : body.length ≤ 108) : (sealB n body).length = 128 := by
  rw [sealB, List.length_append, List.length_append, head_length n h, leBytes_length, last_length]
theorem seal_take116 (n : Nat) {body : List UInt8} (h : body.length ≤ 108) : (sealB n body).take 116 = head n body := List.take_left' (head_length n h)
theorem seal_drop116 (n : Nat) {body : List UInt8} (h : body.length ≤ 108) : (sealB n body).drop 116 = leBytes (crc.of (head n body)).toNat 4 ++ last n := List.drop_left' (head_length n h)
theorem seal_drop120 (n : Nat) {body : List UInt8} (h : body.length ≤ 108) : (sealB n body).drop 120 = last n := by
  rw [show 120 = 116 + 4 from rfl, ← List.drop_drop, seal_drop116 n h]
  exact List.drop_left' (leBytes_length _ _)
theorem seal_take8 (n : Nat) {body : List UInt8} (h : body.length ≤ 108) : (sealB n body).take 8 = leBytes n 8 := by
  have e : (sealB n body).take 8 = ((sealB n body).take 116).take 8 := by rw [List.take_take]; congr 1
  rw [e, seal_take116 n h]
  exact List.take_left' (leBytes_length _ _)
theorem seal_number {n : Nat} (hn : n < 18446744073709551616) {body : List UInt8} (h : body.length ≤ 108) : number (sealB n body) = n := by
  rw [number, seal_take8 n h, leVal_bytes]
  exact Nat.mod_eq_of_lt hn
theorem of_lt (l : List UInt8) : (crc.of l).toNat < 4294967296 := (crc.of l).isLt
/-- GET TELLS WHAT WAS PUT -/
theorem get_seal {n : Nat} (h0 : 0 < n) (hn : n < 18446744073709551616) {body : List UInt8} (h : body.length ≤ 108) : get (sealB n body) = (n, body ++ List.replicate (108 - body.length) 0, 0) := by
  have e1 := seal_number hn h
  have e2 : leVal (((sealB n body).drop 116).take 4) = (crc.of ((sealB n body).take 116)).toNat := by
    rw [seal_drop116 n h, List.take_left' (leBytes_length _ _), leVal_bytes, seal_take116 n h]
    exact Nat.mod_eq_of_lt (of_lt _)
  have e3 : ((sealB n body).drop 8).take 108 = body ++ List.replicate (108 - body.length) 0 := by
    rw [List.take_drop, show 8 + 108 = 116 from rfl, seal_take116 n h, head]
    exact List.drop_left' (leBytes_length _ _)
  unfold get
  rw [e1, if_neg (by rw [seal_drop120 n h]; simp; omega), if_neg (by rw [e2]; simp), e3]
/-- WHAT IS SEALED IS ONE THAT WAS PUT -/
theorem get_ok {b : Blk} (h : (get b).2.2 = 0) : 0 < number b ∧ b.drop 120 = last (number b) ∧ leVal ((b.drop 116).take 4) = (crc.of (b.take 116)).toNat ∧ get b = (number b, (b.drop 8).take 108, 0) := by
  unfold get at h ⊢
  split at h
  · simp at h
  · next h1 =>
    split at h
    · simp at h
    · next h2 =>
      rw [if_neg h1, if_neg h2]
      refine ⟨?_, ?_, ?_, rfl⟩
      · rcases Nat.eq_zero_or_pos (number b) with h | h
        · exact absurd (.inl h) h1
        · exact h
      · exact Decidable.byContradiction fun h => h1 (.inr h)
      · exact Decidable.byContradiction fun h => h2 h
theorem number_lt (b : Blk) : number b < 18446744073709551616 := by
  have h := leVal_lt (b.take 8)
  have h8 : (b.take 8).length ≤ 8 := by rw [List.length_take]; omega
  refine Nat.lt_of_lt_of_le h ?_
  exact Nat.pow_le_pow_right (by omega) (show 8 * (b.take 8).length ≤ 64 by omega)
theorem ok_seal {b : Blk} (hb : b.length = 128) (h : (get b).2.2 = 0) : b = sealB (number b) ((b.drop 8).take 108) := by
  obtain ⟨_, h1, h2, _⟩ := get_ok h
  have hbl : ((b.drop 8).take 108).length = 108 := by rw [List.length_take, List.length_drop]; omega
  have e0 : leBytes (number b) 8 = b.take 8 := leBytes_val _ _ (by rw [List.length_take]; omega)
  have e1 : head (number b) ((b.drop 8).take 108) = b.take 116 := by
    unfold head
    have e : b.take 8 = (b.take 116).take 8 := by rw [List.take_take]; congr 1
    rw [hbl, Nat.sub_self, List.replicate_zero, List.append_nil, e0, List.take_drop, e]
    exact List.take_append_drop 8 (b.take 116)
  have e2 : leBytes (crc.of (b.take 116)).toNat 4 = (b.drop 116).take 4 := by
    rw [← h2]
    exact leBytes_val _ _ (by rw [List.length_take, List.length_drop]; omega)
  rw [sealB, e1, e2, ← h1]
  conv => lhs; rw [← List.take_append_drop 116 b, ← List.take_append_drop 4 (b.drop 116), List.drop_drop]

/-! ### One byte changed -/
theorem list_split {α : Type} (l : List α) (k : Nat) (h : k < l.length) (x : α) : l = l.take k ++ ([l[k]] ++ l.drop (k + 1)) ∧ l.set k x = l.take k ++ ([x] ++ l.drop (k + 1)) := by
  refine ⟨?_, ?_⟩
  · rw [List.singleton_append, ← List.drop_eq_getElem_cons h, List.take_append_drop]
  · rw [List.set_eq_take_append_cons_drop, if_pos h]
    rfl
theorem xor_ne (x y : UInt8) (h : x ^^^ y = x) : y = 0 := by
  have e : x ^^^ (x ^^^ y) = x ^^^ x := by rw [h]
  rw [← UInt8.xor_assoc, UInt8.xor_self, UInt8.zero_xor] at e
  exact e
/-- A SEALED BLOCK IN WHICH ONE BYTE IS CHANGED IS REFUSED -/
theorem changed {b : Blk} (hb : b.length = 128) (h : (get b).2.2 = 0) (k : Nat) (hk : k < 128) (x : UInt8) (h' : (get (b.set k x)).2.2 = 0) : b.set k x = b := by
  obtain ⟨_, a1, a2, _⟩ := get_ok h
  obtain ⟨_, b1, b2, _⟩ := get_ok h'
  have hl : (b.set k x).length = 128 := by rw [List.length_set]; exact hb
  have hnum : ∀ c : Blk, c.length = 128 → c.take 8 = leBytes (number c) 8 := fun c hc => (leBytes_val _ _ (by rw [List.length_take]; omega)).symm
  have hin : ∀ {n m : Nat}, n < 18446744073709551616 → m < 18446744073709551616 → last n = last m → n = m := fun {n m} hn hm e => by
    have := congrArg leVal e
    rw [last, last, leVal_bytes, leVal_bytes, Nat.mod_eq_of_lt (by omega), Nat.mod_eq_of_lt (by omega)] at this
    omega
  by_cases h1 : k < 8
  · have e : (b.set k x).drop 120 = b.drop 120 := List.drop_set_of_lt (by omega)
    rw [e, a1] at b1
    have hn := hin (number_lt b) (number_lt _) b1
    have e2 : (b.set k x).take 8 = b.take 8 := by rw [hnum _ hl, hnum _ hb, hn]
    have e3 : (b.set k x).drop 8 = b.drop 8 := List.drop_set_of_lt (by omega)
    rw [← List.take_append_drop 8 (b.set k x), e2, e3, List.take_append_drop]
  · have ht : (b.set k x).take 8 = b.take 8 := List.take_set_of_le (by omega)
    have hn : number (b.set k x) = number b := by rw [number, number, ht]
    by_cases h2 : 120 ≤ k
    · rw [hn, ← a1] at b1
      have e2 : (b.set k x).take 120 = b.take 120 := List.take_set_of_le (by omega)
      rw [← List.take_append_drop 120 (b.set k x), e2, b1, List.take_append_drop]
    · by_cases h3 : 116 ≤ k
      · have e2 : (b.set k x).take 116 = b.take 116 := List.take_set_of_le (by omega)
        rw [e2, ← a2] at b2
        have e3 := leVal_inj (by simp only [List.length_take, List.length_drop, List.length_set]) b2
        have e4 : (b.set k x).drop 120 = b.drop 120 := List.drop_set_of_lt (by omega)
        rw [← List.take_append_drop 116 (b.set k x), ← List.take_append_drop 4 ((b.set k x).drop 116), e2, e3, List.drop_drop, e4, show b.drop 120 = (b.drop 116).drop 4 from by rw [List.drop_drop], List.take_append_drop, List.take_append_drop]
      · have e1 : (b.set k x).drop 116 = b.drop 116 := List.drop_set_of_lt (by omega)
        rw [e1, a2] at b2
        have e2 : crc.of (b.take 116) = crc.of ((b.set k x).take 116) := BitVec.eq_of_toNat_eq b2
        have hk2 : k < (b.take 116).length := by rw [List.length_take]; omega
        obtain ⟨s1, s2⟩ := list_split (b.take 116) k hk2 x
        have e3 : (b.set k x).take 116 = (b.take 116).set k x := List.take_set ..
        rw [e3, s2, ← List.append_assoc] at e2
        conv at e2 => lhs; rw [s1, ← List.append_assoc]
        have e4 := crc.side1 _ _ _ _ e2
        rw [List.getElem_take] at e4
        rw [← e4]
        exact List.set_getElem_self _

/-! ### Beginnings -/
/-- a block whose bytes are of blocks that were sealed, of later ones ahead: f tells, of each place, whose it is (0: none's) -/
structure Mix (was : List Blk) (b : Blk) : Prop where
  len : b.length = 128
  src : ∃ f : Nat → Nat, (∀ p q, p ≤ q → f q ≤ f p) ∧ (∀ p, f p ≤ was.length) ∧ ∀ p, p < 128 → b.getD p 0 = if f p = 0 then 0 else (was.getD (f p - 1) dk.zero).getD p 0
theorem Mix.none_ : Mix [] dk.zero := ⟨List.length_replicate, fun _ => 0, fun _ _ _ => Nat.le_refl _, fun _ => Nat.le_refl _, fun p hp => by rw [if_pos rfl, List.getD_eq_getElem?_getD, dk.zero, List.getElem?_replicate, if_pos hp]; rfl⟩
theorem torn_getD (old now : Blk) (at_ : Int) (hn : now.length = 128) (p : Nat) (hp : p < 128) : (dk.torn old now at_).getD p 0 = if p < at_.toNat then now.getD p 0 else old.getD p 0 := by
  unfold dk.torn
  simp only [List.getD_eq_getElem?_getD]
  by_cases h : p < at_.toNat
  · rw [if_pos h, List.getElem?_append_left (by rw [List.length_take]; omega), List.getElem?_take_of_lt h]
  · rw [if_neg h, List.getElem?_append_right (by rw [List.length_take]; omega), List.getElem?_drop, List.length_take]
    congr 2
    omega
theorem Mix.step {was : List Blk} {b x : Blk} (h : Mix was b) (hx : x.length = 128) (at_ : Int) : Mix (was ++ [x]) (dk.torn b x at_) := by
  obtain ⟨f, h1, h2, h3⟩ := h.src
  refine ⟨dk.torn_length _ h.len hx, fun p => if p < at_.toNat then was.length + 1 else f p, fun p q hpq => ?_, fun p => ?_, fun p hp => ?_⟩
  · by_cases hq : q < at_.toNat
    · simp only [if_pos hq, if_pos (show p < at_.toNat by omega)]
      exact Nat.le_refl _
    · simp only [if_neg hq]
      split
      · have := h2 q; omega
      · exact h1 p q hpq
  · simp only [List.length_append, List.length_singleton]
    split
    · exact Nat.le_refl _
    · have := h2 p; omega
  · rw [torn_getD b x at_ hx p hp]
    by_cases ha : p < at_.toNat
    · simp only [if_pos ha, if_neg (Nat.succ_ne_zero _), Nat.add_sub_cancel]
      congr 1
      rw [List.getD_eq_getElem?_getD, List.getElem?_append_right (Nat.le_refl _), Nat.sub_self]
      rfl
    · simp only [if_neg ha]
      rw [h3 p hp]
      split
      · rfl
      · next hz =>
        congr 1
        have := h2 p
        rw [List.getD_eq_getElem?_getD, List.getD_eq_getElem?_getD, List.getElem?_append_left (by omega)]
/-- the blocks that were there as a whole: numbers that are not far from each other, none twice -/
structure Were (was : List Blk) (num : Nat → Nat) : Prop where
  sealed : ∀ i, i < was.length → ∃ body : List UInt8, body.length ≤ 108 ∧ was.getD i dk.zero = sealB (num i) body
  pos : ∀ i, i < was.length → 0 < num i
  top : ∀ i, i < was.length → num i < 2305843009213693952
  near : ∀ i j, i < was.length → j < was.length → num i < num j + 256
  once : ∀ i j, i < was.length → j < was.length → num i = num j → i = j
theorem seal_first {n : Nat} {body : List UInt8} (h : body.length ≤ 108) {k : Nat} (hk : k < 8) : (sealB n body).getD k 0 = UInt8.ofNat (n / 2 ^ (8 * k)) := by
  have e : (sealB n body)[k]? = ((sealB n body).take 8)[k]? := (List.getElem?_take_of_lt hk).symm
  rw [List.getD_eq_getElem?_getD, e, seal_take8 n h, leBytes_get n 8 k hk]
  rfl
theorem seal_last {n : Nat} (hn : n < 18446744073709551616) {body : List UInt8} (h : body.length ≤ 108) {k : Nat} (hk : k < 8) : (sealB n body).getD (120 + k) 0 = ~~~ (sealB n body).getD k 0 := by
  have e : (sealB n body)[120 + k]? = ((sealB n body).drop 120)[k]? := by rw [List.getElem?_drop]
  rw [seal_first h hk, List.getD_eq_getElem?_getD, e, seal_drop120 n h, last, leBytes_get _ 8 k hk]
  exact not_byte n k hn hk
/-- the end of a sealed block is what is left of its beginning -/
theorem ok_ends {b : Blk} (hb : b.length = 128) (h : (get b).2.2 = 0) {k : Nat} (hk : k < 8) : b.getD (120 + k) 0 = ~~~ b.getD k 0 := by
  rw [ok_seal hb h]
  exact seal_last (number_lt b) (by rw [List.length_take, List.length_drop]; omega) hk
theorem getD_ext {a b : Blk} (ha : a.length = 128) (hb : b.length = 128) (h : ∀ p, p < 128 → a.getD p 0 = b.getD p 0) : a = b := by
  apply List.ext_getElem?
  intro i
  by_cases hi : i < 128
  · have := h i hi
    rw [List.getD_eq_getElem?_getD, List.getD_eq_getElem?_getD, List.getElem?_eq_getElem (by omega), List.getElem?_eq_getElem (by omega)] at this
    rw [List.getElem?_eq_getElem (by omega), List.getElem?_eq_getElem (by omega)]
    exact congrArg some this
  · rw [List.getElem?_eq_none (by omega), List.getElem?_eq_none (by omega)]
/-- WHAT IS SEALED IS ONE THAT WAS THERE AS A WHOLE -/
theorem Mix.whole {was : List Blk} {num : Nat → Nat} {b : Blk} (h : Mix was b) (hw : Were was num) (hok : (get b).2.2 = 0) : ∃ i, i < was.length ∧ b = was.getD i dk.zero := by
  obtain ⟨f, f1, f2, f3⟩ := h.src
  have hends := fun k hk => ok_ends h.len hok (k := k) hk
  have hby : ∀ p, p < 128 → ∀ i, f p = i + 1 → b.getD p 0 = (was.getD i dk.zero).getD p 0 := fun p hp i hi => by
    rw [f3 p hp, hi, if_neg (Nat.succ_ne_zero _), Nat.add_sub_cancel]
  have hz : ∀ p, p < 128 → f p = 0 → b.getD p 0 = 0 := fun p hp hi => by rw [f3 p hp, if_pos hi]
  cases h120 : f 120 with
  | zero =>
    have h7 := hends 7 (by omega)
    rw [hz 127 (by omega) (by have := f1 120 127 (by omega); omega)] at h7
    have h7' : b.getD 7 0 = 255 := by
      have : ~~~ (~~~ b.getD 7 0) = ~~~ (0 : UInt8) := by rw [← h7]
      rw [UInt8.not_not] at this
      rw [this]; decide
    cases hf7 : f 7 with
    | zero => rw [hz 7 (by omega) hf7] at h7'; exact absurd h7' (by decide)
    | succ i =>
      have hi : i < was.length := by have := f2 7; omega
      obtain ⟨body, hbl, he⟩ := hw.sealed i hi
      rw [hby 7 (by omega) i hf7, he, seal_first hbl (by omega)] at h7'
      have ht := hw.top i hi
      have h8 := congrArg UInt8.toNat h7'
      rw [UInt8.toNat_ofNat'] at h8
      simp only [Nat.reduceMul, Nat.reducePow] at h8
      have h9 : (255 : UInt8).toNat = 255 := by decide
      omega
  | succ i =>
    have hi : i < was.length := by have := f2 120; omega
    obtain ⟨body, hbl, he⟩ := hw.sealed i hi
    cases hf0 : f 0 with
    | zero => have := f1 0 120 (by omega); omega
    | succ j =>
      have hj : j < was.length := by have := f2 0; omega
      obtain ⟨body', hbl', he'⟩ := hw.sealed j hj
      have h0 := hends 0 (by omega)
      have hti := hw.top i hi
      rw [hby 120 (by omega) i h120, hby 0 (by omega) j hf0, he, he', seal_last (k := 0) (by omega) hbl (by omega)] at h0
      have h1 : (sealB (num i) body).getD 0 0 = (sealB (num j) body').getD 0 0 := by
        have := congrArg (~~~ ·) h0
        simpa only [UInt8.not_not] using this
      rw [seal_first hbl (by omega), seal_first hbl' (by omega)] at h1
      have h2 := congrArg UInt8.toNat h1
      rw [UInt8.toNat_ofNat', UInt8.toNat_ofNat'] at h2
      simp only [Nat.mul_zero, Nat.pow_zero, Nat.div_one, Nat.reducePow] at h2
      have n1 := hw.near i j hi hj
      have n2 := hw.near j i hj hi
      have hij : i = j := hw.once i j hi hj (by omega)
      subst hij
      have hbel : ∀ p, p ≤ 120 → b.getD p 0 = (was.getD i dk.zero).getD p 0 := fun p hp => hby p (by omega) i (by have := f1 0 p (by omega); have := f1 p 120 hp; omega)
      refine ⟨i, hi, getD_ext h.len (by rw [he]; exact seal_length _ hbl) fun p hp => ?_⟩
      by_cases hp2 : p ≤ 120
      · exact hbel p hp2
      · obtain ⟨k, rfl⟩ : ∃ k, p = 120 + k := ⟨p - 120, by omega⟩
        rw [hends k (by omega), hbel k (by omega), he, seal_last (by omega) hbl (by omega)]

/-! ### A block that is laid place by place -/
def spot (first body sum last : List UInt8) (j1 j2 j3 p : Nat) : UInt8 :=
  if p < 8 then (if p < j1 then first.getD p 0 else 0) else if p < 116 then (if p - 8 < j2 then body.getD (p - 8) 0 else 0)
  else if p < 120 then (if p - 116 < j3 then sum.getD (p - 116) 0 else 0) else (if p - 120 < j1 then last.getD (p - 120) 0 else 0)
theorem getD_left {l m : List UInt8} {p : Nat} (h : p < l.length) : (l ++ m).getD p 0 = l.getD p 0 := by
  rw [List.getD_eq_getElem?_getD, List.getElem?_append_left h, List.getD_eq_getElem?_getD]
theorem getD_right {l m : List UInt8} {p : Nat} (h : l.length ≤ p) : (l ++ m).getD p 0 = m.getD (p - l.length) 0 := by
  rw [List.getD_eq_getElem?_getD, List.getElem?_append_right h, List.getD_eq_getElem?_getD]
theorem getD_over {l : List UInt8} {p : Nat} (h : l.length ≤ p) : l.getD p 0 = 0 := by
  rw [List.getD_eq_getElem?_getD, List.getElem?_eq_none h]; rfl
theorem head_spot (n : Nat) {body : List UInt8} (sum last : List UInt8) (j3 p : Nat) (hp : p < 116) : (head n body).getD p 0 = spot (leBytes n 8) body sum last 8 body.length j3 p := by
  unfold head spot
  by_cases h1 : p < 8
  · rw [if_pos h1, if_pos h1, getD_left (by rw [leBytes_length]; exact h1)]
  · rw [if_neg h1, if_pos hp, getD_right (by rw [leBytes_length]; omega), leBytes_length]
    by_cases h2 : p - 8 < body.length
    · rw [if_pos h2, getD_left h2]
    · rw [if_neg h2, getD_right (by omega), List.getD_eq_getElem?_getD, List.getElem?_replicate]
      split <;> rfl
theorem seal_spot (n : Nat) {body : List UInt8} (h : body.length ≤ 108) (p : Nat) (hp : p < 128) : (sealB n body).getD p 0 = spot (leBytes n 8) body (leBytes (crc.of (head n body)).toNat 4) (last n) 8 body.length 4 p := by
  have hl := head_length n h
  by_cases h1 : p < 116
  · rw [sealB, getD_left (by omega)]
    exact head_spot n _ _ _ p h1
  · rw [sealB, getD_right (by omega), hl]
    unfold spot
    rw [if_neg (by omega), if_neg h1]
    by_cases h2 : p < 120
    · rw [if_pos h2, if_pos (by omega), getD_left (by rw [leBytes_length]; omega)]
    · rw [if_neg h2, if_pos (by omega), getD_right (by rw [leBytes_length]; omega), leBytes_length, show p - 116 - 4 = p - 120 from by omega]
theorem getD_set (l : List UInt8) (i p : Nat) (x : UInt8) (hi : i < l.length) : (l.set i x).getD p 0 = if p = i then x else l.getD p 0 := by
  simp only [List.getD_eq_getElem?_getD, List.getElem?_set]
  by_cases h : i = p
  · rw [if_pos h, if_pos h.symm, if_pos (by omega)]; rfl
  · rw [if_neg h, if_neg (fun e => h e.symm)]
theorem take_head {bl : List UInt8} {n : Nat} {body sum last : List UInt8} (hb : body.length ≤ 108) (hl : bl.length = 128) (h : ∀ p, p < 128 → bl.getD p 0 = spot (leBytes n 8) body sum last 8 body.length 0 p) : bl.take 116 = head n body := by
  apply List.ext_getElem?
  intro i
  by_cases hi : i < 116
  · have h1 := h i (by omega)
    rw [← head_spot n sum last 0 i hi, List.getD_eq_getElem?_getD, List.getD_eq_getElem?_getD, List.getElem?_eq_getElem (by omega), List.getElem?_eq_getElem (by rw [head_length n hb]; exact hi)] at h1
    rw [List.getElem?_take_of_lt hi, List.getElem?_eq_getElem (by omega), List.getElem?_eq_getElem (by rw [head_length n hb]; exact hi)]
    exact congrArg some h1
  · rw [List.getElem?_eq_none (by rw [List.length_take]; omega), List.getElem?_eq_none (by rw [head_length n hb]; omega)]
theorem spot_zero (first body sum last : List UInt8) (p : Nat) (hp : p < 128) : (dk.zero).getD p 0 = spot first body sum last 0 0 0 p := by
  rw [List.getD_eq_getElem?_getD, dk.zero, List.getElem?_replicate, if_pos hp]
  unfold spot
  simp
theorem spot_one {first body sum last : List UInt8} {bl : List UInt8} {j : Nat} (hl : bl.length = 128) (h : ∀ p, p < 128 → bl.getD p 0 = spot first body sum last j 0 0 p) (hj : j < 8) :
    ∀ p, p < 128 → ((bl.set j (first.getD j 0)).set (120 + j) (last.getD j 0)).getD p 0 = spot first body sum last (j + 1) 0 0 p := fun p hp => by
  rw [getD_set _ _ _ _ (by rw [List.length_set]; omega), getD_set _ _ _ _ (by omega), h p hp]
  unfold spot
  by_cases h1 : p = 120 + j
  · subst h1
    rw [if_pos rfl, if_neg (by omega), if_neg (by omega), if_neg (by omega), if_pos (by omega), Nat.add_sub_cancel_left]
  · rw [if_neg h1]
    by_cases h2 : p = j
    · subst h2
      rw [if_pos rfl, if_pos hj, if_pos (by omega)]
    · rw [if_neg h2]
      by_cases h3 : p < 8
      · rw [if_pos h3, if_pos h3]
        by_cases h4 : p < j
        · rw [if_pos h4, if_pos (by omega)]
        · rw [if_neg h4, if_neg (by omega)]
      · rw [if_neg h3, if_neg h3]
        by_cases h4 : p < 116
        · rw [if_pos h4, if_pos h4]
        · rw [if_neg h4, if_neg h4]
          by_cases h5 : p < 120
          · rw [if_pos h5, if_pos h5]
          · rw [if_neg h5, if_neg h5]
            by_cases h6 : p - 120 < j
            · rw [if_pos h6, if_pos (by omega)]
            · rw [if_neg h6, if_neg (by omega)]
theorem spot_two {first body sum last : List UInt8} {bl : List UInt8} {j : Nat} (hl : bl.length = 128) (h : ∀ p, p < 128 → bl.getD p 0 = spot first body sum last 8 j 0 p) (hj : j < 108) :
    ∀ p, p < 128 → (bl.set (8 + j) (body.getD j 0)).getD p 0 = spot first body sum last 8 (j + 1) 0 p := fun p hp => by
  rw [getD_set _ _ _ _ (by omega), h p hp]
  unfold spot
  by_cases h1 : p = 8 + j
  · subst h1
    rw [if_pos rfl, if_neg (by omega), if_pos (by omega), if_pos (by omega), Nat.add_sub_cancel_left]
  · rw [if_neg h1]
    by_cases h3 : p < 8
    · rw [if_pos h3, if_pos h3, if_pos h3]
    · rw [if_neg h3, if_neg h3]
      by_cases h4 : p < 116
      · rw [if_pos h4, if_pos h4]
        by_cases h6 : p - 8 < j
        · rw [if_pos h6, if_pos (by omega)]
        · rw [if_neg h6, if_neg (by omega)]
      · rw [if_neg h4, if_neg h4]
theorem spot_three {first body sum last : List UInt8} {bl : List UInt8} {m j : Nat} (hl : bl.length = 128) (h : ∀ p, p < 128 → bl.getD p 0 = spot first body sum last 8 m j p) (hj : j < 4) :
    ∀ p, p < 128 → (bl.set (116 + j) (sum.getD j 0)).getD p 0 = spot first body sum last 8 m (j + 1) p := fun p hp => by
  rw [getD_set _ _ _ _ (by omega), h p hp]
  unfold spot
  by_cases h1 : p = 116 + j
  · subst h1
    rw [if_pos rfl, if_neg (by omega), if_neg (by omega), if_pos (by omega), if_pos (by omega), Nat.add_sub_cancel_left]
  · rw [if_neg h1]
    by_cases h3 : p < 8
    · rw [if_pos h3, if_pos h3, if_pos h3]
    · rw [if_neg h3, if_neg h3]
      by_cases h4 : p < 116
      · rw [if_pos h4, if_pos h4]
      · rw [if_neg h4, if_neg h4]
        by_cases h5 : p < 120
        · rw [if_pos h5, if_pos h5]
          by_cases h6 : p - 116 < j
          · rw [if_pos h6, if_pos (by omega)]
          · rw [if_neg h6, if_neg (by omega)]
        · rw [if_neg h5, if_neg h5]
theorem spot_sum {first body sum sum' last : List UInt8} {m p : Nat} : spot first body sum last 8 m 0 p = spot first body sum' last 8 m 0 p := by
  unfold spot
  split
  · rfl
  split
  · rfl
  split
  · rw [if_neg (by omega), if_neg (by omega)]
  · rfl
end sl
end Go.Proofs.YtknndmhkfonfmaaGreatDoor

/-
  PURE: heads: which may be, their blocks, what a block tells, the newest of two; what is true of them. No program is named here.
-/
namespace Go.Proofs.YtknndmhkfonfmaaGreatDoor
namespace hd
abbrev Blk := dk.Blk
structure H where
  bank : UInt8
  blocks : Nat
  batches : Nat
instance : DecidableEq H := fun a b => if h : a.bank = b.bank ∧ a.blocks = b.blocks ∧ a.batches = b.batches then .isTrue (by cases a; cases b; simp_all) else .isFalse (fun e => h (by rw [e]; exact ⟨rfl, rfl, rfl⟩))
def zero : H := ⟨0, 0, 0⟩
structure H.Ok (h : H) : Prop where
  blocks : h.blocks < 4294967296
  batches : h.batches < 4294967296
theorem zero_ok : zero.Ok := ⟨by decide, by decide⟩
abbrev cells (h : H) : List Value := [bv h.bank, .int .u32 h.blocks, .int .u32 h.batches]
abbrev val (h : H) : Value := .agg #[bv h.bank, .int .u32 h.blocks, .int .u32 h.batches]
def may (h : H) : Bool := decide (h.bank.toNat ≤ 1) && (decide (h.blocks ≤ 4096) && decide (h.batches ≤ h.blocks))
def num (n : Nat) : Bool := decide (1 ≤ n) && decide (n ≤ 4611686018427387904)
def bodyOf (h : H) : List UInt8 := [h.bank] ++ leBytes h.blocks 4 ++ leBytes h.batches 4
def put (n : Nat) (h : H) : Blk × Int := if (num n && may h) = true then (sl.sealB n (bodyOf h), 0) else (dk.zero, 2)
def headOf (l : List UInt8) : H := ⟨l.getD 0 0, leVal ((l.drop 1).take 4), leVal ((l.drop 5).take 4)⟩
def get (b : Blk) : Nat × H × Int :=
  if (sl.get b).2.2 = 0 then
    (if (put (sl.get b).1 (headOf (sl.get b).2.1)).2 = 0 ∧ (put (sl.get b).1 (headOf (sl.get b).2.1)).1 = b then ((sl.get b).1, headOf (sl.get b).2.1, 0) else (0, zero, 5))
  else (0, zero, (sl.get b).2.2)
def newest (a b : Blk) : Nat × H × Int :=
  if ¬ (get a).2.2 = 0 ∧ ¬ (get b).2.2 = 0 then (0, zero, 7) else if (get a).1 < (get b).1 then ((get b).1, (get b).2.1, 0) else ((get a).1, (get a).2.1, 0)

theorem bodyOf_length (h : H) : (bodyOf h).length = 9 := by simp [bodyOf, leBytes_length]
theorem may_ok {h : H} (hm : may h = true) : h.bank.toNat ≤ 1 ∧ h.blocks ≤ 4096 ∧ h.batches ≤ h.blocks := by
  simp only [may, Bool.and_eq_true, decide_eq_true_eq] at hm
  exact hm
theorem num_ok {n : Nat} (hn : num n = true) : 1 ≤ n ∧ n ≤ 4611686018427387904 := by
  simp only [num, Bool.and_eq_true, decide_eq_true_eq] at hn
  exact hn
theorem put_len (n : Nat) (h : H) : (put n h).1.length = 128 := by
  unfold put
  split
  · exact sl.seal_length n (by rw [bodyOf_length]; omega)
  · exact List.length_replicate
theorem put_yes {n : Nat} {h : H} (hn : num n = true) (hm : may h = true) : put n h = (sl.sealB n (bodyOf h), 0) := by
  unfold put
  rw [hn, hm]
  rfl
theorem put_no {n : Nat} {h : H} (hq : (num n && may h) = false) : put n h = (dk.zero, 2) := by
  unfold put
  rw [hq]
  rfl
theorem put_err (n : Nat) (h : H) : (put n h).2 = 0 ↔ (num n && may h) = true := by
  unfold put
  split
  · next hq => simp [hq]
  · next hq => simp [hq]
theorem put_eq {n : Nat} {h : H} (he : (put n h).2 = 0) : put n h = (sl.sealB n (bodyOf h), 0) ∧ num n = true ∧ may h = true := by
  have hq := (put_err n h).1 he
  have h2 := hq
  rw [Bool.and_eq_true] at h2
  exact ⟨put_yes h2.1 h2.2, h2.1, h2.2⟩
/-- the body, filled up, tells the head -/
theorem headOf_body (h : H) (hok : h.Ok) (m : Nat) : headOf (bodyOf h ++ List.replicate m 0) = h := by
  have e1 : ((bodyOf h ++ List.replicate m 0).drop 1).take 4 = leBytes h.blocks 4 := by
    unfold bodyOf
    rw [List.append_assoc, List.append_assoc, List.drop_left' (show ([h.bank] : List UInt8).length = 1 from rfl)]
    exact List.take_left' (leBytes_length _ _)
  have e2 : ((bodyOf h ++ List.replicate m 0).drop 5).take 4 = leBytes h.batches 4 := by
    unfold bodyOf
    rw [List.append_assoc]
    rw [List.drop_left' (by simp [leBytes_length])]
    exact List.take_left' (leBytes_length _ _)
  have e3 : (bodyOf h ++ List.replicate m 0).getD 0 0 = h.bank := by
    unfold bodyOf
    rw [List.append_assoc, List.append_assoc]
    rfl
  unfold headOf
  rw [e1, e2, e3, leVal_bytes, leVal_bytes]
  have h1 := hok.blocks
  have h2 := hok.batches
  rw [Nat.mod_eq_of_lt (by omega), Nat.mod_eq_of_lt (by omega)]
/-- WHAT IS PUT IS GOT -/
theorem get_put {n : Nat} {h : H} (hok : h.Ok) (hn : num n = true) (hm : may h = true) : get (put n h).1 = (n, h, 0) := by
  have h1 := num_ok hn
  have hp := put_yes hn hm
  have hg : sl.get (sl.sealB n (bodyOf h)) = (n, bodyOf h ++ List.replicate (108 - (bodyOf h).length) 0, 0) := sl.get_seal (by omega) (by omega) (by rw [bodyOf_length]; omega)
  rw [hp]
  unfold get
  simp only [hg]
  rw [headOf_body h hok, if_pos trivial, hp, if_pos ⟨rfl, rfl⟩]
/-- WHAT IS GOT IS PUT AS THE SAME BLOCK -/
theorem put_get {b : Blk} (h : (get b).2.2 = 0) : put (get b).1 (get b).2.1 = (b, 0) := by
  unfold get at h ⊢
  split at h
  · next h1 =>
    split at h
    · next h2 =>
      rw [if_pos h1, if_pos h2]
      exact Prod.ext h2.2 h2.1
    · cases h
  · next h1 => exact absurd h h1
/-- what is refused has no number -/
theorem get_err {b : Blk} (h : ¬ (get b).2.2 = 0) : (get b).1 = 0 ∧ (get b).2.1 = zero := by
  unfold get at h ⊢
  split at h
  · next h1 =>
    split at h
    · exact absurd rfl h
    · next h2 =>
      rw [if_pos h1, if_neg h2]
      exact ⟨rfl, rfl⟩
  · next h1 =>
    rw [if_neg h1]
    exact ⟨rfl, rfl⟩
theorem get_num {b : Blk} (h : (get b).2.2 = 0) : 1 ≤ (get b).1 ∧ (get b).1 ≤ 4611686018427387904 ∧ may (get b).2.1 = true := by
  obtain ⟨_, h1, h2⟩ := put_eq (n := (get b).1) (h := (get b).2.1) (by rw [put_get h])
  have := num_ok h1
  exact ⟨this.1, this.2, h2⟩
theorem get_lt (b : Blk) : (get b).1 ≤ 4611686018427387904 := by
  by_cases h : (get b).2.2 = 0
  · exact (get_num h).2.1
  · rw [(get_err h).1]; omega
theorem may_Ok {h : H} (hm : may h = true) : h.Ok := by
  have := may_ok hm
  exact ⟨by omega, by omega⟩
theorem get_Ok (b : Blk) : (get b).2.1.Ok := by
  by_cases h : (get b).2.2 = 0
  · exact may_Ok (get_num h).2.2
  · rw [(get_err h).2]; exact zero_ok
theorem newest_Ok (a b : Blk) : (newest a b).2.1.Ok := by
  unfold newest
  split
  · exact zero_ok
  · split
    · exact get_Ok b
    · exact get_Ok a
/-- the newest of two that may be -/
theorem newest_two {a b : Blk} {n m : Nat} {h k : H} (ha : get a = (n, h, 0)) (hb : get b = (m, k, 0)) : newest a b = if n < m then (m, k, 0) else (n, h, 0) := by
  unfold newest
  simp only [ha, hb]
  rw [if_neg (by simp)]
/-- the newest of one, and one that is none -/
theorem newest_left {a b : Blk} {n : Nat} {h : H} (ha : get a = (n, h, 0)) (hb : ¬ (get b).2.2 = 0) : newest a b = (n, h, 0) := by
  unfold newest
  simp only [ha, (get_err hb).1]
  rw [if_neg (by simp), if_neg (by omega)]
theorem newest_right {a b : Blk} {n : Nat} {h : H} (ha : ¬ (get a).2.2 = 0) (hb : get b = (n, h, 0)) (hn : 1 ≤ n) : newest a b = (n, h, 0) := by
  unfold newest
  simp only [hb, (get_err ha).1]
  rw [if_neg (by simp), if_pos (by omega)]
theorem newest_none {a b : Blk} (ha : ¬ (get a).2.2 = 0) (hb : ¬ (get b).2.2 = 0) : newest a b = (0, zero, 7) := by
  unfold newest
  rw [if_pos ⟨ha, hb⟩]
end hd
end Go.Proofs.YtknndmhkfonfmaaGreatDoor

/-
  contracts of crc's functions: byOne, byFour, times, On, Into, More, Of, Join.
-/
namespace Go.Proofs.YtknndmhkfonfmaaGreatDoor
open Go.RowKit

/-- a rest as a value -/
abbrev wv (x : crc.W) : Value := .int .u32 (x.toNat : Int)
theorem wv_ret {x : crc.W} {a : Int} (h : a = (x.toNat : Int)) : Ending.returned (.int .u32 a) = .returned (wv x) := by rw [h]
theorem wv_shr (x : crc.W) (j : Nat) : (x.toNat : Int) / (2 : Int) ^ j = ((x >>> j).toNat : Int) := by
  rw [BitVec.toNat_ushiftRight, Nat.shiftRight_eq_div_pow, Int.natCast_ediv, Int.natCast_pow]
  rfl
theorem wv_half (x : crc.W) : (x.toNat : Int) / (2 : Int) = ((x >>> 1).toNat : Int) := by
  rw [← wv_shr, Int.pow_one]
theorem wv_xor (x y : crc.W) : bits .xor .u32 (x.toNat : Int) (y.toNat : Int) = ((x ^^^ y).toNat : Int) := by
  rw [u32_xor_nat _ _ x.isLt y.isLt, BitVec.toNat_xor]
theorem wv_and (x y : crc.W) : bits .and .u32 (x.toNat : Int) (y.toNat : Int) = ((x &&& y).toNat : Int) := by
  rw [u32_and_nat _ _ x.isLt y.isLt, BitVec.toNat_and]
theorem wv_bit (x : crc.W) : bits .and .u32 (x.toNat : Int) 1 = if x.getLsbD 0 then 1 else 0 := by
  rw [show (1 : Int) = ((1 : Nat) : Int) from rfl, u32_and_nat _ _ x.isLt (by omega), Nat.and_one_is_mod]
  have e : x.getLsbD 0 = decide (x.toNat % 2 = 1) := by
    rw [← BitVec.testBit_toNat, Nat.testBit_zero]
  rw [e]
  by_cases h : x.toNat % 2 = 1
  · simp [h]
  · simp [h]; omega
theorem wv_bit_ne (x : crc.W) : (bits .and .u32 (x.toNat : Int) 1 != 0) = x.getLsbD 0 := by
  rw [wv_bit]
  cases x.getLsbD 0 <;> rfl

theorem i64_odd (n : Nat) (h : n < 9223372036854775808) : (bits .and .i64 (n : Int) 1 != 0) = (n % 2 == 1) := by
  have e : bits .and .i64 (n : Int) 1 = ((n % 2 : Nat) : Int) := by
    show IntKind.i64.wrap ((BitVec.ofInt 64 (n : Int) &&& BitVec.ofInt 64 ((1 : Nat) : Int)).toNat : Int) = _
    rw [BitVec.toNat_and, ofInt_u64 n (by omega), ofInt_u64 1 (by omega), nat_mask1, IntKind.wrap_i64]
    omega
  rw [e, Bool.eq_iff_iff]
  simp
  omega

/-- THE TABLE IN MEMORY: for each four lowest bits what they leave. -/
structure Tab (w : World) : Prop where
  lt : 1 < w.heap.size
  at_ : ∀ i, i < 16 → w.cell? ⟨1, i, none⟩ = some (wv (crc.on 4 (BitVec.ofNat 32 i)))
theorem Tab.below {w w' : World} (h : Tab w) (hb : Below w.heap.size w w') : Tab w' :=
  ⟨Nat.lt_of_lt_of_le h.lt hb.size, fun i hi => (hb.cell h.lt).trans (h.at_ i hi)⟩
theorem Tab.drew {w : World} (h : Tab w) : Tab w.drew := ⟨h.lt, h.at_⟩
theorem Tab.drewN {w : World} (h : Tab w) (k : Nat) : Tab (w.drewN k) := ⟨h.lt, h.at_⟩
theorem Tab.alloc {w : World} (h : Tab w) (o : Obj) : Tab (w.alloc o) := h.below ((Below.refl _ _).alloc (Nat.le_refl _) o)

theorem byFour_any (x : crc.W) (w : World) (ht : Tab w) : Calls Tryz.prog 129 #[wv x] w fun e w' => e = .returned (wv (crc.on 4 x)) ∧ w = w' := by
  have e1 : bits .and .u32 (x.toNat : Int) 15 = ((x.toNat % 16 : Nat) : Int) := by
    rw [show (15 : Int) = ((15 : Nat) : Int) from rfl, u32_and_nat _ _ x.isLt (by omega), nat_mask4]
  have hc := ht.at_ (x.toNat % 16) (by omega)
  go_enter Tryz.func129, Tryz.ntmps129
  go_wp2
  go_ret
  refine ⟨wv_ret ?_, rfl⟩
  have e2 : (x.toNat : Int) / (16 : Int) = ((x >>> 4).toNat : Int) := wv_shr x 4
  have e3 : BitVec.ofNat 32 (x.toNat % 16) = x &&& 15#32 := by
    apply BitVec.eq_of_toNat_eq
    rw [BitVec.toNat_ofNat, BitVec.toNat_and, show (15#32 : crc.W).toNat = 15 from rfl, nat_mask4]
    omega
  rw [e2, wv_xor, e3, ← crc.on4]

theorem u8_word (c : UInt8) : (c.toNat : Int) = ((crc.wb c).toNat : Int) := by
  have := c.toNat_lt
  rw [crc.wb, BitVec.toNat_ofNat]
  omega
/-- Into: the rest behind a byte. -/
theorem into_any (x : crc.W) (c : UInt8) (w : World) (ht : Tab w) : Calls Tryz.prog 128 #[wv x, bv c] w fun e w' => e = .returned (wv (crc.into x c)) ∧ w = w' := by
  have hc := c.toNat_lt
  obtain ⟨y, hy⟩ : ∃ y : crc.W, y = x ^^^ crc.wb c := ⟨_, rfl⟩
  have e1 : bits .xor .u32 (x.toNat : Int) (c.toNat : Int) = (y.toNat : Int) := by rw [u8_word, wv_xor, hy]
  have HY := Lib.hid hy
  have h4 := byFour_any y w ht
  obtain ⟨z, hz⟩ : ∃ z : crc.W, z = crc.on 4 y := ⟨_, rfl⟩
  have HZ := Lib.hid hz
  rw [← hz] at h4
  have h5 := byFour_any z w ht
  obtain ⟨u, hu⟩ : ∃ u : crc.W, u = crc.on 4 z := ⟨_, rfl⟩
  have HU := Lib.hid hu
  rw [← hu] at h5
  have H4 := Lib.hid h4
  have H5 := Lib.hid h5
  clear hy hz hu h4 h5
  go_enter Tryz.func128, Tryz.ntmps128
  go_wp2_with fail
  refine H4.out.mono ?_
  rintro e w1 ⟨rfl, rfl⟩
  go_wp2_with fail
  refine H5.out.mono ?_
  rintro e w1 ⟨rfl, rfl⟩
  go_wp2_with fail
  go_ret
  refine ⟨congrArg Ending.returned (congrArg wv ?_), rfl⟩
  rw [HU.out, HZ.out, HY.out, crc.into_four]

theorem wv_not (x : crc.W) : bits .xor .u32 IntKind.u32.max (x.toNat : Int) = ((~~~ x).toNat : Int) := by
  rw [show IntKind.u32.max = ((4294967295#32 : crc.W).toNat : Int) from rfl, wv_xor, show (4294967295#32 : crc.W) = BitVec.allOnes 32 from rfl, BitVec.allOnes_xor]

/-- More: the sum of some bytes and these, of the sum of those. -/
theorem more_any (s : crc.W) (A : Option Addr) (n c : Nat) (l : List UInt8) (w : World) (hB : BS w A n c l) (ht : Tab w) : Calls Tryz.prog 126 #[wv s, .slice A n c] w fun e w' => e = .returned (wv (crc.more s l)) ∧ w = w' := by
  have hl := hB.len
  have hsm := hB.small
  have HL := Lib.hid hl
  clear hl
  go_enter Tryz.func126, Tryz.ntmps126
  go_wp2_with fail
  go_loop [5, 12] (fun r i => ∃ j : Nat, j ≤ n ∧ i = .int .i64 j ∧ r = wv (crc.go (~~~ s) (l.take j))) (fun _ i => n - (intOf i).toNat)
  case atStart => exact ⟨0, by omega, rfl, congrArg (Value.int .u32) (wv_not s)⟩
  case round =>
    obtain ⟨j, hj, rfl, rfl⟩ := hrel
    by_cases hlt : j < n
    · obtain ⟨b, o, rfl, hbl, hcell⟩ := hB.has (by omega)
      have hx := hcell j (by rw [HL.out]; exact hlt)
      generalize hy : l[j]'(by rw [HL.out]; exact hlt) = y at hx
      have hst : l.take (j + 1) = l.take j ++ [y] := by rw [List.take_succ_eq_append_getElem (by rw [HL.out]; exact hlt), hy]
      have HST := Lib.hid hst
      clear hst hy hcell
      go_wp2_with (go_at_call 128; refine (into_any _ y _ ht).mono ?_; rintro e w1 ⟨rfl, rfl⟩)
      go_roundw
      case rel =>
        refine ⟨j + 1, by omega, by go_num, ?_⟩
        rw [HST.out, crc.go_snoc]
      case measure => simp [intOf]; omega
    · obtain rfl : j = n := by omega
      go_wp2
      go_ret
      refine ⟨wv_ret ?_, rfl⟩
      rw [wv_not, List.take_of_length_le (by rw [HL.out]; exact Nat.le_refl _)]
      rfl

/-- Of: the sum. -/
theorem of_any (A : Option Addr) (n c : Nat) (l : List UInt8) (w : World) (h : BS w A n c l) (ht : Tab w) : Calls Tryz.prog 123 #[.slice A n c] w fun e w' => e = .returned (wv (crc.of l)) ∧ w = w' := by
  go_enter Tryz.func123, Tryz.ntmps123
  go_wp2_with (go_at_call 126; refine (more_any 0#32 _ _ _ l _ h ht).mono ?_; rintro e w1 ⟨rfl, rfl⟩)
  go_ret
  exact ⟨rfl, rfl⟩

end Go.Proofs.YtknndmhkfonfmaaGreatDoor

/-
  contracts of cardexref03's functions: bit, On, Into, turned, More, Of, Join.
-/
namespace Go.Proofs.YtknndmhkfonfmaaGreatDoor
open Go.RowKit

theorem wv_bit_eq (x : crc.W) : (bits .and .u32 (x.toNat : Int) 1 == 0) = !x.getLsbD 0 := by
  rw [wv_bit]
  cases x.getLsbD 0 <;> rfl
theorem rbit_any (x : crc.W) (w : World) : Calls Tryz.prog 127 #[wv x] w fun e w' => e = .returned (wv (crc.one x)) ∧ w = w' := by
  go_enter Tryz.func127, Tryz.ntmps127
  go_wp2
  all_goals go_ret
  · next h =>
    rw [wv_bit_eq] at h
    refine ⟨wv_ret ?_, rfl⟩
    rw [wv_half, crc.one_even x (by simpa using h)]
  · next h =>
    rw [wv_bit_eq] at h
    refine ⟨wv_ret ?_, rfl⟩
    rw [wv_half]
    refine (wv_xor _ 2197175160#32).trans ?_
    rw [crc.one, if_pos (by simpa using h)]

theorem ron_any (x : crc.W) (n : Int) (w : World) (hn : n ≤ 9223372036854775807) : Calls Tryz.prog 125 #[wv x, .int .i64 n] w fun e w' => e = .returned (wv (crc.on (8 * n.toNat) x)) ∧ w = w' := by
  go_enter Tryz.func125, Tryz.ntmps125
  go_wp2_with fail
  go_loop [0, 5] (fun r i => ∃ j : Nat, j ≤ n.toNat ∧ i = .int .i64 j ∧ r = wv (crc.on (8 * j) x)) (fun _ i => n.toNat - (intOf i).toNat)
  case atStart => exact ⟨0, by omega, rfl, rfl⟩
  case round =>
    obtain ⟨j, hj, rfl, rfl⟩ := hrel
    by_cases hlt : j < n.toNat
    · have hlt' : (j : Int) < n := by omega
      go_wp2_with fail
      go_loop [0, 6] (fun r i => ∃ k : Nat, k ≤ 8 ∧ i = .int .i64 k ∧ r = wv (crc.on (8 * j + k) x)) (fun _ i => 8 - (intOf i).toNat)
      case atStart => exact ⟨0, by omega, rfl, rfl⟩
      case round =>
        obtain ⟨k, hk, rfl, rfl⟩ := hrel
        by_cases hk8 : k < 8
        · go_wp2_with (go_at_call 127; refine (rbit_any _ _).mono ?_; rintro e w1 ⟨rfl, rfl⟩)
          go_roundw
          case rel => exact ⟨k + 1, by omega, by go_num, by rw [← crc.on_succ', Nat.add_assoc]⟩
          case measure => simp [intOf]; omega
        · obtain rfl : k = 8 := by omega
          go_wp2
          go_roundw
          case rel => exact ⟨j + 1, by omega, by go_num, rfl⟩
          case measure => simp [intOf]; omega
    · obtain rfl : j = n.toNat := by omega
      have hlt' : ¬ ((n.toNat : Nat) : Int) < n := by omega
      go_wp2
      go_ret
      exact ⟨rfl, rfl⟩

theorem rinto_any (x : crc.W) (c : UInt8) (w : World) : Calls Tryz.prog 122 #[wv x, bv c] w fun e w' => e = .returned (wv (crc.into x c)) ∧ w = w' := by
  have hc := c.toNat_lt
  obtain ⟨y, hy⟩ : ∃ y : crc.W, y = x ^^^ crc.wb c := ⟨_, rfl⟩
  have e1 : bits .xor .u32 (x.toNat : Int) (c.toNat : Int) = (y.toNat : Int) := by rw [u8_word, wv_xor, hy]
  have e2 : crc.into x c = crc.on 8 y := by rw [hy]; rfl
  have HY := Lib.hid e2
  have H4 := Lib.hid (ron_any y 1 w (by omega))
  clear hy e2
  go_enter Tryz.func122, Tryz.ntmps122
  go_wp2_with fail
  refine H4.out.mono ?_
  rintro e w1 ⟨rfl, rfl⟩
  go_wp2_with fail
  go_ret
  refine ⟨congrArg Ending.returned (congrArg wv ?_), rfl⟩
  rw [HY.out]

theorem rturned_any (x : crc.W) (w : World) : Calls Tryz.prog 111 #[wv x] w fun e w' => e = .returned (wv (~~~ x)) ∧ w = w' := by
  have hx := x.isLt
  have e1 : (4294967295 : Int) - (x.toNat : Int) = ((~~~ x).toNat : Int) := by rw [BitVec.toNat_not]; omega
  have E1 := Lib.hid e1
  clear e1
  go_enter Tryz.func111, Tryz.ntmps111
  go_wp2
  go_ret
  exact ⟨wv_ret E1.out, rfl⟩

theorem rmore_any (s : crc.W) (A : Option Addr) (n c : Nat) (l : List UInt8) (w : World) (hB : BS w A n c l) : Calls Tryz.prog 110 #[wv s, .slice A n c] w fun e w' => e = .returned (wv (crc.more s l)) ∧ w = w' := by
  obtain ⟨t, ht⟩ : ∃ t : crc.W, ~~~ s = t := ⟨_, rfl⟩
  have HT := Lib.hid ht
  have H1 := Lib.hid (rturned_any s w)
  rw [ht] at H1
  clear ht
  go_enter Tryz.func110, Tryz.ntmps110
  go_wp2_with fail
  refine H1.out.mono ?_
  rintro e w1 ⟨rfl, rfl⟩
  go_wp2_with fail
  go_loop [1, 5] (fun b r => ∃ (A' : Option Addr) (k c' : Nat) (m : List UInt8) (y : crc.W), b = .slice A' k c' ∧ r = wv y ∧ BS w A' k c' m ∧ Hid (crc.go t l = crc.go y m)) (fun b _ => lenV b)
  case atStart => exact ⟨A, n, c, l, t, rfl, rfl, hB, Lib.hid rfl⟩
  case round =>
    obtain ⟨A', k, c', m, y, rfl, rfl, hb, HG⟩ := hrel
    have hcap := hb.cap
    have hmax := hb.max
    by_cases h0 : 0 < k
    · obtain ⟨b, o, rfl, hbl, hcell⟩ := hb.has h0
      obtain ⟨x, m', rfl⟩ : ∃ x m', m = x :: m' := by
        cases m with
        | nil => have := hb.len; simp at this; omega
        | cons x m' => exact ⟨x, m', rfl⟩
      have hx := hcell 0 (by simp)
      rw [Nat.add_zero] at hx
      simp only [List.getElem_cons_zero] at hx
      clear hcell
      have hnext : BS w (some ⟨b, o + 1, none⟩) (k - 1) (c' - 1) m' := by
        rcases Nat.eq_or_lt_of_le h0 with h1 | h1
        · have hl := hb.len
          obtain rfl : m' = [] := List.eq_nil_of_length_eq_zero (by simp at hl; omega)
          rw [show k - 1 = 0 from by omega]
          exact BS.empty (by omega)
        · have := drop_bs hb (j := 1) (by omega)
          simpa [Addr.add_lit] using this
      have hnext0 : ∀ A2, k = 1 → BS w A2 0 (c' - 1) m' := fun A2 h1 => by
        have hl := hb.len
        obtain rfl : m' = [] := List.eq_nil_of_length_eq_zero (by simp at hl; omega)
        exact BS.empty (by omega)
      have HI := Lib.hid (rinto_any y x w)
      obtain ⟨z, hz⟩ : ∃ z : crc.W, crc.into y x = z := ⟨_, rfl⟩
      rw [hz] at HI
      have hgo : crc.go t l = crc.go z m' := by rw [HG.out, ← hz]; rfl
      have HG2 := Lib.hid hgo
      clear hz hgo HG
      go_wp2_with fail
      refine HI.out.mono ?_
      rintro e w1 ⟨rfl, rfl⟩
      go_wp2_with fail
      go_roundw
      case rel =>
        by_cases hc1 : c' = 1
        · have hk1 : k = 1 := by omega
          refine ⟨_, k - 1, c' - 1, m', z, rfl, rfl, ?_, HG2⟩
          rw [show k - 1 = 0 from by omega]
          exact hnext0 _ hk1
        · rw [if_neg hc1]
          exact ⟨_, _, _, m', z, rfl, rfl, hnext, HG2⟩
      case measure => simp [lenV]; omega
    · obtain rfl : k = 0 := by omega
      obtain rfl : m = [] := List.eq_nil_of_length_eq_zero hb.len
      go_wp2_with fail
      refine (rturned_any y _).mono ?_
      rintro e w1 ⟨rfl, rfl⟩
      go_wp2_with fail
      go_ret
      refine ⟨congrArg Ending.returned (congrArg wv ?_), rfl⟩
      rw [crc.more, HT.out, HG.out]
      rfl

theorem rof_any (A : Option Addr) (n c : Nat) (l : List UInt8) (w : World) (hB : BS w A n c l) : Calls Tryz.prog 93 #[.slice A n c] w fun e w' => e = .returned (wv (crc.of l)) ∧ w = w' := by
  have H1 := Lib.hid (rturned_any 4294967295#32 w)
  rw [show ~~~ (4294967295#32 : crc.W) = 0#32 from by decide] at H1
  go_enter Tryz.func93, Tryz.ntmps93
  go_wp2_with fail
  refine H1.out.mono ?_
  rintro e w1 ⟨rfl, rfl⟩
  go_wp2_with fail
  refine (rmore_any 0#32 _ _ _ l _ hB).mono ?_
  rintro e w1 ⟨rfl, rfl⟩
  go_wp2_with fail
  go_ret
  exact ⟨rfl, rfl⟩

end Go.Proofs.YtknndmhkfonfmaaGreatDoor

/-
  contracts of cardexref05: ends, Put.
-/
namespace Go.Proofs.YtknndmhkfonfmaaGreatDoor
open Go.RowKit

theorem put8 (n : Nat) (h : n < 18446744073709551616) : putOk n 8 = true := by
  simp [putOk, isSz]
  exact h
theorem put4 (n : Nat) (h : n < 4294967296) : putOk n 4 = true := by
  simp [putOk, isSz]
  exact h
theorem bs_of_block5 {W : World} {g : Nat} {e : TypeId} {p : List UInt8} {fr : Nat × Nat} (h : W.heap[g]? = some (.cells ((p.map bv).toArray) e fr)) (n : Nat) (hn : n = p.length) (hs : n ≤ 281474976710656) : BS W (some ⟨g, 0, none⟩) n n p :=
  ⟨hn.symm, Nat.le_refl _, by omega, hs, fun _ => ⟨g, 0, rfl, (Array.getElem?_eq_some_iff.1 h).1, fun i hi => by
    rw [Nat.zero_add, cell_of_row _ _ _ _ _ _ h]
    simp [hi]⟩⟩
set_option maxHeartbeats 1000000 in
theorem rends_any (n : Nat) (hn : n < 18446744073709551616) (w : World) : Calls Tryz.prog 92 #[.int .u64 n] w fun e w' =>
    ∃ A1 c1 A2 c2, e = .returned (.tuple #[.slice A1 8 c1, .slice A2 8 c2]) ∧ OwnB 5 w' w.heap.size (.slice A1 8 c1) (leBytes n 8) ∧ OwnB 5 w' w.heap.size (.slice A2 8 c2) (sl.last n) ∧ Below w.heap.size w w' := by
  have e1 : (18446744073709551615 : Int) - (n : Int) = ((18446744073709551615 - n : Nat) : Int) := by omega
  have p1 := put8 n hn
  have p2 := put8 (18446744073709551615 - n) (by omega)
  have h1 := rput_any n 8 w hn
  have h2 := fun W => rput_any (18446744073709551615 - n) 8 W (by omega)
  rw [p1] at h1
  rw [p2] at h2
  rw [← e1] at h2
  have H1 := Lib.hid h1
  have H2 := Lib.hid h2
  clear h1 h2 p1 p2 e1
  go_enter Tryz.func92, Tryz.ntmps92
  go_wp2_with fail
  refine H1.out.mono ?_
  rintro e w1 ⟨-, hr, hb1⟩
  obtain ⟨v1, rfl, ho1⟩ := hr rfl
  obtain ⟨A1, c1, rfl, hB1⟩ := ho1.form
  rw [show (leBytes n (Int.toNat 8)).length = 8 from leBytes_length _ _] at hB1 ho1 ⊢
  go_wp2_with fail
  refine (H2.out _).mono ?_
  rintro e w2 ⟨-, hr, hb2⟩
  obtain ⟨v2, rfl, ho2⟩ := hr rfl
  obtain ⟨A2, c2, rfl, hB2⟩ := ho2.form
  rw [show (leBytes (18446744073709551615 - n) (Int.toNat 8)).length = 8 from leBytes_length _ _] at hB2 ho2 ⊢
  go_wp2_with fail
  go_ret2
  exact ⟨A1, c1, A2, c2, rfl, ho1.below hb2 (Nat.le_refl _), ho2.mono hb1.size, hb1.trans (hb2.mono hb1.size)⟩

theorem bs_take_row {e : TypeId} {w : World} {g : Nat} {bl : List UInt8} (h : RowB e w g bl) (hl : bl.length = 128) {k : Nat} (hk : k ≤ 128) : BS w (some ⟨g, 0, none⟩) k 128 (bl.take k) :=
  ⟨by rw [List.length_take]; omega, hk, by omega, by omega, fun _ => ⟨g, 0, rfl, h.lt, fun i hi => by
    rw [Nat.zero_add, h.cell (i := i) (by rw [List.length_take] at hi; omega), List.getElem_take]⟩⟩
theorem bs_drop_row {e : TypeId} {w : World} {g : Nat} {bl : List UInt8} (h : RowB e w g bl) (hl : bl.length = 128) {k m : Nat} (hk : k + m = 128) : BS w (some ⟨g, k, none⟩) m m (bl.drop k) :=
  ⟨by rw [List.length_drop]; omega, Nat.le_refl _, by omega, by omega, fun _ => ⟨g, k, rfl, h.lt, fun i hi => by
    rw [h.cell (i := k + i) (by rw [List.length_drop] at hi; omega), List.getElem_drop]⟩⟩
set_option maxHeartbeats 4000000 in
set_option maxRecDepth 100000 in
theorem rput5_any (n : Nat) (hn : n < 18446744073709551616) (A : Option Addr) (k c : Nat) (body : List UInt8) (w : World) (h : BS w A k c body) : Calls Tryz.prog 68 #[.int .u64 n, .slice A k c] w fun e w' =>
    e = .returned (.tuple #[dk.val (sl.put n body).1, .int .i64 (sl.put n body).2]) ∧ Below w.heap.size w w' := by
  obtain ⟨hz, -⟩ := zero_of_info zero_blk
  have hk := h.len
  have hcap := h.cap
  have hmax := h.max
  have h1 := heap_alloc_new w (.cells (dk.cells dk.zero).toArray 43)
  have h1' := (Below.heap_alloc (w.alloc (.cells (dk.cells dk.zero).toArray 43)) (.cells (dk.cells dk.zero).toArray 43) w.heap.size (by simp)).trans h1
  have h2 := heap_alloc_new (w.alloc (.cells (dk.cells dk.zero).toArray 43)) (.cells (dk.cells dk.zero).toArray 43)
  rw [show (w.alloc (.cells (dk.cells dk.zero).toArray 43)).heap.size = w.heap.size + 1 from by simp] at h2
  have hb2 : Below w.heap.size w ((w.alloc (.cells (dk.cells dk.zero).toArray 43)).alloc (.cells (dk.cells dk.zero).toArray 43)) := ((Below.refl _ _).alloc (Nat.le_refl _) _).alloc (by simp) _
  clear h1
  by_cases h0 : n = 0
  · have hp : sl.put n body = (dk.zero, 2) := if_pos h0
    have HP := Lib.hid hp
    have h0' : ((n : Int) == 0) = true := by simp [h0]
    clear hp
    have hrg := blk_range h2
    go_enter Tryz.func68, Tryz.ntmps68
    go_wp2_with (first | refine wp_ld (.tmp 6) dk.zero hrg zero_len rfl rfl rfl ?_ | (refine wp_st0 (.tmp 4) (.tmp 16) dk.zero h1' zero_len zero_len rfl rfl rfl rfl ?_; intro W hW hc))
    refine bodyPost_ret (results_cell_tmp rfl rfl (blk_load (blk_range hW) zero_len)) rfl ⟨?_, (Chg.of_below hb2 [w.heap.size]).trans hc (Sub.refl _ _) |>.below (Nat.le_refl _) (fun k hk => by simp at hk; omega)⟩
    rw [HP.out]
    rfl
  · have h0' : ((n : Int) == 0) = false := by simp [h0]
    by_cases hlen : 108 < body.length
    · have hp : sl.put n body = (dk.zero, 3) := by rw [sl.put, if_neg h0, if_pos hlen]
      have HP := Lib.hid hp
      have hlen' : (108 : Int) < (k : Int) := by omega
      clear hp
      have hrg := blk_range h2
      go_enter Tryz.func68, Tryz.ntmps68
      go_wp2_with (first | refine wp_ld (.tmp 6) dk.zero hrg zero_len rfl rfl rfl ?_ | (refine wp_st0 (.tmp 4) (.tmp 20) dk.zero h1' zero_len zero_len rfl rfl rfl rfl ?_; intro W hW hc))
      refine bodyPost_ret (results_cell_tmp rfl rfl (blk_load (blk_range hW) zero_len)) rfl ⟨?_, (Chg.of_below hb2 [w.heap.size]).trans hc (Sub.refl _ _) |>.below (Nat.le_refl _) (fun k hk => by simp at hk; omega)⟩
      rw [HP.out]
      rfl
    · have hp : sl.put n body = (sl.sealB n body, 0) := by rw [sl.put, if_neg h0, if_neg hlen]
      have HP := Lib.hid hp
      have hlen' : ¬ (108 : Int) < (k : Int) := by omega
      have hbl : body.length ≤ 108 := by omega
      clear hp hlen
      go_enter Tryz.func68, Tryz.ntmps68
      go_wp2_with fail
      refine (rends_any n hn _).mono ?_
      rintro e w3 ⟨A1, c1, A2, c2, rfl, hF, hL, hb3⟩
      have hbb3 := hb2.trans (hb3.mono hb2.size)
      have z3 := (hb3.block w.heap.size (by simp; omega)).trans h1'
      have r3 : RowB 43 w3 (w.heap.size + 1) dk.zero := (hb3.block (w.heap.size + 1) (by simp)).trans h2
      obtain ⟨B, hB⟩ : ∃ B, w.heap.size + 1 = B := ⟨_, rfl⟩
      rw [hB] at r3
      have hoF : Value.ownBlock (.slice A1 8 c1) = none ∨ Value.ownBlock (.slice A1 8 c1) ≠ some B := .inr (fun e => by have := (hF.lt B e).1; simp at this; omega)
      have hoL : Value.ownBlock (.slice A2 8 c2) = none ∨ Value.ownBlock (.slice A2 8 c2) ≠ some B := .inr (fun e => by have := (hL.lt B e).1; simp at this; omega)
      have hBR : B ≠ w.heap.size := by omega
      have hBle : w.heap.size ≤ B := by omega
      have hR3 := (Array.getElem?_eq_some_iff.1 z3).1
      clear h1' h2 hb2 hb3
      go_wp2_with fail
      go_loopw [9] (fun t wr => ∃ (j : Nat) (bl : List UInt8), t = .int .i64 j ∧ j ≤ 8 ∧ RowB 43 wr B bl ∧ bl.length = 128 ∧ Hid (∀ p, p < 128 → bl.getD p 0 = sl.spot (leBytes n 8) body [] (sl.last n) j 0 0 p) ∧ w3.grownBy wr (some B)) (fun t _ => 8 - (intOf t).toNat)
      case atStart => exact ⟨0, dk.zero, rfl, by omega, r3, zero_len, fun p hp => sl.spot_zero _ _ _ _ p hp, World.grownBy.refl _ _⟩
      case round =>
        clear r3
        obtain ⟨j, bl, rfl, hj, hr, hbl128, hsp, hg⟩ := hrel
        by_cases hj8 : j < 8
        · have bF := (hF.kept hg hoF).bs
          have bL := (hL.kept hg hoL).bs
          obtain ⟨g1, o1, rfl, _, hc1⟩ := bF.has (by omega)
          obtain ⟨g2, o2, rfl, _, hc2⟩ := bL.has (by omega)
          have q1 := hc1 j (by rw [leBytes_length]; exact hj8)
          have q2 := hc2 j (by rw [sl.last_length]; exact hj8)
          have hf1 := hr.frozen j
          have hf2 := hr.frozen (120 + j)
          have hx1 := hr.cell (i := j) (by omega)
          have hx2 := hr.cell (i := 120 + j) (by omega)
          have st := sl.spot_one hbl128 hsp.out hj8
          have e1 : (leBytes n 8).getD j 0 = (leBytes n 8)[j]'(by rw [leBytes_length]; exact hj8) := by rw [List.getD_eq_getElem?_getD, List.getElem?_eq_getElem (by rw [leBytes_length]; exact hj8)]; rfl
          have e2 : (sl.last n).getD j 0 = (sl.last n)[j]'(by rw [sl.last_length]; exact hj8) := by rw [List.getD_eq_getElem?_getD, List.getElem?_eq_getElem (by rw [sl.last_length]; exact hj8)]; rfl
          rw [e1, e2] at st
          have hn1 : g1 ≠ B := fun e => by
            rcases hoF with h | h
            · simp [Value.ownBlock] at h
            · exact h (by rw [← e]; rfl)
          have hn2 : g2 ≠ B := fun e => by
            rcases hoL with h | h
            · simp [Value.ownBlock] at h
            · exact h (by rw [← e]; rfl)
          generalize (leBytes n 8)[j]'(by rw [leBytes_length]; exact hj8) = x1 at *
          generalize (sl.last n)[j]'(by rw [sl.last_length]; exact hj8) = x2 at *
          have ST := Lib.hid st
          clear st e1 e2 hc1 hc2 bF bL
          have r2 := (hr.set_ j x1).set_ (120 + j) x2
          have hx2' : (wr.setCell ⟨B, j, none⟩ (bv x1)).cell? ⟨B, 120 + j, none⟩ = some (bv bl[120 + j]) := by
            rw [World.cell?_setCell_other _ _ _ _ (fun e => by injection e with _ e; omega)]
            exact hx2
          have q2' : (wr.setCell ⟨B, j, none⟩ (bv x1)).cell? ⟨g2, o2 + j, none⟩ = some (bv x2) := by
            rw [World.cell?_setCell_other _ _ _ _ (fun e => by injection e with e _; exact hn2 e.symm)]
            exact q2
          have hf2' : (wr.setCell ⟨B, j, none⟩ (bv x1)).frozen? ⟨B, 120 + j, none⟩ = false := by rw [World.frozen?_setCell]; exact hf2
          go_wp2_with fail
          go_roundw
          case rel =>
            exact ⟨j + 1, _, by go_num, by omega, r2, by rw [List.length_set, List.length_set]; exact hbl128, ST.out, grown_setCell (grown_setCell hg _ _) _ _⟩
          case measure => simp [intOf]; omega
        · have hsp8 : ∀ p, p < 128 → bl.getD p 0 = sl.spot (leBytes n 8) body [] (sl.last n) 8 0 0 p := by
            have h1 := hsp.out
            rwa [show j = 8 from by omega] at h1
          have HS8 := Lib.hid hsp8
          clear hsp hsp8 hj
          go_wp2_with fail
          clear hj8
          go_loopw [10] (fun t wr => ∃ (j : Nat) (bl : List UInt8), t = .int .i64 j ∧ j ≤ k ∧ RowB 43 wr B bl ∧ bl.length = 128 ∧ Hid (∀ p, p < 128 → bl.getD p 0 = sl.spot (leBytes n 8) body [] (sl.last n) 8 j 0 p) ∧ w3.grownBy wr (some B)) (fun t _ => k - (intOf t).toNat)
          case atStart => exact ⟨0, bl, rfl, by omega, hr, hbl128, HS8.out, hg⟩
          case round =>
            clear hr hbl128 HS8 hg
            obtain ⟨j2, bl2, rfl, hj2, hr, hbl128, hsp, hg⟩ := hrel
            have hbw : Below w.heap.size w _ := hbb3.grown hg hbb3.size (fun k hk => by injection hk with hk; omega)
            by_cases hlt : j2 < k
            · have bB := h.below hbw
              obtain ⟨g1, o1, rfl, hgl, hc1⟩ := h.has (by omega)
              obtain ⟨g1', o1', e1, _, hc1'⟩ := bB.has (by omega)
              injection e1 with e1
              injection e1 with e1 e2
              subst e1 e2
              have q1 := hc1' j2 (by omega)
              have hf1 := hr.frozen (8 + j2)
              have hx1 := hr.cell (i := 8 + j2) (by omega)
              have st := sl.spot_two hbl128 hsp.out (j := j2) (by omega)
              have e1 : body.getD j2 0 = body[j2]'(by omega) := by rw [List.getD_eq_getElem?_getD, List.getElem?_eq_getElem (by omega)]; rfl
              rw [e1] at st
              generalize body[j2]'(by omega) = x1 at *
              have ST := Lib.hid st
              clear st e1 hc1 hc1'
              have r2 := hr.set_ (8 + j2) x1
              go_wp2_with fail
              go_roundw
              case rel => exact ⟨j2 + 1, _, by go_num, by omega, r2, by rw [List.length_set]; exact hbl128, ST.out, grown_setCell hg _ _⟩
              case measure => simp [intOf]; omega
            · have hspk : ∀ p, p < 128 → bl2.getD p 0 = sl.spot (leBytes n 8) body [] (sl.last n) 8 body.length 0 p := by
                have h1 := hsp.out
                rwa [show j2 = body.length from by omega] at h1
              have hhead := sl.take_head hbl hbl128 hspk
              have hBS := bs_take_row hr hbl128 (k := 116) (by omega)
              rw [hhead] at hBS
              have HOF := Lib.hid (rof_any _ 116 128 _ _ hBS)
              obtain ⟨s, hs⟩ : ∃ s, crc.of (sl.head n body) = s := ⟨_, rfl⟩
              rw [hs] at HOF
              have hslt := s.isLt
              have HSK := Lib.hid hspk
              have HSUM := Lib.hid hs
              clear hspk hhead hBS hs hsp
              go_wp2_with fail
              refine HOF.out.mono ?_
              rintro e w4 ⟨rfl, rfl⟩
              go_wp2_with fail
              have hp4 := rput_any s.toNat 4 wr (by omega)
              rw [put4 s.toNat (by omega)] at hp4
              refine hp4.mono ?_
              rintro e w4 ⟨-, hv, hb4⟩
              obtain ⟨v4, rfl, ho4⟩ := hv rfl
              obtain ⟨A4, c4, rfl, hB4⟩ := ho4.form
              rw [show (leBytes s.toNat (Int.toNat 4)).length = 4 from leBytes_length _ _] at ho4 ⊢
              rw [show Int.toNat 4 = 4 from rfl] at ho4
              have hr4 := hr.below hb4 hr.lt
              have hbw4 := hbw.trans (hb4.mono hbw.size)
              have z4 := (hb4.block w.heap.size (Nat.lt_of_lt_of_le hR3 hg.size)).trans ((hg.block w.heap.size hR3 (fun e => by injection e with e; omega)).trans z3)
              have hoS : Value.ownBlock (.slice A4 4 c4) = none ∨ Value.ownBlock (.slice A4 4 c4) ≠ some B := .inr (fun e => by have := (ho4.lt B e).1; have := hr.lt; omega)
              have hs4 : ∀ p, p < 128 → bl2.getD p 0 = sl.spot (leBytes n 8) body (leBytes s.toNat 4) (sl.last n) 8 body.length 0 p := fun p hp => (HSK.out p hp).trans sl.spot_sum
              have HS4 := Lib.hid hs4
              have hR4 := (Array.getElem?_eq_some_iff.1 z4).1
              clear hs4 HSK HOF hB4 hb4 hr hg hbw hF hL hoF hoL z3 hR3 hbb3 hp4
              go_wp2_with fail
              go_loopw [13] (fun t wr => ∃ (j : Nat) (bl : List UInt8), t = .int .i64 j ∧ j ≤ 4 ∧ RowB 43 wr B bl ∧ bl.length = 128 ∧ Hid (∀ p, p < 128 → bl.getD p 0 = sl.spot (leBytes n 8) body (leBytes s.toNat 4) (sl.last n) 8 body.length j p) ∧ w4.grownBy wr (some B)) (fun t _ => 4 - (intOf t).toNat)
              case atStart => exact ⟨0, bl2, rfl, by omega, hr4, hbl128, HS4.out, World.grownBy.refl _ _⟩
              case round =>
                clear hr4 hbl128 HS4
                obtain ⟨j3, bl3, rfl, hj3, hr, hbl128, hsp, hg⟩ := hrel
                by_cases hlt3 : j3 < 4
                · have bS := (ho4.kept hg hoS).bs
                  obtain ⟨g1, o1, rfl, _, hc1⟩ := bS.has (by omega)
                  have q1 := hc1 j3 (by rw [leBytes_length]; exact hlt3)
                  have hf1 := hr.frozen (116 + j3)
                  have hx1 := hr.cell (i := 116 + j3) (by omega)
                  have st := sl.spot_three hbl128 hsp.out hlt3
                  have e1 : (leBytes s.toNat 4).getD j3 0 = (leBytes s.toNat 4)[j3]'(by rw [leBytes_length]; exact hlt3) := by rw [List.getD_eq_getElem?_getD, List.getElem?_eq_getElem (by rw [leBytes_length]; exact hlt3)]; rfl
                  rw [e1] at st
                  generalize (leBytes s.toNat 4)[j3]'(by rw [leBytes_length]; exact hlt3) = x1 at *
                  have ST := Lib.hid st
                  clear st e1 hc1 bS
                  have r2 := hr.set_ (116 + j3) x1
                  go_wp2_with fail
                  go_roundw
                  case rel => exact ⟨j3 + 1, _, by go_num, by omega, r2, by rw [List.length_set]; exact hbl128, ST.out, grown_setCell hg _ _⟩
                  case measure => simp [intOf]; omega
                · have hfin : bl3 = sl.sealB n body := sl.getD_ext hbl128 (sl.seal_length n hbl) fun p hp => by
                    have h1 := hsp.out p hp
                    rw [show j3 = 4 from by omega] at h1
                    rw [h1, sl.seal_spot n hbl p hp, HSUM.out]
                  have hrg := blk_range hr
                  have z5 := (hg.block w.heap.size hR4 (fun e => by injection e with e; omega)).trans z4
                  have HFIN := Lib.hid hfin
                  have hb5 : Below w.heap.size w _ := hbw4.grown hg hbw4.size (fun k hk => by injection hk with hk; omega)
                  clear hfin hr hsp hg z4 ho4
                  go_wp2_with (first | refine wp_ld (.tmp 6) bl3 hrg hbl128 rfl rfl rfl ?_ | (refine wp_st0 (.tmp 4) (.tmp 74) bl3 z5 zero_len hbl128 rfl rfl rfl rfl ?_; intro W hW hc))
                  refine bodyPost_ret (results_cell_tmp rfl rfl (blk_load (blk_range hW) hbl128)) rfl ⟨?_, (Chg.of_below hb5 [w.heap.size]).trans hc (Sub.refl _ _) |>.below (Nat.le_refl _) (fun k hk => by simp at hk; omega)⟩
                  rw [HP.out, HFIN.out]
                  rfl
end Go.Proofs.YtknndmhkfonfmaaGreatDoor

/-
  contracts of cardexref05: Get.
-/
namespace Go.Proofs.YtknndmhkfonfmaaGreatDoor
open Go.RowKit

set_option maxHeartbeats 4000000 in
set_option maxRecDepth 100000 in
theorem rget5_any (b : dk.Blk) (hb : b.length = 128) (w : World) : Calls Tryz.prog 113 #[dk.val b] w fun e w' =>
    ∃ v, e = .returned (.tuple #[.int .u64 (sl.get b).1, v, .int .i64 (sl.get b).2.2]) ∧ OwnB 5 w' w.heap.size v (sl.get b).2.1 ∧ Below w.heap.size w w' := by
  have hr1 : RowB 43 (w.alloc (.cells (dk.cells b).toArray 43)) w.heap.size b := heap_alloc_new w _
  have hb1 : Below w.heap.size w (w.alloc (.cells (dk.cells b).toArray 43)) := (Below.refl _ _).alloc (Nat.le_refl _) _
  have hB1 : BS (w.alloc (.cells (dk.cells b).toArray 43)) (some ⟨w.heap.size, 0, none⟩) 128 128 b := bs_of_block5 hr1 128 hb.symm (by omega)
  obtain ⟨N, hN⟩ : ∃ N, sl.number b = N := ⟨_, rfl⟩
  have hNlt := sl.number_lt b
  rw [hN] at hNlt
  have g1 := rget_yes _ 128 128 b 0 8 _ hB1 rfl (by omega)
  rw [List.drop_zero, show leVal (b.take 8) = N from hN] at g1
  have G1 := Lib.hid g1
  clear g1
  go_enter Tryz.func113, Tryz.ntmps113
  go_wp2_with fail
  refine G1.out.mono ?_
  rintro e w1 ⟨rfl, rfl⟩
  go_wp2_with fail
  refine (rends_any N hNlt _).mono ?_
  rintro e w2 ⟨A1, c1, A2, c2, rfl, _, hL, hb2⟩
  have hbb2 := hb1.trans (hb2.mono hb1.size)
  have hr2 := hr1.below hb2 hr1.lt
  have k1 := run_convert_bs (P := Tryz.prog) (w := w2.drew) (BS.drew hL.bs) 36 5 9 Tryz.underlying36 Tryz.underlying5 Tryz.underlying9
  have k2 := run_convert_bs (P := Tryz.prog) (w := w2.drew) (bs_drop_row (k := 120) (m := 8) hr2.drew hb (by omega)) 36 5 9 Tryz.underlying36 Tryz.underlying5 Tryz.underlying9
  by_cases h0 : N = 0
  · have hget : sl.get b = (0, [], 5) := by unfold sl.get; rw [if_pos (.inl (hN.trans h0))]
    have HG := Lib.hid hget
    have h0' : ((N : Int) == 0) = true := by simp [h0]
    clear hget k1 k2
    go_wp2_with fail
    refine wp_region_still_tail 8 (by kernel_rfl) (by kernel_rfl) ?_
    simp only [List.take_succ_cons, List.take_zero, List.drop_succ_cons, List.drop_zero]
    iterate 8 still_step
    refine wpStill_nil ?_
    change wpList _ _ _ _ _ w2.drew
    go_wp2_with fail
    go_ret3
    exact ⟨_, by rw [HG.out]; rfl, by rw [HG.out]; exact OwnB.nil_ _ _ _, hbb2.drew⟩
  · have h0' : ((N : Int) == 0) = false := by simp [h0]
    by_cases hl : sl.last N = b.drop 120
    · rw [hl] at k1
      have hqe : ((b.drop 120) == b.drop 120) = true := by simp
      obtain ⟨V, hV⟩ : ∃ V, leVal ((b.drop 116).take 4) = V := ⟨_, rfl⟩
      have hVlt : V < 4294967296 := by
        have h1 := leVal_lt ((b.drop 116).take 4)
        rw [hV, show ((b.drop 116).take 4).length = 4 from by rw [List.length_take, List.length_drop]; omega] at h1
        exact h1
      have hB2 : BS w2.drew (some ⟨w.heap.size, 0, none⟩) 128 128 b := bs_of_block5 hr2.drew 128 hb.symm (by omega)
      have g2 := rget_yes _ 128 128 b 116 4 _ hB2 rfl (by omega)
      rw [hV] at g2
      have G2 := Lib.hid g2
      obtain ⟨s, hs⟩ : ∃ s, crc.of (b.take 116) = s := ⟨_, rfl⟩
      have hof := rof_any _ 116 128 _ _ (bs_take_row hr2.drew hb (k := 116) (by omega))
      rw [hs] at hof
      have HOF := Lib.hid hof
      have hslt := s.isLt
      clear g2 hof
      by_cases hsum : V = s.toNat
      · have hget : sl.get b = (N, (b.drop 8).take 108, 0) := by
          unfold sl.get
          rw [if_neg (by rw [hN, hl]; simpa using h0), if_neg (by rw [hV, hs]; simpa using hsum), hN]
        have HG := Lib.hid hget
        obtain ⟨i0, hi, hz0, hz1, hz2⟩ := info_parts info_u8
        have HV := Lib.hid hV
        have HS := Lib.hid hs
        clear hget hV hs
        subst hsum
        go_wp2_with fail
        refine wp_region_still_tail 8 (by kernel_rfl) (by kernel_rfl) ?_
        simp only [List.take_succ_cons, List.take_zero, List.drop_succ_cons, List.drop_zero]
        iterate 8 still_step
        refine wpStill_nil ?_
        change wpList _ _ _ _ _ w2.drew
        clear k1 k2
        go_wp2_with fail
        refine G2.out.mono ?_
        rintro e w3 ⟨rfl, rfl⟩
        go_wp2_with fail
        refine HOF.out.mono ?_
        rintro e w3 ⟨rfl, rfl⟩
        have hrd : RowB 43 w2.drew w.heap.size b := hr2.drew
        have hbd := hbb2.drew
        have hlen108 : ((b.drop 8).take 108).length = 108 := by rw [List.length_take, List.length_drop]; omega
        have HL8 := Lib.hid hlen108
        clear hr2 hbb2 G2 HOF hB2 hqe hl hr1 hb1 hB1 G1 hL hb2 hlen108
        go_wp2_with fail
        go_loopw [11, 12] (fun v t wr => ∃ (j : Nat) (A : Option Addr) (c : Nat), t = .int .i64 (8 + (j : Int)) ∧ j ≤ 108 ∧ v = .slice A j c ∧ OwnB 5 wr (w.heap.size + 1) v (((b.drop 8).take 108).take j) ∧ RowB 43 wr w.heap.size b ∧ Below w.heap.size w wr) (fun _ t _ => 116 - (intOf t).toNat)
        case atStart => exact ⟨0, none, 0, by go_num, by omega, rfl, OwnB.nil_ _ _ _, hrd, hbd⟩
        case round =>
          clear hrd hbd
          obtain ⟨j, A, c, rfl, hj, rfl, ho, hr, hbw⟩ := hrel
          have hsz := hr.lt
          by_cases hlt : j < 108
          · have hx := hr.cell (i := 8 + j) (by omega)
            have hst : ((b.drop 8).take 108).take (j + 1) = ((b.drop 8).take 108).take j ++ [b[8 + j]'(by omega)] := by
              rw [List.take_succ_eq_append_getElem (by rw [HL8.out]; exact hlt)]
              congr 2
              simp
            have hcast : ((8 + j : Nat) : Int) = 8 + (j : Int) := by omega
            have hlj : (((b.drop 8).take 108).take j).length = j := by rw [List.length_take, HL8.out]; omega
            generalize b[8 + j]'(by omega) = x at *
            have HST := Lib.hid hst
            have HLJ := Lib.hid hlj
            clear hst hlj
            generalize ((b.drop 8).take 108).take j = l at *
            go_wp2_with (at_builtin; refine wpList_append_bytes _ rfl (.tmp 46) (.tmp 50) 36 rfl 5 i0 Tryz.underlying36 hi hz0 hz1 hz2 (w.heap.size + 1) _ _ rfl (ho.alloc _) _ 1 1 [x] rfl (BS.one' _ _ _ (by simp)) (by rw [HLJ.out]; simp; omega) (by simp; omega) ?_; intro v1 w1 ho1 hg1 _ _)
            go_roundw
            case rel =>
              obtain ⟨A1, c1, rfl, hb1⟩ := ho1.form
              rw [show (l ++ [x]).length = j + 1 from by rw [List.length_append, HLJ.out]; rfl] at ho1 ⊢
              refine ⟨j + 1, A1, c1, by go_num, by omega, rfl, by rw [HST.out]; exact ho1, ?_, ?_⟩
              · exact (hg1.block w.heap.size (by simp; omega) (fun e => by have := (ho.lt _ e.symm).1; omega)).trans (hr.alloc _)
              · exact OwnB.step (hbw.alloc hbw.size _) ((ho.alloc _).mono (by omega)) hg1 (by simp; omega)
            case measure => simp [intOf]; omega
          · have hl' : ((b.drop 8).take 108).take j = (b.drop 8).take 108 := List.take_of_length_le (by rw [HL8.out]; omega)
            rw [hl'] at ho
            go_wp2_with fail
            go_ret3
            exact ⟨_, by rw [HG.out]; rfl, by rw [HG.out]; exact ho.mono (by omega), hbw⟩
      · have hget : sl.get b = (0, [], 6) := by
          unfold sl.get
          rw [if_neg (by rw [hN, hl]; simpa using h0), if_pos (by rw [hV, hs]; simpa using hsum)]
        have HG := Lib.hid hget
        have hq2 : ((V : Int) == (s.toNat : Int)) = false := by simpa using (fun e : (V : Int) = (s.toNat : Int) => hsum (by omega))
        have HV := Lib.hid hV
        have HS := Lib.hid hs
        clear hget hV hs
        go_wp2_with fail
        refine wp_region_still_tail 8 (by kernel_rfl) (by kernel_rfl) ?_
        simp only [List.take_succ_cons, List.take_zero, List.drop_succ_cons, List.drop_zero]
        iterate 8 still_step
        refine wpStill_nil ?_
        change wpList _ _ _ _ _ w2.drew
        clear k1 k2
        go_wp2_with fail
        refine G2.out.mono ?_
        rintro e w3 ⟨rfl, rfl⟩
        go_wp2_with fail
        refine HOF.out.mono ?_
        rintro e w3 ⟨rfl, rfl⟩
        go_wp2_with fail
        go_ret3
        exact ⟨_, by rw [HG.out]; rfl, by rw [HG.out]; exact OwnB.nil_ _ _ _, hbb2.drew⟩
    · have hget : sl.get b = (0, [], 5) := by unfold sl.get; rw [if_pos (.inr (by rw [hN]; exact fun e => hl e.symm))]
      have HG := Lib.hid hget
      have hqe : (sl.last N == b.drop 120) = false := by simpa using hl
      clear hget
      go_wp2_with fail
      refine wp_region_still_tail 8 (by kernel_rfl) (by kernel_rfl) ?_
      simp only [List.take_succ_cons, List.take_zero, List.drop_succ_cons, List.drop_zero]
      iterate 8 still_step
      refine wpStill_nil ?_
      change wpList _ _ _ _ _ w2.drew
      clear k1 k2
      go_wp2_with fail
      go_ret3
      exact ⟨_, by rw [HG.out]; rfl, by rw [HG.out]; exact OwnB.nil_ _ _ _, hbb2.drew⟩
end Go.Proofs.YtknndmhkfonfmaaGreatDoor

/-
  contracts of cardexref05: worth, Newest, Next.
-/
namespace Go.Proofs.YtknndmhkfonfmaaGreatDoor
open Go.RowKit

namespace sl
theorem worth_lt (b : Blk) : worth b < 18446744073709551616 := by
  unfold worth get
  split
  · exact (by omega : 0 < 18446744073709551616)
  split
  · exact (by omega : 0 < 18446744073709551616)
  · exact number_lt b
end sl
set_option maxHeartbeats 4000000 in
set_option maxRecDepth 100000 in
theorem rworth_any (b : dk.Blk) (hb : b.length = 128) (w : World) : Calls Tryz.prog 98 #[dk.val b] w fun e w' => e = .returned (.int .u64 (sl.worth b)) ∧ Below w.heap.size w w' := by
  have hr1 := heap_alloc_new w (.cells (dk.cells b).toArray 43)
  have hb1 : Below w.heap.size w (w.alloc (.cells (dk.cells b).toArray 43)) := (Below.refl _ _).alloc (Nat.le_refl _) _
  have hrg := blk_range hr1
  go_enter Tryz.func98, Tryz.ntmps98
  go_wp2_with (refine wp_ld (.tmp 1) b hrg hb rfl rfl rfl ?_)
  refine (rget5_any b hb _).mono ?_
  rintro e w2 ⟨v, rfl, _, hb2⟩
  go_wp2_with fail
  go_ret
  exact ⟨rfl, hb1.trans (hb2.mono hb1.size)⟩
set_option maxHeartbeats 4000000 in
set_option maxRecDepth 100000 in
theorem rnext_any (a b : dk.Blk) (ha : a.length = 128) (hb : b.length = 128) (w : World) : Calls Tryz.prog 77 #[dk.val a, dk.val b] w fun e w' => e = .returned (.int .i64 (sl.next a b)) ∧ Below w.heap.size w w' := by
  have uB := Tryz.underlying43
  have iA := info_blk' ha
  have iB := info_blk' hb
  obtain ⟨x, hx⟩ : ∃ x, sl.worth a = x := ⟨_, rfl⟩
  obtain ⟨y, hy⟩ : ∃ y, sl.worth b = y := ⟨_, rfl⟩
  have hxl := sl.worth_lt a
  have hyl := sl.worth_lt b
  rw [hx] at hxl
  rw [hy] at hyl
  have hca := fun W => rworth_any a ha W
  have hcb := fun W => rworth_any b hb W
  simp only [hx] at hca
  simp only [hy] at hcb
  have HA := Lib.hid hca
  have HB := Lib.hid hcb
  clear hca hcb
  have h1 := heap_alloc_new w (.cells (dk.cells a).toArray 43)
  have h1' := (Below.heap_alloc (w.alloc (.cells (dk.cells a).toArray 43)) (.cells (dk.cells b).toArray 43) w.heap.size (by simp)).trans h1
  have h2 := heap_alloc_new (w.alloc (.cells (dk.cells a).toArray 43)) (.cells (dk.cells b).toArray 43)
  rw [show (w.alloc (.cells (dk.cells a).toArray 43)).heap.size = w.heap.size + 1 from by simp] at h2
  have hb2 : Below w.heap.size w ((w.alloc (.cells (dk.cells a).toArray 43)).alloc (.cells (dk.cells b).toArray 43)) := ((Below.refl _ _).alloc (Nat.le_refl _) _).alloc (by simp) _
  have hnew : sl.next a b = if 0 < x ∧ y ≤ x then 1 else 0 := by rw [sl.next, hx, hy]
  have HN := Lib.hid hnew
  have hsz2 : w.heap.size + 1 < ((w.alloc (.cells (dk.cells a).toArray 43)).alloc (.cells (dk.cells b).toArray 43)).heap.size := by simp
  obtain ⟨W2, hW2⟩ : ∃ W2, (w.alloc (.cells (dk.cells a).toArray 43)).alloc (.cells (dk.cells b).toArray 43) = W2 := ⟨_, rfl⟩
  clear hnew hx hy h1
  go_enter Tryz.func77, Tryz.ntmps77
  go_wp2_with fail
  rw [hW2] at h1' h2 hb2 hsz2
  clear hW2
  have hbb_W2 := hb2
  have hS_W2 := And.intro h1' h2
  clear hb2 h1' h2
  refine wp_region_held_drew (S := fun w' => w'.heap[w.heap.size]? = some (.cells (dk.cells a).toArray 43 (0, 0)) ∧ w'.heap[w.heap.size + 1]? = some (.cells (dk.cells b).toArray 43 (0, 0))) (by kernel_rfl) hS_W2 (fun hHeld => ?_)
  refine wpAnyH_take (i := 0) (v := dk.val a) rfl (by kernel_rfl) (by kernel_rfl) (by kernel_rfl) (fun _ _ _ h => h) (yieldsIf_load_mid (by rfl) 43 (.tmp 2) rfl w.heap.size 0 rfl (dk.cells a) _ (fun w h => blk_range h.1) uB rfl iA) hHeld ?_
  simp only [List.getElem_toArray, List.getElem_cons_zero, Act.put, List.setIfInBounds_toArray, List.set_cons_zero, List.set_cons_succ]
  refine wpAnyH_ready (rs := [1]) (by kernel_rfl) (by simp) ?_
  refine AllReadyH.cons rfl (fun K hK => ?_) AllReadyH.nil
  rw [if_pos (by rfl)]
  go_simp
  refine (HA.out _).mono ?_
  rintro e w3 ⟨rfl, hb_w3⟩
  have hsz_w3 : W2.heap.size ≤ w3.heap.size := hb_w3.size
  have hS_w3 : w3.heap[w.heap.size]? = some (.cells (dk.cells a).toArray 43 (0, 0)) ∧ w3.heap[w.heap.size + 1]? = some (.cells (dk.cells b).toArray 43 (0, 0)) := ⟨(hb_w3.block _ (by show w.heap.size < W2.heap.size; omega)).trans hHeld.1, (hb_w3.block _ (by show w.heap.size + 1 < W2.heap.size; omega)).trans hHeld.2⟩
  have hbb_w3 := hbb_W2.drew.trans (hb_w3.mono hbb_W2.size)
  refine hK.out _ _ hS_w3 (fun hHeld => ?_)
  clear hK K
  by_cases hx0 : x = 0
  · have HX : Hid (sl.next a b = 0) := by show _ = _; rw [HN.out, if_neg (by omega)]
    have hxq : ¬ (0 : Int) < (x : Int) := by omega
    refine wpAnyH_take (i := 2) (v := ?_) rfl (by kernel_rfl) (by kernel_rfl) (by kernel_rfl) (fun _ _ _ h => h) (Or.inl ⟨by rfl, ?_⟩) hHeld ?_
    rotate_left
    · intro w hSw; clear hSw; go_simp; try rfl
    simp only [List.getElem_toArray, List.getElem_cons_zero, List.getElem_cons_succ, Act.put, List.setIfInBounds_toArray, List.set_cons_zero, List.set_cons_succ]
    refine wpAnyH_take (i := 3) (v := ?_) rfl (by kernel_rfl) (by kernel_rfl) (by kernel_rfl) (fun _ _ _ h => h) (Or.inl ⟨by rfl, ?_⟩) hHeld ?_
    rotate_left
    · intro w hSw; clear hSw; go_simp; try rfl
    simp only [List.getElem_toArray, List.getElem_cons_zero, List.getElem_cons_succ, Act.put, List.setIfInBounds_toArray, List.set_cons_zero, List.set_cons_succ]
    refine wpAnyH_take (i := 4) (v := undef) rfl (by kernel_rfl) (by kernel_rfl) (by kernel_rfl) (fun _ _ _ h => h) (Or.inr ⟨by rfl, rfl⟩) hHeld ?_
    simp only [List.getElem_toArray, List.getElem_cons_zero, List.getElem_cons_succ, Act.put, List.setIfInBounds_toArray, List.set_cons_zero, List.set_cons_succ]
    refine wpAnyH_take (i := 5) (v := undef) rfl (by kernel_rfl) (by kernel_rfl) (by kernel_rfl) (fun _ _ _ h => h) (Or.inr ⟨by rfl, rfl⟩) hHeld ?_
    simp only [List.getElem_toArray, List.getElem_cons_zero, List.getElem_cons_succ, Act.put, List.setIfInBounds_toArray, List.set_cons_zero, List.set_cons_succ]
    refine wpAnyH_take (i := 6) (v := undef) rfl (by kernel_rfl) (by kernel_rfl) (by kernel_rfl) (fun _ _ _ h => h) (Or.inr ⟨by rfl, rfl⟩) hHeld ?_
    simp only [List.getElem_toArray, List.getElem_cons_zero, List.getElem_cons_succ, Act.put, List.setIfInBounds_toArray, List.set_cons_zero, List.set_cons_succ]
    refine wpAnyH_take (i := 7) (v := undef) rfl (by kernel_rfl) (by kernel_rfl) (by kernel_rfl) (fun _ _ _ h => h) (Or.inr ⟨by rfl, rfl⟩) hHeld ?_
    simp only [List.getElem_toArray, List.getElem_cons_zero, List.getElem_cons_succ, Act.put, List.setIfInBounds_toArray, List.set_cons_zero, List.set_cons_succ]
    refine wpAnyH_take (i := 8) (v := undef) rfl (by kernel_rfl) (by kernel_rfl) (by kernel_rfl) (fun _ _ _ h => h) (Or.inr ⟨by rfl, rfl⟩) hHeld ?_
    simp only [List.getElem_toArray, List.getElem_cons_zero, List.getElem_cons_succ, Act.put, List.setIfInBounds_toArray, List.set_cons_zero, List.set_cons_succ]
    refine wpAnyH_take (i := 9) (v := ?_) rfl (by kernel_rfl) (by kernel_rfl) (by kernel_rfl) (fun _ _ _ h => h) (Or.inl ⟨by rfl, ?_⟩) hHeld ?_
    rotate_left
    · intro w hSw; clear hSw; go_simp; try rfl
    simp only [List.getElem_toArray, List.getElem_cons_zero, List.getElem_cons_succ, Act.put, List.setIfInBounds_toArray, List.set_cons_zero, List.set_cons_succ]
    refine wpAnyH_done (by kernel_rfl) ?_ _
    go_wp2_with fail
    go_ret
    exact ⟨by rw [HX.out]; rfl, hbb_w3⟩
  · have hxq : 0 < x := by omega
    have hxq2 : (0 : Int) < (x : Int) := by omega
    refine wpAnyH_take (i := 2) (v := ?_) rfl (by kernel_rfl) (by kernel_rfl) (by kernel_rfl) (fun _ _ _ h => h) (Or.inl ⟨by rfl, ?_⟩) hHeld ?_
    rotate_left
    · intro w hSw; clear hSw; go_simp; try rfl
    simp only [List.getElem_toArray, List.getElem_cons_zero, List.getElem_cons_succ, Act.put, List.setIfInBounds_toArray, List.set_cons_zero, List.set_cons_succ]
    refine wpAnyH_take (i := 3) (v := ?_) rfl (by kernel_rfl) (by kernel_rfl) (by kernel_rfl) (fun _ _ _ h => h) (Or.inl ⟨by rfl, ?_⟩) hHeld ?_
    rotate_left
    · intro w hSw; clear hSw; go_simp; try rfl
    simp only [List.getElem_toArray, List.getElem_cons_zero, List.getElem_cons_succ, Act.put, List.setIfInBounds_toArray, List.set_cons_zero, List.set_cons_succ]
    refine wpAnyH_take (i := 4) (v := dk.val a) rfl (by kernel_rfl) (by kernel_rfl) (by kernel_rfl) (fun _ _ _ h => h) (yieldsIf_load_mid (by rfl) 43 (.tmp 2) rfl w.heap.size 0 rfl (dk.cells a) _ (fun w h => blk_range h.1) uB rfl iA) hHeld ?_
    simp only [List.getElem_toArray, List.getElem_cons_zero, List.getElem_cons_succ, Act.put, List.setIfInBounds_toArray, List.set_cons_zero, List.set_cons_succ]
    refine wpAnyH_take (i := 6) (v := dk.val b) rfl (by kernel_rfl) (by kernel_rfl) (by kernel_rfl) (fun _ _ _ h => h) (yieldsIf_load_mid (by rfl) 43 (.tmp 3) rfl (w.heap.size + 1) 0 rfl (dk.cells b) _ (fun w h => blk_range h.2) uB rfl iB) hHeld ?_
    simp only [List.getElem_toArray, List.getElem_cons_zero, List.getElem_cons_succ, Act.put, List.setIfInBounds_toArray, List.set_cons_zero, List.set_cons_succ]
    refine wpAnyH_ready (rs := [5]) (by kernel_rfl) (by simp) ?_
    refine AllReadyH.cons rfl (fun K hK => ?_) AllReadyH.nil
    rw [if_pos (by rfl)]
    go_simp
    refine (HA.out _).mono ?_
    rintro e w4 ⟨rfl, hb_w4⟩
    have hsz_w4 : w3.heap.size ≤ w4.heap.size := hb_w4.size
    have hS_w4 : w4.heap[w.heap.size]? = some (.cells (dk.cells a).toArray 43 (0, 0)) ∧ w4.heap[w.heap.size + 1]? = some (.cells (dk.cells b).toArray 43 (0, 0)) := ⟨(hb_w4.block _ (by show w.heap.size < w3.heap.size; omega)).trans hHeld.1, (hb_w4.block _ (by show w.heap.size + 1 < w3.heap.size; omega)).trans hHeld.2⟩
    have hbb_w4 := hbb_w3.trans (hb_w4.mono hbb_w3.size)
    refine hK.out _ _ hS_w4 (fun hHeld => ?_)
    clear hK K
    refine wpAnyH_ready (rs := [7]) (by kernel_rfl) (by simp) ?_
    refine AllReadyH.cons rfl (fun K hK => ?_) AllReadyH.nil
    rw [if_pos (by rfl)]
    go_simp
    refine (HB.out _).mono ?_
    rintro e w5 ⟨rfl, hb_w5⟩
    have hsz_w5 : w4.heap.size ≤ w5.heap.size := hb_w5.size
    have hS_w5 : w5.heap[w.heap.size]? = some (.cells (dk.cells a).toArray 43 (0, 0)) ∧ w5.heap[w.heap.size + 1]? = some (.cells (dk.cells b).toArray 43 (0, 0)) := ⟨(hb_w5.block _ (by show w.heap.size < w4.heap.size; omega)).trans hHeld.1, (hb_w5.block _ (by show w.heap.size + 1 < w4.heap.size; omega)).trans hHeld.2⟩
    have hbb_w5 := hbb_w4.trans (hb_w5.mono hbb_w4.size)
    refine hK.out _ _ hS_w5 (fun hHeld => ?_)
    clear hK K
    by_cases hlt : y ≤ x
    · have HX : Hid (sl.next a b = 1) := by show _ = _; rw [HN.out, if_pos ⟨by omega, hlt⟩]
      have hlt' : (y : Int) ≤ (x : Int) := by omega
      refine wpAnyH_take (i := 8) (v := ?_) rfl (by kernel_rfl) (by kernel_rfl) (by kernel_rfl) (fun _ _ _ h => h) (Or.inl ⟨by rfl, ?_⟩) hHeld ?_
      rotate_left
      · intro w hSw; clear hSw; go_simp; try rfl
      simp only [List.getElem_toArray, List.getElem_cons_zero, List.getElem_cons_succ, Act.put, List.setIfInBounds_toArray, List.set_cons_zero, List.set_cons_succ]
      refine wpAnyH_take (i := 9) (v := ?_) rfl (by kernel_rfl) (by kernel_rfl) (by kernel_rfl) (fun _ _ _ h => h) (Or.inl ⟨by rfl, ?_⟩) hHeld ?_
      rotate_left
      · intro w hSw; clear hSw; go_simp; try rfl
      simp only [List.getElem_toArray, List.getElem_cons_zero, List.getElem_cons_succ, Act.put, List.setIfInBounds_toArray, List.set_cons_zero, List.set_cons_succ]
      refine wpAnyH_done (by kernel_rfl) ?_ _
      go_wp2_with fail
      go_ret
      exact ⟨by rw [HX.out]; rfl, hbb_w5⟩
    · have HX : Hid (sl.next a b = 0) := by show _ = _; rw [HN.out, if_neg (fun e => hlt e.2)]
      have hlt' : ¬ (y : Int) ≤ (x : Int) := by omega
      refine wpAnyH_take (i := 8) (v := ?_) rfl (by kernel_rfl) (by kernel_rfl) (by kernel_rfl) (fun _ _ _ h => h) (Or.inl ⟨by rfl, ?_⟩) hHeld ?_
      rotate_left
      · intro w hSw; clear hSw; go_simp; try rfl
      simp only [List.getElem_toArray, List.getElem_cons_zero, List.getElem_cons_succ, Act.put, List.setIfInBounds_toArray, List.set_cons_zero, List.set_cons_succ]
      refine wpAnyH_take (i := 9) (v := ?_) rfl (by kernel_rfl) (by kernel_rfl) (by kernel_rfl) (fun _ _ _ h => h) (Or.inl ⟨by rfl, ?_⟩) hHeld ?_
      rotate_left
      · intro w hSw; clear hSw; go_simp; try rfl
      simp only [List.getElem_toArray, List.getElem_cons_zero, List.getElem_cons_succ, Act.put, List.setIfInBounds_toArray, List.set_cons_zero, List.set_cons_succ]
      refine wpAnyH_done (by kernel_rfl) ?_ _
      go_wp2_with fail
      go_ret
      exact ⟨by rw [HX.out]; rfl, hbb_w5⟩
end Go.Proofs.YtknndmhkfonfmaaGreatDoor

/-
  contracts of cardexref06: May, number, Put.
-/
namespace Go.Proofs.YtknndmhkfonfmaaGreatDoor
open Go.RowKit

/-- A HEAD IN MEMORY -/
def HM (E : TypeId) (w : World) (g : Nat) (h : hd.H) : Prop := w.heap[g]? = some (.cells #[bv h.bank, .int .u32 h.blocks, .int .u32 h.batches] E (0, 0))
namespace HM
variable {E : TypeId} {w w' : World} {g : Nat} {h : hd.H}
theorem lt (m : HM E w g h) : g < w.heap.size := (Array.getElem?_eq_some_iff.1 m).1
theorem c0 (m : HM E w g h) : w.cell? ⟨g, 0, none⟩ = some (bv h.bank) := by rw [cell_of_row _ _ 0 _ _ _ m]; rfl
theorem c1 (m : HM E w g h) : w.cell? ⟨g, 1, none⟩ = some (.int .u32 h.blocks) := by rw [cell_of_row _ _ 1 _ _ _ m]; rfl
theorem c2 (m : HM E w g h) : w.cell? ⟨g, 2, none⟩ = some (.int .u32 h.batches) := by rw [cell_of_row _ _ 2 _ _ _ m]; rfl
set_option maxRecDepth 100000 in
theorem fz (m : HM E w g h) (i : Nat) : w.frozen? ⟨g, i, none⟩ = false := by
  unfold HM at m
  simp [World.frozen?, m]
theorem drew (m : HM E w g h) : HM E w.drew g h := m
theorem below {B : Nat} (m : HM E w g h) (hb : Below B w w') (hB : g < B) : HM E w' g h := (hb.block g hB).trans m
theorem alloc (m : HM E w g h) (o : Obj) : HM E (w.alloc o) g h := (Below.heap_alloc w o g m.lt).trans m
theorem new (w : World) (E : TypeId) (h : hd.H) : HM E (w.alloc (.cells #[bv h.bank, .int .u32 h.blocks, .int .u32 h.batches] E)) w.heap.size h := heap_alloc_new w _
theorem chg {F : List Nat} (m : HM E w g h) (hc : Chg w w' F) (hF : g ∉ F) : HM E w' g h := (hc.block g m.lt hF).trans m
theorem range (m : HM E w g h) : w.rangeAt g 0 (hd.cells h) := range_of m 0 _ fun j v hj => by rw [Nat.zero_add]; exact hj
end HM
theorem info_head : (Tryz.prog.info? 53).map (fun i => (i.zero, i.size)) = some (some (hd.val hd.zero), 3) := by kernel_rfl

set_option maxRecDepth 100000 in
set_option maxHeartbeats 1000000 in
theorem rmay_any (h : hd.H) (w : World) : Calls Tryz.prog 66 #[hd.val h] w fun e w' => e = .returned (.bool (hd.may h)) ∧ Below w.heap.size w w' := by
  have m := HM.new w 53 h
  have hb : Below w.heap.size w (w.alloc (.cells #[bv h.bank, .int .u32 h.blocks, .int .u32 h.batches] 53)) := (Below.refl _ _).alloc (Nat.le_refl _) _
  have q0 := m.c0
  have q1 := m.c1
  have q2 := m.c2
  by_cases h1 : h.bank.toNat ≤ 1
  · by_cases h2 : h.blocks ≤ 4096
    · by_cases h3 : h.batches ≤ h.blocks
      · have hm : hd.may h = true := by simp [hd.may, h1, h2, h3]
        have HM' := Lib.hid hm
        have i1 : (h.bank.toNat : Int) ≤ 1 := by omega
        have i2 : (h.blocks : Int) ≤ 4096 := by omega
        have i3 : (h.batches : Int) ≤ (h.blocks : Int) := by omega
        clear hm
        go_enter Tryz.func66, Tryz.ntmps66
        go_wp2_with fail
        go_ret
        exact ⟨by rw [HM'.out]; rfl, hb⟩
      · have hm : hd.may h = false := by simp [hd.may, h3]
        have HM' := Lib.hid hm
        have i1 : (h.bank.toNat : Int) ≤ 1 := by omega
        have i2 : (h.blocks : Int) ≤ 4096 := by omega
        have i3 : ¬ (h.batches : Int) ≤ (h.blocks : Int) := by omega
        clear hm
        go_enter Tryz.func66, Tryz.ntmps66
        go_wp2_with fail
        go_ret
        exact ⟨by rw [HM'.out]; rfl, hb⟩
    · have hm : hd.may h = false := by simp [hd.may, h2]
      have HM' := Lib.hid hm
      have i1 : (h.bank.toNat : Int) ≤ 1 := by omega
      have i2 : ¬ (h.blocks : Int) ≤ 4096 := by omega
      clear hm
      go_enter Tryz.func66, Tryz.ntmps66
      go_wp2_with fail
      go_ret
      exact ⟨by rw [HM'.out]; rfl, hb⟩
  · have hm : hd.may h = false := by simp [hd.may, h1]
    have HM' := Lib.hid hm
    have i1 : ¬ (h.bank.toNat : Int) ≤ 1 := by omega
    clear hm
    go_enter Tryz.func66, Tryz.ntmps66
    go_wp2_with fail
    go_ret
    exact ⟨by rw [HM'.out]; rfl, hb⟩

set_option maxRecDepth 100000 in
theorem rnumber_any (n : Nat) (w : World) : Calls Tryz.prog 65 #[.int .u64 n] w fun e w' => e = .returned (.bool (hd.num n)) ∧ w = w' := by
  by_cases h1 : 1 ≤ n
  · by_cases h2 : n ≤ 4611686018427387904
    · have hm : hd.num n = true := by simp [hd.num, h1, h2]
      have i1 : (1 : Int) ≤ (n : Int) := by omega
      have i2 : (n : Int) ≤ 4611686018427387904 := by omega
      rw [hm]
      clear hm h1 h2
      go_enter Tryz.func65, Tryz.ntmps65
      go_wp2_with fail
      go_ret
      exact ⟨rfl, rfl⟩
    · have hm : hd.num n = false := by simp [hd.num, h2]
      have i1 : (1 : Int) ≤ (n : Int) := by omega
      have i2 : ¬ (n : Int) ≤ 4611686018427387904 := by omega
      rw [hm]
      clear hm h1 h2
      go_enter Tryz.func65, Tryz.ntmps65
      go_wp2_with fail
      go_ret
      exact ⟨rfl, rfl⟩
  · have hm : hd.num n = false := by simp [hd.num, h1]
    have i1 : ¬ (1 : Int) ≤ (n : Int) := by omega
    rw [hm]
    clear hm h1
    go_enter Tryz.func65, Tryz.ntmps65
    go_wp2_with fail
    go_ret
    exact ⟨rfl, rfl⟩

set_option maxRecDepth 100000 in
theorem own_one (w : World) (e : TypeId) (x : UInt8) (B : Nat) (hB : B ≤ w.heap.size) : OwnB e (w.alloc (.cells #[bv x] e)) B (.slice (some ⟨w.heap.size, 0, none⟩) 1 1) [x] :=
  .inr ⟨w.heap.size, [], rfl, hB, heap_alloc_new w _, by simp, by simp⟩
set_option maxHeartbeats 4000000 in
set_option maxRecDepth 100000 in
theorem rput6_any (n : Nat) (hn : n < 18446744073709551616) (h : hd.H) (hok : h.Ok) (w : World) : Calls Tryz.prog 47 #[.int .u64 n, hd.val h] w fun e w' =>
    e = .returned (.tuple #[dk.val (hd.put n h).1, .int .i64 (hd.put n h).2]) ∧ Below w.heap.size w w' := by
  obtain ⟨hz, -⟩ := zero_of_info zero_blk
  obtain ⟨i0, hi, hz0, hz1, hz2⟩ := info_parts info_u8
  have m1 := HM.new w 53 h
  have m2 := m1.alloc (.cells (dk.cells dk.zero).toArray 43)
  have b1 : Below w.heap.size w (w.alloc (.cells #[bv h.bank, .int .u32 h.blocks, .int .u32 h.batches] 53)) := (Below.refl _ _).alloc (Nat.le_refl _) _
  have b2 := b1.alloc b1.size (.cells (dk.cells dk.zero).toArray 43)
  have r2 := heap_alloc_new (w.alloc (.cells #[bv h.bank, .int .u32 h.blocks, .int .u32 h.batches] 53)) (.cells (dk.cells dk.zero).toArray 43)
  rw [show (w.alloc (.cells #[bv h.bank, .int .u32 h.blocks, .int .u32 h.batches] 53)).heap.size = w.heap.size + 1 from by simp] at r2
  obtain ⟨W2, hW2⟩ : ∃ W2, (w.alloc (.cells #[bv h.bank, .int .u32 h.blocks, .int .u32 h.batches] 53)).alloc (.cells (dk.cells dk.zero).toArray 43) = W2 := ⟨_, rfl⟩
  rw [hW2] at m2 b2 r2
  have hlR : w.heap.size + 1 < W2.heap.size := (Array.getElem?_eq_some_iff.1 r2).1
  have hnum := rnumber_any n W2
  obtain ⟨q1, hq1⟩ : ∃ q, hd.num n = q := ⟨_, rfl⟩
  obtain ⟨q2, hq2⟩ : ∃ q, hd.may h = q := ⟨_, rfl⟩
  rw [hq1] at hnum
  have HNUM := Lib.hid hnum
  have hmay := fun W => rmay_any h W
  simp only [hq2] at hmay
  have HMAY := Lib.hid hmay
  have c0 := m2.c0
  have c1 := m2.c1
  have c2 := m2.c2
  have HQ1 := Lib.hid hq1
  have HQ2 := Lib.hid hq2
  clear hnum hmay m1 b1 hq1 hq2
  cases q1 with
  | false =>
    have hp := hd.put_no (n := n) (h := h) (by rw [HQ1.out, Bool.false_and])
    have HP := Lib.hid hp
    clear hp
    go_enter Tryz.func47, Tryz.ntmps47
    go_wp2_with fail
    refine HNUM.out.mono ?_
    rintro e w3 ⟨rfl, rfl⟩
    go_wp2_with (refine wp_st0 (.tmp 4) (.tmp 19) dk.zero r2 zero_len zero_len rfl rfl rfl rfl ?_; intro W hW hc)
    refine bodyPost_ret (results_cell_tmp rfl rfl (blk_load (blk_range hW) zero_len)) rfl ⟨?_, (Chg.of_below b2 [w.heap.size + 1]).trans hc (Sub.refl _ _) |>.below (Nat.le_refl _) (fun k hk => by simp at hk; omega)⟩
    rw [HP.out]
    rfl
  | true =>
    cases q2 with
    | false =>
      have hp := hd.put_no (n := n) (h := h) (by rw [HQ2.out, Bool.and_false])
      have HP := Lib.hid hp
      clear hp
      go_enter Tryz.func47, Tryz.ntmps47
      go_wp2_with fail
      refine HNUM.out.mono ?_
      rintro e w3 ⟨rfl, rfl⟩
      go_wp2_with fail
      refine (HMAY.out _).mono ?_
      rintro e w4 ⟨rfl, b4⟩
      have b24 := b2.trans (b4.mono b2.size)
      have r4 := (b4.block _ hlR).trans r2
      clear r2
      go_wp2_with (refine wp_st0 (.tmp 4) (.tmp 19) dk.zero r4 zero_len zero_len rfl rfl rfl rfl ?_; intro W hW hc)
      refine bodyPost_ret (results_cell_tmp rfl rfl (blk_load (blk_range hW) zero_len)) rfl ⟨?_, (Chg.of_below b24 [w.heap.size + 1]).trans hc (Sub.refl _ _) |>.below (Nat.le_refl _) (fun k hk => by simp at hk; omega)⟩
      rw [HP.out]
      rfl
    | true =>
      have hp := hd.put_yes HQ1.out HQ2.out
      have hnn := hd.num_ok HQ1.out
      have HP := Lib.hid hp
      have hbl := hd.bodyOf_length h
      have hk1 := hok.blocks
      have hk2 := hok.batches
      have p1 := fun W => rput_any h.blocks 4 W (by omega)
      have p2 := fun W => rput_any h.batches 4 W (by omega)
      simp only [put4 _ hk1, show Int.toNat 4 = 4 from rfl] at p1
      simp only [put4 _ hk2, show Int.toNat 4 = 4 from rfl] at p2
      have P1 := Lib.hid p1
      have P2 := Lib.hid p2
      have hl1 := leBytes_length h.blocks 4
      have hl2 := leBytes_length h.batches 4
      have hs : sl.put n (hd.bodyOf h) = (sl.sealB n (hd.bodyOf h), 0) := by rw [sl.put, if_neg (by omega), if_neg (by rw [hbl]; omega)]
      have p5 := fun W A c (hB : BS W A 9 c (hd.bodyOf h)) => rput5_any n hn A 9 c (hd.bodyOf h) W hB
      simp only [hs] at p5
      have P5 := Lib.hid p5
      have hsl := sl.seal_length n (body := hd.bodyOf h) (by rw [hbl]; omega)
      obtain ⟨L1, hL1⟩ : ∃ L, leBytes h.blocks 4 = L := ⟨_, rfl⟩
      obtain ⟨L2, hL2⟩ : ∃ L, leBytes h.batches 4 = L := ⟨_, rfl⟩
      have hbo : [h.bank] ++ L1 ++ L2 = hd.bodyOf h := by rw [← hL1, ← hL2, hd.bodyOf]
      rw [hL1] at P1 hl1
      rw [hL2] at P2 hl2
      have HBO := Lib.hid hbo
      have HL1 := Lib.hid hl1
      have HL2 := Lib.hid hl2
      have hw1 : IntKind.u64.wrap (h.blocks : Int) = (h.blocks : Int) := IntWalk.u64_in _ ⟨by omega, by omega⟩
      have hw2 : IntKind.u64.wrap (h.batches : Int) = (h.batches : Int) := IntWalk.u64_in _ ⟨by omega, by omega⟩
      clear hp hs p1 p2 p5 hbl hL1 hL2 hbo hl1 hl2 hk1 hk2
      generalize sl.sealB n (hd.bodyOf h) = S at *
      go_enter Tryz.func47, Tryz.ntmps47
      go_wp2_with fail
      refine HNUM.out.mono ?_
      rintro e w3 ⟨rfl, rfl⟩
      go_wp2_with fail
      refine (HMAY.out _).mono ?_
      rintro e w4 ⟨rfl, b4⟩
      have b24 := b2.trans (b4.mono b2.size)
      have hl4 := b4.size
      have r4 := (b4.block _ hlR).trans r2
      have m4 := m2.below b4 m2.lt
      have c01 := m4.c1
      clear r2 m2 c0 c1 c2 b2
      go_wp2_with fail
      refine (P1.out _).mono ?_
      rintro e w5 ⟨-, hv, b5⟩
      obtain ⟨v5, rfl, o5⟩ := hv rfl
      obtain ⟨A5, c5, rfl, hB5⟩ := o5.form
      rw [HL1.out] at o5 hB5 ⊢
      have b25 := b24.trans (b5.mono b24.size)
      have r5 := (b5.block _ (by omega)).trans r4
      have m5 := m4.below b5 m4.lt
      have c12 := m5.c2
      have hl5 := b5.size
      clear r4 m4 c01 b24 b4 b5
      go_wp2_with fail
      refine (P2.out _).mono ?_
      rintro e w6 ⟨-, hv, b6⟩
      obtain ⟨v6, rfl, o6⟩ := hv rfl
      obtain ⟨A6, c6, rfl, hB6⟩ := o6.form
      rw [HL2.out] at o6 hB6 ⊢
      have b26 := b25.trans (b6.mono b25.size)
      have r6 := (b6.block _ (by omega)).trans r5
      have m6 := m5.below b6 m5.lt
      have o56 := o5.below b6 (Nat.le_refl _)
      have c23 := m6.c0
      have hl6 := b6.size
      have n6 := own_one w6 5 h.bank w6.heap.size (Nat.le_refl _)
      have a6 := fun (o : Obj) => o56.bs.alloc o
      have a7 := fun (o : Obj) => o6.bs.alloc o
      clear r5 m5 c12 b25 b6 o5 hB5 hB6
      have hA6 : ∀ k, (Value.slice A6 4 c6).ownBlock = some k → k < w6.heap.size := fun k hk => (o6.lt k hk).2
      go_wp2_with (first
        | (refine wpList_append_bytes _ rfl (.tmp 37) (.tmp 38) 36 rfl 5 i0 Tryz.underlying36 hi hz0 hz1 hz2 w6.heap.size _ _ rfl n6 _ 4 c5 _ rfl (a6 _) (by simp) (by simp) ?_; intro v7 w7 o7 hg7 _ _; have hg7' : (w6.alloc (.cells #[bv h.bank] 5)).grownBy w7 (some w6.heap.size) := hg7; clear hg7; obtain ⟨A7, c7, rfl, hB7⟩ := o7.form; have hl7 := hg7'.size; have o67 := (o6.alloc (.cells #[bv h.bank] 5)).kept hg7' (by cases hq : (Value.slice A6 4 c6).ownBlock with | none => exact .inl rfl | some q => exact .inr (fun e => by injection e with e; have := hA6 q hq; omega)))
        | (refine wpList_append_bytes _ rfl (.tmp 40) (.tmp 41) 36 rfl 5 i0 Tryz.underlying36 hi hz0 hz1 hz2 w6.heap.size _ _ rfl o7 _ 4 c6 _ rfl o67.bs (by rw [List.length_append, HL1.out]; simp) (by simp at hl7; omega) ?_; intro v8 w8 o8 hg8 _ _; obtain ⟨A8, c8, rfl, hB8⟩ := o8.form))
      have r6a := (Below.heap_alloc w6 (.cells #[bv h.bank] 5) (w.heap.size + 1) (by omega)).trans r6
      have r7 := (hg7'.block (w.heap.size + 1) (by simp; omega) (fun e => by injection e with e; omega)).trans r6a
      have hs7 : w6.heap.size + 1 ≤ w7.heap.size := by simpa using hl7
      have r8 := (hg8.block (w.heap.size + 1) (by omega) (fun e => by have := (o7.lt _ e.symm).1; omega)).trans r7
      have b27 := OwnB.step (b26.alloc b26.size (.cells #[bv h.bank] 5)) ((own_one w6 5 h.bank w6.heap.size (Nat.le_refl _)).mono b26.size) hg7' (by simp; have := b26.size; omega)
      have b28 := OwnB.step b27 (o7.mono b26.size) hg8 (by have := b26.size; omega)
      have hlen : ([h.bank] ++ L1 ++ L2).length = 9 := by rw [List.length_append, List.length_append, HL1.out, HL2.out]; rfl
      rw [hlen, HBO.out] at hB8
      rw [HL1.out, HL2.out]
      refine (P5.out _ _ _ hB8).mono ?_
      rintro e w9 ⟨rfl, b9⟩
      have b29 := b28.trans (b9.mono b28.size)
      have r9 := (b9.block (w.heap.size + 1) (by have := hg8.size; omega)).trans r8
      clear r6a r7 r8 r6 hg8 hg7' o7 o67 hB7 hB8 o8 n6 a6 a7 m6 c23 b26 b27 b28 b9
      go_wp2_with (refine wp_st0 (.tmp 4) (.tmp 46) S r9 zero_len hsl rfl rfl rfl rfl ?_; intro W hW hc)
      refine bodyPost_ret (results_cell_tmp rfl rfl (blk_load (blk_range hW) hsl)) rfl ⟨?_, (Chg.of_below b29 [w.heap.size + 1]).trans hc (Sub.refl _ _) |>.below (Nat.le_refl _) (fun k hk => by simp at hk; omega)⟩
      rw [HP.out]
      rfl
end Go.Proofs.YtknndmhkfonfmaaGreatDoor

/-
  contracts of cardexref06: Get, Newest.
-/
namespace Go.Proofs.YtknndmhkfonfmaaGreatDoor
open Go.RowKit

theorem head_size : (Tryz.prog.info? 53).map (·.size) = some 3 := by kernel_rfl
set_option maxRecDepth 100000 in
theorem head_load {w : World} {g : Nat} {h : hd.H} {E : TypeId} (m : HM E w g h) : (loadVar 53 ⟨g, 0, none⟩).run Tryz.prog w = .ok (hd.val h) w :=
  run_loadVar_mid w g 0 _ _ _ m.range Tryz.underlying53 rfl head_size
set_option maxRecDepth 100000 in
theorem results_tct {fn : Func} {s t u : Tmp} {T : TypeId} (h : fn.results = #[.tmp s, .cell t T, .tmp u]) {tmps : Array Value} {P : Program} {w : World} {a : Addr} {x : Value} (ht : tmps.getD t undef = .pointer (some a)) (hl : (loadVar T a).run P w = .ok x w) :
    (results fn tmps).run P w = .ok (.tuple #[tmps.getD s undef, x, tmps.getD u undef]) w := by
  have ht' : tmps[t]?.getD undef = .pointer (some a) := by simpa using ht
  simp [results, h, ht', asAddr, hl]
set_option maxRecDepth 100000 in
/-- a head's cells are stored one by one -/
theorem HM.set3 {E : TypeId} {w : World} {g : Nat} {old : hd.H} (m : HM E w g old) (h : hd.H) :
    HM E (((w.setCell ⟨g, 0, none⟩ (bv h.bank)).setCell ⟨g, 1, none⟩ (.int .u32 h.blocks)).setCell ⟨g, 2, none⟩ (.int .u32 h.batches)) g h ∧
      Chg w (((w.setCell ⟨g, 0, none⟩ (bv h.bank)).setCell ⟨g, 1, none⟩ (.int .u32 h.blocks)).setCell ⟨g, 2, none⟩ (.int .u32 h.batches)) [g] := by
  refine ⟨?_, ((Chg.setCell _ _ _ _).trans (Chg.setCell _ _ _ _) (Sub.refl _ _)).trans (Chg.setCell _ _ _ _) (Sub.refl _ _)⟩
  have h1 := block_set (i := 0) m (bv h.bank)
  have h2 := block_set (i := 1) h1 (.int .u32 h.blocks)
  have h3 := block_set (i := 2) h2 (.int .u32 h.batches)
  exact h3.trans (by simp)
section
variable {ops : Array Oper} {rest : List Oper} {o : Oper} {a : Act} {w : World} {Q : Exit → Act → World → Prop}
set_option maxRecDepth 100000 in
/-- a head is loaded -/
theorem wp_ldh (x : Operand) (h : hd.H) {E : TypeId} {g : Nat} (m : HM E w g h) (hgd : o.guard = none) (ho : o.op = .load 53 x) (hx : a.eval x = .pointer (some ⟨g, 0, none⟩))
    (hk : wpList Tryz.prog ops Q rest (a.put o.dst (hd.val h)) w) : wpList Tryz.prog ops Q (o :: rest) a w :=
  wpList_load_mid hgd _ x ho g 0 hx _ _ m.range Tryz.underlying53 rfl head_size hk
set_option maxRecDepth 100000 in
/-- a head is stored -/
theorem wp_sth (x y : Operand) (h old : hd.H) {E : TypeId} {g : Nat} (m : HM E w g old) (hgd : o.guard = none) (ho : o.op = .store 53 x y) (hx : a.eval x = .pointer (some ⟨g, 0, none⟩)) (hy : a.eval y = hd.val h)
    (hk : ∀ W, HM E W g h → Chg w W [g] → wpList Tryz.prog ops Q rest (a.put o.dst undef) W) : wpList Tryz.prog ops Q (o :: rest) a w := by
  have h2 := block_sets (hd.cells h) 0 (hd.cells old) w m (by simp)
  refine wpList_store_mid hgd _ x y ho g 0 (hd.cells h).toArray hx hy ?_ (by simpa using head_size) (by simp [Value.oneCell']) ?_
  · have := there_of (cs := hd.cells old) m 0 3 (by simp)
    simpa using this
  · exact hk _ (show _ = _ by simpa using h2) (Chg.setCells g _ _ _)
end

theorem cells_head : Tryz.prog.cellsOf 53 = 3 := by kernel_rfl
theorem cells_u32' : Tryz.prog.cellsOf 51 = 1 := by kernel_rfl
set_option maxRecDepth 100000 in
theorem wf_u32' {n : Nat} (h : n < 4294967296) : (Lit.int .u32 (n : Int)).wf = true := by
  simp [Lit.wf, IntKind.min, IntKind.max, IntKind.signed, IntKind.bits]
  omega
set_option maxRecDepth 100000 in
theorem lits_head (h : hd.H) (hok : h.Ok) : Tryz.prog.keyLits 2 53 (hd.val h).cells.toList = some [.int .u8 (h.bank.toNat : Int), .int .u32 (h.blocks : Int), .int .u32 (h.batches : Int)] := by
  have hc : (hd.val h).cells.toList = hd.cells h := rfl
  rw [hc]
  have k0 : Tryz.prog.keyLits 1 5 [bv h.bank] = some [.int .u8 (h.bank.toNat : Int)] := by
    unfold Program.keyLits
    rw [Tryz.underlying5]
    simp [wf_u8']
  have k1 : ∀ n : Nat, n < 4294967296 → Tryz.prog.keyLits 1 51 [.int .u32 (n : Int)] = some [.int .u32 (n : Int)] := fun n hn => by
    unfold Program.keyLits
    rw [Tryz.underlying51]
    simp [wf_u32' hn]
  have k2 := k1 h.blocks hok.blocks
  have k3 := k1 h.batches hok.batches
  unfold Program.keyLits
  rw [Tryz.underlying53]
  simp only [cells_head]
  rw [if_pos ⟨rfl, by kernel_rfl⟩]
  simp [List.mapM_cons, cells_u8', cells_u32', k0, k2, k3]
set_option maxRecDepth 100000 in
/-- heads compared -/
theorem eq_head (h k : hd.H) (hh : h.Ok) (hk : k.Ok) (W : World) : (Op.equalIn 10000 53 (hd.val h) (hd.val k)).run Tryz.prog W = .ok (decide (h = k)) W := by
  obtain ⟨r, hr, hiff⟩ := run_equalIn_deep (P := Tryz.prog) 9998 2 53 (by kernel_rfl) W 2 2 _ _ _ _ (by simp [Value.formed, Tryz.underlying53, cells_head]) (by simp [Value.formed, Tryz.underlying53, cells_head]) (lits_head h hh) (lits_head k hk)
  refine hr.trans ?_
  congr 1
  rw [Bool.eq_iff_iff, hiff, decide_eq_true_iff]
  obtain ⟨a0, a1, a2⟩ := h
  obtain ⟨b0, b1, b2⟩ := k
  simp only [List.cons.injEq, Lit.int.injEq, true_and, and_true, hd.H.mk.injEq]
  constructor
  · rintro ⟨e0, e1, e2⟩
    exact ⟨UInt8.toNat_inj.1 (by omega), by omega, by omega⟩
  · rintro ⟨rfl, rfl, rfl⟩
    exact ⟨rfl, rfl, rfl⟩

set_option maxRecDepth 100000 in
theorem hd.headOf_Ok (l : List UInt8) : (hd.headOf l).Ok := by
  refine ⟨?_, ?_⟩
  · have h1 := leVal_lt ((l.drop 1).take 4)
    refine Nat.lt_of_lt_of_le h1 ?_
    exact Nat.pow_le_pow_right (by omega) (show 8 * ((l.drop 1).take 4).length ≤ 32 by rw [List.length_take]; omega)
  · have h1 := leVal_lt ((l.drop 5).take 4)
    refine Nat.lt_of_lt_of_le h1 ?_
    exact Nat.pow_le_pow_right (by omega) (show 8 * ((l.drop 5).take 4).length ≤ 32 by rw [List.length_take]; omega)
set_option maxRecDepth 100000 in
theorem sl.get_len {b : dk.Blk} (hb : b.length = 128) (h : (sl.get b).2.2 = 0) : (sl.get b).2.1.length = 108 := by
  obtain ⟨_, _, _, h4⟩ := sl.get_ok h
  rw [h4, List.length_take, List.length_drop]
  omega
set_option maxHeartbeats 4000000 in
set_option maxRecDepth 100000 in
theorem rget6_any (b : dk.Blk) (hb : b.length = 128) (w : World) : Calls Tryz.prog 96 #[dk.val b] w fun e w' =>
    e = .returned (.tuple #[.int .u64 (hd.get b).1, hd.val (hd.get b).2.1, .int .i64 (hd.get b).2.2]) ∧ Below w.heap.size w w' := by
  obtain ⟨hz, -⟩ := zero_of_info zero_blk
  obtain ⟨hzh, -⟩ := zero_of_info info_head
  have r1 := heap_alloc_new w (.cells (dk.cells b).toArray 43)
  have b1 : Below w.heap.size w (w.alloc (.cells (dk.cells b).toArray 43)) := (Below.refl _ _).alloc (Nat.le_refl _) _
  have r2 := (Below.heap_alloc (w.alloc (.cells (dk.cells b).toArray 43)) (.cells #[bv hd.zero.bank, .int .u32 hd.zero.blocks, .int .u32 hd.zero.batches] 53) w.heap.size (by simp)).trans r1
  have m2 := HM.new (w.alloc (.cells (dk.cells b).toArray 43)) 53 hd.zero
  rw [show (w.alloc (.cells (dk.cells b).toArray 43)).heap.size = w.heap.size + 1 from by simp] at m2
  have b2 := b1.alloc b1.size (.cells #[bv hd.zero.bank, .int .u32 hd.zero.blocks, .int .u32 hd.zero.batches] 53)
  have hlen2 : w.heap.size + 1 < ((w.alloc (.cells (dk.cells b).toArray 43)).alloc (.cells #[bv hd.zero.bank, .int .u32 hd.zero.blocks, .int .u32 hd.zero.batches] 53)).heap.size := by simp
  obtain ⟨W2, hW2⟩ : ∃ W2, (w.alloc (.cells (dk.cells b).toArray 43)).alloc (.cells #[bv hd.zero.bank, .int .u32 hd.zero.blocks, .int .u32 hd.zero.batches] 53) = W2 := ⟨_, rfl⟩
  have m2' : HM 53 W2 (w.heap.size + 1) hd.zero := by rw [← hW2]; exact m2
  rw [hW2] at r2 b2 hlen2
  obtain ⟨N, hN⟩ : ∃ e, (sl.get b).1 = e := ⟨_, rfl⟩
  obtain ⟨l, hl⟩ : ∃ e, (sl.get b).2.1 = e := ⟨_, rfl⟩
  obtain ⟨e0, he⟩ : ∃ e, (sl.get b).2.2 = e := ⟨_, rfl⟩
  have hg := rget5_any b hb W2
  rw [hN, hl, he] at hg
  have HG := Lib.hid hg
  have rg := blk_range r2
  have hdef : hd.get b = if e0 = 0 then (if (hd.put N (hd.headOf l)).2 = 0 ∧ (hd.put N (hd.headOf l)).1 = b then (N, hd.headOf l, 0) else (0, hd.zero, 5)) else (0, hd.zero, e0) := by rw [← hN, ← hl, ← he]; rfl
  have HDEF := Lib.hid hdef
  have hlen : e0 = 0 → l.length = 108 := fun h => by rw [← hl]; exact sl.get_len hb (he.trans h)
  have HLEN := Lib.hid hlen
  have hNlt : N < 18446744073709551616 := by rw [← hN]; exact sl.worth_lt b
  clear hg r1 b1 m2 hdef hN hl he hlen
  go_enter Tryz.func96, Tryz.ntmps96
  go_wp2_with (refine wp_ld (.tmp 1) b rg hb rfl rfl rfl ?_)
  refine HG.out.mono ?_
  rintro e w3 ⟨v3, rfl, o3, b3⟩
  have b23 := b2.trans (b3.mono b2.size)
  have m3 := m2'.below b3 hlen2
  have r3 := (b3.block w.heap.size (by omega)).trans r2
  have hl3 := b3.size
  clear HG rg hW2 m2' r2 b2
  by_cases he0 : e0 = 0
  · have he0' : (e0 != 0) = false := by simp [he0]
    have hll := HLEN.out he0
    obtain ⟨A3, c3, rfl, hB3⟩ := o3.form
    rw [hll] at hB3 ⊢
    have hcap := hB3.cap
    have hmax := hB3.max
    have hk1 := rget_yes A3 108 c3 l 1 4 w3 hB3 rfl (by omega)
    have hk2 := rget_yes A3 108 c3 l 5 4 w3 hB3 rfl (by omega)
    obtain ⟨x1, hx1⟩ : ∃ x, leVal ((l.drop 1).take 4) = x := ⟨_, rfl⟩
    obtain ⟨x2, hx2⟩ : ∃ x, leVal ((l.drop 5).take 4) = x := ⟨_, rfl⟩
    obtain ⟨x0, hx0⟩ : ∃ x, l.getD 0 0 = x := ⟨_, rfl⟩
    have hho : hd.headOf l = ⟨x0, x1, x2⟩ := by rw [hd.headOf, hx1, hx2, hx0]
    have hOk := hd.headOf_Ok l
    rw [hho] at hOk
    have k1 := hOk.blocks
    have k2 := hOk.batches
    simp only at k1 k2
    have hput := fun W => rput6_any N hNlt ⟨x0, x1, x2⟩ hOk W
    obtain ⟨S, hS⟩ : ∃ e, (hd.put N ⟨x0, x1, x2⟩).1 = e := ⟨_, rfl⟩
    obtain ⟨f, hf⟩ : ∃ e, (hd.put N ⟨x0, x1, x2⟩).2 = e := ⟨_, rfl⟩
    have hSl : S.length = 128 := by rw [← hS]; exact hd.put_len _ _
    simp only [hS, hf] at hput
    have hdef := HDEF.out
    rw [if_pos he0, hho, hS, hf] at hdef
    have HD := Lib.hid hdef
    have HPUT := Lib.hid hput
    rw [hx1] at hk1
    rw [hx2] at hk2
    have HK1 := Lib.hid hk1
    have HK2 := Lib.hid hk2
    obtain ⟨gb, go, rfl, hgl, hcell⟩ := hB3.has (by omega)
    have c00 := hcell 0 (by omega)
    have e00 : l[0]'(by omega) = x0 := by rw [← hx0, List.getD_eq_getElem?_getD, List.getElem?_eq_getElem (by omega)]; rfl
    rw [e00, Nat.add_zero] at c00
    have hw1 : IntKind.u32.wrap (x1 : Int) = (x1 : Int) := IntWalk.u32_in _ ⟨by omega, by omega⟩
    have hw2 : IntKind.u32.wrap (x2 : Int) = (x2 : Int) := IntWalk.u32_in _ ⟨by omega, by omega⟩
    clear hput hdef hk1 hk2 hx1 hx2 hx0 hho hS hf hcell e00 HDEF HLEN hB3
    go_wp2_with fail
    refine HK1.out.mono ?_
    rintro e w4 ⟨rfl, rfl⟩
    go_wp2_with fail
    refine HK2.out.mono ?_
    rintro e w4 ⟨rfl, rfl⟩
    have n3 := HM.new w3 53 hd.zero
    obtain ⟨X1, hX1⟩ : ∃ X, w3.heap.size = X := ⟨_, rfl⟩
    rw [hX1] at n3
    clear HK1 HK2
    go_wp2_with (first
      | (refine wp_sth (.tmp 12) (.tmp 42) ⟨x0, x1, x2⟩ hd.zero n3 rfl rfl rfl rfl ?_; intro w4 m4 hc4; rw [← hX1] at hc4; have b4 := new_chg hc4)
      | refine wp_ldh (.tmp 12) ⟨x0, x1, x2⟩ m4 rfl rfl rfl ?_)
    have b24 := b23.trans (b4.mono b23.size)
    have m34 := m3.below b4 m3.lt
    have r4 := (b4.block w.heap.size (by omega)).trans r3
    have hl4 := b4.size
    clear hc4 n3 m3 r3 c00 o3
    refine (HPUT.out w4).mono ?_
    rintro e w5 ⟨rfl, b5⟩
    have b25 := b24.trans (b5.mono b24.size)
    have m35 := m34.below b5 m34.lt
    have m5 := m4.below b5 m4.lt
    have r5 := (b5.block w.heap.size (by omega)).trans r4
    have hl5 := b5.size
    have n5 := heap_alloc_new w5 (.cells (dk.cells dk.zero).toArray 43)
    have hX1l := m4.lt
    obtain ⟨X2, hX2⟩ : ∃ X, w5.heap.size = X := ⟨_, rfl⟩
    rw [hX2] at n5
    have hE := eq_blk S b hSl hb
    clear m34 m4 r4 b24 b4 b5 HPUT
    by_cases hf0 : f = 0
    · have hf0' : (f != 0) = false := by simp [hf0]
      by_cases hSb : S = b
      · rw [decide_eq_true hSb] at hE
        have hd := HD.out
        rw [if_pos ⟨hf0, hSb⟩] at hd
        have HD' := Lib.hid hd
        clear hd HD hSb
        go_wp2_with (first
          | (refine wp_st0 (.tmp 13) (.tmp 47) S n5 zero_len hSl rfl rfl rfl rfl ?_; intro w6 hW6 hc6; rw [← hX2] at hc6; have b6 := new_chg hc6; have g6 := blk_range hW6; have g7 := blk_range ((b6.block w.heap.size (by omega)).trans r5))
          | refine wp_ldw (.tmp 13) S g6 hSl rfl rfl (by rfl) ?_
          | refine wp_ldw (.tmp 1) b g7 hb rfl rfl (by rfl) ?_)
        have m6 := m5.below b6 (by omega)
        have m36 := m35.below b6 m35.lt
        have b26 := b25.trans (b6.mono b25.size)
        have c0 := m6.c0
        have c1 := m6.c1
        have c2 := m6.c2
        have d0 := m36.c0
        have d1 := m36.c1
        have d2 := m36.c2
        have f0 := m36.fz 0
        have f1 := m36.fz 1
        have f2 := m36.fz 2
        have hne : X1 ≠ w.heap.size + 1 := by omega
        clear hW6 hc6 b6 g6 g7 m6 m5 hE n5 r5 b3
        have hset := m36.set3 ⟨x0, x1, x2⟩
        have HSET := Lib.hid hset
        clear hset
        go_region
        have hset := HSET.out
        clear c0 c1 c2 d0 d1 d2 f0 f1 f2 m35 m36 HSET
        obtain ⟨hs1, hs2⟩ := hset
        have hs3 := hs1.drew
        have hs4 := (hs2.trans (Chg.drew _ _) (Sub.refl _ _))
        generalize ((((w6.setCell ⟨w.heap.size + 1, 0, none⟩ (bv x0)).setCell ⟨w.heap.size + 1, 1, none⟩ (.int .u32 x1)).setCell ⟨w.heap.size + 1, 2, none⟩ (.int .u32 x2)).drew) = w7 at *
        go_wp2_with fail
        refine bodyPost_ret (results_tct rfl rfl (head_load hs3)) rfl ⟨?_, (Chg.of_below b26 [w.heap.size + 1]).trans hs4 (Sub.refl _ _) |>.below (Nat.le_refl _) (fun k hk => by simp at hk; omega)⟩
        rw [HD'.out]
        rfl
      · rw [decide_eq_false hSb] at hE
        have hd := HD.out
        rw [if_neg (fun h => hSb h.2)] at hd
        have HD' := Lib.hid hd
        clear hd HD hSb
        go_wp2_with (first
          | (refine wp_st0 (.tmp 13) (.tmp 47) S n5 zero_len hSl rfl rfl rfl rfl ?_; intro w6 hW6 hc6; rw [← hX2] at hc6; have b6 := new_chg hc6; have g6 := blk_range hW6; have g7 := blk_range ((b6.block w.heap.size (by omega)).trans r5); have m36 := m35.below b6 m35.lt; have b26 := b25.trans (b6.mono b25.size))
          | refine wp_ldw (.tmp 13) S g6 hSl rfl rfl (by rfl) ?_
          | refine wp_ldw (.tmp 1) b g7 hb rfl rfl (by rfl) ?_
          | (refine wp_sth (.tmp 3) (.tmp 56) hd.zero hd.zero m36 rfl rfl rfl rfl ?_; intro w7 m7 hc7))
        refine bodyPost_ret (results_tct rfl rfl (head_load m7)) rfl ⟨?_, (Chg.of_below b26 [w.heap.size + 1]).trans hc7 (Sub.refl _ _) |>.below (Nat.le_refl _) (fun k hk => by simp at hk; omega)⟩
        rw [HD'.out]
        rfl
    · have hf0' : (f != 0) = true := by simp [hf0]
      have hd := HD.out
      rw [if_neg (fun h => hf0 h.1)] at hd
      have HD' := Lib.hid hd
      clear hd HD hE
      go_wp2_with (first
        | (refine wp_st0 (.tmp 13) (.tmp 47) S n5 zero_len hSl rfl rfl rfl rfl ?_; intro w6 hW6 hc6; rw [← hX2] at hc6; have b6 := new_chg hc6; have m36 := m35.below b6 m35.lt; have b26 := b25.trans (b6.mono b25.size))
        | (refine wp_sth (.tmp 3) (.tmp 56) hd.zero hd.zero m36 rfl rfl rfl rfl ?_; intro w7 m7 hc7))
      refine bodyPost_ret (results_tct rfl rfl (head_load m7)) rfl ⟨?_, (Chg.of_below b26 [w.heap.size + 1]).trans hc7 (Sub.refl _ _) |>.below (Nat.le_refl _) (fun k hk => by simp at hk; omega)⟩
      rw [HD'.out]
      rfl
  · have he0' : (e0 != 0) = true := by simp [he0]
    have hdef := HDEF.out
    rw [if_neg he0] at hdef
    have HD := Lib.hid hdef
    clear hdef
    go_wp2_with (refine wp_sth (.tmp 3) (.tmp 23) hd.zero hd.zero m3 rfl rfl rfl rfl ?_; intro w4 m4 hc4)
    refine bodyPost_ret (results_tct rfl rfl (head_load m4)) rfl ⟨?_, (Chg.of_below b23 [w.heap.size + 1]).trans hc4 (Sub.refl _ _) |>.below (Nat.le_refl _) (fun k hk => by simp at hk; omega)⟩
    rw [HD.out]
    rfl
set_option maxHeartbeats 4000000 in
set_option maxRecDepth 100000 in
theorem rnewest6_any (a b : dk.Blk) (ha : a.length = 128) (hb : b.length = 128) (w : World) : Calls Tryz.prog 73 #[dk.val a, dk.val b] w fun e w' =>
    e = .returned (.tuple #[.int .u64 (hd.newest a b).1, hd.val (hd.newest a b).2.1, .int .i64 (hd.newest a b).2.2]) ∧ Below w.heap.size w w' := by
  obtain ⟨hzh, -⟩ := zero_of_info info_head
  obtain ⟨N1, hN1⟩ : ∃ e, (hd.get a).1 = e := ⟨_, rfl⟩
  obtain ⟨h1, hh1⟩ : ∃ e, (hd.get a).2.1 = e := ⟨_, rfl⟩
  obtain ⟨e1, he1⟩ : ∃ e, (hd.get a).2.2 = e := ⟨_, rfl⟩
  obtain ⟨N2, hN2⟩ : ∃ e, (hd.get b).1 = e := ⟨_, rfl⟩
  obtain ⟨h2, hh2⟩ : ∃ e, (hd.get b).2.1 = e := ⟨_, rfl⟩
  obtain ⟨e2, he2⟩ : ∃ e, (hd.get b).2.2 = e := ⟨_, rfl⟩
  have HA := Lib.hid (fun W => rget6_any a ha W)
  have HB := Lib.hid (fun W => rget6_any b hb W)
  have hdef : hd.newest a b = if ¬ e1 = 0 ∧ ¬ e2 = 0 then (0, hd.zero, 7) else if N1 < N2 then (N2, h2, 0) else (N1, h1, 0) := by rw [← hN1, ← hN2, ← hh1, ← hh2, ← he1, ← he2]; rfl
  rw [hN1, hh1, he1] at HA
  rw [hN2, hh2, he2] at HB
  have HDEF := Lib.hid hdef
  have r1 := heap_alloc_new w (.cells (dk.cells a).toArray 43)
  have b1 : Below w.heap.size w (w.alloc (.cells (dk.cells a).toArray 43)) := (Below.refl _ _).alloc (Nat.le_refl _) _
  obtain ⟨Wa, hWa⟩ : ∃ Wa, w.alloc (.cells (dk.cells a).toArray 43) = Wa := ⟨_, rfl⟩
  have hsa : Wa.heap.size = w.heap.size + 1 := by rw [← hWa]; simp
  rw [hWa] at r1 b1
  have r2 := (Below.heap_alloc Wa (.cells (dk.cells b).toArray 43) w.heap.size (by omega)).trans r1
  have s2 := heap_alloc_new Wa (.cells (dk.cells b).toArray 43)
  have b2 := b1.alloc b1.size (.cells (dk.cells b).toArray 43)
  obtain ⟨Wb, hWb⟩ : ∃ Wb, Wa.alloc (.cells (dk.cells b).toArray 43) = Wb := ⟨_, rfl⟩
  have hsb : Wb.heap.size = w.heap.size + 2 := by rw [← hWb]; simp; omega
  rw [hWb] at r2 s2 b2
  rw [hsa] at s2
  have r3 := (Below.heap_alloc Wb (.cells #[bv hd.zero.bank, .int .u32 hd.zero.blocks, .int .u32 hd.zero.batches] 53) w.heap.size (by omega)).trans r2
  have s3 := (Below.heap_alloc Wb (.cells #[bv hd.zero.bank, .int .u32 hd.zero.blocks, .int .u32 hd.zero.batches] 53) (w.heap.size + 1) (by omega)).trans s2
  have m3 := HM.new Wb 53 hd.zero
  have b3 := b2.alloc b2.size (.cells #[bv hd.zero.bank, .int .u32 hd.zero.blocks, .int .u32 hd.zero.batches] 53)
  rw [hsb] at m3
  obtain ⟨W3, hW3⟩ : ∃ W3, Wb.alloc (.cells #[bv hd.zero.bank, .int .u32 hd.zero.blocks, .int .u32 hd.zero.batches] 53) = W3 := ⟨_, rfl⟩
  rw [hW3] at r3 s3 m3 b3
  have m3' : HM 53 W3 (w.heap.size + 1 + 1) hd.zero := m3
  have hl3 : w.heap.size + 1 + 1 < W3.heap.size := m3.lt
  have g3 := blk_range r3
  have hj : W3 = ((w.alloc (.cells (dk.cells a).toArray 43)).alloc (.cells (dk.cells b).toArray 43)).alloc (.cells #[bv hd.zero.bank, .int .u32 hd.zero.blocks, .int .u32 hd.zero.batches] 53) := by rw [← hW3, ← hWb, ← hWa]
  have HJ := Lib.hid hj
  clear hdef hN1 hN2 hh1 hh2 he1 he2 r1 b1 r2 s2 b2 hWb hWa hW3 hsa hsb hj
  go_enter Tryz.func73, Tryz.ntmps73
  go_wp2_with (first | (rw [← HJ.out]; refine wp_ld (.tmp 2) a g3 ha rfl rfl rfl ?_) | refine wp_ld (.tmp 2) a g3 ha rfl rfl rfl ?_)
  refine (HA.out _).mono ?_
  rintro e w4 ⟨rfl, b4⟩
  have b34 := b3.trans (b4.mono b3.size)
  have m4 := m3'.below b4 hl3
  have s4 := (b4.block (w.heap.size + 1) (by omega)).trans s3
  have hl4 := b4.size
  have n4 := HM.new w4 53 hd.zero
  obtain ⟨X1, hX1⟩ : ∃ X, w4.heap.size = X := ⟨_, rfl⟩
  rw [hX1] at n4
  clear g3 r3 s3 m3 m3' b3 b4 HA HJ
  go_wp2_with (first
    | (refine wp_sth (.tmp 8) (.tmp 17) h1 hd.zero n4 rfl rfl rfl rfl ?_; intro w5 n5 hc5; rw [← hX1] at hc5; have b5 := new_chg hc5; have g5 := blk_range ((b5.block (w.heap.size + 1) (by omega)).trans s4))
    | refine wp_ld (.tmp 3) b g5 hb rfl rfl rfl ?_)
  have b35 := b34.trans (b5.mono b34.size)
  have m5 := m4.below b5 (by omega)
  have hl5 := b5.size
  have hX1l := n5.lt
  clear g5 s4 m4 n4 hc5 b34 b5
  refine (HB.out _).mono ?_
  rintro e w6 ⟨rfl, b6⟩
  have b36 := b35.trans (b6.mono b35.size)
  have m6 := m5.below b6 m5.lt
  have n56 := n5.below b6 n5.lt
  have hl6 := b6.size
  have n6 := HM.new w6 53 hd.zero
  obtain ⟨X2, hX2⟩ : ∃ X, w6.heap.size = X := ⟨_, rfl⟩
  rw [hX2] at n6
  clear m5 n5 b35 b6 HB
  have hcs : (¬ e1 = 0 ∧ ¬ e2 = 0) ∨ e1 = 0 ∨ (¬ e1 = 0 ∧ e2 = 0) := by omega
  have hstep : ∀ w7, HM 53 w7 X2 h2 → Chg (w6.alloc (.cells #[bv hd.zero.bank, .int .u32 hd.zero.blocks, .int .u32 hd.zero.batches] 53)) w7 [X2] → HM 53 w7 (w.heap.size + 1 + 1) hd.zero ∧ HM 53 w7 X1 h1 ∧ Below w.heap.size w w7 := fun w7 n7 hc7 => by
    rw [← hX2] at hc7
    have b7 := new_chg hc7
    exact ⟨m6.below b7 m6.lt, n56.below b7 n56.lt, b36.trans (b7.mono b36.size)⟩
  have HSTEP := Lib.hid hstep
  have hne1 : X1 ≠ w.heap.size + 1 + 1 := by omega
  have hne2 : X2 ≠ w.heap.size + 1 + 1 := by omega
  clear hstep m6 n56 b36
  rcases hcs with ⟨he1, he2⟩ | hcs
  · have he1' : (e1 != 0) = true := by simp [he1]
    have he2' : (e2 != 0) = true := by simp [he2]
    have hd := HDEF.out
    rw [if_pos ⟨he1, he2⟩] at hd
    have HD := Lib.hid hd
    clear hd HDEF
    go_wp2_with (first
      | (refine wp_sth (.tmp 11) (.tmp 23) h2 hd.zero n6 rfl rfl rfl rfl ?_; intro w7 n8 hc7; obtain ⟨m7, n7, b7⟩ := HSTEP.out w7 n8 hc7)
      | (refine wp_sth (.tmp 5) (.tmp 31) hd.zero hd.zero m7 rfl rfl rfl rfl ?_; intro w8 m8 hc8))
    refine bodyPost_ret (results_tct rfl rfl (head_load m8)) rfl ⟨?_, (Chg.of_below b7 [w.heap.size + 1 + 1]).trans hc8 (Sub.refl _ _) |>.below (Nat.le_refl _) (fun k hk => by simp at hk; omega)⟩
    rw [HD.out]
    rfl
  · have hd := HDEF.out
    rw [if_neg (fun h => by omega)] at hd
    have HD0 := Lib.hid hd
    clear hd HDEF
    by_cases hlt : N1 < N2
    · have hlt' : (N1 : Int) < (N2 : Int) := by omega
      have hd := HD0.out
      rw [if_pos hlt] at hd
      have HD := Lib.hid hd
      clear hd HD0
      rcases hcs with he1 | ⟨he1, he2⟩
      case' inl => have he1' : (e1 != 0) = false := by simp [he1]
      case' inr => have he1' : (e1 != 0) = true := by simp [he1]
      case' inr => have he2' : (e2 != 0) = false := by simp [he2]
      all_goals
        go_wp2_with (refine wp_sth (.tmp 11) (.tmp 23) h2 hd.zero n6 rfl rfl rfl rfl ?_; intro w7 n8 hc7; obtain ⟨m7, n7, b7⟩ := HSTEP.out w7 n8 hc7)
        have c0 := n8.c0
        have c1 := n8.c1
        have c2 := n8.c2
        have d0 := m7.c0
        have d1 := m7.c1
        have d2 := m7.c2
        have f0 := m7.fz 0
        have f1 := m7.fz 1
        have f2 := m7.fz 2
        have HSET := Lib.hid (m7.set3 h2)
        clear m7 n7 n8
        go_wp2_with fail
        go_region
        obtain ⟨hs1, hs2⟩ := HSET.out
        have hs3 := hs1.drew
        have hs4 := (hs2.trans (Chg.drew _ _) (Sub.refl _ _))
        clear c0 c1 c2 d0 d1 d2 f0 f1 f2 HSET hs1 hs2
        generalize ((((w7.setCell ⟨w.heap.size + 1 + 1, 0, none⟩ (bv h2.bank)).setCell ⟨w.heap.size + 1 + 1, 1, none⟩ (.int .u32 h2.blocks)).setCell ⟨w.heap.size + 1 + 1, 2, none⟩ (.int .u32 h2.batches)).drew) = w8 at *
        go_wp2_with fail
        refine bodyPost_ret (results_tct rfl rfl (head_load hs3)) rfl ⟨?_, (Chg.of_below b7 [w.heap.size + 1 + 1]).trans hs4 (Sub.refl _ _) |>.below (Nat.le_refl _) (fun k hk => by simp at hk; omega)⟩
        rw [HD.out]
        rfl
    · have hlt' : ¬ (N1 : Int) < (N2 : Int) := by omega
      have hd := HD0.out
      rw [if_neg hlt] at hd
      have HD := Lib.hid hd
      clear hd HD0
      rcases hcs with he1 | ⟨he1, he2⟩
      case' inl => have he1' : (e1 != 0) = false := by simp [he1]
      case' inr => have he1' : (e1 != 0) = true := by simp [he1]
      case' inr => have he2' : (e2 != 0) = false := by simp [he2]
      all_goals
        go_wp2_with (refine wp_sth (.tmp 11) (.tmp 23) h2 hd.zero n6 rfl rfl rfl rfl ?_; intro w7 n8 hc7; obtain ⟨m7, n7, b7⟩ := HSTEP.out w7 n8 hc7)
        have c0 := n7.c0
        have c1 := n7.c1
        have c2 := n7.c2
        have d0 := m7.c0
        have d1 := m7.c1
        have d2 := m7.c2
        have f0 := m7.fz 0
        have f1 := m7.fz 1
        have f2 := m7.fz 2
        have HSET := Lib.hid (m7.set3 h1)
        clear m7 n7 n8
        go_wp2_with fail
        go_region
        obtain ⟨hs1, hs2⟩ := HSET.out
        have hs3 := hs1.drew
        have hs4 := (hs2.trans (Chg.drew _ _) (Sub.refl _ _))
        clear c0 c1 c2 d0 d1 d2 f0 f1 f2 HSET hs1 hs2
        generalize ((((w7.setCell ⟨w.heap.size + 1 + 1, 0, none⟩ (bv h1.bank)).setCell ⟨w.heap.size + 1 + 1, 1, none⟩ (.int .u32 h1.blocks)).setCell ⟨w.heap.size + 1 + 1, 2, none⟩ (.int .u32 h1.batches)).drew) = w8 at *
        go_wp2_with fail
        refine bodyPost_ret (results_tct rfl rfl (head_load hs3)) rfl ⟨?_, (Chg.of_below b7 [w.heap.size + 1 + 1]).trans hs4 (Sub.refl _ _) |>.below (Nat.le_refl _) (fun k hk => by simp at hk; omega)⟩
        rw [HD.out]
        rfl
end Go.Proofs.YtknndmhkfonfmaaGreatDoor

/-
  ARGUMENTS OPENED: a head by value.
-/
namespace Go.Proofs.YtknndmhkfonfmaaGreatDoor
open Go.ChangeShapes Go.WideShapes Go.ChangeAt Go.RowKit

set_option maxRecDepth 100000 in
theorem open_head {H : Type} {enc : TypeId × Value → H} {W : World} {sp : Nat → Bool} {held : Bool} {fuel : Nat} {cs : List Value} {x : DataW H × List MemPlace} (h : DataW.trod enc Tryz.prog W 0 sp held fuel 53 cs = some x) : ∃ a : hd.H, cs = hd.cells a ∧ a.Ok := by
  obtain ⟨xs, n', _, _, hcl, hxl, hfx⟩ := DataW.trod_struct Tryz.underlying53 h
  rw [cells_head] at hcl
  have f0 : DataW.trod enc Tryz.prog W 0 sp held n' 5 ((cs.drop 0).take (Tryz.prog.cellsOf 5)) = xs[0]? := hfx 0 _ rfl
  have f1 : DataW.trod enc Tryz.prog W 0 sp held n' 51 ((cs.drop 1).take (Tryz.prog.cellsOf 51)) = xs[1]? := hfx 1 _ rfl
  have f2 : DataW.trod enc Tryz.prog W 0 sp held n' 51 ((cs.drop 2).take (Tryz.prog.cellsOf 51)) = xs[2]? := hfx 2 _ rfl
  have hx2 : xs.length = 3 := hxl
  rw [cells_u8', List.getElem?_eq_getElem (by omega)] at f0
  rw [cells_u32', List.getElem?_eq_getElem (by omega)] at f1 f2
  obtain ⟨z0, h0, _, w0⟩ := DataW.trod_int Tryz.underlying5 f0
  obtain ⟨z1, h1, _, w1⟩ := DataW.trod_int Tryz.underlying51 f1
  obtain ⟨z2, h2, _, w2⟩ := DataW.trod_int Tryz.underlying51 f2
  obtain ⟨y, hy⟩ := byte_of_wf' w0
  obtain ⟨n1, rfl, k1⟩ := u32_nat w1
  obtain ⟨n2, rfl, k2⟩ := u32_nat w2
  refine ⟨⟨y, n1, n2⟩, ?_, k1, k2⟩
  match cs, hcl with
  | [c0, c1, c2], _ =>
    simp only [List.drop_zero, List.take_succ_cons, List.take_zero, List.cons.injEq, and_true] at h0
    simp only [List.drop_succ_cons, List.drop_zero, List.take_succ_cons, List.take_zero, List.cons.injEq, and_true] at h1 h2
    rw [h0, h1, h2, hy]
set_option maxRecDepth 100000 in
theorem open_head_val {H : Type} {enc : TypeId × Value → H} {W : World} {base : Nat} {v : Value} {d : DataW H} {ps : List MemPlace}
    (hval : Value.okWide Tryz.prog W .any base 53 v) (h : DataW.Trod enc Tryz.prog W 0 (fun _ => true) true 53 v d ps) : ∃ a : hd.H, v = hd.val a ∧ a.Ok := by
  obtain ⟨cs, rfl, hsz, _⟩ : ∃ cs, v = .agg cs ∧ cs.size = Tryz.prog.cellsOf 53 ∧ Row.okWide Tryz.prog W .any base 53 cs := by
    simpa [Value.okWide, Tryz.underlying53] using hval
  obtain ⟨fuel, hf⟩ := h
  obtain ⟨a, ha, hok⟩ := open_head hf
  refine ⟨a, ?_, hok⟩
  obtain ⟨l⟩ := cs
  simp only [Value.cells] at ha
  rw [show l = hd.cells a from ha]
end Go.Proofs.YtknndmhkfonfmaaGreatDoor

/-
  PURE: a sealed block that is begun over another one, again and again, with the same number: it is the new one, the old one, or refused. No program is named here.
-/
namespace Go.Proofs.YtknndmhkfonfmaaGreatDoor
namespace sl
/-- the first k bytes of a number, the others of what stood there -/
def mixb (M k : Nat) (l : List UInt8) : List UInt8 := (leBytes M 8).take k ++ l.drop k
theorem mixb_length {M k : Nat} {l : List UInt8} (hl : l.length = 8) (hk : k ≤ 8) : (mixb M k l).length = 8 := by
  rw [mixb, List.length_append, List.length_take, List.length_drop, leBytes_length]
  omega
theorem mixb_mixb (M k j : Nat) (l : List UInt8) (_ : k ≤ 8) (hj : j ≤ 8) : mixb M k (mixb M j l) = mixb M (max k j) l := by
  unfold mixb
  have hl : ((leBytes M 8).take j).length = j := by rw [List.length_take, leBytes_length]; omega
  rcases Nat.le_total k j with h | h
  · rw [Nat.max_eq_right h, List.drop_append, hl, show k - j = 0 from by omega, List.drop_zero, ← List.append_assoc]
    congr 1
    obtain ⟨d, rfl⟩ : ∃ d, j = k + d := ⟨j - k, by omega⟩
    rw [List.drop_take, List.take_add, Nat.add_sub_cancel_left]
  · rw [Nat.max_eq_left h, List.drop_append, List.drop_of_length_le (by rw [hl]; exact h), List.nil_append, hl, List.drop_drop]
    congr 2
    omega
theorem take_leBytes (n k : Nat) (hk : k ≤ 8) : (leBytes n 8).take k = leBytes n k := by
  apply List.ext_getElem?
  intro i
  by_cases hi : i < k
  · rw [List.getElem?_take_of_lt hi, leBytes_get n 8 i (by omega), leBytes_get n k i hi]
  · rw [List.getElem?_eq_none (by rw [List.length_take, leBytes_length]; omega), List.getElem?_eq_none (by rw [leBytes_length]; omega)]
/-- the block is away from number M: no beginning of a block of number M over it makes its ends agree -/
def Away (X : Blk) (M : Nat) : Prop := ∀ k, 1 ≤ k → k ≤ 8 → X.drop 120 ≠ last (leVal (mixb M k (X.take 8)))
theorem last_inj {n m : Nat} (hn : n < 18446744073709551616) (hm : m < 18446744073709551616) (e : last n = last m) : n = m := by
  have := congrArg leVal e
  rw [last, last, leVal_bytes, leVal_bytes, Nat.mod_eq_of_lt (by omega), Nat.mod_eq_of_lt (by omega)] at this
  omega
theorem leVal_lt8 {l : List UInt8} (h : l.length = 8) : leVal l < 18446744073709551616 := by
  have := leVal_lt l
  rwa [h] at this
/-- 0s are away from every number that is not the greatest -/
theorem away_zero {M : Nat} (hM : M < 18446744073709551615) : Away dk.zero M := by
  intro k h1 h8 e
  have hl : (mixb M k (dk.zero.take 8)).length = 8 := mixb_length (by simp [dk.zero]) h8
  have hlt := leVal_lt8 hl
  have e2 : leVal (dk.zero.drop 120) = 0 := by decide +kernel
  have e3 := congrArg leVal e
  rw [e2, last, leVal_bytes, Nat.mod_eq_of_lt (by omega)] at e3
  have e4 : leVal (mixb M k (dk.zero.take 8)) = 18446744073709551615 := by omega
  have e5 := leBytes_val _ 8 hl
  rw [e4] at e5
  by_cases hk : k = 8
  · subst hk
    have : mixb M 8 (dk.zero.take 8) = leBytes M 8 := by
      rw [mixb, List.take_of_length_le (by rw [leBytes_length]; omega), List.drop_of_length_le (by simp [dk.zero]), List.append_nil]
    rw [this, leVal_bytes, Nat.mod_eq_of_lt (by omega)] at e4
    omega
  · have e6 := congrArg (fun l => l.getD 7 0) e5
    have e7 : (leBytes 18446744073709551615 8).getD 7 0 = 255 := by decide +kernel
    have e8 : (mixb M k (dk.zero.take 8)).getD 7 0 = 0 := by
      rw [mixb, List.getD_eq_getElem?_getD, List.getElem?_append_right (by rw [List.length_take, leBytes_length]; omega), List.getElem?_drop, List.length_take, leBytes_length, show k + (7 - min k 8) = 7 from by omega]
      rfl
    simp only [e7, e8] at e6
    exact absurd e6 (by decide)
/-- a sealed block is away from the numbers that follow it -/
theorem away_seal {n M : Nat} {body : List UInt8} (hb : body.length ≤ 108) (h1 : n < M) (h2 : M < n + 256) (hn : n < 18446744073709551616) : Away (sealB n body) M := by
  intro k hk1 hk8 e
  rw [seal_drop120 n hb, seal_take8 n hb] at e
  have hl : (mixb M k (leBytes n 8)).length = 8 := mixb_length (leBytes_length _ _) hk8
  have e1 := last_inj hn (leVal_lt8 hl) e
  have e2 := leBytes_val _ 8 hl
  rw [← e1] at e2
  have e3 := congrArg (fun l => l.getD 0 0) e2
  have e4 : (mixb M k (leBytes n 8)).getD 0 0 = UInt8.ofNat M := by
    rw [mixb, List.getD_eq_getElem?_getD, List.getElem?_append_left (by rw [List.length_take, leBytes_length]; omega), List.getElem?_take_of_lt (by omega), leBytes_get M 8 0 (by omega)]
    simp
  have e5 : (leBytes n 8).getD 0 0 = UInt8.ofNat n := by
    rw [List.getD_eq_getElem?_getD, leBytes_get n 8 0 (by omega)]
    simp
  simp only [e4, e5] at e3
  have e6 := congrArg UInt8.toNat e3
  rw [UInt8.toNat_ofNat', UInt8.toNat_ofNat'] at e6
  omega
/-- WHAT IS BEGUN IS THE OLD ONE, THE NEW ONE, OR REFUSED, AND THEN IT CAN BE BEGUN AGAIN -/
theorem torn_away {X : Blk} (hX : X.length = 128) {M : Nat} (hM : M < 18446744073709551616) {body : List UInt8} (hb : body.length ≤ 108) (hA : Away X M) (t : Int) :
    dk.torn X (sealB M body) t = X ∨ dk.torn X (sealB M body) t = sealB M body ∨ (¬ (get (dk.torn X (sealB M body) t)).2.2 = 0 ∧ Away (dk.torn X (sealB M body) t) M) := by
  have hY := seal_length M hb
  have hY8 := seal_take8 M hb
  have hYl := seal_drop120 M hb
  generalize sealB M body = Y at *
  obtain ⟨T, hT⟩ : ∃ T, t.toNat = T := ⟨_, rfl⟩
  have htorn : dk.torn X Y t = Y.take T ++ X.drop T := by rw [dk.torn, hT]
  rw [htorn]
  clear htorn hT
  by_cases h0 : T = 0
  · subst h0
    exact .inl (by simp)
  by_cases h128 : 128 ≤ T
  · refine .inr (.inl ?_)
    rw [List.take_of_length_le (by omega), List.drop_of_length_le (by omega), List.append_nil]
  refine .inr ?_
  obtain ⟨X', hX'⟩ : ∃ X', Y.take T ++ X.drop T = X' := ⟨_, rfl⟩
  rw [hX']
  have hYT : (Y.take T).length = T := by rw [List.length_take]; omega
  by_cases h120 : T ≤ 120
  · refine .inr ?_
    have hd : X'.drop 120 = X.drop 120 := by
      rw [← hX', List.drop_append, hYT, List.drop_of_length_le (by omega), List.nil_append, List.drop_drop]
      congr 1
      omega
    have ht : X'.take 8 = mixb M (min T 8) (X.take 8) := by
      rw [← hX', List.take_append, hYT, mixb, List.take_take]
      congr 1
      · rw [← hY8, List.take_take]
        congr 1
        omega
      · rw [List.drop_take]
        by_cases h8 : T ≤ 8
        · rw [Nat.min_eq_left h8]
        · rw [show 8 - T = 0 from by omega, Nat.min_eq_right (by omega), Nat.sub_self, List.take_zero, List.take_zero]
    refine ⟨fun hok => ?_, fun k hk1 hk8 e => ?_⟩
    · obtain ⟨_, h1, _, _⟩ := get_ok hok
      rw [hd, number, ht] at h1
      exact hA (min T 8) (by omega) (by omega) h1
    · rw [hd, ht, mixb_mixb M k (min T 8) _ hk8 (by omega)] at e
      exact hA (max k (min T 8)) (by omega) (by omega) e
  · have hn : X'.take 8 = leBytes M 8 := by
      rw [← hX', List.take_append_of_le_length (by omega), List.take_take, Nat.min_eq_left (by omega), hY8]
    have ht : X'.take 120 = Y.take 120 := by
      rw [← hX', List.take_append_of_le_length (by omega), List.take_take, Nat.min_eq_left (by omega)]
    by_cases he : X'.drop 120 = last M
    · refine .inl ?_
      rw [← List.take_append_drop 120 X', ht, he, ← hYl, List.take_append_drop]
    · refine .inr ⟨fun hok => ?_, fun k hk1 hk8 e => ?_⟩
      · obtain ⟨_, h1, _, _⟩ := get_ok hok
        rw [number, hn, leVal_bytes, Nat.mod_eq_of_lt hM] at h1
        exact he h1
      · have hm : mixb M k (leBytes M 8) = leBytes M 8 := by rw [mixb, List.take_append_drop]
        rw [hn, hm, leVal_bytes, Nat.mod_eq_of_lt hM] at e
        exact he e
end sl
end Go.Proofs.YtknndmhkfonfmaaGreatDoor

/-
  contracts of bytes.Clone, cardexref00.Copy, Wide, Left, Spoil.
-/
namespace Go.Proofs.YtknndmhkfonfmaaGreatDoor
open Go.RowKit

theorem clone_any (A : Option Addr) (n c : Nat) (l : List UInt8) (w : World) (h : BS w A n c l) (hn : n ≤ 140737488355320) :
    Calls Tryz.prog 107 #[.slice A n c] w (OwnEnd 5 l w) := by
  obtain ⟨i0, hi, hz0, hz1, hz2⟩ := info_parts info_u8
  have k1 := fun W => Lib.run_eql_slice_nil (P := Tryz.prog) W 36 5 A n c 0 0 Tryz.underlying36
  cases A with
  | none =>
    obtain ⟨rfl, rfl⟩ := bs_none h
    go_enter Tryz.func107, Tryz.ntmps107
    go_wp2_with fail
    go_ret
    exact ⟨_, rfl, OwnB.nil_ _ _ _, Below.refl _ _⟩
  | some a =>
    go_enter Tryz.func107, Tryz.ntmps107
    go_wp2_with (at_builtin; refine wpList_append_bytes _ rfl (.tmp 5) (.tmp 6) 36 rfl 5 i0 Tryz.underlying36 hi hz0 hz1 hz2 w.heap.size _ _ rfl (own_empty w _) (some a) n c l rfl (h.alloc _) (by simp; omega) (by simp) ?_; intro v1 w1 ho1 hg1 _ _)
    go_ret
    exact ⟨_, rfl, ho1, OwnB.step ((Below.refl _ _).alloc (Nat.le_refl _) _) (own_empty w _) hg1 (by simp)⟩


theorem wide_step (l : List UInt8) (n j : Nat) (hl : l.length = n) (hj : j < n + 3) (x : UInt8) (hx : (l ++ [7, 7, 7])[j]? = some x) :
    ((l ++ [7, 7, 7]).take j ++ List.replicate (n + 3 - j) 0).set j x = (l ++ [7, 7, 7]).take (j + 1) ++ List.replicate (n + 3 - (j + 1)) 0 := by
  have hj' : j < (l ++ [7, 7, 7]).length := by simp; omega
  rw [List.set_append_right _ _ (by simp; omega), show j - (List.take j (l ++ [7, 7, 7])).length = 0 from by simp; omega, show n + 3 - j = (n + 3 - (j + 1)) + 1 from by omega, List.replicate_succ, List.set_cons_zero,
    List.take_succ_eq_append_getElem hj']
  rw [List.getElem?_eq_getElem hj'] at hx
  rw [Option.some.inj hx]
  simp




end Go.Proofs.YtknndmhkfonfmaaGreatDoor
