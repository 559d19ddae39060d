/-
  PURE: sealed blocks: a number, a body, their sum, what is left of the number; what a block tells; what is true of them. No program is named here.
-/
import Derived.Test.YthddcaoolaipiaaDoorM1
import Derived.StillTailTactics
import Derived.Deep.DeepCutAuto
import Derived.Deep.RegionHeldLaw
namespace Go.Proofs.YthddcaoolaipiaaDoor

/-! ### Numbers and their bytes -/
theorem leVal_bytes (n : Nat) : ∀ k, leVal (leBytes n k) = n % 2 ^ (8 * k)
  | 0 => by simp [leBytes, leVal, Nat.mod_one]
  | k + 1 => by
    rw [leBytes, leVal_snoc, leVal_bytes n k, leBytes_length, UInt8.toNat_ofNat', show 8 * (k + 1) = 8 * k + 8 from by omega, Nat.pow_add, Nat.mod_mul]
    rw [Nat.mul_comm (n / 2 ^ (8 * k) % 2 ^ 8)]
theorem leBytes_get (n : Nat) : ∀ (k i : Nat), i < k → (leBytes n k)[i]? = some (UInt8.ofNat (n / 2 ^ (8 * i)))
  | 0, i, h => by omega
  | k + 1, i, h => by
    rw [leBytes]
    by_cases hi : i < k
    · rw [List.getElem?_append_left (by rw [leBytes_length]; exact hi)]
      exact leBytes_get n k i hi
    · obtain rfl : i = k := by omega
      rw [List.getElem?_append_right (by rw [leBytes_length]; omega), leBytes_length, Nat.sub_self]
      rfl
theorem leBytes_congr {n m : Nat} : ∀ (k : Nat), n % 2 ^ (8 * k) = m % 2 ^ (8 * k) → leBytes n k = leBytes m k
  | 0, _ => rfl
  | k + 1, h => by
    have e : 2 ^ (8 * (k + 1)) = 2 ^ (8 * k) * 256 := by rw [show 8 * (k + 1) = 8 * k + 8 from by omega, Nat.pow_add]
    rw [e, Nat.mod_mul, Nat.mod_mul] at h
    have hp : 0 < 2 ^ (8 * k) := Nat.pow_pos (by omega)
    have h1 : n % 2 ^ (8 * k) = m % 2 ^ (8 * k) := by
      have := congrArg (· % 2 ^ (8 * k)) h
      simpa [Nat.add_mul_mod_self_left, Nat.mod_mod] using this
    have h2 : n / 2 ^ (8 * k) % 256 = m / 2 ^ (8 * k) % 256 := by
      rw [h1] at h
      exact Nat.eq_of_mul_eq_mul_left hp (by omega)
    rw [leBytes, leBytes, leBytes_congr k h1]
    congr 2
    apply UInt8.toNat_inj.1
    rw [UInt8.toNat_ofNat', UInt8.toNat_ofNat']
    exact h2
theorem leBytes_val : ∀ (l : List UInt8) (k : Nat), l.length = k → leBytes (leVal l) k = l := by
  intro l k
  induction k generalizing l with
  | zero => intro h; rw [List.eq_nil_of_length_eq_zero h]; rfl
  | succ k ih =>
    intro h
    obtain ⟨r, x, rfl⟩ : ∃ r x, l = r ++ [x] := ⟨l.dropLast, l.getLast (fun e => by rw [e] at h; simp at h), (List.dropLast_concat_getLast _).symm⟩
    have hr : r.length = k := by simpa using h
    have hlt := leVal_lt r
    rw [hr] at hlt
    have hp : 0 < 2 ^ (8 * k) := Nat.pow_pos (by omega)
    rw [leVal_snoc, hr, leBytes, leBytes_congr (m := leVal r) k (by rw [Nat.mul_comm, Nat.add_mul_mod_self_left]), ih r hr]
    congr 2
    rw [Nat.mul_comm x.toNat, Nat.add_mul_div_left _ _ hp, Nat.div_eq_of_lt hlt, Nat.zero_add]
    simp
theorem leVal_inj {l m : List UInt8} (h : l.length = m.length) (e : leVal l = leVal m) : l = m := by
  rw [← leBytes_val l l.length rfl, e, h, leBytes_val m m.length rfl]
theorem not_byte (n i : Nat) (hn : n < 18446744073709551616) (hi : i < 8) : UInt8.ofNat ((18446744073709551615 - n) / 2 ^ (8 * i)) = ~~~ UInt8.ofNat (n / 2 ^ (8 * i)) := by
  have hx : ∀ x : UInt8, (~~~ x).toNat = 255 - x.toNat := fun x => by
    simp [UInt8.toNat_not]
  apply UInt8.toNat_inj.1
  rw [hx, UInt8.toNat_ofNat', UInt8.toNat_ofNat']
  have hcs : i = 0 ∨ i = 1 ∨ i = 2 ∨ i = 3 ∨ i = 4 ∨ i = 5 ∨ i = 6 ∨ i = 7 := by omega
  rcases hcs with rfl | rfl | rfl | rfl | rfl | rfl | rfl | rfl <;> simp only [Nat.reduceMul, Nat.reducePow] <;> omega

namespace crc
/-- one byte -/
theorem side1 (ahead behind : List UInt8) (a b : UInt8) (h : of (ahead ++ [a] ++ behind) = of (ahead ++ [b] ++ behind)) : a = b := by
  have := side (ahead) (behind) a 0 0 0 b 0 0 0
  unfold of at h
  rw [more_append, more_append 0#32 (ahead ++ [b])] at h
  have h1 := more_inj _ _ _ h
  rw [more_append, more_append 0#32 ahead] at h1
  have h2 : go (~~~ more 0#32 ahead) [a] = go (~~~ more 0#32 ahead) [b] := by
    have h3 := congrArg (fun z : W => ~~~ z) h1
    simpa only [more, BitVec.not_not] using h3
  have h3 : on 8 (~~~ more 0#32 ahead ^^^ wb a) = on 8 (~~~ more 0#32 ahead ^^^ wb b) := h2
  have h4 := congrArg (fun z : W => z ^^^ ~~~ more 0#32 ahead) (on_inj _ _ _ h3)
  simp only [BitVec.xor_comm _ (wb a), BitVec.xor_comm _ (wb b), xor_two] at h4
  have h5 := congrArg BitVec.toNat h4
  simp only [wb, BitVec.toNat_ofNat] at h5
  have ha := a.toNat_lt
  have hb := b.toNat_lt
  exact UInt8.toNat_inj.1 (by omega)
end crc

namespace sl
abbrev Blk := dk.Blk
/-- the number and the body, filled up -/
def head (n : Nat) (body : List UInt8) : List UInt8 := leBytes n 8 ++ (body ++ List.replicate (108 - body.length) 0)
/-- what is left of the number -/
def last (n : Nat) : List UInt8 := leBytes (18446744073709551615 - n) 8
def sealB (n : Nat) (body : List UInt8) : Blk := head n body ++ (leBytes (crc.of (head n body)).toNat 4 ++ last n)
def put (n : Nat) (body : List UInt8) : Blk × Int := if n = 0 then (dk.zero, 2) else if 108 < body.length then (dk.zero, 3) else (sealB n body, 0)
def number (b : Blk) : Nat := leVal (b.take 8)
def get (b : Blk) : Nat × List UInt8 × Int :=
  if number b = 0 ∨ b.drop 120 ≠ last (number b) then (0, [], 5)
  else if leVal ((b.drop 116).take 4) ≠ (crc.of (b.take 116)).toNat then (0, [], 6)
  else (number b, (b.drop 8).take 108, 0)
def worth (b : Blk) : Nat := (get b).1
def newest (a b : Blk) : Int × Int := if worth a = 0 ∧ worth b = 0 then (0, 7) else if worth a < worth b then (1, 0) else (0, 0)
def next (a b : Blk) : Int := if 0 < worth a ∧ worth b ≤ worth a then 1 else 0

theorem head_length (n : Nat) {body : List UInt8} (h : body.length ≤ 108) : (head n body).length = 116 := by
  simp [head, leBytes_length]
  omega
theorem last_length (n : Nat) : (last n).length = 8 := leBytes_length _ _
theorem seal_length (n : Nat) {body : List UInt8} (h : body.length ≤ 108) : (sealB n body).length = 128 := by
  rw [sealB, List.length_append, List.length_append, head_length n h, leBytes_length, last_length]
theorem seal_take116 (n : Nat) {body : List UInt8} (h : body.length ≤ 108) : (sealB n body).take 116 = head n body := List.take_left' (head_length n h)
theorem seal_drop116 (n : Nat) {body : List UInt8} (h : body.length ≤ 108) : (sealB n body).drop 116 = leBytes (crc.of (head n body)).toNat 4 ++ last n := List.drop_left' (head_length n h)
theorem seal_drop120 (n : Nat) {body : List UInt8} (h : body.length ≤ 108) : (sealB n body).drop 120 = last n := by
  rw [show 120 = 116 + 4 from rfl, ← List.drop_drop, seal_drop116 n h]
  exact List.drop_left' (leBytes_length _ _)
theorem seal_take8 (n : Nat) {body : List UInt8} (h : body.length ≤ 108) : (sealB n body).take 8 = leBytes n 8 := by
  have e : (sealB n body).take 8 = ((sealB n body).take 116).take 8 := by rw [List.take_take]; congr 1
  rw [e, seal_take116 n h]
  exact List.take_left' (leBytes_length _ _)
theorem seal_number {n : Nat} (hn : n < 18446744073709551616) {body : List UInt8} (h : body.length ≤ 108) : number (sealB n body) = n := by
  rw [number, seal_take8 n h, leVal_bytes]
  exact Nat.mod_eq_of_lt hn
theorem of_lt (l : List UInt8) : (crc.of l).toNat < 4294967296 := (crc.of l).isLt
/-- GET TELLS WHAT WAS PUT -/
theorem get_seal {n : Nat} (h0 : 0 < n) (hn : n < 18446744073709551616) {body : List UInt8} (h : body.length ≤ 108) : get (sealB n body) = (n, body ++ List.replicate (108 - body.length) 0, 0) := by
  have e1 := seal_number hn h
  have e2 : leVal (((sealB n body).drop 116).take 4) = (crc.of ((sealB n body).take 116)).toNat := by
    rw [seal_drop116 n h, List.take_left' (leBytes_length _ _), leVal_bytes, seal_take116 n h]
    exact Nat.mod_eq_of_lt (of_lt _)
  have e3 : ((sealB n body).drop 8).take 108 = body ++ List.replicate (108 - body.length) 0 := by
    rw [List.take_drop, show 8 + 108 = 116 from rfl, seal_take116 n h, head]
    exact List.drop_left' (leBytes_length _ _)
  unfold get
  rw [e1, if_neg (by rw [seal_drop120 n h]; simp; omega), if_neg (by rw [e2]; simp), e3]
/-- WHAT IS SEALED IS ONE THAT WAS PUT -/
theorem get_ok {b : Blk} (h : (get b).2.2 = 0) : 0 < number b ∧ b.drop 120 = last (number b) ∧ leVal ((b.drop 116).take 4) = (crc.of (b.take 116)).toNat ∧ get b = (number b, (b.drop 8).take 108, 0) := by
  unfold get at h ⊢
  split at h
  · simp at h
  · next h1 =>
    split at h
    · simp at h
    · next h2 =>
      rw [if_neg h1, if_neg h2]
      refine ⟨?_, ?_, ?_, rfl⟩
      · rcases Nat.eq_zero_or_pos (number b) with h | h
        · exact absurd (.inl h) h1
        · exact h
      · exact Decidable.byContradiction fun h => h1 (.inr h)
      · exact Decidable.byContradiction fun h => h2 h
theorem number_lt (b : Blk) : number b < 18446744073709551616 := by
  have h := leVal_lt (b.take 8)
  have h8 : (b.take 8).length ≤ 8 := by rw [List.length_take]; omega
  refine Nat.lt_of_lt_of_le h ?_
  exact Nat.pow_le_pow_right (by omega) (show 8 * (b.take 8).length ≤ 64 by omega)
theorem ok_seal {b : Blk} (hb : b.length = 128) (h : (get b).2.2 = 0) : b = sealB (number b) ((b.drop 8).take 108) := by
  obtain ⟨_, h1, h2, _⟩ := get_ok h
  have hbl : ((b.drop 8).take 108).length = 108 := by rw [List.length_take, List.length_drop]; omega
  have e0 : leBytes (number b) 8 = b.take 8 := leBytes_val _ _ (by rw [List.length_take]; omega)
  have e1 : head (number b) ((b.drop 8).take 108) = b.take 116 := by
    unfold head
    have e : b.take 8 = (b.take 116).take 8 := by rw [List.take_take]; congr 1
    rw [hbl, Nat.sub_self, List.replicate_zero, List.append_nil, e0, List.take_drop, e]
    exact List.take_append_drop 8 (b.take 116)
  have e2 : leBytes (crc.of (b.take 116)).toNat 4 = (b.drop 116).take 4 := by
    rw [← h2]
    exact leBytes_val _ _ (by rw [List.length_take, List.length_drop]; omega)
  rw [sealB, e1, e2, ← h1]
  conv => lhs; rw [← List.take_append_drop 116 b, ← List.take_append_drop 4 (b.drop 116), List.drop_drop]

/-! ### One byte changed -/
theorem list_split {α : Type} (l : List α) (k : Nat) (h : k < l.length) (x : α) : l = l.take k ++ ([l[k]] ++ l.drop (k + 1)) ∧ l.set k x = l.take k ++ ([x] ++ l.drop (k + 1)) := by
  refine ⟨?_, ?_⟩
  · rw [List.singleton_append, ← List.drop_eq_getElem_cons h, List.take_append_drop]
  · rw [List.set_eq_take_append_cons_drop, if_pos h]
    rfl
theorem xor_ne (x y : UInt8) (h : x ^^^ y = x) : y = 0 := by
  have e : x ^^^ (x ^^^ y) = x ^^^ x := by rw [h]
  rw [← UInt8.xor_assoc, UInt8.xor_self, UInt8.zero_xor] at e
  exact e
/-- A SEALED BLOCK IN WHICH ONE BYTE IS CHANGED IS REFUSED -/
theorem changed {b : Blk} (hb : b.length = 128) (h : (get b).2.2 = 0) (k : Nat) (hk : k < 128) (x : UInt8) (h' : (get (b.set k x)).2.2 = 0) : b.set k x = b := by
  obtain ⟨_, a1, a2, _⟩ := get_ok h
  obtain ⟨_, b1, b2, _⟩ := get_ok h'
  have hl : (b.set k x).length = 128 := by rw [List.length_set]; exact hb
  have hnum : ∀ c : Blk, c.length = 128 → c.take 8 = leBytes (number c) 8 := fun c hc => (leBytes_val _ _ (by rw [List.length_take]; omega)).symm
  have hin : ∀ {n m : Nat}, n < 18446744073709551616 → m < 18446744073709551616 → last n = last m → n = m := fun {n m} hn hm e => by
    have := congrArg leVal e
    rw [last, last, leVal_bytes, leVal_bytes, Nat.mod_eq_of_lt (by omega), Nat.mod_eq_of_lt (by omega)] at this
    omega
  by_cases h1 : k < 8
  · have e : (b.set k x).drop 120 = b.drop 120 := List.drop_set_of_lt (by omega)
    rw [e, a1] at b1
    have hn := hin (number_lt b) (number_lt _) b1
    have e2 : (b.set k x).take 8 = b.take 8 := by rw [hnum _ hl, hnum _ hb, hn]
    have e3 : (b.set k x).drop 8 = b.drop 8 := List.drop_set_of_lt (by omega)
    rw [← List.take_append_drop 8 (b.set k x), e2, e3, List.take_append_drop]
  · have ht : (b.set k x).take 8 = b.take 8 := List.take_set_of_le (by omega)
    have hn : number (b.set k x) = number b := by rw [number, number, ht]
    by_cases h2 : 120 ≤ k
    · rw [hn, ← a1] at b1
      have e2 : (b.set k x).take 120 = b.take 120 := List.take_set_of_le (by omega)
      rw [← List.take_append_drop 120 (b.set k x), e2, b1, List.take_append_drop]
    · by_cases h3 : 116 ≤ k
      · have e2 : (b.set k x).take 116 = b.take 116 := List.take_set_of_le (by omega)
        rw [e2, ← a2] at b2
        have e3 := leVal_inj (by simp only [List.length_take, List.length_drop, List.length_set]) b2
        have e4 : (b.set k x).drop 120 = b.drop 120 := List.drop_set_of_lt (by omega)
        rw [← List.take_append_drop 116 (b.set k x), ← List.take_append_drop 4 ((b.set k x).drop 116), e2, e3, List.drop_drop, e4, show b.drop 120 = (b.drop 116).drop 4 from by rw [List.drop_drop], List.take_append_drop, List.take_append_drop]
      · have e1 : (b.set k x).drop 116 = b.drop 116 := List.drop_set_of_lt (by omega)
        rw [e1, a2] at b2
        have e2 : crc.of (b.take 116) = crc.of ((b.set k x).take 116) := BitVec.eq_of_toNat_eq b2
        have hk2 : k < (b.take 116).length := by rw [List.length_take]; omega
        obtain ⟨s1, s2⟩ := list_split (b.take 116) k hk2 x
        have e3 : (b.set k x).take 116 = (b.take 116).set k x := List.take_set ..
        rw [e3, s2, ← List.append_assoc] at e2
        conv at e2 => lhs; rw [s1, ← List.append_assoc]
        have e4 := crc.side1 _ _ _ _ e2
        rw [List.getElem_take] at e4
        rw [← e4]
        exact List.set_getElem_self _

/-! ### Beginnings -/
/-- a block whose bytes are of blocks that were sealed, of later ones ahead: f tells, of each place, whose it is (0: none's) -/
structure Mix (was : List Blk) (b : Blk) : Prop where
  len : b.length = 128
  src : ∃ f : Nat → Nat, (∀ p q, p ≤ q → f q ≤ f p) ∧ (∀ p, f p ≤ was.length) ∧ ∀ p, p < 128 → b.getD p 0 = if f p = 0 then 0 else (was.getD (f p - 1) dk.zero).getD p 0
theorem Mix.none_ : Mix [] dk.zero := ⟨List.length_replicate, fun _ => 0, fun _ _ _ => Nat.le_refl _, fun _ => Nat.le_refl _, fun p hp => by rw [if_pos rfl, List.getD_eq_getElem?_getD, dk.zero, List.getElem?_replicate, if_pos hp]; rfl⟩
theorem torn_getD (old now : Blk) (at_ : Int) (hn : now.length = 128) (p : Nat) (hp : p < 128) : (dk.torn old now at_).getD p 0 = if p < at_.toNat then now.getD p 0 else old.getD p 0 := by
  unfold dk.torn
  simp only [List.getD_eq_getElem?_getD]
  by_cases h : p < at_.toNat
  · rw [if_pos h, List.getElem?_append_left (by rw [List.length_take]; omega), List.getElem?_take_of_lt h]
  · rw [if_neg h, List.getElem?_append_right (by rw [List.length_take]; omega), List.getElem?_drop, List.length_take]
    congr 2
    omega
theorem Mix.step {was : List Blk} {b x : Blk} (h : Mix was b) (hx : x.length = 128) (at_ : Int) : Mix (was ++ [x]) (dk.torn b x at_) := by
  obtain ⟨f, h1, h2, h3⟩ := h.src
  refine ⟨dk.torn_length _ h.len hx, fun p => if p < at_.toNat then was.length + 1 else f p, fun p q hpq => ?_, fun p => ?_, fun p hp => ?_⟩
  · by_cases hq : q < at_.toNat
    · simp only [if_pos hq, if_pos (show p < at_.toNat by omega)]
      exact Nat.le_refl _
    · simp only [if_neg hq]
      split
      · have := h2 q; omega
      · exact h1 p q hpq
  · simp only [List.length_append, List.length_singleton]
    split
    · exact Nat.le_refl _
    · have := h2 p; omega
  · rw [torn_getD b x at_ hx p hp]
    by_cases ha : p < at_.toNat
    · simp only [if_pos ha, if_neg (Nat.succ_ne_zero _), Nat.add_sub_cancel]
      congr 1
      rw [List.getD_eq_getElem?_getD, List.getElem?_append_right (Nat.le_refl _), Nat.sub_self]
      rfl
    · simp only [if_neg ha]
      rw [h3 p hp]
      split
      · rfl
      · next hz =>
        congr 1
        have := h2 p
        rw [List.getD_eq_getElem?_getD, List.getD_eq_getElem?_getD, List.getElem?_append_left (by omega)]
/-- the blocks that were there as a whole: numbers that are not far from each other, none twice -/
structure Were (was : List Blk) (num : Nat → Nat) : Prop where
  sealed : ∀ i, i < was.length → ∃ body : List UInt8, body.length ≤ 108 ∧ was.getD i dk.zero = sealB (num i) body
  pos : ∀ i, i < was.length → 0 < num i
  top : ∀ i, i < was.length → num i < 2305843009213693952
  near : ∀ i j, i < was.length → j < was.length → num i < num j + 256
  once : ∀ i j, i < was.length → j < was.length → num i = num j → i = j
theorem seal_first {n : Nat} {body : List UInt8} (h : body.length ≤ 108) {k : Nat} (hk : k < 8) : (sealB n body).getD k 0 = UInt8.ofNat (n / 2 ^ (8 * k)) := by
  have e : (sealB n body)[k]? = ((sealB n body).take 8)[k]? := (List.getElem?_take_of_lt hk).symm
  rw [List.getD_eq_getElem?_getD, e, seal_take8 n h, leBytes_get n 8 k hk]
  rfl
theorem seal_last {n : Nat} (hn : n < 18446744073709551616) {body : List UInt8} (h : body.length ≤ 108) {k : Nat} (hk : k < 8) : (sealB n body).getD (120 + k) 0 = ~~~ (sealB n body).getD k 0 := by
  have e : (sealB n body)[120 + k]? = ((sealB n body).drop 120)[k]? := by rw [List.getElem?_drop]
  rw [seal_first h hk, List.getD_eq_getElem?_getD, e, seal_drop120 n h, last, leBytes_get _ 8 k hk]
  exact not_byte n k hn hk
/-- the end of a sealed block is what is left of its beginning -/
theorem ok_ends {b : Blk} (hb : b.length = 128) (h : (get b).2.2 = 0) {k : Nat} (hk : k < 8) : b.getD (120 + k) 0 = ~~~ b.getD k 0 := by
  rw [ok_seal hb h]
  exact seal_last (number_lt b) (by rw [List.length_take, List.length_drop]; omega) hk
theorem getD_ext {a b : Blk} (ha : a.length = 128) (hb : b.length = 128) (h : ∀ p, p < 128 → a.getD p 0 = b.getD p 0) : a = b := by
  apply List.ext_getElem?
  intro i
  by_cases hi : i < 128
  · have := h i hi
    rw [List.getD_eq_getElem?_getD, List.getD_eq_getElem?_getD, List.getElem?_eq_getElem (by omega), List.getElem?_eq_getElem (by omega)] at this
    rw [List.getElem?_eq_getElem (by omega), List.getElem?_eq_getElem (by omega)]
    exact congrArg some this
  · rw [List.getElem?_eq_none (by omega), List.getElem?_eq_none (by omega)]
/-- WHAT IS SEALED IS ONE THAT WAS THERE AS A WHOLE -/
theorem Mix.whole {was : List Blk} {num : Nat → Nat} {b : Blk} (h : Mix was b) (hw : Were was num) (hok : (get b).2.2 = 0) : ∃ i, i < was.length ∧ b = was.getD i dk.zero := by
  obtain ⟨f, f1, f2, f3⟩ := h.src
  have hends := fun k hk => ok_ends h.len hok (k := k) hk
  have hby : ∀ p, p < 128 → ∀ i, f p = i + 1 → b.getD p 0 = (was.getD i dk.zero).getD p 0 := fun p hp i hi => by
    rw [f3 p hp, hi, if_neg (Nat.succ_ne_zero _), Nat.add_sub_cancel]
  have hz : ∀ p, p < 128 → f p = 0 → b.getD p 0 = 0 := fun p hp hi => by rw [f3 p hp, if_pos hi]
  cases h120 : f 120 with
  | zero =>
    have h7 := hends 7 (by omega)
    rw [hz 127 (by omega) (by have := f1 120 127 (by omega); omega)] at h7
    have h7' : b.getD 7 0 = 255 := by
      have : ~~~ (~~~ b.getD 7 0) = ~~~ (0 : UInt8) := by rw [← h7]
      rw [UInt8.not_not] at this
      rw [this]; decide
    cases hf7 : f 7 with
    | zero => rw [hz 7 (by omega) hf7] at h7'; exact absurd h7' (by decide)
    | succ i =>
      have hi : i < was.length := by have := f2 7; omega
      obtain ⟨body, hbl, he⟩ := hw.sealed i hi
      rw [hby 7 (by omega) i hf7, he, seal_first hbl (by omega)] at h7'
      have ht := hw.top i hi
      have h8 := congrArg UInt8.toNat h7'
      rw [UInt8.toNat_ofNat'] at h8
      simp only [Nat.reduceMul, Nat.reducePow] at h8
      have h9 : (255 : UInt8).toNat = 255 := by decide
      omega
  | succ i =>
    have hi : i < was.length := by have := f2 120; omega
    obtain ⟨body, hbl, he⟩ := hw.sealed i hi
    cases hf0 : f 0 with
    | zero => have := f1 0 120 (by omega); omega
    | succ j =>
      have hj : j < was.length := by have := f2 0; omega
      obtain ⟨body', hbl', he'⟩ := hw.sealed j hj
      have h0 := hends 0 (by omega)
      have hti := hw.top i hi
      rw [hby 120 (by omega) i h120, hby 0 (by omega) j hf0, he, he', seal_last (k := 0) (by omega) hbl (by omega)] at h0
      have h1 : (sealB (num i) body).getD 0 0 = (sealB (num j) body').getD 0 0 := by
        have := congrArg (~~~ ·) h0
        simpa only [UInt8.not_not] using this
      rw [seal_first hbl (by omega), seal_first hbl' (by omega)] at h1
      have h2 := congrArg UInt8.toNat h1
      rw [UInt8.toNat_ofNat', UInt8.toNat_ofNat'] at h2
      simp only [Nat.mul_zero, Nat.pow_zero, Nat.div_one, Nat.reducePow] at h2
      have n1 := hw.near i j hi hj
      have n2 := hw.near j i hj hi
      have hij : i = j := hw.once i j hi hj (by omega)
      subst hij
      have hbel : ∀ p, p ≤ 120 → b.getD p 0 = (was.getD i dk.zero).getD p 0 := fun p hp => hby p (by omega) i (by have := f1 0 p (by omega); have := f1 p 120 hp; omega)
      refine ⟨i, hi, getD_ext h.len (by rw [he]; exact seal_length _ hbl) fun p hp => ?_⟩
      by_cases hp2 : p ≤ 120
      · exact hbel p hp2
      · obtain ⟨k, rfl⟩ : ∃ k, p = 120 + k := ⟨p - 120, by omega⟩
        rw [hends k (by omega), hbel k (by omega), he, seal_last (by omega) hbl (by omega)]

/-! ### A block that is laid place by place -/
def spot (first body sum last : List UInt8) (j1 j2 j3 p : Nat) : UInt8 :=
  if p < 8 then (if p < j1 then first.getD p 0 else 0) else if p < 116 then (if p - 8 < j2 then body.getD (p - 8) 0 else 0)
  else if p < 120 then (if p - 116 < j3 then sum.getD (p - 116) 0 else 0) else (if p - 120 < j1 then last.getD (p - 120) 0 else 0)
theorem getD_left {l m : List UInt8} {p : Nat} (h : p < l.length) : (l ++ m).getD p 0 = l.getD p 0 := by
  rw [List.getD_eq_getElem?_getD, List.getElem?_append_left h, List.getD_eq_getElem?_getD]
theorem getD_right {l m : List UInt8} {p : Nat} (h : l.length ≤ p) : (l ++ m).getD p 0 = m.getD (p - l.length) 0 := by
  rw [List.getD_eq_getElem?_getD, List.getElem?_append_right h, List.getD_eq_getElem?_getD]
theorem getD_over {l : List UInt8} {p : Nat} (h : l.length ≤ p) : l.getD p 0 = 0 := by
  rw [List.getD_eq_getElem?_getD, List.getElem?_eq_none h]; rfl
theorem head_spot (n : Nat) {body : List UInt8} (sum last : List UInt8) (j3 p : Nat) (hp : p < 116) : (head n body).getD p 0 = spot (leBytes n 8) body sum last 8 body.length j3 p := by
  unfold head spot
  by_cases h1 : p < 8
  · rw [if_pos h1, if_pos h1, getD_left (by rw [leBytes_length]; exact h1)]
  · rw [if_neg h1, if_pos hp, getD_right (by rw [leBytes_length]; omega), leBytes_length]
    by_cases h2 : p - 8 < body.length
    · rw [if_pos h2, getD_left h2]
    · rw [if_neg h2, getD_right (by omega), List.getD_eq_getElem?_getD, List.getElem?_replicate]
      split <;> rfl
theorem seal_spot (n : Nat) {body : List UInt8} (h : body.length ≤ 108) (p : Nat) (hp : p < 128) : (sealB n body).getD p 0 = spot (leBytes n 8) body (leBytes (crc.of (head n body)).toNat 4) (last n) 8 body.length 4 p := by
  have hl := head_length n h
  by_cases h1 : p < 116
  · rw [sealB, getD_left (by omega)]
    exact head_spot n _ _ _ p h1
  · rw [sealB, getD_right (by omega), hl]
    unfold spot
    rw [if_neg (by omega), if_neg h1]
    by_cases h2 : p < 120
    · rw [if_pos h2, if_pos (by omega), getD_left (by rw [leBytes_length]; omega)]
    · rw [if_neg h2, if_pos (by omega), getD_right (by rw [leBytes_length]; omega), leBytes_length, show p - 116 - 4 = p - 120 from by omega]
theorem getD_set (l : List UInt8) (i p : Nat) (x : UInt8) (hi : i < l.length) : (l.set i x).getD p 0 = if p = i then x else l.getD p 0 := by
  simp only [List.getD_eq_getElem?_getD, List.getElem?_set]
  by_cases h : i = p
  · rw [if_pos h, if_pos h.symm, if_pos (by omega)]; rfl
  · rw [if_neg h, if_neg (fun e => h e.symm)]
theorem take_head {bl : List UInt8} {n : Nat} {body sum last : List UInt8} (hb : body.length ≤ 108) (hl : bl.length = 128) (h : ∀ p, p < 128 → bl.getD p 0 = spot (leBytes n 8) body sum last 8 body.length 0 p) : bl.take 116 = head n body := by
  apply List.ext_getElem?
  intro i
  by_cases hi : i < 116
  · have h1 := h i (by omega)
    rw [← head_spot n sum last 0 i hi, List.getD_eq_getElem?_getD, List.getD_eq_getElem?_getD, List.getElem?_eq_getElem (by omega), List.getElem?_eq_getElem (by rw [head_length n hb]; exact hi)] at h1
    rw [List.getElem?_take_of_lt hi, List.getElem?_eq_getElem (by omega), List.getElem?_eq_getElem (by rw [head_length n hb]; exact hi)]
    exact congrArg some h1
  · rw [List.getElem?_eq_none (by rw [List.length_take]; omega), List.getElem?_eq_none (by rw [head_length n hb]; omega)]
theorem spot_zero (first body sum last : List UInt8) (p : Nat) (hp : p < 128) : (dk.zero).getD p 0 = spot first body sum last 0 0 0 p := by
  rw [List.getD_eq_getElem?_getD, dk.zero, List.getElem?_replicate, if_pos hp]
  unfold spot
  simp
theorem spot_one {first body sum last : List UInt8} {bl : List UInt8} {j : Nat} (hl : bl.length = 128) (h : ∀ p, p < 128 → bl.getD p 0 = spot first body sum last j 0 0 p) (hj : j < 8) :
    ∀ p, p < 128 → ((bl.set j (first.getD j 0)).set (120 + j) (last.getD j 0)).getD p 0 = spot first body sum last (j + 1) 0 0 p := fun p hp => by
  rw [getD_set _ _ _ _ (by rw [List.length_set]; omega), getD_set _ _ _ _ (by omega), h p hp]
  unfold spot
  by_cases h1 : p = 120 + j
  · subst h1
    rw [if_pos rfl, if_neg (by omega), if_neg (by omega), if_neg (by omega), if_pos (by omega), Nat.add_sub_cancel_left]
  · rw [if_neg h1]
    by_cases h2 : p = j
    · subst h2
      rw [if_pos rfl, if_pos hj, if_pos (by omega)]
    · rw [if_neg h2]
      by_cases h3 : p < 8
      · rw [if_pos h3, if_pos h3]
        by_cases h4 : p < j
        · rw [if_pos h4, if_pos (by omega)]
        · rw [if_neg h4, if_neg (by omega)]
      · rw [if_neg h3, if_neg h3]
        by_cases h4 : p < 116
        · rw [if_pos h4, if_pos h4]
        · rw [if_neg h4, if_neg h4]
          by_cases h5 : p < 120
          · rw [if_pos h5, if_pos h5]
          · rw [if_neg h5, if_neg h5]
            by_cases h6 : p - 120 < j
            · rw [if_pos h6, if_pos (by omega)]
            · rw [if_neg h6, if_neg (by omega)]
theorem spot_two {first body sum last : List UInt8} {bl : List UInt8} {j : Nat} (hl : bl.length = 128) (h : ∀ p, p < 128 → bl.getD p 0 = spot first body sum last 8 j 0 p) (hj : j < 108) :
    ∀ p, p < 128 → (bl.set (8 + j) (body.getD j 0)).getD p 0 = spot first body sum last 8 (j + 1) 0 p := fun p hp => by
  rw [getD_set _ _ _ _ (by omega), h p hp]
  unfold spot
  by_cases h1 : p = 8 + j
  · subst h1
    rw [if_pos rfl, if_neg (by omega), if_pos (by omega), if_pos (by omega), Nat.add_sub_cancel_left]
  · rw [if_neg h1]
    by_cases h3 : p < 8
    · rw [if_pos h3, if_pos h3, if_pos h3]
    · rw [if_neg h3, if_neg h3]
      by_cases h4 : p < 116
      · rw [if_pos h4, if_pos h4]
        by_cases h6 : p - 8 < j
        · rw [if_pos h6, if_pos (by omega)]
        · rw [if_neg h6, if_neg (by omega)]
      · rw [if_neg h4, if_neg h4]
theorem spot_three {first body sum last : List UInt8} {bl : List UInt8} {m j : Nat} (hl : bl.length = 128) (h : ∀ p, p < 128 → bl.getD p 0 = spot first body sum last 8 m j p) (hj : j < 4) :
    ∀ p, p < 128 → (bl.set (116 + j) (sum.getD j 0)).getD p 0 = spot first body sum last 8 m (j + 1) p := fun p hp => by
  rw [getD_set _ _ _ _ (by omega), h p hp]
  unfold spot
  by_cases h1 : p = 116 + j
  · subst h1
    rw [if_pos rfl, if_neg (by omega), if_neg (by omega), if_pos (by omega), if_pos (by omega), Nat.add_sub_cancel_left]
  · rw [if_neg h1]
    by_cases h3 : p < 8
    · rw [if_pos h3, if_pos h3, if_pos h3]
    · rw [if_neg h3, if_neg h3]
      by_cases h4 : p < 116
      · rw [if_pos h4, if_pos h4]
      · rw [if_neg h4, if_neg h4]
        by_cases h5 : p < 120
        · rw [if_pos h5, if_pos h5]
          by_cases h6 : p - 116 < j
          · rw [if_pos h6, if_pos (by omega)]
          · rw [if_neg h6, if_neg (by omega)]
        · rw [if_neg h5, if_neg h5]
theorem spot_sum {first body sum sum' last : List UInt8} {m p : Nat} : spot first body sum last 8 m 0 p = spot first body sum' last 8 m 0 p := by
  unfold spot
  split
  · rfl
  split
  · rfl
  split
  · rw [if_neg (by omega), if_neg (by omega)]
  · rfl
end sl
end Go.Proofs.YthddcaoolaipiaaDoor

/-
  PURE: heads: which may be, their blocks, what a block tells, the newest of two; what is true of them. No program is named here.
-/
namespace Go.Proofs.YthddcaoolaipiaaDoor
namespace hd
abbrev Blk := dk.Blk
structure H where
  bank : UInt8
  blocks : Nat
  batches : Nat
instance : DecidableEq H := fun a b => if h : a.bank = b.bank ∧ a.blocks = b.blocks ∧ a.batches = b.batches then .isTrue (by cases a; cases b; simp_all) else .isFalse (fun e => h (by rw [e]; exact ⟨rfl, rfl, rfl⟩))
def zero : H := ⟨0, 0, 0⟩
structure H.Ok (h : H) : Prop where
  blocks : h.blocks < 4294967296
  batches : h.batches < 4294967296
theorem zero_ok : zero.Ok := ⟨by decide, by decide⟩
abbrev cells (h : H) : List Value := [bv h.bank, .int .u32 h.blocks, .int .u32 h.batches]
abbrev val (h : H) : Value := .agg #[bv h.bank, .int .u32 h.blocks, .int .u32 h.batches]
def may (h : H) : Bool := decide (h.bank.toNat ≤ 1) && (decide (h.blocks ≤ 4096) && decide (h.batches ≤ h.blocks))
def num (n : Nat) : Bool := decide (1 ≤ n) && decide (n ≤ 4611686018427387904)
def bodyOf (h : H) : List UInt8 := [h.bank] ++ leBytes h.blocks 4 ++ leBytes h.batches 4
def put (n : Nat) (h : H) : Blk × Int := if (num n && may h) = true then (sl.sealB n (bodyOf h), 0) else (dk.zero, 2)
def headOf (l : List UInt8) : H := ⟨l.getD 0 0, leVal ((l.drop 1).take 4), leVal ((l.drop 5).take 4)⟩
def get (b : Blk) : Nat × H × Int :=
  if (sl.get b).2.2 = 0 then
    (if (put (sl.get b).1 (headOf (sl.get b).2.1)).2 = 0 ∧ (put (sl.get b).1 (headOf (sl.get b).2.1)).1 = b then ((sl.get b).1, headOf (sl.get b).2.1, 0) else (0, zero, 5))
  else (0, zero, (sl.get b).2.2)
def newest (a b : Blk) : Nat × H × Int :=
  if ¬ (get a).2.2 = 0 ∧ ¬ (get b).2.2 = 0 then (0, zero, 7) else if (get a).1 < (get b).1 then ((get b).1, (get b).2.1, 0) else ((get a).1, (get a).2.1, 0)

theorem bodyOf_length (h : H) : (bodyOf h).length = 9 := by simp [bodyOf, leBytes_length]
theorem may_ok {h : H} (hm : may h = true) : h.bank.toNat ≤ 1 ∧ h.blocks ≤ 4096 ∧ h.batches ≤ h.blocks := by
  simp only [may, Bool.and_eq_true, decide_eq_true_eq] at hm
  exact hm
theorem num_ok {n : Nat} (hn : num n = true) : 1 ≤ n ∧ n ≤ 4611686018427387904 := by
  simp only [num, Bool.and_eq_true, decide_eq_true_eq] at hn
  exact hn
theorem put_len (n : Nat) (h : H) : (put n h).1.length = 128 := by
  unfold put
  split
  · exact sl.seal_length n (by rw [bodyOf_length]; omega)
  · exact List.length_replicate
theorem put_yes {n : Nat} {h : H} (hn : num n = true) (hm : may h = true) : put n h = (sl.sealB n (bodyOf h), 0) := by
  unfold put
  rw [hn, hm]
  rfl
theorem put_no {n : Nat} {h : H} (hq : (num n && may h) = false) : put n h = (dk.zero, 2) := by
  unfold put
  rw [hq]
  rfl
theorem put_err (n : Nat) (h : H) : (put n h).2 = 0 ↔ (num n && may h) = true := by
  unfold put
  split
  · next hq => simp [hq]
  · next hq => simp [hq]
theorem put_eq {n : Nat} {h : H} (he : (put n h).2 = 0) : put n h = (sl.sealB n (bodyOf h), 0) ∧ num n = true ∧ may h = true := by
  have hq := (put_err n h).1 he
  have h2 := hq
  rw [Bool.and_eq_true] at h2
  exact ⟨put_yes h2.1 h2.2, h2.1, h2.2⟩
/-- the body, filled up, tells the head -/
theorem headOf_body (h : H) (hok : h.Ok) (m : Nat) : headOf (bodyOf h ++ List.replicate m 0) = h := by
  have e1 : ((bodyOf h ++ List.replicate m 0).drop 1).take 4 = leBytes h.blocks 4 := by
    unfold bodyOf
    rw [List.append_assoc, List.append_assoc, List.drop_left' (show ([h.bank] : List UInt8).length = 1 from rfl)]
    exact List.take_left' (leBytes_length _ _)
  have e2 : ((bodyOf h ++ List.replicate m 0).drop 5).take 4 = leBytes h.batches 4 := by
    unfold bodyOf
    rw [List.append_assoc]
    rw [List.drop_left' (by simp [leBytes_length])]
    exact List.take_left' (leBytes_length _ _)
  have e3 : (bodyOf h ++ List.replicate m 0).getD 0 0 = h.bank := by
    unfold bodyOf
    rw [List.append_assoc, List.append_assoc]
    rfl
  unfold headOf
  rw [e1, e2, e3, leVal_bytes, leVal_bytes]
  have h1 := hok.blocks
  have h2 := hok.batches
  rw [Nat.mod_eq_of_lt (by omega), Nat.mod_eq_of_lt (by omega)]
/-- WHAT IS PUT IS GOT -/
theorem get_put {n : Nat} {h : H} (hok : h.Ok) (hn : num n = true) (hm : may h = true) : get (put n h).1 = (n, h, 0) := by
  have h1 := num_ok hn
  have hp := put_yes hn hm
  have hg : sl.get (sl.sealB n (bodyOf h)) = (n, bodyOf h ++ List.replicate (108 - (bodyOf h).length) 0, 0) := sl.get_seal (by omega) (by omega) (by rw [bodyOf_length]; omega)
  rw [hp]
  unfold get
  simp only [hg]
  rw [headOf_body h hok, if_pos trivial, hp, if_pos ⟨rfl, rfl⟩]
/-- WHAT IS GOT IS PUT AS THE SAME BLOCK -/
theorem put_get {b : Blk} (h : (get b).2.2 = 0) : put (get b).1 (get b).2.1 = (b, 0) := by
  unfold get at h ⊢
  split at h
  · next h1 =>
    split at h
    · next h2 =>
      rw [if_pos h1, if_pos h2]
      exact Prod.ext h2.2 h2.1
    · cases h
  · next h1 => exact absurd h h1
/-- what is refused has no number -/
theorem get_err {b : Blk} (h : ¬ (get b).2.2 = 0) : (get b).1 = 0 ∧ (get b).2.1 = zero := by
  unfold get at h ⊢
  split at h
  · next h1 =>
    split at h
    · exact absurd rfl h
    · next h2 =>
      rw [if_pos h1, if_neg h2]
      exact ⟨rfl, rfl⟩
  · next h1 =>
    rw [if_neg h1]
    exact ⟨rfl, rfl⟩
theorem get_num {b : Blk} (h : (get b).2.2 = 0) : 1 ≤ (get b).1 ∧ (get b).1 ≤ 4611686018427387904 ∧ may (get b).2.1 = true := by
  obtain ⟨_, h1, h2⟩ := put_eq (n := (get b).1) (h := (get b).2.1) (by rw [put_get h])
  have := num_ok h1
  exact ⟨this.1, this.2, h2⟩
theorem get_lt (b : Blk) : (get b).1 ≤ 4611686018427387904 := by
  by_cases h : (get b).2.2 = 0
  · exact (get_num h).2.1
  · rw [(get_err h).1]; omega
theorem may_Ok {h : H} (hm : may h = true) : h.Ok := by
  have := may_ok hm
  exact ⟨by omega, by omega⟩
theorem get_Ok (b : Blk) : (get b).2.1.Ok := by
  by_cases h : (get b).2.2 = 0
  · exact may_Ok (get_num h).2.2
  · rw [(get_err h).2]; exact zero_ok
theorem newest_Ok (a b : Blk) : (newest a b).2.1.Ok := by
  unfold newest
  split
  · exact zero_ok
  · split
    · exact get_Ok b
    · exact get_Ok a
/-- the newest of two that may be -/
theorem newest_two {a b : Blk} {n m : Nat} {h k : H} (ha : get a = (n, h, 0)) (hb : get b = (m, k, 0)) : newest a b = if n < m then (m, k, 0) else (n, h, 0) := by
  unfold newest
  simp only [ha, hb]
  rw [if_neg (by simp)]
/-- the newest of one, and one that is none -/
theorem newest_left {a b : Blk} {n : Nat} {h : H} (ha : get a = (n, h, 0)) (hb : ¬ (get b).2.2 = 0) : newest a b = (n, h, 0) := by
  unfold newest
  simp only [ha, (get_err hb).1]
  rw [if_neg (by simp), if_neg (by omega)]
theorem newest_right {a b : Blk} {n : Nat} {h : H} (ha : ¬ (get a).2.2 = 0) (hb : get b = (n, h, 0)) (hn : 1 ≤ n) : newest a b = (n, h, 0) := by
  unfold newest
  simp only [hb, (get_err ha).1]
  rw [if_neg (by simp), if_pos (by omega)]
theorem newest_none {a b : Blk} (ha : ¬ (get a).2.2 = 0) (hb : ¬ (get b).2.2 = 0) : newest a b = (0, zero, 7) := by
  unfold newest
  rw [if_pos ⟨ha, hb⟩]
end hd
end Go.Proofs.YthddcaoolaipiaaDoor

/-
  PURE: a sealed block that is begun over another one, again and again, with the same number: it is the new one, the old one, or refused. No program is named here.
-/
namespace Go.Proofs.YthddcaoolaipiaaDoor
namespace sl
/-- the first k bytes of a number, the others of what stood there -/
def mixb (M k : Nat) (l : List UInt8) : List UInt8 := (leBytes M 8).take k ++ l.drop k
theorem mixb_length {M k : Nat} {l : List UInt8} (hl : l.length = 8) (hk : k ≤ 8) : (mixb M k l).length = 8 := by
  rw [mixb, List.length_append, List.length_take, List.length_drop, leBytes_length]
  omega
theorem mixb_mixb (M k j : Nat) (l : List UInt8) (_ : k ≤ 8) (hj : j ≤ 8) : mixb M k (mixb M j l) = mixb M (max k j) l := by
  unfold mixb
  have hl : ((leBytes M 8).take j).length = j := by rw [List.length_take, leBytes_length]; omega
  rcases Nat.le_total k j with h | h
  · rw [Nat.max_eq_right h, List.drop_append, hl, show k - j = 0 from by omega, List.drop_zero, ← List.append_assoc]
    congr 1
    obtain ⟨d, rfl⟩ : ∃ d, j = k + d := ⟨j - k, by omega⟩
    rw [List.drop_take, List.take_add, Nat.add_sub_cancel_left]
  · rw [Nat.max_eq_left h, List.drop_append, List.drop_of_length_le (by rw [hl]; exact h), List.nil_append, hl, List.drop_drop]
    congr 2
    omega
theorem take_leBytes (n k : Nat) (hk : k ≤ 8) : (leBytes n 8).take k = leBytes n k := by
  apply List.ext_getElem?
  intro i
  by_cases hi : i < k
  · rw [List.getElem?_take_of_lt hi, leBytes_get n 8 i (by omega), leBytes_get n k i hi]
  · rw [List.getElem?_eq_none (by rw [List.length_take, leBytes_length]; omega), List.getElem?_eq_none (by rw [leBytes_length]; omega)]
/-- the block is away from number M: no beginning of a block of number M over it makes its ends agree -/
def Away (X : Blk) (M : Nat) : Prop := ∀ k, 1 ≤ k → k ≤ 8 → X.drop 120 ≠ last (leVal (mixb M k (X.take 8)))
theorem last_inj {n m : Nat} (hn : n < 18446744073709551616) (hm : m < 18446744073709551616) (e : last n = last m) : n = m := by
  have := congrArg leVal e
  rw [last, last, leVal_bytes, leVal_bytes, Nat.mod_eq_of_lt (by omega), Nat.mod_eq_of_lt (by omega)] at this
  omega
theorem leVal_lt8 {l : List UInt8} (h : l.length = 8) : leVal l < 18446744073709551616 := by
  have := leVal_lt l
  rwa [h] at this
/-- 0s are away from every number that is not the greatest -/
theorem away_zero {M : Nat} (hM : M < 18446744073709551615) : Away dk.zero M := by
  intro k h1 h8 e
  have hl : (mixb M k (dk.zero.take 8)).length = 8 := mixb_length (by simp [dk.zero]) h8
  have hlt := leVal_lt8 hl
  have e2 : leVal (dk.zero.drop 120) = 0 := by decide +kernel
  have e3 := congrArg leVal e
  rw [e2, last, leVal_bytes, Nat.mod_eq_of_lt (by omega)] at e3
  have e4 : leVal (mixb M k (dk.zero.take 8)) = 18446744073709551615 := by omega
  have e5 := leBytes_val _ 8 hl
  rw [e4] at e5
  by_cases hk : k = 8
  · subst hk
    have : mixb M 8 (dk.zero.take 8) = leBytes M 8 := by
      rw [mixb, List.take_of_length_le (by rw [leBytes_length]; omega), List.drop_of_length_le (by simp [dk.zero]), List.append_nil]
    rw [this, leVal_bytes, Nat.mod_eq_of_lt (by omega)] at e4
    omega
  · have e6 := congrArg (fun l => l.getD 7 0) e5
    have e7 : (leBytes 18446744073709551615 8).getD 7 0 = 255 := by decide +kernel
    have e8 : (mixb M k (dk.zero.take 8)).getD 7 0 = 0 := by
      rw [mixb, List.getD_eq_getElem?_getD, List.getElem?_append_right (by rw [List.length_take, leBytes_length]; omega), List.getElem?_drop, List.length_take, leBytes_length, show k + (7 - min k 8) = 7 from by omega]
      rfl
    simp only [e7, e8] at e6
    exact absurd e6 (by decide)
/-- a sealed block is away from the numbers that follow it -/
theorem away_seal {n M : Nat} {body : List UInt8} (hb : body.length ≤ 108) (h1 : n < M) (h2 : M < n + 256) (hn : n < 18446744073709551616) : Away (sealB n body) M := by
  intro k hk1 hk8 e
  rw [seal_drop120 n hb, seal_take8 n hb] at e
  have hl : (mixb M k (leBytes n 8)).length = 8 := mixb_length (leBytes_length _ _) hk8
  have e1 := last_inj hn (leVal_lt8 hl) e
  have e2 := leBytes_val _ 8 hl
  rw [← e1] at e2
  have e3 := congrArg (fun l => l.getD 0 0) e2
  have e4 : (mixb M k (leBytes n 8)).getD 0 0 = UInt8.ofNat M := by
    rw [mixb, List.getD_eq_getElem?_getD, List.getElem?_append_left (by rw [List.length_take, leBytes_length]; omega), List.getElem?_take_of_lt (by omega), leBytes_get M 8 0 (by omega)]
    simp
  have e5 : (leBytes n 8).getD 0 0 = UInt8.ofNat n := by
    rw [List.getD_eq_getElem?_getD, leBytes_get n 8 0 (by omega)]
    simp
  simp only [e4, e5] at e3
  have e6 := congrArg UInt8.toNat e3
  rw [UInt8.toNat_ofNat', UInt8.toNat_ofNat'] at e6
  omega
/-- WHAT IS BEGUN IS THE OLD ONE, THE NEW ONE, OR REFUSED, AND THEN IT CAN BE BEGUN AGAIN -/
theorem torn_away {X : Blk} (hX : X.length = 128) {M : Nat} (hM : M < 18446744073709551616) {body : List UInt8} (hb : body.length ≤ 108) (hA : Away X M) (t : Int) :
    dk.torn X (sealB M body) t = X ∨ dk.torn X (sealB M body) t = sealB M body ∨ (¬ (get (dk.torn X (sealB M body) t)).2.2 = 0 ∧ Away (dk.torn X (sealB M body) t) M) := by
  have hY := seal_length M hb
  have hY8 := seal_take8 M hb
  have hYl := seal_drop120 M hb
  generalize sealB M body = Y at *
  obtain ⟨T, hT⟩ : ∃ T, t.toNat = T := ⟨_, rfl⟩
  have htorn : dk.torn X Y t = Y.take T ++ X.drop T := by rw [dk.torn, hT]
  rw [htorn]
  clear htorn hT
  by_cases h0 : T = 0
  · subst h0
    exact .inl (by simp)
  by_cases h128 : 128 ≤ T
  · refine .inr (.inl ?_)
    rw [List.take_of_length_le (by omega), List.drop_of_length_le (by omega), List.append_nil]
  refine .inr ?_
  obtain ⟨X', hX'⟩ : ∃ X', Y.take T ++ X.drop T = X' := ⟨_, rfl⟩
  rw [hX']
  have hYT : (Y.take T).length = T := by rw [List.length_take]; omega
  by_cases h120 : T ≤ 120
  · refine .inr ?_
    have hd : X'.drop 120 = X.drop 120 := by
      rw [← hX', List.drop_append, hYT, List.drop_of_length_le (by omega), List.nil_append, List.drop_drop]
      congr 1
      omega
    have ht : X'.take 8 = mixb M (min T 8) (X.take 8) := by
      rw [← hX', List.take_append, hYT, mixb, List.take_take]
      congr 1
      · rw [← hY8, List.take_take]
        congr 1
        omega
      · rw [List.drop_take]
        by_cases h8 : T ≤ 8
        · rw [Nat.min_eq_left h8]
        · rw [show 8 - T = 0 from by omega, Nat.min_eq_right (by omega), Nat.sub_self, List.take_zero, List.take_zero]
    refine ⟨fun hok => ?_, fun k hk1 hk8 e => ?_⟩
    · obtain ⟨_, h1, _, _⟩ := get_ok hok
      rw [hd, number, ht] at h1
      exact hA (min T 8) (by omega) (by omega) h1
    · rw [hd, ht, mixb_mixb M k (min T 8) _ hk8 (by omega)] at e
      exact hA (max k (min T 8)) (by omega) (by omega) e
  · have hn : X'.take 8 = leBytes M 8 := by
      rw [← hX', List.take_append_of_le_length (by omega), List.take_take, Nat.min_eq_left (by omega), hY8]
    have ht : X'.take 120 = Y.take 120 := by
      rw [← hX', List.take_append_of_le_length (by omega), List.take_take, Nat.min_eq_left (by omega)]
    by_cases he : X'.drop 120 = last M
    · refine .inl ?_
      rw [← List.take_append_drop 120 X', ht, he, ← hYl, List.take_append_drop]
    · refine .inr ⟨fun hok => ?_, fun k hk1 hk8 e => ?_⟩
      · obtain ⟨_, h1, _, _⟩ := get_ok hok
        rw [number, hn, leVal_bytes, Nat.mod_eq_of_lt hM] at h1
        exact he h1
      · have hm : mixb M k (leBytes M 8) = leBytes M 8 := by rw [mixb, List.take_append_drop]
        rw [hn, hm, leVal_bytes, Nat.mod_eq_of_lt hM] at e
        exact he e
end sl
end Go.Proofs.YthddcaoolaipiaaDoor

/-
  contracts of bytes.Clone, cardexref00.Copy, Wide, Left, Spoil.
-/
namespace Go.Proofs.YthddcaoolaipiaaDoor
open Go.RowKit

theorem clone_any (A : Option Addr) (n c : Nat) (l : List UInt8) (w : World) (h : BS w A n c l) (hn : n ≤ 140737488355320) :
    Calls Tryd.prog 61 #[.slice A n c] w (OwnEnd 5 l w) := by
  obtain ⟨i0, hi, hz0, hz1, hz2⟩ := info_parts info_u8
  have k1 := fun W => Lib.run_eql_slice_nil (P := Tryd.prog) W 23 5 A n c 0 0 Tryd.underlying23
  cases A with
  | none =>
    obtain ⟨rfl, rfl⟩ := bs_none h
    go_enter Tryd.func61, Tryd.ntmps61
    go_wp2_with fail
    go_ret
    exact ⟨_, rfl, OwnB.nil_ _ _ _, Below.refl _ _⟩
  | some a =>
    go_enter Tryd.func61, Tryd.ntmps61
    go_wp2_with (at_builtin; refine wpList_append_bytes _ rfl (.tmp 5) (.tmp 6) 23 rfl 5 i0 Tryd.underlying23 hi hz0 hz1 hz2 w.heap.size _ _ rfl (own_empty w _) (some a) n c l rfl (h.alloc _) (by simp; omega) (by simp) ?_; intro v1 w1 ho1 hg1 _ _)
    go_ret
    exact ⟨_, rfl, ho1, OwnB.step ((Below.refl _ _).alloc (Nat.le_refl _) _) (own_empty w _) hg1 (by simp)⟩

theorem copy_any (A : Option Addr) (n c : Nat) (l : List UInt8) (w : World) (h : BS w A n c l) (hn : n ≤ 140737488355320) :
    Calls Tryd.prog 11 #[.slice A n c] w (OwnEnd 5 l w) := by
  obtain ⟨i0, hi, hz0, hz1, hz2⟩ := info_parts info_u8
  go_enter Tryd.func11, Tryd.ntmps11
  go_wp2_with (at_builtin; refine wpList_append_bytes _ rfl (.tmp 4) (.tmp 5) 23 rfl 5 i0 Tryd.underlying23 hi hz0 hz1 hz2 w.heap.size _ _ rfl (OwnB.nil_ _ _ _) A n c l rfl h (by simp; omega) (Nat.le_refl _) ?_; intro v1 w1 ho1 hg1 _ _)
  go_ret
  exact ⟨_, rfl, ho1, OwnB.step (Below.refl _ _) (OwnB.nil_ 5 _ w.heap.size) hg1 (Nat.le_refl _)⟩

theorem wide_step (l : List UInt8) (n j : Nat) (hl : l.length = n) (hj : j < n + 3) (x : UInt8) (hx : (l ++ [7, 7, 7])[j]? = some x) :
    ((l ++ [7, 7, 7]).take j ++ List.replicate (n + 3 - j) 0).set j x = (l ++ [7, 7, 7]).take (j + 1) ++ List.replicate (n + 3 - (j + 1)) 0 := by
  have hj' : j < (l ++ [7, 7, 7]).length := by simp; omega
  rw [List.set_append_right _ _ (by simp; omega), show j - (List.take j (l ++ [7, 7, 7])).length = 0 from by simp; omega, show n + 3 - j = (n + 3 - (j + 1)) + 1 from by omega, List.replicate_succ, List.set_cons_zero,
    List.take_succ_eq_append_getElem hj']
  rw [List.getElem?_eq_getElem hj'] at hx
  rw [Option.some.inj hx]
  simp




end Go.Proofs.YthddcaoolaipiaaDoor

/-
  ROWS: contracts of num.Row, GetRow, cardexref01's.
-/
namespace Go.Proofs.YthddcaoolaipiaaDoor
open Go.RowKit

set_option maxRecDepth 100000 in
theorem row_any (A : Option Addr) (n c : Nat) (l : List UInt8) (w : World) (h : BS w A n c l) (hn : n ≤ 140737488355320) :
    Calls Tryd.prog 40 #[.slice A n c] w (OwnEnd 5 (leBytes n 4 ++ l) w) := by
  obtain ⟨i0, hi, hz0, hz1, hz2⟩ := info_parts info_u8
  go_enter Tryd.func40, Tryd.ntmps40
  go_wp2_with (first
    | (go_at_call 56; refine (lowestFirst_any n 4 _ (by omega)).mono ?_; rintro e w' ⟨v, rfl, ho, hb⟩)
    | (at_builtin; refine wpList_append_bytes _ rfl (.tmp 6) (.tmp 7) 23 rfl 5 i0 Tryd.underlying23 hi hz0 hz1 hz2 w.heap.size _ _ rfl ho A n c l rfl (h.below hb) (by rw [leBytes_length]; omega) hb.size ?_; intro v1 w1 ho1 hg1 _ _))
  go_ret
  exact ⟨_, rfl, ho1, OwnB.step hb ho hg1 hb.size⟩

set_option maxRecDepth 100000 in
theorem rrow_any (A : Option Addr) (n c : Nat) (l : List UInt8) (w : World) (h : BS w A n c l) (hn : n < 4294967296) :
    Calls Tryd.prog 19 #[.slice A n c] w (OwnEnd 5 (leBytes n 4 ++ l) w) := by
  obtain ⟨i0, hi, hz0, hz1, hz2⟩ := info_parts info_u8
  have hp : putOk n 4 = true := by simp [putOk, isSz]; omega
  have cP : ∀ W, Calls Tryd.prog 32 #[.int .u64 n, .int .i64 4] W fun e w' => ∃ v, e = .returned (.tuple #[v, .int .i64 0]) ∧ OwnB 5 w' W.heap.size v (leBytes n 4) ∧ Below W.heap.size W w' :=
    fun W => (rput_any n 4 W (by omega)).mono fun e w' h => by
      obtain ⟨v, h1, h2⟩ := h.2.1 hp
      exact ⟨v, h1, h2, h.2.2⟩
  clear hp
  go_enter Tryd.func19, Tryd.ntmps19
  go_wp2_with (first
    | (go_at_call 32; refine (cP _).mono ?_; rintro e w' ⟨v, rfl, ho, hb⟩)
    | (at_builtin; refine wpList_append_bytes _ rfl (.tmp 12) (.tmp 13) 23 rfl 5 i0 Tryd.underlying23 hi hz0 hz1 hz2 w.heap.size _ _ rfl ho A n c l rfl (h.below hb) (by rw [leBytes_length]; omega) hb.size ?_; intro v1 w1 ho1 hg1 _ _))
  go_ret
  exact ⟨_, rfl, ho1, OwnB.step hb ho hg1 hb.size⟩

/-- what GetRow answers -/
def getRowR (l : List UInt8) (at_ most : Int) : List UInt8 × Int × Int :=
  let g := getR l at_ 4
  if g.2 ≠ 0 then ([], 0, g.2) else if most < g.1 then ([], 0, 3) else if (l.length : Int) < at_ + 4 + g.1 then ([], 0, 4) else ((l.drop (at_.toNat + 4)).take g.1, at_ + 4 + g.1, 0)
def RowEnd (E : TypeId) (r : List UInt8 × Int × Int) (w : World) (e : Ending) (w' : World) : Prop := ∃ v, e = .returned (.tuple #[v, .int .i64 r.2.1, .int .i64 r.2.2]) ∧ OwnB E w' w.heap.size v r.1 ∧ Below w.heap.size w w'

set_option maxRecDepth 100000 in
theorem getR_ok {l : List UInt8} {at_ s : Int} {q : Nat} (h : getR l at_ s = (q, 0)) : isSz s = true ∧ 0 ≤ at_ ∧ at_ + s ≤ l.length ∧ q = leVal ((l.drop at_.toNat).take s.toNat) := by
  unfold getR at h
  split at h
  · rename_i hc
    simp at hc
    split at h
    · rename_i h2
      injection h with h3 _
      exact ⟨hc.1, hc.2.1, h2, h3.symm⟩
    · injection h with _ h3
      cases h3
  · injection h with _ h3
    cases h3
set_option maxRecDepth 100000 in
theorem getR_ok4 {l : List UInt8} {at_ : Int} {q : Nat} (h : getR l at_ 4 = (q, 0)) : 0 ≤ at_ ∧ at_ + 4 ≤ l.length ∧ q < 4294967296 := by
  obtain ⟨_, h1, h2, h3⟩ := getR_ok h
  refine ⟨h1, h2, ?_⟩
  have := leVal_lt ((l.drop at_.toNat).take (4 : Int).toNat)
  rw [← h3] at this
  refine Nat.lt_of_lt_of_le this (Nat.le_trans (Nat.pow_le_pow_right (by omega) (show _ ≤ 32 from ?_)) (Nat.le_refl _))
  have : (List.take (4 : Int).toNat (l.drop at_.toNat)).length ≤ 4 := List.length_take_le _ _
  omega
set_option maxRecDepth 100000 in
theorem row_end_nil {E : TypeId} {x y : Int} {w : World} {e : Ending} (h : e = .returned (.tuple #[.slice none 0 0, .int .i64 x, .int .i64 y])) : RowEnd E ([], x, y) w e w :=
  ⟨_, h, OwnB.nil_ _ _ _, Below.refl _ _⟩

set_option maxRecDepth 100000 in
theorem getRow_any (A : Option Addr) (n c : Nat) (l : List UInt8) (at_ most : Int) (w : World) (h : BS w A n c l) (hn : n ≤ 140737488355320) (hmo : most ≤ 9223372036854775807) :
    Calls Tryd.prog 45 #[.slice A n c, .int .i64 at_, .int .i64 most] w (RowEnd 5 (getRowR l at_ most) w) := by
  have hl := h.len
  have cG := fun W hW => get_any A n c l at_ 4 W hW
  obtain ⟨⟨q, e0⟩, hg⟩ : ∃ g, getR l at_ 4 = g := ⟨_, rfl⟩
  rw [hg] at cG
  simp only at cG
  by_cases h0 : e0 = 0
  · subst h0
    obtain ⟨hat, hat4, hq⟩ := getR_ok4 hg
    obtain ⟨at_, rfl⟩ := Int.eq_ofNat_of_zero_le hat
    rw [hl] at hat4
    by_cases h1 : most < q
    · have hr : getRowR l at_ most = ([], 0, 3) := by simp [getRowR, hg, h1]
      rw [hr]
      clear hr hg hl
      by_cases hneg : most < 0
      · go_enter Tryd.func45, Tryd.ntmps45
        go_wp2_with (go_at_call 59; refine (cG _ h).mono ?_; rintro e w' ⟨rfl, rfl⟩)
        go_ret3
        exact row_end_nil rfl
      · have h1' : (q : Int) > most := h1
        go_enter Tryd.func45, Tryd.ntmps45
        go_wp2_with (go_at_call 59; refine (cG _ h).mono ?_; rintro e w' ⟨rfl, rfl⟩)
        go_ret3
        exact row_end_nil rfl
    · have hpos : ¬ most < 0 := by omega
      have h1' : (q : Int) ≤ most := by omega
      by_cases h2 : n < at_ + 4 + q
      · have hr : getRowR l at_ most = ([], 0, 4) := by simp [getRowR, hg, h1]; omega
        rw [hr]
        clear hr hg hl
        have h2' : (n : Int) - (at_ + 4) < q := by omega
        go_enter Tryd.func45, Tryd.ntmps45
        go_wp2_with (go_at_call 59; refine (cG _ h).mono ?_; rintro e w' ⟨rfl, rfl⟩)
        go_ret3
        exact row_end_nil rfl
      · have hr : getRowR l at_ most = ((l.drop (at_ + 4)).take q, (at_ : Int) + 4 + q, 0) := by
          have : ¬ (n : Int) < at_ + 4 + q := by omega
          simp only [getRowR, hg, hl, if_neg h1, if_neg this]
          simp
        rw [hr]
        clear hr hg hl
        have h2' : (q : Int) ≤ (n : Int) - (at_ + 4) := by omega
        go_enter Tryd.func45, Tryd.ntmps45
        go_wp2_with (first
          | (go_at_call 59; refine (cG _ h).mono ?_; rintro e w' ⟨rfl, rfl⟩)
          | (go_at_call 60; refine (cut_any A n c l (at_ + 4) q _ h (by omega)).mono ?_; rintro e w' ⟨A', rfl, hcut, rfl⟩)
          | (go_at_call 61; refine (clone_any A' q q _ _ hcut (by omega)).mono ?_; rintro e w' ⟨v, rfl, ho, hb⟩))
        go_ret3

        exact ⟨_, rfl, ho, hb⟩
  · have hr : getRowR l at_ most = ([], 0, e0) := by simp [getRowR, hg, h0]
    rw [hr]
    clear hr hg hl
    have hne : (e0 != 0) = true := by rw [bne_iff_ne]; exact h0
    go_enter Tryd.func45, Tryd.ntmps45
    go_wp2_with (go_at_call 59; refine (cG _ h).mono ?_; rintro e w' ⟨rfl, rfl⟩)
    go_ret3
    exact row_end_nil rfl


end Go.Proofs.YthddcaoolaipiaaDoor

/-
  PURE: batches as rows, with 0s behind each up to a whole block; what is read of them. No program is named here.
-/
namespace Go.Proofs.YthddcaoolaipiaaDoor
namespace jn
abbrev Blk := dk.Blk
def rowOf (b : List UInt8) : List UInt8 := leBytes b.length 4 ++ b
/-- how many 0s stand behind so many bytes -/
def pad (n : Nat) : Nat := (128 - n % 128) % 128
def filled (l : List UInt8) : List UInt8 := l ++ List.replicate (pad l.length) 0
/-- how many blocks so many bytes take -/
def count (n : Nat) : Nat := (n + 127) / 128
/-- the block i of a row -/
def blk (row : List UInt8) (i : Nat) : Blk := (row.drop (i * 128)).take 128 ++ List.replicate (128 - ((row.drop (i * 128)).take 128).length) 0
def blocks (b : List UInt8) : List Blk := (List.range (count (rowOf b).length)).map (blk (rowOf b))
theorem rowOf_length (b : List UInt8) : (rowOf b).length = b.length + 4 := by
  rw [rowOf, List.length_append, leBytes_length]; omega
theorem pad_fill (n : Nat) : n + pad n = count n * 128 := by unfold pad count; omega
theorem filled_length (l : List UInt8) : (filled l).length = count l.length * 128 := by
  rw [filled, List.length_append, List.length_replicate, pad_fill]
theorem blk_length (row : List UInt8) (i : Nat) : (blk row i).length = 128 := by
  rw [blk, List.length_append, List.length_replicate, List.length_take]
  omega
theorem blocks_length (b : List UInt8) : (blocks b).length = count (b.length + 4) := by rw [blocks, List.length_map, List.length_range, rowOf_length]
theorem blocks_len (b : List UInt8) : ∀ x ∈ blocks b, x.length = 128 := fun x hx => by
  obtain ⟨i, _, rfl⟩ := List.mem_map.1 hx
  exact blk_length _ i
/-- the blocks, side by side, are the row with its 0s -/
theorem blk_filled (row : List UInt8) (i : Nat) (hi : i < count row.length) : blk row i = ((filled row).drop (i * 128)).take 128 := by
  have hle : i * 128 < row.length := by unfold count at hi; omega
  unfold blk filled
  rw [List.drop_append, show i * 128 - row.length = 0 from by omega, List.drop_zero, List.take_append]
  congr 1
  rw [List.take_replicate, List.length_take, List.length_drop]
  congr 1
  have hp := pad_fill row.length
  by_cases h : 128 ≤ row.length - i * 128
  · omega
  · have : count row.length = i + 1 := by unfold count at hi ⊢; omega
    rw [this] at hp
    omega
theorem flatten_range (l : List UInt8) : ∀ k, k * 128 ≤ l.length → ((List.range k).map fun i => (l.drop (i * 128)).take 128).flatten = l.take (k * 128)
  | 0, _ => by simp
  | k + 1, h => by
    rw [List.range_succ, List.map_append, List.flatten_append, flatten_range l k (by omega)]
    simp only [List.map_cons, List.map_nil, List.flatten_cons, List.flatten_nil, List.append_nil]
    rw [show (k + 1) * 128 = k * 128 + 128 from by omega, List.take_add]
theorem blocks_flatten (b : List UInt8) : (blocks b).flatten = filled (rowOf b) := by
  have h : blocks b = (List.range (count (rowOf b).length)).map fun i => ((filled (rowOf b)).drop (i * 128)).take 128 := by
    unfold blocks
    apply List.map_congr_left
    intro i hi
    exact blk_filled _ i (List.mem_range.1 hi)
  rw [h, flatten_range _ _ (by rw [filled_length]; exact Nat.le_refl _), List.take_of_length_le (by rw [filled_length]; exact Nat.le_refl _)]
/-- one batch is read: it, and what stands behind its 0s -/
def one (all : List UInt8) : Option (List UInt8 × List UInt8) :=
  if (getRowR all 0 1048576).2.2 = 0 then
    (if (all.drop (getRowR all 0 1048576).2.1.toNat).take (pad (getRowR all 0 1048576).2.1.toNat) = List.replicate (pad (getRowR all 0 1048576).2.1.toNat) 0 then some ((getRowR all 0 1048576).1, all.drop ((getRowR all 0 1048576).2.1.toNat + pad (getRowR all 0 1048576).2.1.toNat)) else none)
  else none
/-- so many batches are read -/
def parse : Nat → List UInt8 → Option (List (List UInt8) × List UInt8)
  | 0, all => some ([], all)
  | k + 1, all => (parse k all).bind fun x => (one x.2).map fun y => (x.1 ++ [y.1], y.2)
/-- a row, laid, is read -/
theorem getRow_row (b rest : List UInt8) (hb : b.length ≤ 1048576) : getRowR (filled (rowOf b) ++ rest) 0 1048576 = (b, (b.length : Int) + 4, 0) := by
  have hl : (filled (rowOf b) ++ rest).length = count (b.length + 4) * 128 + rest.length := by rw [List.length_append, filled_length, rowOf_length]
  have hc : b.length + 4 ≤ count (b.length + 4) * 128 := by unfold count; omega
  have e0 : filled (rowOf b) ++ rest = leBytes b.length 4 ++ (b ++ (List.replicate (pad (rowOf b).length) 0 ++ rest)) := by rw [filled, rowOf, List.append_assoc, List.append_assoc]
  have ht : (filled (rowOf b) ++ rest).take 4 = leBytes b.length 4 := by
    rw [e0]
    exact List.take_left' (leBytes_length _ _)
  have hg : getR (filled (rowOf b) ++ rest) 0 4 = (b.length, 0) := by
    unfold getR
    rw [hl, if_pos (by simp [isSz]; omega), if_pos (by omega)]
    congr 1
    have e1 : (0 : Int).toNat = 0 := rfl
    have e2 : (4 : Int).toNat = 4 := rfl
    rw [e1, e2, List.drop_zero, ht, leVal_bytes]
    omega
  unfold getRowR
  simp only [hg]
  rw [if_neg (by simp), if_neg (by omega), if_neg (by rw [hl]; omega)]
  refine Prod.ext ?_ (Prod.ext (by simp only; omega) rfl)
  simp only
  have e3 : ((0 : Int).toNat + 4) = 4 := rfl
  rw [e3, e0, List.drop_left' (leBytes_length _ _)]
  exact List.take_left' rfl
theorem one_row (b rest : List UInt8) (hb : b.length ≤ 1048576) : one (filled (rowOf b) ++ rest) = some (b, rest) := by
  have hg := getRow_row b rest hb
  unfold one
  rw [hg]
  simp only
  have e1 : ((b.length : Int) + 4).toNat = (rowOf b).length := by rw [rowOf_length]; omega
  have hd : (filled (rowOf b) ++ rest).drop (rowOf b).length = List.replicate (pad (rowOf b).length) 0 ++ rest := by
    rw [filled, List.append_assoc]
    exact List.drop_left' rfl
  rw [e1, if_pos trivial, hd, List.take_left' List.length_replicate, if_pos rfl, ← List.drop_drop, hd, List.drop_left' List.length_replicate]
/-- what is read of bytes is read of them where others stand behind -/
theorem getRow_app {all : List UInt8} (h : (getRowR all 0 1048576).2.2 = 0) (r : List UInt8) : getRowR (all ++ r) 0 1048576 = getRowR all 0 1048576 ∧ (getRowR all 0 1048576).2.1.toNat ≤ all.length := by
  unfold getRowR at h ⊢
  have e1 : (0 : Int).toNat = 0 := rfl
  have e2 : (4 : Int).toNat = 4 := rfl
  by_cases h4 : (4 : Int) ≤ all.length
  · have ga : getR all 0 4 = (leVal (all.take 4), 0) := by
      unfold getR
      rw [if_pos (by simp [isSz]), if_pos (by omega), e1, e2, List.drop_zero]
    have gb : getR (all ++ r) 0 4 = (leVal (all.take 4), 0) := by
      unfold getR
      rw [if_pos (by simp [isSz]; omega), if_pos (by simp; omega), e1, e2, List.drop_zero, List.take_append_of_le_length (by omega)]
    simp only [ga, ne_eq, not_true_eq_false, if_false] at h ⊢
    simp only [gb, not_true_eq_false, if_false]
    by_cases hm : (1048576 : Int) < (leVal (all.take 4) : Nat)
    · rw [if_pos hm] at h
      cases h
    · simp only [if_neg hm] at h ⊢
      by_cases hs : (all.length : Int) < 0 + 4 + (leVal (all.take 4) : Nat)
      · rw [if_pos hs] at h
        cases h
      · have hs2 : ¬ ((all ++ r).length : Int) < 0 + 4 + (leVal (all.take 4) : Nat) := by rw [List.length_append]; omega
        simp only [if_neg hs, if_neg hs2]
        refine ⟨?_, by omega⟩
        congr 1
        rw [e1, List.drop_append_of_le_length (by omega), List.take_append_of_le_length (by rw [List.length_drop]; omega)]
  · have ga : getR all 0 4 = (0, 4) := by
      unfold getR
      rw [if_pos (by simp [isSz]), if_neg (by omega)]
    simp only [ga] at h
    rw [if_pos (by simp)] at h
    cases h
theorem one_app {all : List UInt8} {x : List UInt8 × List UInt8} (h : one all = some x) (hm : all.length % 128 = 0) (r : List UInt8) : one (all ++ r) = some (x.1, x.2 ++ r) ∧ x.2.length % 128 = 0 := by
  unfold one at h ⊢
  by_cases h0 : (getRowR all 0 1048576).2.2 = 0
  · obtain ⟨e1, e2⟩ := getRow_app h0 r
    rw [if_pos h0] at h
    rw [e1, if_pos h0]
    generalize (getRowR all 0 1048576).2.1.toNat = n at *
    have hle : n + pad n ≤ all.length := by have := pad_fill n; unfold count at this; omega
    have ht : ((all ++ r).drop n).take (pad n) = (all.drop n).take (pad n) := by
      rw [List.drop_append_of_le_length e2, List.take_append_of_le_length (by rw [List.length_drop]; omega)]
    split at h
    · next hz =>
      rw [ht, if_pos hz]
      injection h with h
      rw [← h]
      simp only
      refine ⟨by rw [List.drop_append_of_le_length hle], ?_⟩
      rw [List.length_drop, pad_fill]
      omega
    · cases h
  · rw [if_neg h0] at h
    cases h
theorem parse_app : ∀ (k : Nat) {all : List UInt8} {x : List (List UInt8) × List UInt8}, parse k all = some x → all.length % 128 = 0 → ∀ r, parse k (all ++ r) = some (x.1, x.2 ++ r) ∧ x.2.length % 128 = 0
  | 0, all, x, h, hm, r => by
    simp only [parse, Option.some.injEq] at h ⊢
    subst h
    exact ⟨rfl, hm⟩
  | k + 1, all, x, h, hm, r => by
    simp only [parse] at h ⊢
    cases hp : parse k all with
    | none => rw [hp] at h; cases h
    | some y =>
      obtain ⟨e1, e2⟩ := parse_app k hp hm r
      rw [hp] at h
      simp only [Option.bind_some] at h
      rw [e1]
      simp only [Option.bind_some]
      cases ho : one y.2 with
      | none => rw [ho] at h; cases h
      | some z =>
        obtain ⟨e3, e4⟩ := one_app ho e2 r
        rw [ho] at h
        simp only [Option.map_some, Option.some.injEq] at h
        subst h
        rw [e3]
        exact ⟨rfl, e4⟩
/-- one more batch behind all -/
theorem parse_more {k : Nat} {all : List UInt8} {l : List (List UInt8)} (h : parse k all = some (l, [])) (hm : all.length % 128 = 0) (b : List UInt8) (hb : b.length ≤ 1048576) : parse (k + 1) (all ++ filled (rowOf b)) = some (l ++ [b], []) := by
  obtain ⟨e1, _⟩ := parse_app k h hm (filled (rowOf b))
  simp only [parse, e1, Option.bind_some, List.nil_append]
  have := one_row b [] hb
  rw [List.append_nil] at this
  rw [this]
  rfl
theorem parse_only (b : List UInt8) (hb : b.length ≤ 1048576) : parse 1 (filled (rowOf b)) = some ([b], []) := parse_more (k := 0) (all := []) rfl rfl b hb
end jn
end Go.Proofs.YthddcaoolaipiaaDoor

/-
  PURE: a journal on a disk: what is laid; what is there, wherever the power is cut. No program is named here.
-/
namespace Go.Proofs.YthddcaoolaipiaaDoor
namespace jn
abbrev St := dk.St
def half (s : St) : Nat := (s.S.length - 2) / 2
def first (s : St) (bank : UInt8) : Nat := 2 + bank.toNat * half s
def rd (s : St) (n : Int) : Blk := (dk.read s n).1
def newest (s : St) : Nat × hd.H × Int := hd.newest (rd s 0) (rd s 1)
/-- blocks are written, one behind the other, to the first error -/
def writes (s : St) (at_ : Nat) : List Blk → Int × St
  | [] => (0, s)
  | b :: r => if (dk.write s at_ b).1 = 0 then writes (dk.write s at_ b).2 (at_ + 1) r else dk.write s at_ b
/-- a head is laid -/
def layH (t : St) (h : hd.H) : Int × St :=
  if (dk.write t (sl.next (rd t 0) (rd t 1)) (hd.put ((newest t).1 + 1) h).1).1 = 0 then dk.flush (dk.write t (sl.next (rd t 0) (rd t 1)) (hd.put ((newest t).1 + 1) h).1).2
  else dk.write t (sl.next (rd t 0) (rd t 1)) (hd.put ((newest t).1 + 1) h).1
def lay (s : St) (at_ : Nat) (l : List Blk) (h : hd.H) : Int × St :=
  if (writes s at_ l).1 = 0 then
    (if (dk.flush (writes s at_ l).2).1 = 0 then layH (dk.flush (writes s at_ l).2).2 h else dk.flush (writes s at_ l).2)
  else writes s at_ l
def make (s : St) : Int × St := if s.black then (9, s) else lay s 0 [dk.zero, dk.zero] hd.zero
def bytes (s : St) (at_ k : Nat) : List UInt8 := ((List.range k).map fun i => rd s ((at_ + i : Nat) : Int)).flatten
def batches (s : St) (h : hd.H) : List (List UInt8) × Bool :=
  if half s < h.blocks then ([], false)
  else match parse h.batches (bytes s (first s h.bank) h.blocks) with
    | none => ([], false)
    | some x => (x.1, x.2.isEmpty)
def opens (s : St) : Int :=
  if s.black then 9 else if ¬ (newest s).2.2 = 0 ∨ 2305843009213693952 < (newest s).1 then 5 else if (batches s (newest s).2.1).2 then 0 else 5
def appendH (h : hd.H) (b : List UInt8) : hd.H := ⟨h.bank, h.blocks + (blocks b).length, h.batches + 1⟩
def replaceH (h : hd.H) (b : List UInt8) : hd.H := ⟨1 - h.bank, (blocks b).length, 1⟩
def append (s : St) (h : hd.H) (b : List UInt8) : Int × St :=
  if 1048576 < b.length then (3, s) else if s.black then (9, s) else if half s < h.blocks + (blocks b).length then (10, s) else lay s (first s h.bank + h.blocks) (blocks b) (appendH h b)
def replace (s : St) (h : hd.H) (b : List UInt8) : Int × St :=
  if 1048576 < b.length then (3, s) else if s.black then (9, s) else if half s < (blocks b).length then (10, s) else lay s (first s (1 - h.bank)) (blocks b) (replaceH h b)

/-! ### Steps -/
theorem step_cases (s : St) : ((dk.step s).1 = 0 ∧ (dk.step s).2.black = s.black ∧ (dk.step s).2.many = s.many + 1) ∨ ((dk.step s).1 = 9 ∧ (dk.step s).2.black = true ∧ (dk.step s).2.many = s.many) := by
  unfold dk.step
  split
  · exact .inr ⟨rfl, rfl, rfl⟩
  · exact .inl ⟨rfl, rfl, rfl⟩
/-- a write in the light, to a block that is there: done, or the power is cut -/
theorem write_cases {s : St} (hb : s.black = false) {n : Nat} (hn : n < s.S.length) (b : Blk) :
    ((dk.write s n b).1 = 0 ∧ (dk.write s n b).2.black = false ∧ (dk.write s n b).2.S = s.S ∧ (dk.write s n b).2.L = s.L ++ [((n : Int), b)] ∧ (dk.write s n b).2.many = s.many + 1) ∨
    ((dk.write s n b).1 = 9 ∧ (dk.write s n b).2.black = true ∧ (dk.write s n b).2.S = s.S ∧ (dk.write s n b).2.L = s.L ∧ (dk.write s n b).2.many = s.many) := by
  have ha : dk.asks s n = 0 := by
    unfold dk.asks
    rw [if_neg (by rw [hb]; simp), if_neg (by omega)]
  unfold dk.write
  rw [if_pos ha]
  rcases step_cases s with ⟨h1, h2, h3⟩ | ⟨h1, h2, h3⟩
  · rw [if_pos h1]
    exact .inl ⟨rfl, h2.trans hb, dk.step_S s, rfl, h3⟩
  · rw [if_neg (by rw [h1]; decide)]
    exact .inr ⟨rfl, h2, dk.step_S s, dk.step_L s, h3⟩
theorem flush_cases {s : St} (hb : s.black = false) :
    ((dk.flush s).1 = 0 ∧ (dk.flush s).2.black = false ∧ (dk.flush s).2.S = dk.lay s.S s.L ∧ (dk.flush s).2.L = [] ∧ (dk.flush s).2.many = s.many + 1) ∨
    ((dk.flush s).1 = 9 ∧ (dk.flush s).2.black = true ∧ (dk.flush s).2.S = s.S ∧ (dk.flush s).2.L = s.L ∧ (dk.flush s).2.many = s.many) := by
  unfold dk.flush
  rw [if_neg (by rw [hb]; simp)]
  rcases step_cases s with ⟨h1, h2, h3⟩ | ⟨h1, h2, h3⟩
  · rw [if_pos h1]
    exact .inl ⟨rfl, h2.trans hb, rfl, rfl, h3⟩
  · rw [if_neg (by rw [h1]; decide)]
    exact .inr ⟨rfl, h2, dk.step_S s, dk.step_L s, h3⟩
def zipAt (at_ : Nat) : List Blk → List (Int × Blk)
  | [] => []
  | b :: r => ((at_ : Int), b) :: zipAt (at_ + 1) r
/-- all of these are writes of the blocks from at_ on, less than hi -/
def InR (lo hi : Nat) (M : List (Int × Blk)) : Prop := ∀ x ∈ M, (lo : Int) ≤ x.1 ∧ x.1 < (hi : Int) ∧ x.2.length = 128
theorem zipAt_in : ∀ (l : List Blk) (at_ : Nat), (∀ b ∈ l, b.length = 128) → InR at_ (at_ + l.length) (zipAt at_ l)
  | [], _, _, x, hx => by cases hx
  | b :: r, at_, h, x, hx => by
    rcases List.mem_cons.1 hx with rfl | hx
    · exact ⟨Int.le_refl _, by simp only [List.length_cons]; omega, h _ (List.mem_cons_self ..)⟩
    · have := zipAt_in r (at_ + 1) (fun b hb => h b (List.mem_cons_of_mem _ hb)) x hx
      simp only [List.length_cons]
      exact ⟨by omega, by omega, this.2.2⟩
theorem writes_cases : ∀ (l : List Blk) (s : St) (at_ : Nat), s.black = false → at_ + l.length ≤ s.S.length → (∀ b ∈ l, b.length = 128) →
    ((writes s at_ l).1 = 0 ∧ (writes s at_ l).2.black = false ∧ (writes s at_ l).2.S = s.S ∧ (writes s at_ l).2.L = s.L ++ zipAt at_ l ∧ (writes s at_ l).2.many = s.many + l.length) ∨
    ((writes s at_ l).1 = 9 ∧ (writes s at_ l).2.black = true ∧ (writes s at_ l).2.S = s.S ∧ (∃ M, (writes s at_ l).2.L = s.L ++ M ∧ InR at_ (at_ + l.length) M ∧ M.length ≤ l.length) ∧ (writes s at_ l).2.many ≤ s.many + l.length)
  | [], s, at_, hb, _, _ => .inl ⟨rfl, hb, rfl, by simp [writes, zipAt], by simp [writes]⟩
  | b :: r, s, at_, hb, hl, h => by
    simp only [List.length_cons] at hl ⊢
    simp only [writes]
    rcases write_cases hb (n := at_) (by omega) b with ⟨w1, w2, w3, w4, w5⟩ | ⟨w1, w2, w3, w4, w5⟩
    · rw [if_pos w1]
      rcases writes_cases r (dk.write s at_ b).2 (at_ + 1) w2 (by rw [w3]; omega) (fun x hx => h x (List.mem_cons_of_mem _ hx)) with ⟨v1, v2, v3, v4, v5⟩ | ⟨v1, v2, v3, ⟨M, v4, v5, v7⟩, v6⟩
      · refine .inl ⟨v1, v2, by rw [v3, w3], ?_, by rw [v5, w5]; omega⟩
        rw [v4, w4, List.append_assoc]
        rfl
      · refine .inr ⟨v1, v2, by rw [v3, w3], ⟨((at_ : Int), b) :: M, ?_, ?_, by simp only [List.length_cons]; omega⟩, by omega⟩
        · rw [v4, w4, List.append_assoc]
          rfl
        · intro x hx
          rcases List.mem_cons.1 hx with rfl | hx
          · exact ⟨Int.le_refl _, by simp only; omega, h _ (List.mem_cons_self ..)⟩
          · have := v5 x hx
            exact ⟨by omega, by omega, this.2.2⟩
    · rw [if_neg (by rw [w1]; decide)]
      exact .inr ⟨w1, w2, w3, ⟨[], by rw [w4, List.append_nil], (fun x hx => by cases hx), by simp⟩, by omega⟩
/-! ### What other blocks have -/
/-- S' has what S has but between lo and hi -/
structure Agree (lo hi : Nat) (S S' : List Blk) : Prop where
  len : S'.length = S.length
  get : ∀ k, (k < lo ∨ hi ≤ k) → S'.getD k dk.zero = S.getD k dk.zero
theorem Agree.refl (lo hi : Nat) (S : List Blk) : Agree lo hi S S := ⟨rfl, fun _ _ => rfl⟩
theorem Agree.trans {lo hi : Nat} {S S1 S2 : List Blk} (h : Agree lo hi S S1) (h2 : Agree lo hi S1 S2) : Agree lo hi S S2 := ⟨h2.len.trans h.len, fun k hk => (h2.get k hk).trans (h.get k hk)⟩
theorem getD_set_ne {S : List Blk} {i k : Nat} (h : i ≠ k) (b : Blk) : (S.set i b).getD k dk.zero = S.getD k dk.zero := by
  simp only [List.getD_eq_getElem?_getD]
  rw [List.getElem?_set_ne h]
theorem getD_set_eq {S : List Blk} {i : Nat} (h : i < S.length) (b : Blk) : (S.set i b).getD i dk.zero = b := by
  rw [List.getD_eq_getElem?_getD, List.getElem?_set, if_pos rfl, if_pos h]
  rfl
theorem agree_set {lo hi : Nat} (S : List Blk) {i : Nat} (h1 : lo ≤ i) (h2 : i < hi) (b : Blk) : Agree lo hi S (S.set i b) :=
  ⟨List.length_set, fun k hk => getD_set_ne (by omega) b⟩
theorem agree_tear {lo hi : Nat} : ∀ (M : List (Int × Blk)) (S : List Blk) (p : List Int), InR lo hi M → Agree lo hi S (dk.tear S M p)
  | [], S, _, _ => Agree.refl _ _ _
  | x :: r, S, p, h => by
    have hx := h x (List.mem_cons_self ..)
    exact (agree_set S (i := x.1.toNat) (by omega) (by omega) _).trans (agree_tear r _ _ (fun y hy => h y (List.mem_cons_of_mem _ hy)))
theorem agree_lay {lo hi : Nat} : ∀ (M : List (Int × Blk)) (S : List Blk), InR lo hi M → Agree lo hi S (dk.lay S M)
  | [], S, _ => Agree.refl _ _ _
  | x :: r, S, h => by
    have hx := h x (List.mem_cons_self ..)
    exact (agree_set S (i := x.1.toNat) (by omega) (by omega) _).trans (agree_lay r _ (fun y hy => h y (List.mem_cons_of_mem _ hy)))
/-- what was written is there -/
theorem lay_zip : ∀ (l : List Blk) (at_ : Nat) (S : List Blk), at_ + l.length ≤ S.length → ∀ i, i < l.length → (dk.lay S (zipAt at_ l)).getD (at_ + i) dk.zero = l.getD i dk.zero
  | [], _, _, _, i, hi => by simp at hi
  | b :: r, at_, S, h, i, hi => by
    simp only [List.length_cons] at h hi
    simp only [zipAt, dk.lay, Int.toNat_natCast]
    cases i with
    | zero =>
      have hfar : ∀ (r : List Blk) (a : Nat) (S : List Blk) (k : Nat), k < a → (dk.lay S (zipAt a r)).getD k dk.zero = S.getD k dk.zero := by
        intro r
        induction r with
        | nil => intro a S k _; rfl
        | cons x r ih =>
          intro a S k hk
          simp only [zipAt, dk.lay, Int.toNat_natCast]
          rw [ih (a + 1) _ k (by omega), getD_set_ne (by omega)]
      simp only [Nat.add_zero]
      rw [hfar r (at_ + 1) _ at_ (by omega), getD_set_eq (by omega)]
      rfl
    | succ i =>
      have := lay_zip r (at_ + 1) (S.set at_ b) (by rw [List.length_set]; omega) i (by omega)
      rw [show at_ + (i + 1) = at_ + 1 + i from by omega, this]
      rfl
end jn
end Go.Proofs.YthddcaoolaipiaaDoor

/-
  PURE: WHEREVER THE POWER IS CUT: the batches are those ahead of what was under way, or behind it. No program is named here.
-/
namespace Go.Proofs.YthddcaoolaipiaaDoor
namespace jn
theorem get_le (X : Blk) : (hd.get X).1 ≤ sl.worth X := by
  unfold hd.get sl.worth
  split
  · split
    · exact Nat.le_refl _
    · exact Nat.zero_le _
  · exact Nat.zero_le _
theorem newest_a {a b : Blk} {N : Nat} {h : hd.H} (ha : hd.get a = (N, h, 0)) (hb : sl.worth b < N) : hd.newest a b = (N, h, 0) := by
  have := get_le b
  unfold hd.newest
  simp only [ha]
  rw [if_neg (by simp), if_neg (by omega)]
theorem newest_b {a b : Blk} {N : Nat} {h : hd.H} (hb : hd.get b = (N, h, 0)) (ha : sl.worth a < N) : hd.newest a b = (N, h, 0) := by
  have := get_le a
  unfold hd.newest
  simp only [hb]
  rw [if_neg (by simp), if_pos (by omega)]
theorem worth_seal6 {n : Nat} (h0 : 0 < n) (hn : n < 18446744073709551616) {body : List UInt8} (h : body.length ≤ 108) : sl.worth (sl.sealB n body) = n := by
  rw [sl.worth, sl.get_seal h0 hn h]
theorem worth_bad {X : Blk} (h : ¬ (sl.get X).2.2 = 0) : sl.worth X = 0 := by
  unfold sl.worth
  unfold sl.get at h ⊢
  split
  · rfl
  · split
    · rfl
    · next h1 h2 =>
      rw [if_neg h1, if_neg h2] at h
      exact absurd rfl h
/-- the two heads: the one that counts, and the other one -/
structure Two (S : List Blk) (c N : Nat) (h : hd.H) : Prop where
  c2 : c < 2
  num : hd.num N = true
  may : hd.may h = true
  here : S.getD c dk.zero = sl.sealB N (hd.bodyOf h)
  away : sl.Away (S.getD (1 - c) dk.zero) (N + 1)
  less : sl.worth (S.getD (1 - c) dk.zero) < N
theorem Two.newest {S : List Blk} {c N : Nat} {h : hd.H} (t : Two S c N h) : hd.newest (S.getD 0 dk.zero) (S.getD 1 dk.zero) = (N, h, 0) := by
  have hg : hd.get (sl.sealB N (hd.bodyOf h)) = (N, h, 0) := by
    have := hd.get_put (hd.may_Ok t.may) t.num t.may
    rwa [hd.put_yes t.num t.may] at this
  have hc := t.c2
  have hh := t.here
  have hl := t.less
  have hcs : c = 0 ∨ c = 1 := by omega
  rcases hcs with rfl | rfl
  · rw [hh]; exact newest_a hg hl
  · rw [hh]; exact newest_b hg hl
theorem Two.next {S : List Blk} {c N : Nat} {h : hd.H} (t : Two S c N h) : sl.next (S.getD 0 dk.zero) (S.getD 1 dk.zero) = ((1 - c : Nat) : Int) := by
  have hn := hd.num_ok t.num
  have hw : sl.worth (sl.sealB N (hd.bodyOf h)) = N := worth_seal6 (by omega) (by omega) (by rw [hd.bodyOf_length]; omega)
  have hc := t.c2
  have hh := t.here
  have hl := t.less
  unfold sl.next
  have hcs : c = 0 ∨ c = 1 := by omega
  rcases hcs with rfl | rfl
  · rw [hh, hw, if_pos ⟨by omega, by simpa using Nat.le_of_lt hl⟩]; rfl
  · rw [hh, hw, if_neg (fun h => by have := h.2; simp only [Nat.sub_self] at hl; omega)]; rfl
theorem Two.agree {S S' : List Blk} {c N : Nat} {h : hd.H} (t : Two S c N h) {lo hi : Nat} (ha : Agree lo hi S S') (h2 : 2 ≤ lo) : Two S' c N h := by
  have hc := t.c2
  have e1 := ha.get c (.inl (by omega))
  have e2 := ha.get (1 - c) (.inl (by omega))
  exact ⟨t.c2, t.num, t.may, by rw [e1]; exact t.here, by rw [e2]; exact t.away, by rw [e2]; exact t.less⟩
/-- a new head in the other place -/
theorem Two.laid {S : List Blk} {c N : Nat} {h h' : hd.H} (t : Two S c N h) (hl : 2 ≤ S.length) (hn : hd.num (N + 1) = true) (hm : hd.may h' = true) : Two (S.set (1 - c) (sl.sealB (N + 1) (hd.bodyOf h'))) (1 - c) (N + 1) h' := by
  have hc := t.c2
  have n1 := hd.num_ok t.num
  have e1 : (S.set (1 - c) (sl.sealB (N + 1) (hd.bodyOf h'))).getD (1 - (1 - c)) dk.zero = sl.sealB N (hd.bodyOf h) := by
    rw [show 1 - (1 - c) = c from by omega, getD_set_ne (by omega)]
    exact t.here
  refine ⟨by omega, hn, hm, getD_set_eq (by omega) _, ?_, ?_⟩
  · rw [e1]
    exact sl.away_seal (by rw [hd.bodyOf_length]; omega) (by omega) (by omega) (by omega)
  · rw [e1, worth_seal6 (by omega) (by omega) (by rw [hd.bodyOf_length]; omega)]
    omega
/-- only a beginning of a new head in the other place -/
theorem Two.begun {S : List Blk} {c N : Nat} {h h' : hd.H} (t : Two S c N h) (hS : ∀ b ∈ S, b.length = 128) (hl : 2 ≤ S.length) (hn : hd.num (N + 1) = true) (hm : hd.may h' = true) (k : Int) :
    Two (S.set (1 - c) (dk.torn (S.getD (1 - c) dk.zero) (sl.sealB (N + 1) (hd.bodyOf h')) k)) c N h ∨ Two (S.set (1 - c) (dk.torn (S.getD (1 - c) dk.zero) (sl.sealB (N + 1) (hd.bodyOf h')) k)) (1 - c) (N + 1) h' := by
  have hc := t.c2
  have n1 := hd.num_ok hn
  have hbl : (hd.bodyOf h').length ≤ 108 := by rw [hd.bodyOf_length]; omega
  have hold : ∀ X', (sl.Away X' (N + 1)) → sl.worth X' < N → Two (S.set (1 - c) X') c N h := fun X' h1 h2 =>
    ⟨t.c2, t.num, t.may, by rw [getD_set_ne (by omega)]; exact t.here, by rw [getD_set_eq (by omega)]; exact h1, by rw [getD_set_eq (by omega)]; exact h2⟩
  rcases sl.torn_away (dk.getD_len hS (1 - c)) (M := N + 1) (by omega) hbl t.away k with e | e | ⟨e1, e2⟩
  · rw [e]
    exact .inl (hold _ t.away t.less)
  · rw [e]
    exact .inr (t.laid hl hn hm)
  · exact .inl (hold _ e2 (by rw [worth_bad e1]; have := hd.num_ok t.num; omega))
theorem Two.zero : Two ([sl.sealB 1 (hd.bodyOf hd.zero), dk.zero]) 0 1 hd.zero :=
  ⟨by omega, by decide, by decide, rfl, sl.away_zero (by omega), by show sl.worth dk.zero < 1; decide +kernel⟩
end jn
end Go.Proofs.YthddcaoolaipiaaDoor

/-
  PURE: WHEREVER THE POWER IS CUT, the whole: a head is laid; blocks and a head are laid; Append, Replace. No program is named here.
-/
namespace Go.Proofs.YthddcaoolaipiaaDoor
namespace jn
/-- in the light, with all sure: what is read is what stands there -/
theorem rd_sure {s : St} (hb : s.black = false) (hL : s.L = []) {k : Nat} (hk : k < s.S.length) : rd s (k : Int) = s.S.getD k dk.zero := by
  have ha : dk.asks s k = 0 := by
    unfold dk.asks
    rw [if_neg (by rw [hb]; simp), if_neg (by omega)]
  rw [rd, dk.read, if_pos ha, hL, Int.toNat_natCast]
  rfl
def bytesS (S : List Blk) (at_ k : Nat) : List UInt8 := ((List.range k).map fun i => S.getD (at_ + i) dk.zero).flatten
theorem bytes_sure {s : St} (hb : s.black = false) (hL : s.L = []) {at_ k : Nat} (hk : at_ + k ≤ s.S.length) : bytes s at_ k = bytesS s.S at_ k := by
  unfold bytes bytesS
  congr 1
  apply List.map_congr_left
  intro i hi
  exact rd_sure hb hL (by have := List.mem_range.1 hi; omega)
theorem bytesS_agree {S S' : List Blk} {lo hi at_ k : Nat} (ha : Agree lo hi S S') (hd : at_ + k ≤ lo ∨ hi ≤ at_) : bytesS S' at_ k = bytesS S at_ k := by
  unfold bytesS
  congr 1
  apply List.map_congr_left
  intro i hi
  have := List.mem_range.1 hi
  exact ha.get _ (by omega)
theorem bytesS_length {S : List Blk} (h : ∀ b ∈ S, b.length = 128) (at_ : Nat) : ∀ k, (bytesS S at_ k).length = k * 128
  | 0 => rfl
  | k + 1 => by
    have e : bytesS S at_ (k + 1) = bytesS S at_ k ++ S.getD (at_ + k) dk.zero := by simp [bytesS, List.range_succ]
    rw [e, List.length_append, bytesS_length h at_ k, dk.getD_len h]
    omega
theorem bytesS_more (S : List Blk) (at_ k m : Nat) : bytesS S at_ (k + m) = bytesS S at_ k ++ bytesS S (at_ + k) m := by
  unfold bytesS
  rw [List.range_add, List.map_append, List.flatten_append, List.map_map]
  congr 2
  apply List.map_congr_left
  intro i _
  simp only [Function.comp]
  rw [Nat.add_assoc]
theorem bytesS_blocks {S : List Blk} {at_ : Nat} {l : List Blk} (h : ∀ i, i < l.length → S.getD (at_ + i) dk.zero = l.getD i dk.zero) : bytesS S at_ l.length = l.flatten := by
  unfold bytesS
  congr 1
  apply List.ext_getElem?
  intro i
  by_cases hi : i < l.length
  · rw [List.getElem?_map, List.getElem?_range hi, List.getElem?_eq_getElem hi]
    simp only [Option.map_some, Option.some.injEq]
    rw [h i hi, List.getD_eq_getElem?_getD, List.getElem?_eq_getElem hi]
    rfl
  · rw [List.getElem?_eq_none (by simp; omega), List.getElem?_eq_none (by omega)]
/-- A JOURNAL IN THE LIGHT, ALL OF IT SURE -/
structure Good (s : St) (c N : Nat) (h : hd.H) (was : List (List UInt8)) : Prop where
  ok : s.Ok
  light : s.black = false
  sure : s.L = []
  two : Two s.S c N h
  fits : h.blocks ≤ half s
  reads : parse h.batches (bytesS s.S (first s h.bank) h.blocks) = some (was, [])
theorem first_ge (s : St) (bank : UInt8) : 2 ≤ first s bank := by unfold first; omega
theorem first_le {s : St} (h : s.Ok) {bank : UInt8} (hb : bank.toNat ≤ 1) : first s bank + half s ≤ s.S.length := by
  have h1 := h.some
  have : bank.toNat * half s ≤ 1 * half s := Nat.mul_le_mul_right _ hb
  unfold first half at *
  omega
theorem Good.newest {s : St} {c N : Nat} {h : hd.H} {was : List (List UInt8)} (g : Good s c N h was) : newest s = (N, h, 0) := by
  have h1 := g.ok.some
  have e0 : rd s 0 = s.S.getD 0 dk.zero := rd_sure g.light g.sure (k := 0) (by omega)
  have e1 : rd s 1 = s.S.getD 1 dk.zero := rd_sure g.light g.sure (k := 1) (by omega)
  rw [jn.newest, e0, e1]
  exact g.two.newest
theorem Good.batches {s : St} {c N : Nat} {h : hd.H} {was : List (List UInt8)} (g : Good s c N h was) : batches s h = (was, true) := by
  have hm := (hd.may_ok g.two.may).1
  have h1 := first_le g.ok hm
  have h2 := g.fits
  unfold jn.batches
  rw [if_neg (by omega), bytes_sure g.light g.sure (by omega), g.reads]
  rfl
theorem Good.opens {s : St} {c N : Nat} {h : hd.H} {was : List (List UInt8)} (g : Good s c N h was) (hN : N ≤ 2305843009213693952) : opens s = 0 := by
  unfold jn.opens
  rw [g.newest]
  simp only
  rw [g.batches, if_neg (by rw [g.light]; simp), if_neg (by simp; omega)]
  rfl
/-- blocks that do not count turn -/
theorem Good.agree {s s' : St} {c N : Nat} {h : hd.H} {was : List (List UInt8)} (g : Good s c N h was) (ok : s'.Ok) (hb : s'.black = false) (hL : s'.L = []) {lo hi : Nat} (ha : Agree lo hi s.S s'.S) (h2 : 2 ≤ lo)
    (hfar : first s h.bank + h.blocks ≤ lo ∨ hi ≤ first s h.bank) : Good s' c N h was := by
  have hh : half s' = half s := by unfold half; rw [ha.len]
  have hf : first s' h.bank = first s h.bank := by unfold first; rw [hh]
  exact ⟨ok, hb, hL, g.two.agree ha h2, by rw [hh]; exact g.fits, by rw [hf, bytesS_agree ha hfar]; exact g.reads⟩
theorem Ok.writes : ∀ (l : List Blk) {s : St} (at_ : Nat), s.Ok → (∀ b ∈ l, b.length = 128) → (writes s at_ l).2.Ok
  | [], _, _, h, _ => h
  | b :: r, s, at_, h, hl => by
    have hw := dk.Ok.write (n := (at_ : Int)) h (hl b (List.mem_cons_self ..))
    simp only [jn.writes]
    split
    · exact Ok.writes r _ hw (fun x hx => hl x (List.mem_cons_of_mem _ hx))
    · exact hw
theorem Ok.layH {t : St} (h : t.Ok) (k : hd.H) : (layH t k).2.Ok := by
  have hw := dk.Ok.write (n := sl.next (rd t 0) (rd t 1)) h (hd.put_len ((jn.newest t).1 + 1) k)
  unfold jn.layH
  split
  · exact dk.Ok.flush hw
  · exact hw
theorem Ok.lay {s : St} (h : s.Ok) (at_ : Nat) {l : List Blk} (hl : ∀ b ∈ l, b.length = 128) (k : hd.H) : (lay s at_ l k).2.Ok := by
  have h1 := Ok.writes l at_ h hl
  unfold jn.lay
  split
  · split
    · exact Ok.layH (dk.Ok.flush h1) k
    · exact dk.Ok.flush h1
  · exact h1
/-- A HEAD IS LAID: it is there; or the power is cut, and of it a beginning at most is there -/
theorem layH_cases {t : St} (ok : t.Ok) (hb : t.black = false) (hL : t.L = []) {c N : Nat} {h h' : hd.H} (two : Two t.S c N h) (hn : hd.num (N + 1) = true) (hm : hd.may h' = true) :
    ((layH t h').1 = 0 ∧ (layH t h').2.black = false ∧ (layH t h').2.L = [] ∧ (layH t h').2.S = t.S.set (1 - c) (sl.sealB (N + 1) (hd.bodyOf h')) ∧ (layH t h').2.many = t.many + 2) ∨
    ((layH t h').1 = 9 ∧ (layH t h').2.black = true ∧ (layH t h').2.many ≤ t.many + 2 ∧ ∀ p, (dk.crash (layH t h').2 p).S = t.S ∨ ∃ k, (dk.crash (layH t h').2 p).S = t.S.set (1 - c) (dk.torn (t.S.getD (1 - c) dk.zero) (sl.sealB (N + 1) (hd.bodyOf h')) k)) := by
  have hc := two.c2
  have h64 := ok.some
  have e0 : rd t 0 = t.S.getD 0 dk.zero := rd_sure hb hL (k := 0) (by omega)
  have e1 : rd t 1 = t.S.getD 1 dk.zero := rd_sure hb hL (k := 1) (by omega)
  have en : jn.newest t = (N, h, 0) := by rw [jn.newest, e0, e1]; exact two.newest
  have ex : sl.next (rd t 0) (rd t 1) = ((1 - c : Nat) : Int) := by rw [e0, e1]; exact two.next
  unfold jn.layH
  rw [en, ex, hd.put_yes hn hm]
  simp only
  generalize sl.sealB (N + 1) (hd.bodyOf h') = Y
  rcases write_cases hb (n := 1 - c) (by omega) Y with ⟨w1, w2, w3, w4, w5⟩ | ⟨w1, w2, w3, w4, w5⟩
  · rw [if_pos w1]
    rw [hL, List.nil_append] at w4
    rcases flush_cases w2 with ⟨f1, f2, f3, f4, f5⟩ | ⟨f1, f2, f3, f4, f5⟩
    · refine .inl ⟨f1, f2, f4, ?_, by rw [f5, w5]; omega⟩
      rw [f3, w3, w4]
      simp only [dk.lay, Int.toNat_natCast]
    · refine .inr ⟨f1, f2, by rw [f5, w5]; omega, fun p => .inr ⟨p.headD 0, ?_⟩⟩
      simp only [dk.crash]
      rw [f3, f4, w3, w4]
      simp only [dk.tear, Int.toNat_natCast]
  · rw [if_neg (by rw [w1]; decide)]
    refine .inr ⟨w1, w2, by omega, fun p => .inl ?_⟩
    simp only [dk.crash]
    rw [w3, w4, hL]
    rfl
/-- BLOCKS AND A HEAD ARE LAID -/
theorem lay_cases {s : St} {c N : Nat} {h : hd.H} {was : List (List UInt8)} (g : Good s c N h was) {at_ : Nat} {l : List Blk} (hl : ∀ b ∈ l, b.length = 128) {h' : hd.H} (h2 : 2 ≤ at_) (hat : at_ + l.length ≤ s.S.length)
    (hfar : first s h.bank + h.blocks ≤ at_ ∨ at_ + l.length ≤ first s h.bank) (hn : hd.num (N + 1) = true) (hm : hd.may h' = true) (hfit : h'.blocks ≤ half s) {now : List (List UInt8)}
    (hnow : ∀ S1, Agree at_ (at_ + l.length) s.S S1 → (∀ i, i < l.length → S1.getD (at_ + i) dk.zero = l.getD i dk.zero) → (∀ b ∈ S1, b.length = 128) → parse h'.batches (bytesS S1 (first s h'.bank) h'.blocks) = some (now, [])) :
    ((lay s at_ l h').1 = 0 ∧ Good (lay s at_ l h').2 (1 - c) (N + 1) h' now ∧ (lay s at_ l h').2.S.length = s.S.length ∧ (lay s at_ l h').2.many = s.many + l.length + 3) ∨
    ((lay s at_ l h').1 = 9 ∧ (lay s at_ l h').2.black = true ∧ (lay s at_ l h').2.Ok ∧ (lay s at_ l h').2.S.length = s.S.length ∧ (lay s at_ l h').2.many ≤ s.many + l.length + 3 ∧
      ∀ p, Good (dk.crash (lay s at_ l h').2 p) c N h was ∨ Good (dk.crash (lay s at_ l h').2 p) (1 - c) (N + 1) h' now) := by
  have hok := Ok.lay g.ok at_ hl h'
  have hokw := Ok.writes l at_ g.ok hl
  have h64 := g.ok.some
  have hb1 := (hd.may_ok hm).1
  have hf1 := first_le g.ok hb1
  have hg1 := first_ge s h'.bank
  unfold jn.lay at hok ⊢
  rcases writes_cases l s at_ g.light hat hl with ⟨w1, w2, w3, w4, w5⟩ | ⟨w1, w2, w3, ⟨M, w4, w5, _⟩, w6⟩
  · rw [if_pos w1] at hok ⊢
    rw [g.sure, List.nil_append] at w4
    have hz := zipAt_in l at_ hl
    rcases flush_cases w2 with ⟨f1, f2, f3, f4, f5⟩ | ⟨f1, f2, f3, f4, f5⟩
    · rw [if_pos f1] at hok ⊢
      have hokf := dk.Ok.flush hokw
      rw [w3, w4] at f3
      have ha : Agree at_ (at_ + l.length) s.S (dk.flush (writes s at_ l).2).2.S := by rw [f3]; exact agree_lay _ _ hz
      have hgood1 := g.agree hokf f2 f4 ha h2 hfar
      have hput : ∀ i, i < l.length → (dk.flush (writes s at_ l).2).2.S.getD (at_ + i) dk.zero = l.getD i dk.zero := fun i hi => by rw [f3]; exact lay_zip l at_ s.S hat i hi
      have hm1 : (dk.flush (writes s at_ l).2).2.many = s.many + l.length + 1 := by rw [f5, w5]
      generalize (dk.flush (writes s at_ l).2).2 = t at *
      have hhalf : half t = half s := by unfold half; rw [ha.len]
      have hfirst : ∀ b, first t b = first s b := fun b => by unfold first; rw [hhalf]
      have hread := hnow t.S ha hput hokf.lenS
      -- a head in the other place leaves the blocks
      have hset : ∀ X (u : St), u.S = t.S.set (1 - c) X → u.Ok → u.black = false → u.L = [] → (Two u.S c N h → Good u c N h was) ∧ (Two u.S (1 - c) (N + 1) h' → Good u (1 - c) (N + 1) h' now) := fun X u hu ho hb hL => by
        have ha2 : Agree 0 2 t.S u.S := by rw [hu]; exact agree_set _ (Nat.zero_le _) (by omega) _
        have hh : half u = half s := by unfold half; rw [ha2.len, ha.len]
        have hf : ∀ b, first u b = first s b := fun b => by unfold first; rw [hh]
        refine ⟨fun two => ⟨ho, hb, hL, two, by rw [hh]; exact g.fits, ?_⟩, fun two => ⟨ho, hb, hL, two, by rw [hh]; exact hfit, ?_⟩⟩
        · rw [hf, bytesS_agree ha2 (.inr (first_ge s _)), ← hfirst]
          exact hgood1.reads
        · rw [hf, bytesS_agree ha2 (.inr hg1)]
          exact hread
      rcases layH_cases hokf f2 f4 hgood1.two hn hm with ⟨a1, a2, a3, a4, a5⟩ | ⟨a1, a2, a3, a4⟩
      · refine .inl ⟨a1, ?_, by rw [a4, List.length_set, ha.len], by rw [a5, hm1]; omega⟩
        refine (hset _ _ a4 hok a2 a3).2 ?_
        rw [a4]
        exact hgood1.two.laid (by rw [ha.len]; omega) hn hm
      · have hSl : (layH t h').2.S.length = s.S.length := by
          have h3 := a4 []
          have h4 : (dk.crash (layH t h').2 []).S.length = (layH t h').2.S.length := by simp only [dk.crash]; exact dk.tear_length _ _ _
          rcases h3 with e | ⟨k, e⟩
          · rw [← h4, e, ha.len]
          · rw [← h4, e, List.length_set, ha.len]
        refine .inr ⟨a1, a2, hok, hSl, by omega, fun p => ?_⟩
        have hokc := dk.Ok.crash hok p
        rcases a4 p with e | ⟨k, e⟩
        · refine .inl (hgood1.agree (lo := 2) (hi := 2) hokc rfl rfl ⟨by rw [e], fun k _ => by rw [e]⟩ (Nat.le_refl _) (.inr (first_ge _ _)))
        · rcases hgood1.two.begun hokf.lenS (by rw [ha.len]; omega) hn hm k with two | two
          · exact .inl ((hset _ _ e hokc rfl rfl).1 (by rw [e]; exact two))
          · exact .inr ((hset _ _ e hokc rfl rfl).2 (by rw [e]; exact two))
    · rw [if_neg (by rw [f1]; decide)] at hok ⊢
      refine .inr ⟨f1, f2, hok, by rw [f3, w3], by rw [f5, w5]; omega, fun p => .inl ?_⟩
      refine g.agree (lo := at_) (hi := at_ + l.length) (dk.Ok.crash hok p) rfl rfl ?_ h2 hfar
      simp only [dk.crash]
      rw [f3, f4, w3, w4]
      exact agree_tear _ _ p hz
  · rw [if_neg (by rw [w1]; decide)] at hok ⊢
    refine .inr ⟨w1, w2, hok, by rw [w3], by omega, fun p => .inl ?_⟩
    refine g.agree (lo := at_) (hi := at_ + l.length) (dk.Ok.crash hok p) rfl rfl ?_ h2 hfar
    simp only [dk.crash]
    rw [w3, w4, g.sure, List.nil_append]
    exact agree_tear _ _ p w5
theorem may_of {h : hd.H} (h1 : h.bank.toNat ≤ 1) (h2 : h.blocks ≤ 4096) (h3 : h.batches ≤ h.blocks) : hd.may h = true := by simp [hd.may, h1, h2, h3]
theorem count_pos (n : Nat) : 1 ≤ count (n + 4) := by unfold count; omega
theorem half_le {s : St} (h : s.Ok) : half s ≤ 2047 := by have := h.most; unfold half; omega
theorem bank_cases {x : UInt8} (h : x.toNat ≤ 1) : x = 0 ∨ x = 1 := by
  have hcs : x.toNat = 0 ∨ x.toNat = 1 := by omega
  rcases hcs with e | e
  · exact .inl (UInt8.toNat_inj.1 e)
  · exact .inr (UInt8.toNat_inj.1 e)
/-- what there is room for is behind the others, or the power is cut -/
theorem append_cases {s : St} {c N : Nat} {h : hd.H} {was : List (List UInt8)} (g : Good s c N h was) (hn : hd.num (N + 1) = true) (b : List UInt8) (hb : b.length ≤ 1048576) (hroom : h.blocks + (blocks b).length ≤ half s) :
    append s h b = lay s (first s h.bank + h.blocks) (blocks b) (appendH h b) ∧
    (((append s h b).1 = 0 ∧ Good (append s h b).2 (1 - c) (N + 1) (appendH h b) (was ++ [b]) ∧ (append s h b).2.S.length = s.S.length ∧ (append s h b).2.many = s.many + (blocks b).length + 3) ∨
    ((append s h b).1 = 9 ∧ (append s h b).2.black = true ∧ (append s h b).2.Ok ∧ (append s h b).2.S.length = s.S.length ∧ (append s h b).2.many ≤ s.many + (blocks b).length + 3 ∧
      ∀ p, Good (dk.crash (append s h b).2 p) c N h was ∨ Good (dk.crash (append s h b).2 p) (1 - c) (N + 1) (appendH h b) (was ++ [b]))) := by
  have he : append s h b = lay s (first s h.bank + h.blocks) (blocks b) (appendH h b) := by
    unfold jn.append
    rw [if_neg (by omega), if_neg (by rw [g.light]; simp), if_neg (by omega)]
  refine ⟨he, ?_⟩
  rw [he]
  have hm := hd.may_ok g.two.may
  have hf := first_le g.ok hm.1
  have hh := half_le g.ok
  have hp := count_pos b.length
  rw [← blocks_length] at hp
  refine lay_cases g (blocks_len b) (by have := first_ge s h.bank; omega) (by omega) (.inl (Nat.le_refl _)) hn ?_ hroom ?_
  · exact may_of hm.1 (show h.blocks + (blocks b).length ≤ 4096 by omega) (show h.batches + 1 ≤ h.blocks + (blocks b).length by omega)
  · intro S1 ha hput hlen
    show parse (h.batches + 1) (bytesS S1 (first s h.bank) (h.blocks + (blocks b).length)) = _
    rw [bytesS_more, bytesS_agree ha (.inl (Nat.le_refl _)), bytesS_blocks hput, blocks_flatten]
    exact parse_more g.reads (by rw [bytesS_length g.ok.lenS]; omega) b hb
theorem replace_cases {s : St} {c N : Nat} {h : hd.H} {was : List (List UInt8)} (g : Good s c N h was) (hn : hd.num (N + 1) = true) (b : List UInt8) (hb : b.length ≤ 1048576) (hroom : (blocks b).length ≤ half s) :
    replace s h b = lay s (first s (1 - h.bank)) (blocks b) (replaceH h b) ∧
    (((replace s h b).1 = 0 ∧ Good (replace s h b).2 (1 - c) (N + 1) (replaceH h b) [b] ∧ (replace s h b).2.S.length = s.S.length ∧ (replace s h b).2.many = s.many + (blocks b).length + 3) ∨
    ((replace s h b).1 = 9 ∧ (replace s h b).2.black = true ∧ (replace s h b).2.Ok ∧ (replace s h b).2.S.length = s.S.length ∧ (replace s h b).2.many ≤ s.many + (blocks b).length + 3 ∧
      ∀ p, Good (dk.crash (replace s h b).2 p) c N h was ∨ Good (dk.crash (replace s h b).2 p) (1 - c) (N + 1) (replaceH h b) [b])) := by
  have he : replace s h b = lay s (first s (1 - h.bank)) (blocks b) (replaceH h b) := by
    unfold jn.replace
    rw [if_neg (by omega), if_neg (by rw [g.light]; simp), if_neg (by omega)]
  refine ⟨he, ?_⟩
  rw [he]
  have hm := hd.may_ok g.two.may
  have hh := half_le g.ok
  have hp := count_pos b.length
  rw [← blocks_length] at hp
  have hbk : (1 - h.bank).toNat ≤ 1 ∧ (first s h.bank + half s ≤ first s (1 - h.bank) ∨ first s (1 - h.bank) + half s ≤ first s h.bank) := by
    rcases bank_cases hm.1 with e | e <;> rw [e]
    · refine ⟨by decide, .inl ?_⟩
      show 2 + 0 * half s + half s ≤ 2 + 1 * half s
      omega
    · refine ⟨by decide, .inr ?_⟩
      show 2 + 0 * half s + half s ≤ 2 + 1 * half s
      omega
  have hf := first_le g.ok hbk.1
  have hfits := g.fits
  refine lay_cases g (blocks_len b) (first_ge _ _) (by omega) (by rcases hbk.2 with e | e; exact .inl (by omega); exact .inr (by omega)) hn ?_ hroom ?_
  · exact may_of hbk.1 (show (blocks b).length ≤ 4096 by omega) (show 1 ≤ (blocks b).length by omega)
  · intro S1 ha hput hlen
    show parse 1 (bytesS S1 (first s (1 - h.bank)) (blocks b).length) = _
    rw [bytesS_blocks hput, blocks_flatten]
    exact parse_only b hb
end jn
end Go.Proofs.YthddcaoolaipiaaDoor

/-
  contracts of cardexref04.Disk's methods that write no blocks: Blocks, Dark, Steps, Loose, asks, step, Arm, Sure, Read.
-/
namespace Go.Proofs.YthddcaoolaipiaaDoor
open Go.RowKit

variable {w : World} {p g c : Nat} {r : List Value} {v : Value} {s : dk.St}

namespace dk
theorem M.own_len {T E P : TypeId} {w : World} {p g c : Nat} {r : List Value} {v : Value} {s : dk.St} (h : M T E P w p g c r v s) : ∃ A cap, v = .slice A s.L.length cap ∧ s.L.length ≤ cap ∧ cap ≤ 9223372036854775807 := by
  rcases h.loose.2 with ⟨rfl, h0⟩ | ⟨k, cap, _, rfl, _, _, h1, h2, _⟩
  · exact ⟨none, 0, by rw [h0], by omega, by omega⟩
  · exact ⟨_, cap, rfl, h1, by rw [maxLen_eq] at h2; exact h2⟩
theorem M.cut {T E P : TypeId} {w : World} {p g c : Nat} {r : List Value} {v : Value} {s : dk.St} (h : M T E P w p g c r v s) (n : Int) (hn : 0 ≤ n ∧ n ≤ 9223372036854775807) : M T E P (w.setCell ⟨p, 2, none⟩ (.int .i64 n)) p g c r v { s with cut := n } := by
  have hs : Same w (w.setCell ⟨p, 2, none⟩ (.int .i64 n)) (g :: v.ownBlock.toList) := fun k hk => Below.heap_setCell w _ _ k (by
    simp only [List.mem_cons, Option.mem_toList] at hk
    rcases hk with rfl | hk
    · exact fun e => h.ne1 e.symm
    · exact fun e => h.ne2 (by rw [hk, e]))
  exact ⟨(block_set h.obj _).trans rfl, (hs g (by simp)).trans h.row, h.cap, h.max, own_keep h.loose (fun k hk => hs k (by simp [hk])), ⟨h.ok.lenS, h.ok.some, h.ok.most, h.ok.lenL, h.ok.inL⟩, h.ne1, h.ne2, h.ne3, hn, h.manyR⟩
theorem M.black {T E P : TypeId} {w : World} {p g c : Nat} {r : List Value} {v : Value} {s : dk.St} (h : M T E P w p g c r v s) (n : Bool) : M T E P (w.setCell ⟨p, 3, none⟩ (.bool n)) p g c r v { s with black := n } := by
  have hs : Same w (w.setCell ⟨p, 3, none⟩ (.bool n)) (g :: v.ownBlock.toList) := fun k hk => Below.heap_setCell w _ _ k (by
    simp only [List.mem_cons, Option.mem_toList] at hk
    rcases hk with rfl | hk
    · exact fun e => h.ne1 e.symm
    · exact fun e => h.ne2 (by rw [hk, e]))
  exact ⟨(block_set h.obj _).trans rfl, (hs g (by simp)).trans h.row, h.cap, h.max, own_keep h.loose (fun k hk => hs k (by simp [hk])), ⟨h.ok.lenS, h.ok.some, h.ok.most, h.ok.lenL, h.ok.inL⟩, h.ne1, h.ne2, h.ne3, h.cutR, h.manyR⟩
theorem M.many {T E P : TypeId} {w : World} {p g c : Nat} {r : List Value} {v : Value} {s : dk.St} (h : M T E P w p g c r v s) (n : Int) (hn : 0 ≤ n ∧ n ≤ 4611686018427387904) : M T E P (w.setCell ⟨p, 4, none⟩ (.int .i64 n)) p g c r v { s with many := n } := by
  have hs : Same w (w.setCell ⟨p, 4, none⟩ (.int .i64 n)) (g :: v.ownBlock.toList) := fun k hk => Below.heap_setCell w _ _ k (by
    simp only [List.mem_cons, Option.mem_toList] at hk
    rcases hk with rfl | hk
    · exact fun e => h.ne1 e.symm
    · exact fun e => h.ne2 (by rw [hk, e]))
  exact ⟨(block_set h.obj _).trans rfl, (hs g (by simp)).trans h.row, h.cap, h.max, own_keep h.loose (fun k hk => hs k (by simp [hk])), ⟨h.ok.lenS, h.ok.some, h.ok.most, h.ok.lenL, h.ok.inL⟩, h.ne1, h.ne2, h.ne3, h.cutR, hn⟩
end dk


end Go.Proofs.YthddcaoolaipiaaDoor

/-
  contract of cardexref04.New.
-/
namespace Go.Proofs.YthddcaoolaipiaaDoor
open Go.RowKit
variable {w : World}

theorem cells_zero : dk.cells dk.zero = List.replicate 128 (bv 0) := by
  unfold dk.cells dk.zero
  rw [List.map_replicate]
theorem made_same (m k : Nat) (x : Value) (hm : 0 < m) : madeCells (List.replicate m x).toArray k = (List.replicate k x).toArray := by
  apply Array.ext_getElem?
  intro i
  by_cases hi : i < k
  · have hlt : i % m < m := Nat.mod_lt _ hm
    simp [madeCells, hi, hlt]
  · simp [madeCells, hi]
theorem made_blocks (n : Nat) : madeCells (dk.val dk.zero).cells (n * 128) = (dk.cellsS (List.replicate n dk.zero)).toArray := by
  have e : dk.cellsS (List.replicate n dk.zero) = List.replicate (n * 128) (bv 0) := by
    unfold dk.cellsS
    rw [List.map_replicate, cells_zero, List.flatten_replicate_replicate]
  rw [e]
  have hv : (dk.val dk.zero).cells = (List.replicate 128 (bv 0)).toArray := by rw [← cells_zero]; rfl
  rw [hv]
  exact made_same 128 _ _ (by omega)
def fresh (n : Nat) : dk.St := ⟨List.replicate n dk.zero, [], 0, false, 0⟩
theorem fresh_ok {n : Nat} (h : 64 ≤ n) (h2 : n ≤ 4096) : (fresh n).Ok :=
  ⟨fun b hb => by rw [(List.mem_replicate.1 hb).2]; exact zero_len, by simpa [fresh] using h, by simpa [fresh] using h2, fun x hx => by simp [fresh] at hx, fun x hx => by simp [fresh] at hx⟩

theorem info_blk3 : (Tryd.prog.info? 62).map (fun i => (i.zero, i.size, i.bytes)) = some (some (dk.val dk.zero), 128, 128) := by kernel_rfl
theorem info_parts4 {e : TypeId} {z : Value} {sz bt : Nat} (h : (Tryd.prog.info? e).map (fun i => (i.zero, i.size, i.bytes)) = some (some z, sz, bt)) : ∃ i, Tryd.prog.info? e = some i ∧ i.zero = some z ∧ i.size = sz ∧ i.bytes = bt := by
  cases hq : Tryd.prog.info? e with
  | none => simp [hq] at h
  | some i =>
    simp only [hq, Option.map_some, Option.some.injEq, Prod.mk.injEq] at h
    exact ⟨i, rfl, h.1, h.2.1, h.2.2⟩

end Go.Proofs.YthddcaoolaipiaaDoor

/-
  PURE: a journal where no cut is to come: nothing fails; a journal that is made; what is refused for room.
-/
namespace Go.Proofs.YthddcaoolaipiaaDoor
namespace jn
/-- in the light, and no cut is to come -/
structure Calm (s : St) : Prop where
  light : s.black = false
  cut : s.cut = 0
theorem step_calm {s : St} (h : Calm s) : (dk.step s).1 = 0 ∧ Calm (dk.step s).2 := by
  have e : dk.step s = (0, { s with cut := 0, many := s.many + 1 }) := by
    unfold dk.step
    rw [h.cut, if_neg (by decide), if_neg (by decide)]
  rw [e]
  exact ⟨rfl, h.light, rfl⟩
theorem write_calm {s : St} (h : Calm s) (n : Int) (b : Blk) : (dk.write s n b).1 ≠ 9 ∧ Calm (dk.write s n b).2 := by
  have hs := step_calm h
  unfold dk.write
  split
  · rw [if_pos hs.1]
    exact ⟨show (0 : Int) ≠ 9 by decide, hs.2.light, hs.2.cut⟩
  · next hq =>
    refine ⟨?_, h⟩
    unfold dk.asks at hq ⊢
    rw [if_neg (by rw [h.light]; decide)] at hq ⊢
    split
    · exact show (2 : Int) ≠ 9 by decide
    · next h2 => rw [if_neg h2] at hq; exact absurd rfl hq
theorem flush_calm {s : St} (h : Calm s) : (dk.flush s).1 ≠ 9 ∧ Calm (dk.flush s).2 := by
  have hs := step_calm h
  unfold dk.flush
  rw [if_neg (by rw [h.light]; decide), if_pos hs.1]
  exact ⟨show (0 : Int) ≠ 9 by decide, hs.2.light, hs.2.cut⟩
theorem writes_calm : ∀ (l : List Blk) {s : St} (at_ : Nat), Calm s → (writes s at_ l).1 ≠ 9 ∧ Calm (writes s at_ l).2
  | [], _, _, h => ⟨by simp [jn.writes], h⟩
  | b :: r, s, at_, h => by
    have hw := write_calm h (at_ : Int) b
    simp only [jn.writes]
    split
    · exact writes_calm r (at_ + 1) hw.2
    · exact hw
theorem layH_calm {t : St} (h : Calm t) (k : hd.H) : (layH t k).1 ≠ 9 ∧ Calm (layH t k).2 := by
  have hw := write_calm h (sl.next (rd t 0) (rd t 1)) (hd.put ((jn.newest t).1 + 1) k).1
  unfold jn.layH
  split
  · exact flush_calm hw.2
  · exact hw
theorem lay_calm {s : St} (h : Calm s) (at_ : Nat) (l : List Blk) (k : hd.H) : (lay s at_ l k).1 ≠ 9 ∧ Calm (lay s at_ l k).2 := by
  have h1 := writes_calm l at_ h
  have h2 := flush_calm h1.2
  unfold jn.lay
  split
  · split
    · exact layH_calm h2.2 k
    · exact h2
  · exact h1
/-- what there is room for is laid behind the others -/
theorem append_calm {s : St} {c N : Nat} {h : hd.H} {was : List (List UInt8)} (g : Good s c N h was) (hc : s.cut = 0) (hn : hd.num (N + 1) = true) (b : List UInt8) (hb : b.length ≤ 1048576) (hroom : h.blocks + (blocks b).length ≤ half s) :
    (append s h b).1 = 0 ∧ Good (append s h b).2 (1 - c) (N + 1) (appendH h b) (was ++ [b]) ∧ (append s h b).2.S.length = s.S.length ∧ (append s h b).2.many = s.many + (blocks b).length + 3 ∧ (append s h b).2.cut = 0 := by
  obtain ⟨e, h1 | h1⟩ := append_cases g hn b hb hroom
  · have h2 := lay_calm ⟨g.light, hc⟩ (first s h.bank + h.blocks) (blocks b) (appendH h b)
    rw [← e] at h2
    exact ⟨h1.1, h1.2.1, h1.2.2.1, h1.2.2.2, h2.2.cut⟩
  · have h2 := lay_calm ⟨g.light, hc⟩ (first s h.bank + h.blocks) (blocks b) (appendH h b)
    rw [← e] at h2
    exact absurd h1.1 h2.1
/-- what there is no room for is refused -/
theorem append_full {s : St} {c N : Nat} {h : hd.H} {was : List (List UInt8)} (g : Good s c N h was) (b : List UInt8) (hb : b.length ≤ 1048576) (hroom : half s < h.blocks + (blocks b).length) : append s h b = (10, s) := by
  unfold jn.append
  rw [if_neg (by omega), if_neg (by rw [g.light]; simp), if_pos hroom]
theorem replace_calm {s : St} {c N : Nat} {h : hd.H} {was : List (List UInt8)} (g : Good s c N h was) (hc : s.cut = 0) (hn : hd.num (N + 1) = true) (b : List UInt8) (hb : b.length ≤ 1048576) (hroom : (blocks b).length ≤ half s) :
    (replace s h b).1 = 0 ∧ Good (replace s h b).2 (1 - c) (N + 1) (replaceH h b) [b] ∧ (replace s h b).2.S.length = s.S.length ∧ (replace s h b).2.many = s.many + (blocks b).length + 3 ∧ (replace s h b).2.cut = 0 := by
  obtain ⟨e, h1 | h1⟩ := replace_cases g hn b hb hroom
  · have h2 := lay_calm ⟨g.light, hc⟩ (first s (1 - h.bank)) (blocks b) (replaceH h b)
    rw [← e] at h2
    exact ⟨h1.1, h1.2.1, h1.2.2.1, h1.2.2.2, h2.2.cut⟩
  · have h2 := lay_calm ⟨g.light, hc⟩ (first s (1 - h.bank)) (blocks b) (replaceH h b)
    rw [← e] at h2
    exact absurd h1.1 h2.1
theorem replace_full {s : St} {c N : Nat} {h : hd.H} {was : List (List UInt8)} (g : Good s c N h was) (b : List UInt8) (hb : b.length ≤ 1048576) (hroom : half s < (blocks b).length) : replace s h b = (10, s) := by
  unfold jn.replace
  rw [if_neg (by omega), if_neg (by rw [g.light]; simp), if_pos hroom]
theorem newest_zero : hd.newest dk.zero dk.zero = (0, hd.zero, 7) := hd.newest_none (by decide +kernel) (by decide +kernel)
theorem next_zero : sl.next dk.zero dk.zero = 0 := by decide +kernel
/-- a journal that is made -/
theorem make_good {s : St} (ok : s.Ok) (hL : s.L = []) (hq : Calm s) :
    (make s).1 = 0 ∧ Good (make s).2 0 1 hd.zero [] ∧ (make s).2.S.length = s.S.length ∧ (make s).2.many = s.many + 5 ∧ (make s).2.cut = 0 := by
  have h64 := ok.some
  have he : make s = lay s 0 [dk.zero, dk.zero] hd.zero := by
    unfold jn.make
    rw [if_neg (by rw [hq.light]; simp)]
  have hzz : ∀ b ∈ [dk.zero, dk.zero], b.length = 128 := fun b hb => by
    simp at hb
    rw [hb]
    exact List.length_replicate
  have hok : (make s).2.Ok := by rw [he]; exact Ok.lay ok 0 hzz hd.zero
  have hcalm := lay_calm hq 0 [dk.zero, dk.zero] hd.zero
  rw [← he] at hcalm
  have hwc := writes_calm [dk.zero, dk.zero] 0 hq
  have hw : (writes s 0 [dk.zero, dk.zero]).1 = 0 ∧ (writes s 0 [dk.zero, dk.zero]).2.black = false ∧ (writes s 0 [dk.zero, dk.zero]).2.S = s.S ∧ (writes s 0 [dk.zero, dk.zero]).2.L = [(0, dk.zero), (1, dk.zero)] ∧ (writes s 0 [dk.zero, dk.zero]).2.many = s.many + 2 := by
    rcases writes_cases [dk.zero, dk.zero] s 0 hq.light (by simp; omega) hzz with ⟨w1, w2, w3, w4, w5⟩ | ⟨w1, _⟩
    · exact ⟨w1, w2, w3, by rw [w4, hL]; rfl, by rw [w5]; rfl⟩
    · exact absurd w1 hwc.1
  have hfc := flush_calm hwc.2
  have hf : (dk.flush (writes s 0 [dk.zero, dk.zero]).2).1 = 0 ∧ (dk.flush (writes s 0 [dk.zero, dk.zero]).2).2.S = (s.S.set 0 dk.zero).set 1 dk.zero ∧ (dk.flush (writes s 0 [dk.zero, dk.zero]).2).2.L = [] ∧ (dk.flush (writes s 0 [dk.zero, dk.zero]).2).2.many = s.many + 3 := by
    rcases flush_cases hw.2.1 with ⟨f1, f2, f3, f4, f5⟩ | ⟨f1, _⟩
    · exact ⟨f1, by rw [f3, hw.2.2.1, hw.2.2.2.1]; rfl, f4, by rw [f5, hw.2.2.2.2]; omega⟩
    · exact absurd f1 hfc.1
  have hl : make s = layH (dk.flush (writes s 0 [dk.zero, dk.zero]).2).2 hd.zero := by
    rw [he]
    unfold jn.lay
    rw [if_pos hw.1, if_pos hf.1]
  obtain ⟨-, f3, f4, f5⟩ := hf
  have hcf := hfc.2
  rw [hl] at hok hcalm ⊢
  generalize (dk.flush (writes s 0 [dk.zero, dk.zero]).2).2 = t at *
  have ht64 : t.S.length = s.S.length := by rw [f3]; simp
  have g0 : t.S.getD 0 dk.zero = dk.zero := by
    rw [f3, getD_set_ne (by decide), getD_set_eq (by omega)]
  have g1 : t.S.getD 1 dk.zero = dk.zero := by
    rw [f3, getD_set_eq (by simp; omega)]
  have e0 : rd t 0 = dk.zero := (rd_sure hcf.light f4 (k := 0) (by omega)).trans g0
  have e1 : rd t 1 = dk.zero := (rd_sure hcf.light f4 (k := 1) (by omega)).trans g1
  have en : jn.newest t = (0, hd.zero, 7) := by rw [jn.newest, e0, e1]; exact newest_zero
  have ep : hd.put ((jn.newest t).1 + 1) hd.zero = (sl.sealB 1 (hd.bodyOf hd.zero), 0) := by rw [en]; exact hd.put_yes (n := 1) (by decide) (by decide)
  have ex : sl.next (rd t 0) (rd t 1) = ((0 : Nat) : Int) := by rw [e0, e1]; exact next_zero
  unfold jn.layH at hok hcalm ⊢
  rw [ep, ex] at hok hcalm ⊢
  simp only at hok hcalm ⊢
  have hwc2 := write_calm hcf ((0 : Nat) : Int) (sl.sealB 1 (hd.bodyOf hd.zero))
  rcases write_cases hcf.light (n := 0) (by omega) (sl.sealB 1 (hd.bodyOf hd.zero)) with ⟨w1, w2, w3, w4, w5⟩ | ⟨w1, _⟩
  · rw [if_pos w1] at hok hcalm ⊢
    rw [f4, List.nil_append] at w4
    have hfc2 := flush_calm hwc2.2
    rcases flush_cases w2 with ⟨a1, a2, a3, a4, a5⟩ | ⟨a1, _⟩
    · have hS : (dk.flush (dk.write t ((0 : Nat) : Int) (sl.sealB 1 (hd.bodyOf hd.zero))).2).2.S = t.S.set 0 (sl.sealB 1 (hd.bodyOf hd.zero)) := by rw [a3, w3, w4]; rfl
      refine ⟨a1, ⟨hok, a2, a4, ?_, Nat.zero_le _, rfl⟩, by rw [hS, List.length_set, ht64], by rw [a5, w5, f5]; omega, hcalm.2.cut⟩
      have h2 : (dk.flush (dk.write t ((0 : Nat) : Int) (sl.sealB 1 (hd.bodyOf hd.zero))).2).2.S.getD 1 dk.zero = dk.zero := by rw [hS, getD_set_ne (by decide), g1]
      have h0 : (dk.flush (dk.write t ((0 : Nat) : Int) (sl.sealB 1 (hd.bodyOf hd.zero))).2).2.S.getD 0 dk.zero = sl.sealB 1 (hd.bodyOf hd.zero) := by rw [hS, getD_set_eq (by omega)]
      exact ⟨by omega, by decide, by decide, h0, by show sl.Away (List.getD _ 1 dk.zero) _; rw [h2]; exact sl.away_zero (by omega), by show sl.worth (List.getD _ 1 dk.zero) < 1; rw [h2]; decide +kernel⟩
    · exact absurd a1 hfc2.1
  · exact absurd w1 hwc2.1
end jn
end Go.Proofs.YthddcaoolaipiaaDoor

/-
  PURE: a journal goes by its newest head, whatever the other block is (spoilt disks): what is laid is the newest; Make, Append, Replace, Open. No program is named here.
-/
namespace Go.Proofs.YthddcaoolaipiaaDoor
namespace jn
theorem newest_ge (x y : Blk) : (hd.get x).1 ≤ (hd.newest x y).1 ∧ (hd.get y).1 ≤ (hd.newest x y).1 := by
  unfold hd.newest
  split
  · rename_i h
    rw [(hd.get_err h.1).1, (hd.get_err h.2).1]
    exact ⟨Nat.le_refl _, Nat.le_refl _⟩
  · split
    · exact ⟨by show _ ≤ (hd.get y).1; omega, Nat.le_refl _⟩
    · exact ⟨Nat.le_refl _, by show _ ≤ (hd.get x).1; omega⟩
theorem newest_put {x y : Blk} {M : Nat} {h : hd.H} (hM : (hd.newest x y).1 < M) (hn : hd.num M = true) (hm : hd.may h = true) :
    hd.newest (hd.put M h).1 y = (M, h, 0) ∧ hd.newest x (hd.put M h).1 = (M, h, 0) := by
  have hg := hd.get_put (hd.may_Ok hm) hn hm
  have hx := newest_ge x y
  constructor
  · unfold hd.newest
    simp only [hg]
    rw [if_neg (by simp), if_neg (by omega)]
  · unfold hd.newest
    simp only [hg]
    rw [if_neg (by simp), if_pos (by omega)]
theorem next_two (x y : Blk) : sl.next x y = ((0 : Nat) : Int) ∨ sl.next x y = ((1 : Nat) : Int) := by
  unfold sl.next
  repeat (first | split | exact .inl rfl | exact .inr rfl)
/-- A JOURNAL IN THE LIGHT, ALL OF IT SURE, BY ITS NEWEST HEAD -/
structure Fit (s : St) (N : Nat) (h : hd.H) : Prop where
  ok : s.Ok
  light : s.black = false
  sure : s.L = []
  new : newest s = (N, h, 0)
  fits : h.blocks ≤ half s
theorem Good.fit {s : St} {c N : Nat} {h : hd.H} {was : List (List UInt8)} (g : Good s c N h was) : Fit s N h := ⟨g.ok, g.light, g.sure, g.newest, g.fits⟩
theorem Fit.may {s : St} {N : Nat} {h : hd.H} (f : Fit s N h) : hd.may h = true := by
  have hg : ∀ x : Blk, hd.may (hd.get x).2.1 = true := fun x => by
    by_cases h : (hd.get x).2.2 = 0
    · exact (hd.get_num h).2.2
    · rw [(hd.get_err h).2]; rfl
  have hall : hd.may (newest s).2.1 = true := by
    unfold jn.newest hd.newest
    split
    · rfl
    · split
      · exact hg _
      · exact hg _
  rw [f.new] at hall
  exact hall
/-- what came of a call: the disk is as large, of not many more steps -/
structure Near (s s' : St) : Prop where
  ok : s'.Ok
  len : s'.S.length = s.S.length
  many : s'.many ≤ s.many + 4200
theorem layH_new {t : St} (ok : t.Ok) (hb : t.black = false) (hL : t.L = []) {N : Nat} (hN : (newest t).1 = N) {h' : hd.H} (hn : hd.num (N + 1) = true) (hm : hd.may h' = true) :
    ((layH t h').1 = 0 ∧ (layH t h').2.black = false ∧ (layH t h').2.L = [] ∧ newest (layH t h').2 = (N + 1, h', 0) ∧ (layH t h').2.S.length = t.S.length ∧ (layH t h').2.many = t.many + 2) ∨
    ((layH t h').1 = 9 ∧ (layH t h').2.black = true ∧ (layH t h').2.S.length = t.S.length ∧ (layH t h').2.many ≤ t.many + 2) := by
  have h64 := ok.some
  have e0 : rd t 0 = t.S.getD 0 dk.zero := rd_sure hb hL (k := 0) (by omega)
  have e1 : rd t 1 = t.S.getD 1 dk.zero := rd_sure hb hL (k := 1) (by omega)
  have hx := next_two (rd t 0) (rd t 1)
  have hset : ∀ k, (k = 0 ∨ k = 1) → ∀ u : St, u.S = t.S.set k (hd.put (N + 1) h').1 → u.black = false → u.L = [] → newest u = (N + 1, h', 0) := fun k hk u hu hub huL => by
    have hl : u.S.length = t.S.length := by rw [hu, List.length_set]
    have u0 : rd u 0 = u.S.getD 0 dk.zero := rd_sure hub huL (k := 0) (by omega)
    have u1 : rd u 1 = u.S.getD 1 dk.zero := rd_sure hub huL (k := 1) (by omega)
    have hp := newest_put (x := rd t 0) (y := rd t 1) (M := N + 1) (h := h') (by rw [← hN]; exact Nat.lt_succ_self _) hn hm
    rw [e0, e1] at hp
    unfold jn.newest
    rw [u0, u1, hu]
    rcases hk with rfl | rfl
    · rw [getD_set_eq (by omega), getD_set_ne (by decide)]
      exact hp.1
    · rw [getD_set_ne (by decide), getD_set_eq (by omega)]
      exact hp.2
  unfold jn.layH
  rw [hN]
  generalize (hd.put (N + 1) h').1 = Y at *
  obtain ⟨k, hk, hkx⟩ : ∃ k : Nat, (k = 0 ∨ k = 1) ∧ sl.next (rd t 0) (rd t 1) = (k : Int) := by
    rcases hx with e | e
    · exact ⟨0, .inl rfl, e⟩
    · exact ⟨1, .inr rfl, e⟩
  rw [hkx]
  rcases write_cases hb (n := k) (by omega) Y with ⟨w1, w2, w3, w4, w5⟩ | ⟨w1, w2, w3, w4, w5⟩
  · rw [if_pos w1]
    rw [hL, List.nil_append] at w4
    rcases flush_cases w2 with ⟨f1, f2, f3, f4, f5⟩ | ⟨f1, f2, f3, f4, f5⟩
    · have hS : (dk.flush (dk.write t (k : Int) Y).2).2.S = t.S.set k Y := by
        rw [f3, w3, w4]
        simp only [dk.lay, Int.toNat_natCast]
      exact .inl ⟨f1, f2, f4, hset k hk _ hS f2 f4, by rw [hS, List.length_set], by omega⟩
    · exact .inr ⟨f1, f2, by rw [f3, w3], by rw [f5, w5]; omega⟩
  · rw [if_neg (by rw [w1]; decide)]
    exact .inr ⟨w1, w2, by rw [w3], by omega⟩
theorem lay_new {s : St} (ok : s.Ok) (hb : s.black = false) (hL : s.L = []) {at_ : Nat} {l : List Blk} (hl : ∀ b ∈ l, b.length = 128) (hat : at_ + l.length ≤ s.S.length) {N : Nat}
    (hN : (hd.newest ((dk.lay s.S (zipAt at_ l)).getD 0 dk.zero) ((dk.lay s.S (zipAt at_ l)).getD 1 dk.zero)).1 = N) {h' : hd.H} (hn : hd.num (N + 1) = true) (hm : hd.may h' = true) (hfit : h'.blocks ≤ half s) :
    (lay s at_ l h').2.Ok ∧ (lay s at_ l h').2.S.length = s.S.length ∧ (lay s at_ l h').2.many ≤ s.many + l.length + 3 ∧
    (((lay s at_ l h').1 = 0 ∧ Fit (lay s at_ l h').2 (N + 1) h') ∨ ((lay s at_ l h').1 = 9 ∧ (lay s at_ l h').2.black = true)) := by
  have hok := Ok.lay ok at_ hl h'
  have hokw := Ok.writes l at_ ok hl
  have h64 := ok.some
  refine ⟨hok, ?_⟩
  unfold jn.lay at hok ⊢
  rcases writes_cases l s at_ hb hat hl with ⟨w1, w2, w3, w4, w5⟩ | ⟨w1, w2, w3, ⟨M, w4, w5, _⟩, w6⟩
  · rw [if_pos w1] at hok ⊢
    rw [hL, List.nil_append] at w4
    rcases flush_cases w2 with ⟨f1, f2, f3, f4, f5⟩ | ⟨f1, f2, f3, f4, f5⟩
    · rw [if_pos f1] at hok ⊢
      have hokf := dk.Ok.flush hokw
      rw [w3, w4] at f3
      have hlen : (dk.flush (writes s at_ l).2).2.S.length = s.S.length := by rw [f3]; exact (agree_lay _ _ (zipAt_in l at_ hl)).len
      rw [w5] at f5
      generalize (dk.flush (writes s at_ l).2).2 = t at *
      have e0 : rd t 0 = t.S.getD 0 dk.zero := rd_sure f2 f4 (k := 0) (by omega)
      have e1 : rd t 1 = t.S.getD 1 dk.zero := rd_sure f2 f4 (k := 1) (by omega)
      have hNt : (newest t).1 = N := by
        unfold jn.newest
        rw [e0, e1, f3]
        exact hN
      rcases layH_new hokf f2 f4 hNt hn hm with ⟨a1, a2, a3, a4, a5, a6⟩ | ⟨a1, a2, a3, a4⟩
      · refine ⟨by omega, by omega, .inl ⟨a1, hok, a2, a3, a4, ?_⟩⟩
        unfold half
        rw [a5, hlen]
        exact hfit
      · exact ⟨by omega, by omega, .inr ⟨a1, a2⟩⟩
    · rw [if_neg (by rw [f1]; decide)] at hok ⊢
      exact ⟨by rw [f3, w3], by rw [f5, w5]; omega, .inr ⟨f1, f2⟩⟩
  · rw [if_neg (by rw [w1]; decide)] at hok ⊢
    exact ⟨by rw [w3], by omega, .inr ⟨w1, w2⟩⟩
/-- what is laid behind the heads leaves them -/
theorem Fit.behind {s : St} {N : Nat} {h : hd.H} (f : Fit s N h) {at_ : Nat} {l : List Blk} (hl : ∀ b ∈ l, b.length = 128) (h2 : 2 ≤ at_) :
    (hd.newest ((dk.lay s.S (zipAt at_ l)).getD 0 dk.zero) ((dk.lay s.S (zipAt at_ l)).getD 1 dk.zero)).1 = N := by
  have ha := agree_lay _ s.S (zipAt_in l at_ hl)
  rw [ha.get 0 (.inl (by omega)), ha.get 1 (.inl (by omega))]
  have h64 := f.ok.some
  have e0 : rd s 0 = s.S.getD 0 dk.zero := rd_sure f.light f.sure (k := 0) (by omega)
  have e1 : rd s 1 = s.S.getD 1 dk.zero := rd_sure f.light f.sure (k := 1) (by omega)
  have hn := f.new
  unfold jn.newest at hn
  rw [e0, e1] at hn
  rw [hn]
theorem first_most {s : St} (h : s.Ok) {bank : UInt8} (hb : bank.toNat ≤ 1) : 2 ≤ first s bank ∧ first s bank + half s ≤ s.S.length := ⟨first_ge s bank, first_le h hb⟩
/-- WHAT APPEND COMES TO -/
theorem append_fit {s : St} {N : Nat} {h : hd.H} (f : Fit s N h) (hn : hd.num (N + 1) = true) (b : List UInt8) :
    Near s (append s h b).2 ∧ (((append s h b).2 = s ∧ ((append s h b).1 = 3 ∨ (append s h b).1 = 10)) ∨ ((append s h b).1 = 0 ∧ Fit (append s h b).2 (N + 1) (appendH h b)) ∨ ((append s h b).1 = 9 ∧ (append s h b).2.black = true)) := by
  have hhalf := half_le f.ok
  have hm := hd.may_ok f.may
  have hp := count_pos b.length
  rw [← blocks_length] at hp
  unfold jn.append
  split
  · exact ⟨⟨f.ok, rfl, show s.many ≤ s.many + 4200 by omega⟩, .inl ⟨rfl, .inl rfl⟩⟩
  · rw [if_neg (by rw [f.light]; simp)]
    split
    · exact ⟨⟨f.ok, rfl, show s.many ≤ s.many + 4200 by omega⟩, .inl ⟨rfl, .inr rfl⟩⟩
    · rename_i hroom
      obtain ⟨g1, g2⟩ := first_most f.ok hm.1
      have hr := lay_new f.ok f.light f.sure (at_ := first s h.bank + h.blocks) (l := blocks b) (blocks_len b) (by omega) (f.behind (blocks_len b) (by omega)) hn
        (may_of (h := appendH h b) hm.1 (show h.blocks + (blocks b).length ≤ 4096 by omega) (show h.batches + 1 ≤ h.blocks + (blocks b).length by omega)) (show h.blocks + (blocks b).length ≤ half s by omega)
      obtain ⟨r1, r2, r3, r4⟩ := hr
      refine ⟨⟨r1, r2, by omega⟩, .inr ?_⟩
      exact r4
/-- WHAT REPLACE COMES TO -/
theorem replace_fit {s : St} {N : Nat} {h : hd.H} (f : Fit s N h) (hn : hd.num (N + 1) = true) (b : List UInt8) :
    Near s (replace s h b).2 ∧ (((replace s h b).2 = s ∧ ((replace s h b).1 = 3 ∨ (replace s h b).1 = 10)) ∨ ((replace s h b).1 = 0 ∧ Fit (replace s h b).2 (N + 1) (replaceH h b)) ∨ ((replace s h b).1 = 9 ∧ (replace s h b).2.black = true)) := by
  have hhalf := half_le f.ok
  have hm := hd.may_ok f.may
  have hp := count_pos b.length
  rw [← blocks_length] at hp
  have hbk : (1 - h.bank).toNat ≤ 1 := by rcases bank_cases hm.1 with e | e <;> rw [e] <;> decide
  unfold jn.replace
  split
  · exact ⟨⟨f.ok, rfl, show s.many ≤ s.many + 4200 by omega⟩, .inl ⟨rfl, .inl rfl⟩⟩
  · rw [if_neg (by rw [f.light]; simp)]
    split
    · exact ⟨⟨f.ok, rfl, show s.many ≤ s.many + 4200 by omega⟩, .inl ⟨rfl, .inr rfl⟩⟩
    · rename_i hroom
      obtain ⟨g1, g2⟩ := first_most f.ok hbk
      have hr := lay_new f.ok f.light f.sure (at_ := first s (1 - h.bank)) (l := blocks b) (blocks_len b) (by omega) (f.behind (blocks_len b) (by omega)) hn
        (may_of (h := replaceH h b) hbk (show (blocks b).length ≤ 4096 by omega) (show 1 ≤ (blocks b).length by omega)) (show (blocks b).length ≤ half s by omega)
      obtain ⟨r1, r2, r3, r4⟩ := hr
      exact ⟨⟨r1, r2, by omega⟩, .inr r4⟩
/-- WHAT MAKE COMES TO -/
theorem make_fit {s : St} (ok : s.Ok) (hL : s.L = []) (hb : s.black = false) :
    Near s (make s).2 ∧ (((make s).1 = 0 ∧ Fit (make s).2 1 hd.zero) ∨ ((make s).1 = 9 ∧ (make s).2.black = true)) := by
  have h64 := ok.some
  have hzz : ∀ b ∈ [dk.zero, dk.zero], b.length = 128 := fun b hb => by
    simp at hb
    rw [hb]
    exact List.length_replicate
  have he : make s = lay s 0 [dk.zero, dk.zero] hd.zero := by
    unfold jn.make
    rw [if_neg (by rw [hb]; simp)]
  rw [he]
  obtain ⟨r1, r2, r3, r4⟩ := lay_new ok hb hL (at_ := 0) (l := [dk.zero, dk.zero]) hzz (by simp; omega) (N := 0) (by
    have g0 : (dk.lay s.S (zipAt 0 [dk.zero, dk.zero])).getD 0 dk.zero = dk.zero := lay_zip [dk.zero, dk.zero] 0 s.S (by simp; omega) 0 (by simp)
    have g1 : (dk.lay s.S (zipAt 0 [dk.zero, dk.zero])).getD 1 dk.zero = dk.zero := lay_zip [dk.zero, dk.zero] 0 s.S (by simp; omega) 1 (by simp)
    rw [g0, g1, newest_zero]) (h' := hd.zero) (by decide) (by decide) (Nat.zero_le _)
  exact ⟨⟨r1, r2, by simp at r3; omega⟩, r4⟩
/-- what is opened goes by its newest head -/
theorem opens_fit {s : St} (ok : s.Ok) (hL : s.L = []) (h : opens s = 0) : ∃ N k, Fit s N k ∧ N ≤ 2305843009213693952 := by
  unfold jn.opens at h
  split at h
  · cases h
  · rename_i hb
    split at h
    · cases h
    · rename_i hc
      split at h
      · rename_i hbt
        have hfits : (newest s).2.1.blocks ≤ half s := by
          unfold jn.batches at hbt
          split at hbt
          · cases hbt
          · omega
        have he : (newest s).2.2 = 0 ∧ (newest s).1 ≤ 2305843009213693952 := by omega
        exact ⟨(newest s).1, (newest s).2.1, ⟨ok, by simpa using hb, hL, by rw [← he.1], hfits⟩, he.2⟩
      · cases h
theorem opens_light {s : St} (h : opens s = 0) : s.black = false := by
  unfold jn.opens at h
  split at h
  · cases h
  · rename_i hb
    simpa using hb
theorem write_few (s : St) (n : Int) (b : Blk) : (dk.write s n b).2.many ≤ s.many + 1 ∧ (dk.write s n b).2.L.length ≤ s.L.length + 1 := by
  have hs : (dk.step s).2.many ≤ s.many + 1 ∧ (dk.step s).2.L = s.L := by
    unfold dk.step
    split
    · exact ⟨by show s.many ≤ _; omega, rfl⟩
    · exact ⟨Int.le_refl _, rfl⟩
  unfold dk.write
  split
  · split
    · exact ⟨hs.1, by simp⟩
    · exact ⟨hs.1, by show (dk.step s).2.L.length ≤ _; rw [hs.2]; omega⟩
  · exact ⟨by show s.many ≤ _; omega, by show s.L.length ≤ _; omega⟩
theorem flush_few (s : St) : (dk.flush s).2.many ≤ s.many + 1 ∧ (dk.flush s).2.L.length ≤ s.L.length := by
  have hs : (dk.step s).2.many ≤ s.many + 1 ∧ (dk.step s).2.L = s.L := by
    unfold dk.step
    split
    · exact ⟨by show s.many ≤ _; omega, rfl⟩
    · exact ⟨Int.le_refl _, rfl⟩
  unfold dk.flush
  split
  · exact ⟨by show s.many ≤ _; omega, Nat.le_refl _⟩
  · split
    · exact ⟨hs.1, by simp⟩
    · exact ⟨hs.1, by show (dk.step s).2.L.length ≤ _; rw [hs.2]; omega⟩
theorem writes_snoc : ∀ (l : List Blk) (s : St) (at_ : Nat) (b : Blk), (writes s at_ l).1 = 0 → writes s at_ (l ++ [b]) = dk.write (writes s at_ l).2 ((at_ + l.length : Nat) : Int) b
  | [], s, at_, b, _ => by
    simp only [List.nil_append, jn.writes, List.length_nil, Nat.add_zero]
    split
    · rename_i h
      rw [← h]
    · rfl
  | x :: r, s, at_, b, h => by
    simp only [List.cons_append, jn.writes] at h ⊢
    split
    · rename_i h0
      rw [if_pos h0] at h
      rw [writes_snoc r _ _ b h, show at_ + 1 + r.length = at_ + (x :: r).length from by simp only [List.length_cons]; omega]
    · rename_i h0
      rw [if_neg h0] at h
      exact absurd h h0
theorem writes_stop : ∀ (l : List Blk) (r : List Blk) (s : St) (at_ : Nat), ¬ (writes s at_ l).1 = 0 → writes s at_ (l ++ r) = writes s at_ l
  | [], r, s, at_, h => absurd rfl h
  | x :: l, r, s, at_, h => by
    simp only [List.cons_append, jn.writes] at h ⊢
    split
    · rename_i h0
      rw [if_pos h0] at h
      exact writes_stop l r _ _ h
    · rfl
theorem writes_few : ∀ (l : List Blk) (s : St) (at_ : Nat), (writes s at_ l).2.many ≤ s.many + l.length ∧ (writes s at_ l).2.L.length ≤ s.L.length + l.length
  | [], s, _ => by simp [jn.writes]
  | x :: r, s, at_ => by
    have h1 := write_few s at_ x
    simp only [jn.writes, List.length_cons]
    split
    · have h2 := writes_few r (dk.write s at_ x).2 (at_ + 1)
      omega
    · omega
end jn
end Go.Proofs.YthddcaoolaipiaaDoor

/-
  contracts of crc's functions: byOne, byFour, times, On, Into, More, Of, Join.
-/
namespace Go.Proofs.YthddcaoolaipiaaDoor
open Go.RowKit

/-- a rest as a value -/
abbrev wv (x : crc.W) : Value := .int .u32 (x.toNat : Int)
theorem wv_ret {x : crc.W} {a : Int} (h : a = (x.toNat : Int)) : Ending.returned (.int .u32 a) = .returned (wv x) := by rw [h]
theorem wv_shr (x : crc.W) (j : Nat) : (x.toNat : Int) / (2 : Int) ^ j = ((x >>> j).toNat : Int) := by
  rw [BitVec.toNat_ushiftRight, Nat.shiftRight_eq_div_pow, Int.natCast_ediv, Int.natCast_pow]
  rfl
theorem wv_half (x : crc.W) : (x.toNat : Int) / (2 : Int) = ((x >>> 1).toNat : Int) := by
  rw [← wv_shr, Int.pow_one]
theorem wv_xor (x y : crc.W) : bits .xor .u32 (x.toNat : Int) (y.toNat : Int) = ((x ^^^ y).toNat : Int) := by
  rw [u32_xor_nat _ _ x.isLt y.isLt, BitVec.toNat_xor]
theorem wv_and (x y : crc.W) : bits .and .u32 (x.toNat : Int) (y.toNat : Int) = ((x &&& y).toNat : Int) := by
  rw [u32_and_nat _ _ x.isLt y.isLt, BitVec.toNat_and]
theorem wv_bit (x : crc.W) : bits .and .u32 (x.toNat : Int) 1 = if x.getLsbD 0 then 1 else 0 := by
  rw [show (1 : Int) = ((1 : Nat) : Int) from rfl, u32_and_nat _ _ x.isLt (by omega), Nat.and_one_is_mod]
  have e : x.getLsbD 0 = decide (x.toNat % 2 = 1) := by
    rw [← BitVec.testBit_toNat, Nat.testBit_zero]
  rw [e]
  by_cases h : x.toNat % 2 = 1
  · simp [h]
  · simp [h]; omega
theorem wv_bit_ne (x : crc.W) : (bits .and .u32 (x.toNat : Int) 1 != 0) = x.getLsbD 0 := by
  rw [wv_bit]
  cases x.getLsbD 0 <;> rfl

theorem i64_odd (n : Nat) (h : n < 9223372036854775808) : (bits .and .i64 (n : Int) 1 != 0) = (n % 2 == 1) := by
  have e : bits .and .i64 (n : Int) 1 = ((n % 2 : Nat) : Int) := by
    show IntKind.i64.wrap ((BitVec.ofInt 64 (n : Int) &&& BitVec.ofInt 64 ((1 : Nat) : Int)).toNat : Int) = _
    rw [BitVec.toNat_and, ofInt_u64 n (by omega), ofInt_u64 1 (by omega), nat_mask1, IntKind.wrap_i64]
    omega
  rw [e, Bool.eq_iff_iff]
  simp
  omega

/-- THE TABLE IN MEMORY: for each four lowest bits what they leave. -/
structure Tab (w : World) : Prop where
  lt : 1 < w.heap.size
  at_ : ∀ i, i < 16 → w.cell? ⟨1, i, none⟩ = some (wv (crc.on 4 (BitVec.ofNat 32 i)))
theorem Tab.below {w w' : World} (h : Tab w) (hb : Below w.heap.size w w') : Tab w' :=
  ⟨Nat.lt_of_lt_of_le h.lt hb.size, fun i hi => (hb.cell h.lt).trans (h.at_ i hi)⟩
theorem Tab.drew {w : World} (h : Tab w) : Tab w.drew := ⟨h.lt, h.at_⟩
theorem Tab.drewN {w : World} (h : Tab w) (k : Nat) : Tab (w.drewN k) := ⟨h.lt, h.at_⟩
theorem Tab.alloc {w : World} (h : Tab w) (o : Obj) : Tab (w.alloc o) := h.below ((Below.refl _ _).alloc (Nat.le_refl _) o)

theorem byFour_any (x : crc.W) (w : World) (ht : Tab w) : Calls Tryd.prog 76 #[wv x] w fun e w' => e = .returned (wv (crc.on 4 x)) ∧ w = w' := by
  have e1 : bits .and .u32 (x.toNat : Int) 15 = ((x.toNat % 16 : Nat) : Int) := by
    rw [show (15 : Int) = ((15 : Nat) : Int) from rfl, u32_and_nat _ _ x.isLt (by omega), nat_mask4]
  have hc := ht.at_ (x.toNat % 16) (by omega)
  go_enter Tryd.func76, Tryd.ntmps76
  go_wp2
  go_ret
  refine ⟨wv_ret ?_, rfl⟩
  have e2 : (x.toNat : Int) / (16 : Int) = ((x >>> 4).toNat : Int) := wv_shr x 4
  have e3 : BitVec.ofNat 32 (x.toNat % 16) = x &&& 15#32 := by
    apply BitVec.eq_of_toNat_eq
    rw [BitVec.toNat_ofNat, BitVec.toNat_and, show (15#32 : crc.W).toNat = 15 from rfl, nat_mask4]
    omega
  rw [e2, wv_xor, e3, ← crc.on4]

theorem u8_word (c : UInt8) : (c.toNat : Int) = ((crc.wb c).toNat : Int) := by
  have := c.toNat_lt
  rw [crc.wb, BitVec.toNat_ofNat]
  omega
/-- Into: the rest behind a byte. -/
theorem into_any (x : crc.W) (c : UInt8) (w : World) (ht : Tab w) : Calls Tryd.prog 75 #[wv x, bv c] w fun e w' => e = .returned (wv (crc.into x c)) ∧ w = w' := by
  have hc := c.toNat_lt
  obtain ⟨y, hy⟩ : ∃ y : crc.W, y = x ^^^ crc.wb c := ⟨_, rfl⟩
  have e1 : bits .xor .u32 (x.toNat : Int) (c.toNat : Int) = (y.toNat : Int) := by rw [u8_word, wv_xor, hy]
  have HY := Lib.hid hy
  have h4 := byFour_any y w ht
  obtain ⟨z, hz⟩ : ∃ z : crc.W, z = crc.on 4 y := ⟨_, rfl⟩
  have HZ := Lib.hid hz
  rw [← hz] at h4
  have h5 := byFour_any z w ht
  obtain ⟨u, hu⟩ : ∃ u : crc.W, u = crc.on 4 z := ⟨_, rfl⟩
  have HU := Lib.hid hu
  rw [← hu] at h5
  have H4 := Lib.hid h4
  have H5 := Lib.hid h5
  clear hy hz hu h4 h5
  go_enter Tryd.func75, Tryd.ntmps75
  go_wp2_with fail
  refine H4.out.mono ?_
  rintro e w1 ⟨rfl, rfl⟩
  go_wp2_with fail
  refine H5.out.mono ?_
  rintro e w1 ⟨rfl, rfl⟩
  go_wp2_with fail
  go_ret
  refine ⟨congrArg Ending.returned (congrArg wv ?_), rfl⟩
  rw [HU.out, HZ.out, HY.out, crc.into_four]

theorem wv_not (x : crc.W) : bits .xor .u32 IntKind.u32.max (x.toNat : Int) = ((~~~ x).toNat : Int) := by
  rw [show IntKind.u32.max = ((4294967295#32 : crc.W).toNat : Int) from rfl, wv_xor, show (4294967295#32 : crc.W) = BitVec.allOnes 32 from rfl, BitVec.allOnes_xor]

/-- More: the sum of some bytes and these, of the sum of those. -/
theorem more_any (s : crc.W) (A : Option Addr) (n c : Nat) (l : List UInt8) (w : World) (hB : BS w A n c l) (ht : Tab w) : Calls Tryd.prog 74 #[wv s, .slice A n c] w fun e w' => e = .returned (wv (crc.more s l)) ∧ w = w' := by
  have hl := hB.len
  have hsm := hB.small
  have HL := Lib.hid hl
  clear hl
  go_enter Tryd.func74, Tryd.ntmps74
  go_wp2_with fail
  go_loop [5, 12] (fun r i => ∃ j : Nat, j ≤ n ∧ i = .int .i64 j ∧ r = wv (crc.go (~~~ s) (l.take j))) (fun _ i => n - (intOf i).toNat)
  case atStart => exact ⟨0, by omega, rfl, congrArg (Value.int .u32) (wv_not s)⟩
  case round =>
    obtain ⟨j, hj, rfl, rfl⟩ := hrel
    by_cases hlt : j < n
    · obtain ⟨b, o, rfl, hbl, hcell⟩ := hB.has (by omega)
      have hx := hcell j (by rw [HL.out]; exact hlt)
      generalize hy : l[j]'(by rw [HL.out]; exact hlt) = y at hx
      have hst : l.take (j + 1) = l.take j ++ [y] := by rw [List.take_succ_eq_append_getElem (by rw [HL.out]; exact hlt), hy]
      have HST := Lib.hid hst
      clear hst hy hcell
      go_wp2_with (go_at_call 75; refine (into_any _ y _ ht).mono ?_; rintro e w1 ⟨rfl, rfl⟩)
      go_roundw
      case rel =>
        refine ⟨j + 1, by omega, by go_num, ?_⟩
        rw [HST.out, crc.go_snoc]
      case measure => simp [intOf]; omega
    · obtain rfl : j = n := by omega
      go_wp2
      go_ret
      refine ⟨wv_ret ?_, rfl⟩
      rw [wv_not, List.take_of_length_le (by rw [HL.out]; exact Nat.le_refl _)]
      rfl

/-- Of: the sum. -/
theorem of_any (A : Option Addr) (n c : Nat) (l : List UInt8) (w : World) (h : BS w A n c l) (ht : Tab w) : Calls Tryd.prog 72 #[.slice A n c] w fun e w' => e = .returned (wv (crc.of l)) ∧ w = w' := by
  go_enter Tryd.func72, Tryd.ntmps72
  go_wp2_with (go_at_call 74; refine (more_any 0#32 _ _ _ l _ h ht).mono ?_; rintro e w1 ⟨rfl, rfl⟩)
  go_ret
  exact ⟨rfl, rfl⟩

end Go.Proofs.YthddcaoolaipiaaDoor

/-
  contracts of cardexref03's functions: bit, On, Into, turned, More, Of, Join.
-/
namespace Go.Proofs.YthddcaoolaipiaaDoor
open Go.RowKit

theorem wv_bit_eq (x : crc.W) : (bits .and .u32 (x.toNat : Int) 1 == 0) = !x.getLsbD 0 := by
  rw [wv_bit]
  cases x.getLsbD 0 <;> rfl






end Go.Proofs.YthddcaoolaipiaaDoor

/-
  contracts of cardexref05: ends, Put.
-/
namespace Go.Proofs.YthddcaoolaipiaaDoor
open Go.RowKit

theorem put8 (n : Nat) (h : n < 18446744073709551616) : putOk n 8 = true := by
  simp [putOk, isSz]
  exact h
theorem put4 (n : Nat) (h : n < 4294967296) : putOk n 4 = true := by
  simp [putOk, isSz]
  exact h
theorem bs_of_block5 {W : World} {g : Nat} {e : TypeId} {p : List UInt8} {fr : Nat × Nat} (h : W.heap[g]? = some (.cells ((p.map bv).toArray) e fr)) (n : Nat) (hn : n = p.length) (hs : n ≤ 281474976710656) : BS W (some ⟨g, 0, none⟩) n n p :=
  ⟨hn.symm, Nat.le_refl _, by omega, hs, fun _ => ⟨g, 0, rfl, (Array.getElem?_eq_some_iff.1 h).1, fun i hi => by
    rw [Nat.zero_add, cell_of_row _ _ _ _ _ _ h]
    simp [hi]⟩⟩

theorem bs_take_row {e : TypeId} {w : World} {g : Nat} {bl : List UInt8} (h : RowB e w g bl) (hl : bl.length = 128) {k : Nat} (hk : k ≤ 128) : BS w (some ⟨g, 0, none⟩) k 128 (bl.take k) :=
  ⟨by rw [List.length_take]; omega, hk, by omega, by omega, fun _ => ⟨g, 0, rfl, h.lt, fun i hi => by
    rw [Nat.zero_add, h.cell (i := i) (by rw [List.length_take] at hi; omega), List.getElem_take]⟩⟩
theorem bs_drop_row {e : TypeId} {w : World} {g : Nat} {bl : List UInt8} (h : RowB e w g bl) (hl : bl.length = 128) {k m : Nat} (hk : k + m = 128) : BS w (some ⟨g, k, none⟩) m m (bl.drop k) :=
  ⟨by rw [List.length_drop]; omega, Nat.le_refl _, by omega, by omega, fun _ => ⟨g, k, rfl, h.lt, fun i hi => by
    rw [h.cell (i := k + i) (by rw [List.length_drop] at hi; omega), List.getElem_drop]⟩⟩
end Go.Proofs.YthddcaoolaipiaaDoor

/-
  contracts of cardexref05: Get.
-/
namespace Go.Proofs.YthddcaoolaipiaaDoor
open Go.RowKit

end Go.Proofs.YthddcaoolaipiaaDoor

/-
  contracts of cardexref05: worth, Newest, Next.
-/
namespace Go.Proofs.YthddcaoolaipiaaDoor
open Go.RowKit

namespace sl
theorem worth_lt (b : Blk) : worth b < 18446744073709551616 := by
  unfold worth get
  split
  · exact (by omega : 0 < 18446744073709551616)
  split
  · exact (by omega : 0 < 18446744073709551616)
  · exact number_lt b
end sl
end Go.Proofs.YthddcaoolaipiaaDoor

/-
  contracts of cardexref06: May, number, Put.
-/
namespace Go.Proofs.YthddcaoolaipiaaDoor
open Go.RowKit

/-- A HEAD IN MEMORY -/
def HM (E : TypeId) (w : World) (g : Nat) (h : hd.H) : Prop := w.heap[g]? = some (.cells #[bv h.bank, .int .u32 h.blocks, .int .u32 h.batches] E (0, 0))
namespace HM
variable {E : TypeId} {w w' : World} {g : Nat} {h : hd.H}
theorem lt (m : HM E w g h) : g < w.heap.size := (Array.getElem?_eq_some_iff.1 m).1
theorem c0 (m : HM E w g h) : w.cell? ⟨g, 0, none⟩ = some (bv h.bank) := by rw [cell_of_row _ _ 0 _ _ _ m]; rfl
theorem c1 (m : HM E w g h) : w.cell? ⟨g, 1, none⟩ = some (.int .u32 h.blocks) := by rw [cell_of_row _ _ 1 _ _ _ m]; rfl
theorem c2 (m : HM E w g h) : w.cell? ⟨g, 2, none⟩ = some (.int .u32 h.batches) := by rw [cell_of_row _ _ 2 _ _ _ m]; rfl
set_option maxRecDepth 100000 in
theorem fz (m : HM E w g h) (i : Nat) : w.frozen? ⟨g, i, none⟩ = false := by
  unfold HM at m
  simp [World.frozen?, m]
theorem drew (m : HM E w g h) : HM E w.drew g h := m
theorem below {B : Nat} (m : HM E w g h) (hb : Below B w w') (hB : g < B) : HM E w' g h := (hb.block g hB).trans m
theorem alloc (m : HM E w g h) (o : Obj) : HM E (w.alloc o) g h := (Below.heap_alloc w o g m.lt).trans m
theorem new (w : World) (E : TypeId) (h : hd.H) : HM E (w.alloc (.cells #[bv h.bank, .int .u32 h.blocks, .int .u32 h.batches] E)) w.heap.size h := heap_alloc_new w _
theorem chg {F : List Nat} (m : HM E w g h) (hc : Chg w w' F) (hF : g ∉ F) : HM E w' g h := (hc.block g m.lt hF).trans m
theorem range (m : HM E w g h) : w.rangeAt g 0 (hd.cells h) := range_of m 0 _ fun j v hj => by rw [Nat.zero_add]; exact hj
end HM
theorem info_head : (Tryd.prog.info? 51).map (fun i => (i.zero, i.size)) = some (some (hd.val hd.zero), 3) := by kernel_rfl



set_option maxRecDepth 100000 in
theorem own_one (w : World) (e : TypeId) (x : UInt8) (B : Nat) (hB : B ≤ w.heap.size) : OwnB e (w.alloc (.cells #[bv x] e)) B (.slice (some ⟨w.heap.size, 0, none⟩) 1 1) [x] :=
  .inr ⟨w.heap.size, [], rfl, hB, heap_alloc_new w _, by simp, by simp⟩
end Go.Proofs.YthddcaoolaipiaaDoor
