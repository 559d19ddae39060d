/-
  PURE: sealed blocks: a number, a body, their sum, what is left of the number; what a block tells; what is true of them. No program is named here.
-/
import Derived.Test.YtiiigbhkbpdciaaDoorBase
import Derived.Test.YtiiigbhkbpdciaaDoorCrcL
import Derived.Test.YtiiigbhkbpdciaaDoorDiskL
namespace Go.Proofs.YtiiigbhkbpdciaaDoor

/-! ### Numbers and their bytes -/
theorem leVal_bytes (n : Nat) : ∀ k, leVal (leBytes n k) = n % 2 ^ (8 * k)
  | 0 => by simp [leBytes, leVal, Nat.mod_one]
  | k + 1 => by
    rw [leBytes, leVal_snoc, leVal_bytes n k, leBytes_length, UInt8.toNat_ofNat', show 8 * (k + 1) = 8 * k + 8 from by omega, Nat.pow_add, Nat.mod_mul]
    rw [Nat.mul_comm (n / 2 ^ (8 * k) % 2 ^ 8)]
theorem leBytes_get (n : Nat) : ∀ (k i : Nat), i < k → (leBytes n k)[i]? = some (UInt8.ofNat (n / 2 ^ (8 * i)))
  | 0, i, h => by omega
  | k + 1, i, h => by
    rw [leBytes]
    by_cases hi : i < k
    · rw [List.getElem?_append_left (by rw [leBytes_length]; exact hi)]
      exact leBytes_get n k i hi
    · obtain rfl : i = k := by omega
      rw [List.getElem?_append_right (by rw [leBytes_length]; omega), leBytes_length, Nat.sub_self]
      rfl
theorem leBytes_congr {n m : Nat} : ∀ (k : Nat), n % 2 ^ (8 * k) = m % 2 ^ (8 * k) → leBytes n k = leBytes m k
  | 0, _ => rfl
  | k + 1, h => by
    have e : 2 ^ (8 * (k + 1)) = 2 ^ (8 * k) * 256 := by rw [show 8 * (k + 1) = 8 * k + 8 from by omega, Nat.pow_add]
    rw [e, Nat.mod_mul, Nat.mod_mul] at h
    have hp : 0 < 2 ^ (8 * k) := Nat.pow_pos (by omega)
    have h1 : n % 2 ^ (8 * k) = m % 2 ^ (8 * k) := by
      have := congrArg (· % 2 ^ (8 * k)) h
      simpa [Nat.add_mul_mod_self_left, Nat.mod_mod] using this
    have h2 : n / 2 ^ (8 * k) % 256 = m / 2 ^ (8 * k) % 256 := by
      rw [h1] at h
      exact Nat.eq_of_mul_eq_mul_left hp (by omega)
    rw [leBytes, leBytes, leBytes_congr k h1]
    congr 2
    apply UInt8.toNat_inj.1
    rw [UInt8.toNat_ofNat', UInt8.toNat_ofNat']
    exact h2
theorem leBytes_val : ∀ (l : List UInt8) (k : Nat), l.length = k → leBytes (leVal l) k = l := by
  intro l k
  induction k generalizing l with
  | zero => intro h; rw [List.eq_nil_of_length_eq_zero h]; rfl
  | succ k ih =>
    intro h
    obtain ⟨r, x, rfl⟩ : ∃ r x, l = r ++ [x] := ⟨l.dropLast, l.getLast (fun e => by rw [e] at h; simp at h), (List.dropLast_concat_getLast _).symm⟩
    have hr : r.length = k := by simpa using h
    have hlt := leVal_lt r
    rw [hr] at hlt
    have hp : 0 < 2 ^ (8 * k) := Nat.pow_pos (by omega)
    rw [leVal_snoc, hr, leBytes, leBytes_congr (m := leVal r) k (by rw [Nat.mul_comm, Nat.add_mul_mod_self_left]), ih r hr]
    congr 2
    rw [Nat.mul_comm x.toNat, Nat.add_mul_div_left _ _ hp, Nat.div_eq_of_lt hlt, Nat.zero_add]
    simp
theorem leVal_inj {l m : List UInt8} (h : l.length = m.length) (e : leVal l = leVal m) : l = m := by
  rw [← leBytes_val l l.length rfl, e, h, leBytes_val m m.length rfl]
theorem not_byte (n i : Nat) (hn : n < 18446744073709551616) (hi : i < 8) : UInt8.ofNat ((18446744073709551615 - n) / 2 ^ (8 * i)) = ~~~ UInt8.ofNat (n / 2 ^ (8 * i)) := by
  have hx : ∀ x : UInt8, (~~~ x).toNat = 255 - x.toNat := fun x => by
    simp [UInt8.toNat_not]
  apply UInt8.toNat_inj.1
  rw [hx, UInt8.toNat_ofNat', UInt8.toNat_ofNat']
  have hcs : i = 0 ∨ i = 1 ∨ i = 2 ∨ i = 3 ∨ i = 4 ∨ i = 5 ∨ i = 6 ∨ i = 7 := by omega
  rcases hcs with rfl | rfl | rfl | rfl | rfl | rfl | rfl | rfl <;> simp only [Nat.reduceMul, Nat.reducePow] <;> omega

namespace crc
/-- one byte -/
theorem side1 (ahead behind : List UInt8) (a b : UInt8) (h : of (ahead ++ [a] ++ behind) = of (ahead ++ [b] ++ behind)) : a = b := by
  have := side (ahead) (behind) a 0 0 0 b 0 0 0
  unfold of at h
  rw [more_append, more_append 0#32 (ahead ++ [b])] at h
  have h1 := more_inj _ _ _ h
  rw [more_append, more_append 0#32 ahead] at h1
  have h2 : go (~~~ more 0#32 ahead) [a] = go (~~~ more 0#32 ahead) [b] := by
    have h3 := congrArg (fun z : W => ~~~ z) h1
    simpa only [more, BitVec.not_not] using h3
  have h3 : on 8 (~~~ more 0#32 ahead ^^^ wb a) = on 8 (~~~ more 0#32 ahead ^^^ wb b) := h2
  have h4 := congrArg (fun z : W => z ^^^ ~~~ more 0#32 ahead) (on_inj _ _ _ h3)
  simp only [BitVec.xor_comm _ (wb a), BitVec.xor_comm _ (wb b), xor_two] at h4
  have h5 := congrArg BitVec.toNat h4
  simp only [wb, BitVec.toNat_ofNat] at h5
  have ha := a.toNat_lt
  have hb := b.toNat_lt
  exact UInt8.toNat_inj.1 (by omega)
end crc

namespace sl
abbrev Blk := dk.Blk
/-- the number and the body, filled up -/
def head (n : Nat) (body : List UInt8) : List UInt8 := leBytes n 8 ++ (body ++ List.replicate (108 - body.length) 0)
/-- what is left of the number -/
def last (n : Nat) : List UInt8 := leBytes (18446744073709551615 - n) 8
def sealB (n : Nat) (body : List UInt8) : Blk := head n body ++ (leBytes (crc.of (head n body)).toNat 4 ++ last n)
def put (n : Nat) (body : List UInt8) : Blk × Int := if n = 0 then (dk.zero, 2) else if 108 < body.length then (dk.zero, 3) else (sealB n body, 0)
def number (b : Blk) : Nat := leVal (b.take 8)
def get (b : Blk) : Nat × List UInt8 × Int :=
  if number b = 0 ∨ b.drop 120 ≠ last (number b) then (0, [], 5)
  else if leVal ((b.drop 116).take 4) ≠ (crc.of (b.take 116)).toNat then (0, [], 6)
  else (number b, (b.drop 8).take 108, 0)
def worth (b : Blk) : Nat := (get b).1
def newest (a b : Blk) : Int × Int := if worth a = 0 ∧ worth b = 0 then (0, 7) else if worth a < worth b then (1, 0) else (0, 0)
def next (a b : Blk) : Int := if 0 < worth a ∧ worth b ≤ worth a then 1 else 0

theorem head_length (n : Nat) {body : List UInt8} (h : body.length ≤ 108) : (head n body).length = 116 := by
  simp [head, leBytes_length]
  omega
theorem last_length (n : Nat) : (last n).length = 8 := leBytes_length _ _
theorem seal_length (n : Nat) {body : List UInt8} (h : body.length ≤ 108) : (sealB n body).length = 128 := by
  rw [sealB, List.length_append, List.length_append, head_length n h, leBytes_length, last_length]
theorem seal_take116 (n : Nat) {body : List UInt8} (h : body.length ≤ 108) : (sealB n body).take 116 = head n body := List.take_left' (head_length n h)
theorem seal_drop116 (n : Nat) {body : List UInt8} (h : body.length ≤ 108) : (sealB n body).drop 116 = leBytes (crc.of (head n body)).toNat 4 ++ last n := List.drop_left' (head_length n h)
theorem seal_drop120 (n : Nat) {body : List UInt8} (h : body.length ≤ 108) : (sealB n body).drop 120 = last n := by
  rw [show 120 = 116 + 4 from rfl, ← List.drop_drop, seal_drop116 n h]
  exact List.drop_left' (leBytes_length _ _)
theorem seal_take8 (n : Nat) {body : List UInt8} (h : body.length ≤ 108) : (sealB n body).take 8 = leBytes n 8 := by
  have e : (sealB n body).take 8 = ((sealB n body).take 116).take 8 := by rw [List.take_take]; congr 1
  rw [e, seal_take116 n h]
  exact List.take_left' (leBytes_length _ _)
theorem seal_number {n : Nat} (hn : n < 18446744073709551616) {body : List UInt8} (h : body.length ≤ 108) : number (sealB n body) = n := by
  rw [number, seal_take8 n h, leVal_bytes]
  exact Nat.mod_eq_of_lt hn
theorem of_lt (l : List UInt8) : (crc.of l).toNat < 4294967296 := (crc.of l).isLt
/-- GET TELLS WHAT WAS PUT -/
theorem get_seal {n : Nat} (h0 : 0 < n) (hn : n < 18446744073709551616) {body : List UInt8} (h : body.length ≤ 108) : get (sealB n body) = (n, body ++ List.replicate (108 - body.length) 0, 0) := by
  have e1 := seal_number hn h
  have e2 : leVal (((sealB n body).drop 116).take 4) = (crc.of ((sealB n body).take 116)).toNat := by
    rw [seal_drop116 n h, List.take_left' (leBytes_length _ _), leVal_bytes, seal_take116 n h]
    exact Nat.mod_eq_of_lt (of_lt _)
  have e3 : ((sealB n body).drop 8).take 108 = body ++ List.replicate (108 - body.length) 0 := by
    rw [List.take_drop, show 8 + 108 = 116 from rfl, seal_take116 n h, head]
    exact List.drop_left' (leBytes_length _ _)
  unfold get
  rw [e1, if_neg (by rw [seal_drop120 n h]; simp; omega), if_neg (by rw [e2]; simp), e3]
/-- WHAT IS SEALED IS ONE THAT WAS PUT -/
theorem get_ok {b : Blk} (h : (get b).2.2 = 0) : 0 < number b ∧ b.drop 120 = last (number b) ∧ leVal ((b.drop 116).take 4) = (crc.of (b.take 116)).toNat ∧ get b = (number b, (b.drop 8).take 108, 0) := by
  unfold get at h ⊢
  split at h
  · simp at h
  · next h1 =>
    split at h
    · simp at h
    · next h2 =>
      rw [if_neg h1, if_neg h2]
      refine ⟨?_, ?_, ?_, rfl⟩
      · rcases Nat.eq_zero_or_pos (number b) with h | h
        · exact absurd (.inl h) h1
        · exact h
      · exact Decidable.byContradiction fun h => h1 (.inr h)
      · exact Decidable.byContradiction fun h => h2 h
theorem number_lt (b : Blk) : number b < 18446744073709551616 := by
  have h := leVal_lt (b.take 8)
  have h8 : (b.take 8).length ≤ 8 := by rw [List.length_take]; omega
  refine Nat.lt_of_lt_of_le h ?_
  exact Nat.pow_le_pow_right (by omega) (show 8 * (b.take 8).length ≤ 64 by omega)
theorem ok_seal {b : Blk} (hb : b.length = 128) (h : (get b).2.2 = 0) : b = sealB (number b) ((b.drop 8).take 108) := by
  obtain ⟨_, h1, h2, _⟩ := get_ok h
  have hbl : ((b.drop 8).take 108).length = 108 := by rw [List.length_take, List.length_drop]; omega
  have e0 : leBytes (number b) 8 = b.take 8 := leBytes_val _ _ (by rw [List.length_take]; omega)
  have e1 : head (number b) ((b.drop 8).take 108) = b.take 116 := by
    unfold head
    have e : b.take 8 = (b.take 116).take 8 := by rw [List.take_take]; congr 1
    rw [hbl, Nat.sub_self, List.replicate_zero, List.append_nil, e0, List.take_drop, e]
    exact List.take_append_drop 8 (b.take 116)
  have e2 : leBytes (crc.of (b.take 116)).toNat 4 = (b.drop 116).take 4 := by
    rw [← h2]
    exact leBytes_val _ _ (by rw [List.length_take, List.length_drop]; omega)
  rw [sealB, e1, e2, ← h1]
  conv => lhs; rw [← List.take_append_drop 116 b, ← List.take_append_drop 4 (b.drop 116), List.drop_drop]

/-! ### One byte changed -/
theorem list_split {α : Type} (l : List α) (k : Nat) (h : k < l.length) (x : α) : l = l.take k ++ ([l[k]] ++ l.drop (k + 1)) ∧ l.set k x = l.take k ++ ([x] ++ l.drop (k + 1)) := by
  refine ⟨?_, ?_⟩
  · rw [List.singleton_append, ← List.drop_eq_getElem_cons h, List.take_append_drop]
  · rw [List.set_eq_take_append_cons_drop, if_pos h]
    rfl
theorem xor_ne (x y : UInt8) (h : x ^^^ y = x) : y = 0 := by
  have e : x ^^^ (x ^^^ y) = x ^^^ x := by rw [h]
  rw [← UInt8.xor_assoc, UInt8.xor_self, UInt8.zero_xor] at e
  exact e
/-- A SEALED BLOCK IN WHICH ONE BYTE IS CHANGED IS REFUSED -/
theorem changed {b : Blk} (hb : b.length = 128) (h : (get b).2.2 = 0) (k : Nat) (hk : k < 128) (x : UInt8) (h' : (get (b.set k x)).2.2 = 0) : b.set k x = b := by
  obtain ⟨_, a1, a2, _⟩ := get_ok h
  obtain ⟨_, b1, b2, _⟩ := get_ok h'
  have hl : (b.set k x).length = 128 := by rw [List.length_set]; exact hb
  have hnum : ∀ c : Blk, c.length = 128 → c.take 8 = leBytes (number c) 8 := fun c hc => (leBytes_val _ _ (by rw [List.length_take]; omega)).symm
  have hin : ∀ {n m : Nat}, n < 18446744073709551616 → m < 18446744073709551616 → last n = last m → n = m := fun {n m} hn hm e => by
    have := congrArg leVal e
    rw [last, last, leVal_bytes, leVal_bytes, Nat.mod_eq_of_lt (by omega), Nat.mod_eq_of_lt (by omega)] at this
    omega
  by_cases h1 : k < 8
  · have e : (b.set k x).drop 120 = b.drop 120 := List.drop_set_of_lt (by omega)
    rw [e, a1] at b1
    have hn := hin (number_lt b) (number_lt _) b1
    have e2 : (b.set k x).take 8 = b.take 8 := by rw [hnum _ hl, hnum _ hb, hn]
    have e3 : (b.set k x).drop 8 = b.drop 8 := List.drop_set_of_lt (by omega)
    rw [← List.take_append_drop 8 (b.set k x), e2, e3, List.take_append_drop]
  · have ht : (b.set k x).take 8 = b.take 8 := List.take_set_of_le (by omega)
    have hn : number (b.set k x) = number b := by rw [number, number, ht]
    by_cases h2 : 120 ≤ k
    · rw [hn, ← a1] at b1
      have e2 : (b.set k x).take 120 = b.take 120 := List.take_set_of_le (by omega)
      rw [← List.take_append_drop 120 (b.set k x), e2, b1, List.take_append_drop]
    · by_cases h3 : 116 ≤ k
      · have e2 : (b.set k x).take 116 = b.take 116 := List.take_set_of_le (by omega)
        rw [e2, ← a2] at b2
        have e3 := leVal_inj (by simp only [List.length_take, List.length_drop, List.length_set]) b2
        have e4 : (b.set k x).drop 120 = b.drop 120 := List.drop_set_of_lt (by omega)
        rw [← List.take_append_drop 116 (b.set k x), ← List.take_append_drop 4 ((b.set k x).drop 116), e2, e3, List.drop_drop, e4, show b.drop 120 = (b.drop 116).drop 4 from by rw [List.drop_drop], List.take_append_drop, List.take_append_drop]
      · have e1 : (b.set k x).drop 116 = b.drop 116 := List.drop_set_of_lt (by omega)
        rw [e1, a2] at b2
        have e2 : crc.of (b.take 116) = crc.of ((b.set k x).take 116) := BitVec.eq_of_toNat_eq b2
        have hk2 : k < (b.take 116).length := by rw [List.length_take]; omega
        obtain ⟨s1, s2⟩ := list_split (b.take 116) k hk2 x
        have e3 : (b.set k x).take 116 = (b.take 116).set k x := List.take_set ..
        rw [e3, s2, ← List.append_assoc] at e2
        conv at e2 => lhs; rw [s1, ← List.append_assoc]
        have e4 := crc.side1 _ _ _ _ e2
        rw [List.getElem_take] at e4
        rw [← e4]
        exact List.set_getElem_self _

/-! ### Beginnings -/
/-- a block whose bytes are of blocks that were sealed, of later ones ahead: f tells, of each place, whose it is (0: none's) -/
structure Mix (was : List Blk) (b : Blk) : Prop where
  len : b.length = 128
  src : ∃ f : Nat → Nat, (∀ p q, p ≤ q → f q ≤ f p) ∧ (∀ p, f p ≤ was.length) ∧ ∀ p, p < 128 → b.getD p 0 = if f p = 0 then 0 else (was.getD (f p - 1) dk.zero).getD p 0
theorem Mix.none_ : Mix [] dk.zero := ⟨List.length_replicate, fun _ => 0, fun _ _ _ => Nat.le_refl _, fun _ => Nat.le_refl _, fun p hp => by rw [if_pos rfl, List.getD_eq_getElem?_getD, dk.zero, List.getElem?_replicate, if_pos hp]; rfl⟩
theorem torn_getD (old now : Blk) (at_ : Int) (hn : now.length = 128) (p : Nat) (hp : p < 128) : (dk.torn old now at_).getD p 0 = if p < at_.toNat then now.getD p 0 else old.getD p 0 := by
  unfold dk.torn
  simp only [List.getD_eq_getElem?_getD]
  by_cases h : p < at_.toNat
  · rw [if_pos h, List.getElem?_append_left (by rw [List.length_take]; omega), List.getElem?_take_of_lt h]
  · rw [if_neg h, List.getElem?_append_right (by rw [List.length_take]; omega), List.getElem?_drop, List.length_take]
    congr 2
    omega
theorem Mix.step {was : List Blk} {b x : Blk} (h : Mix was b) (hx : x.length = 128) (at_ : Int) : Mix (was ++ [x]) (dk.torn b x at_) := by
  obtain ⟨f, h1, h2, h3⟩ := h.src
  refine ⟨dk.torn_length _ h.len hx, fun p => if p < at_.toNat then was.length + 1 else f p, fun p q hpq => ?_, fun p => ?_, fun p hp => ?_⟩
  · by_cases hq : q < at_.toNat
    · simp only [if_pos hq, if_pos (show p < at_.toNat by omega)]
      exact Nat.le_refl _
    · simp only [if_neg hq]
      split
      · have := h2 q; omega
      · exact h1 p q hpq
  · simp only [List.length_append, List.length_singleton]
    split
    · exact Nat.le_refl _
    · have := h2 p; omega
  · rw [torn_getD b x at_ hx p hp]
    by_cases ha : p < at_.toNat
    · simp only [if_pos ha, if_neg (Nat.succ_ne_zero _), Nat.add_sub_cancel]
      congr 1
      rw [List.getD_eq_getElem?_getD, List.getElem?_append_right (Nat.le_refl _), Nat.sub_self]
      rfl
    · simp only [if_neg ha]
      rw [h3 p hp]
      split
      · rfl
      · next hz =>
        congr 1
        have := h2 p
        rw [List.getD_eq_getElem?_getD, List.getD_eq_getElem?_getD, List.getElem?_append_left (by omega)]
/-- the blocks that were there as a whole: numbers that are not far from each other, none twice -/
structure Were (was : List Blk) (num : Nat → Nat) : Prop where
  sealed : ∀ i, i < was.length → ∃ body : List UInt8, body.length ≤ 108 ∧ was.getD i dk.zero = sealB (num i) body
  pos : ∀ i, i < was.length → 0 < num i
  top : ∀ i, i < was.length → num i < 2305843009213693952
  near : ∀ i j, i < was.length → j < was.length → num i < num j + 256
  once : ∀ i j, i < was.length → j < was.length → num i = num j → i = j
theorem seal_first {n : Nat} {body : List UInt8} (h : body.length ≤ 108) {k : Nat} (hk : k < 8) : (sealB n body).getD k 0 = UInt8.ofNat (n / 2 ^ (8 * k)) := by
  have e : (sealB n body)[k]? = ((sealB n body).take 8)[k]? := (List.getElem?_take_of_lt hk).symm
  rw [List.getD_eq_getElem?_getD, e, seal_take8 n h, leBytes_get n 8 k hk]
  rfl
theorem seal_last {n : Nat} (hn : n < 18446744073709551616) {body : List UInt8} (h : body.length ≤ 108) {k : Nat} (hk : k < 8) : (sealB n body).getD (120 + k) 0 = ~~~ (sealB n body).getD k 0 := by
  have e : (sealB n body)[120 + k]? = ((sealB n body).drop 120)[k]? := by rw [List.getElem?_drop]
  rw [seal_first h hk, List.getD_eq_getElem?_getD, e, seal_drop120 n h, last, leBytes_get _ 8 k hk]
  exact not_byte n k hn hk
/-- the end of a sealed block is what is left of its beginning -/
theorem ok_ends {b : Blk} (hb : b.length = 128) (h : (get b).2.2 = 0) {k : Nat} (hk : k < 8) : b.getD (120 + k) 0 = ~~~ b.getD k 0 := by
  rw [ok_seal hb h]
  exact seal_last (number_lt b) (by rw [List.length_take, List.length_drop]; omega) hk
theorem getD_ext {a b : Blk} (ha : a.length = 128) (hb : b.length = 128) (h : ∀ p, p < 128 → a.getD p 0 = b.getD p 0) : a = b := by
  apply List.ext_getElem?
  intro i
  by_cases hi : i < 128
  · have := h i hi
    rw [List.getD_eq_getElem?_getD, List.getD_eq_getElem?_getD, List.getElem?_eq_getElem (by omega), List.getElem?_eq_getElem (by omega)] at this
    rw [List.getElem?_eq_getElem (by omega), List.getElem?_eq_getElem (by omega)]
    exact congrArg some this
  · rw [List.getElem?_eq_none (by omega), List.getElem?_eq_none (by omega)]
/-- WHAT IS SEALED IS ONE THAT WAS THERE AS A WHOLE -/
theorem Mix.whole {was : List Blk} {num : Nat → Nat} {b : Blk} (h : Mix was b) (hw : Were was num) (hok : (get b).2.2 = 0) : ∃ i, i < was.length ∧ b = was.getD i dk.zero := by
  obtain ⟨f, f1, f2, f3⟩ := h.src
  have hends := fun k hk => ok_ends h.len hok (k := k) hk
  have hby : ∀ p, p < 128 → ∀ i, f p = i + 1 → b.getD p 0 = (was.getD i dk.zero).getD p 0 := fun p hp i hi => by
    rw [f3 p hp, hi, if_neg (Nat.succ_ne_zero _), Nat.add_sub_cancel]
  have hz : ∀ p, p < 128 → f p = 0 → b.getD p 0 = 0 := fun p hp hi => by rw [f3 p hp, if_pos hi]
  cases h120 : f 120 with
  | zero =>
    have h7 := hends 7 (by omega)
    rw [hz 127 (by omega) (by have := f1 120 127 (by omega); omega)] at h7
    have h7' : b.getD 7 0 = 255 := by
      have : ~~~ (~~~ b.getD 7 0) = ~~~ (0 : UInt8) := by rw [← h7]
      rw [UInt8.not_not] at this
      rw [this]; decide
    cases hf7 : f 7 with
    | zero => rw [hz 7 (by omega) hf7] at h7'; exact absurd h7' (by decide)
    | succ i =>
      have hi : i < was.length := by have := f2 7; omega
      obtain ⟨body, hbl, he⟩ := hw.sealed i hi
      rw [hby 7 (by omega) i hf7, he, seal_first hbl (by omega)] at h7'
      have ht := hw.top i hi
      have h8 := congrArg UInt8.toNat h7'
      rw [UInt8.toNat_ofNat'] at h8
      simp only [Nat.reduceMul, Nat.reducePow] at h8
      have h9 : (255 : UInt8).toNat = 255 := by decide
      omega
  | succ i =>
    have hi : i < was.length := by have := f2 120; omega
    obtain ⟨body, hbl, he⟩ := hw.sealed i hi
    cases hf0 : f 0 with
    | zero => have := f1 0 120 (by omega); omega
    | succ j =>
      have hj : j < was.length := by have := f2 0; omega
      obtain ⟨body', hbl', he'⟩ := hw.sealed j hj
      have h0 := hends 0 (by omega)
      have hti := hw.top i hi
      rw [hby 120 (by omega) i h120, hby 0 (by omega) j hf0, he, he', seal_last (k := 0) (by omega) hbl (by omega)] at h0
      have h1 : (sealB (num i) body).getD 0 0 = (sealB (num j) body').getD 0 0 := by
        have := congrArg (~~~ ·) h0
        simpa only [UInt8.not_not] using this
      rw [seal_first hbl (by omega), seal_first hbl' (by omega)] at h1
      have h2 := congrArg UInt8.toNat h1
      rw [UInt8.toNat_ofNat', UInt8.toNat_ofNat'] at h2
      simp only [Nat.mul_zero, Nat.pow_zero, Nat.div_one, Nat.reducePow] at h2
      have n1 := hw.near i j hi hj
      have n2 := hw.near j i hj hi
      have hij : i = j := hw.once i j hi hj (by omega)
      subst hij
      have hbel : ∀ p, p ≤ 120 → b.getD p 0 = (was.getD i dk.zero).getD p 0 := fun p hp => hby p (by omega) i (by have := f1 0 p (by omega); have := f1 p 120 hp; omega)
      refine ⟨i, hi, getD_ext h.len (by rw [he]; exact seal_length _ hbl) fun p hp => ?_⟩
      by_cases hp2 : p ≤ 120
      · exact hbel p hp2
      · obtain ⟨k, rfl⟩ : ∃ k, p = 120 + k := ⟨p - 120, by omega⟩
        rw [hends k (by omega), hbel k (by omega), he, seal_last (by omega) hbl (by omega)]

/-! ### A block that is laid place by place -/
def spot (first body sum last : List UInt8) (j1 j2 j3 p : Nat) : UInt8 :=
  if p < 8 then (if p < j1 then first.getD p 0 else 0) else if p < 116 then (if p - 8 < j2 then body.getD (p - 8) 0 else 0)
  else if p < 120 then (if p - 116 < j3 then sum.getD (p - 116) 0 else 0) else (if p - 120 < j1 then last.getD (p - 120) 0 else 0)
theorem getD_left {l m : List UInt8} {p : Nat} (h : p < l.length) : (l ++ m).getD p 0 = l.getD p 0 := by
  rw [List.getD_eq_getElem?_getD, List.getElem?_append_left h, List.getD_eq_getElem?_getD]
theorem getD_right {l m : List UInt8} {p : Nat} (h : l.length ≤ p) : (l ++ m).getD p 0 = m.getD (p - l.length) 0 := by
  rw [List.getD_eq_getElem?_getD, List.getElem?_append_right h, List.getD_eq_getElem?_getD]
theorem getD_over {l : List UInt8} {p : Nat} (h : l.length ≤ p) : l.getD p 0 = 0 := by
  rw [List.getD_eq_getElem?_getD, List.getElem?_eq_none h]; rfl
theorem head_spot (n : Nat) {body : List UInt8} (sum last : List UInt8) (j3 p : Nat) (hp : p < 116) : (head n body).getD p 0 = spot (leBytes n 8) body sum last 8 body.length j3 p := by
  unfold head spot
  by_cases h1 : p < 8
  · rw [if_pos h1, if_pos h1, getD_left (by rw [leBytes_length]; exact h1)]
  · rw [if_neg h1, if_pos hp, getD_right (by rw [leBytes_length]; omega), leBytes_length]
    by_cases h2 : p - 8 < body.length
    · rw [if_pos h2, getD_left h2]
    · rw [if_neg h2, getD_right (by omega), List.getD_eq_getElem?_getD, List.getElem?_replicate]
      split <;> rfl
theorem seal_spot (n : Nat) {body : List UInt8} (h : body.length ≤ 108) (p : Nat) (hp : p < 128) : (sealB n body).getD p 0 = spot (leBytes n 8) body (leBytes (crc.of (head n body)).toNat 4) (last n) 8 body.length 4 p := by
  have hl := head_length n h
  by_cases h1 : p < 116
  · rw [sealB, getD_left (by omega)]
    exact head_spot n _ _ _ p h1
  · rw [sealB, getD_right (by omega), hl]
    unfold spot
    rw [if_neg (by omega), if_neg h1]
    by_cases h2 : p < 120
    · rw [if_pos h2, if_pos (by omega), getD_left (by rw [leBytes_length]; omega)]
    · rw [if_neg h2, if_pos (by omega), getD_right (by rw [leBytes_length]; omega), leBytes_length, show p - 116 - 4 = p - 120 from by omega]
theorem getD_set (l : List UInt8) (i p : Nat) (x : UInt8) (hi : i < l.length) : (l.set i x).getD p 0 = if p = i then x else l.getD p 0 := by
  simp only [List.getD_eq_getElem?_getD, List.getElem?_set]
  by_cases h : i = p
  · rw [if_pos h, if_pos h.symm, if_pos (by omega)]; rfl
  · rw [if_neg h, if_neg (fun e => h e.symm)]
theorem take_head {bl : List UInt8} {n : Nat} {body sum last : List UInt8} (hb : body.length ≤ 108) (hl : bl.length = 128) (h : ∀ p, p < 128 → bl.getD p 0 = spot (leBytes n 8) body sum last 8 body.length 0 p) : bl.take 116 = head n body := by
  apply List.ext_getElem?
  intro i
  by_cases hi : i < 116
  · have h1 := h i (by omega)
    rw [← head_spot n sum last 0 i hi, List.getD_eq_getElem?_getD, List.getD_eq_getElem?_getD, List.getElem?_eq_getElem (by omega), List.getElem?_eq_getElem (by rw [head_length n hb]; exact hi)] at h1
    rw [List.getElem?_take_of_lt hi, List.getElem?_eq_getElem (by omega), List.getElem?_eq_getElem (by rw [head_length n hb]; exact hi)]
    exact congrArg some h1
  · rw [List.getElem?_eq_none (by rw [List.length_take]; omega), List.getElem?_eq_none (by rw [head_length n hb]; omega)]
theorem spot_zero (first body sum last : List UInt8) (p : Nat) (hp : p < 128) : (dk.zero).getD p 0 = spot first body sum last 0 0 0 p := by
  rw [List.getD_eq_getElem?_getD, dk.zero, List.getElem?_replicate, if_pos hp]
  unfold spot
  simp
theorem spot_one {first body sum last : List UInt8} {bl : List UInt8} {j : Nat} (hl : bl.length = 128) (h : ∀ p, p < 128 → bl.getD p 0 = spot first body sum last j 0 0 p) (hj : j < 8) :
    ∀ p, p < 128 → ((bl.set j (first.getD j 0)).set (120 + j) (last.getD j 0)).getD p 0 = spot first body sum last (j + 1) 0 0 p := fun p hp => by
  rw [getD_set _ _ _ _ (by rw [List.length_set]; omega), getD_set _ _ _ _ (by omega), h p hp]
  unfold spot
  by_cases h1 : p = 120 + j
  · subst h1
    rw [if_pos rfl, if_neg (by omega), if_neg (by omega), if_neg (by omega), if_pos (by omega), Nat.add_sub_cancel_left]
  · rw [if_neg h1]
    by_cases h2 : p = j
    · subst h2
      rw [if_pos rfl, if_pos hj, if_pos (by omega)]
    · rw [if_neg h2]
      by_cases h3 : p < 8
      · rw [if_pos h3, if_pos h3]
        by_cases h4 : p < j
        · rw [if_pos h4, if_pos (by omega)]
        · rw [if_neg h4, if_neg (by omega)]
      · rw [if_neg h3, if_neg h3]
        by_cases h4 : p < 116
        · rw [if_pos h4, if_pos h4]
        · rw [if_neg h4, if_neg h4]
          by_cases h5 : p < 120
          · rw [if_pos h5, if_pos h5]
          · rw [if_neg h5, if_neg h5]
            by_cases h6 : p - 120 < j
            · rw [if_pos h6, if_pos (by omega)]
            · rw [if_neg h6, if_neg (by omega)]
theorem spot_two {first body sum last : List UInt8} {bl : List UInt8} {j : Nat} (hl : bl.length = 128) (h : ∀ p, p < 128 → bl.getD p 0 = spot first body sum last 8 j 0 p) (hj : j < 108) :
    ∀ p, p < 128 → (bl.set (8 + j) (body.getD j 0)).getD p 0 = spot first body sum last 8 (j + 1) 0 p := fun p hp => by
  rw [getD_set _ _ _ _ (by omega), h p hp]
  unfold spot
  by_cases h1 : p = 8 + j
  · subst h1
    rw [if_pos rfl, if_neg (by omega), if_pos (by omega), if_pos (by omega), Nat.add_sub_cancel_left]
  · rw [if_neg h1]
    by_cases h3 : p < 8
    · rw [if_pos h3, if_pos h3, if_pos h3]
    · rw [if_neg h3, if_neg h3]
      by_cases h4 : p < 116
      · rw [if_pos h4, if_pos h4]
        by_cases h6 : p - 8 < j
        · rw [if_pos h6, if_pos (by omega)]
        · rw [if_neg h6, if_neg (by omega)]
      · rw [if_neg h4, if_neg h4]
theorem spot_three {first body sum last : List UInt8} {bl : List UInt8} {m j : Nat} (hl : bl.length = 128) (h : ∀ p, p < 128 → bl.getD p 0 = spot first body sum last 8 m j p) (hj : j < 4) :
    ∀ p, p < 128 → (bl.set (116 + j) (sum.getD j 0)).getD p 0 = spot first body sum last 8 m (j + 1) p := fun p hp => by
  rw [getD_set _ _ _ _ (by omega), h p hp]
  unfold spot
  by_cases h1 : p = 116 + j
  · subst h1
    rw [if_pos rfl, if_neg (by omega), if_neg (by omega), if_pos (by omega), if_pos (by omega), Nat.add_sub_cancel_left]
  · rw [if_neg h1]
    by_cases h3 : p < 8
    · rw [if_pos h3, if_pos h3, if_pos h3]
    · rw [if_neg h3, if_neg h3]
      by_cases h4 : p < 116
      · rw [if_pos h4, if_pos h4]
      · rw [if_neg h4, if_neg h4]
        by_cases h5 : p < 120
        · rw [if_pos h5, if_pos h5]
          by_cases h6 : p - 116 < j
          · rw [if_pos h6, if_pos (by omega)]
          · rw [if_neg h6, if_neg (by omega)]
        · rw [if_neg h5, if_neg h5]
theorem spot_sum {first body sum sum' last : List UInt8} {m p : Nat} : spot first body sum last 8 m 0 p = spot first body sum' last 8 m 0 p := by
  unfold spot
  split
  · rfl
  split
  · rfl
  split
  · rw [if_neg (by omega), if_neg (by omega)]
  · rfl
end sl
end Go.Proofs.YtiiigbhkbpdciaaDoor
