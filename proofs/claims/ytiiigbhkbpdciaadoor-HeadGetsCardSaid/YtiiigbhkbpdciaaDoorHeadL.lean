/-
  PURE: heads: which may be, their blocks, what a block tells, the newest of two; what is true of them. No program is named here.
-/
import Derived.Test.YtiiigbhkbpdciaaDoorSealL
namespace Go.Proofs.YtiiigbhkbpdciaaDoor
namespace hd
abbrev Blk := dk.Blk
structure H where
  bank : UInt8
  blocks : Nat
  batches : Nat
instance : DecidableEq H := fun a b => if h : a.bank = b.bank ∧ a.blocks = b.blocks ∧ a.batches = b.batches then .isTrue (by cases a; cases b; simp_all) else .isFalse (fun e => h (by rw [e]; exact ⟨rfl, rfl, rfl⟩))
def zero : H := ⟨0, 0, 0⟩
structure H.Ok (h : H) : Prop where
  blocks : h.blocks < 4294967296
  batches : h.batches < 4294967296
theorem zero_ok : zero.Ok := ⟨by decide, by decide⟩
abbrev cells (h : H) : List Value := [bv h.bank, .int .u32 h.blocks, .int .u32 h.batches]
abbrev val (h : H) : Value := .agg #[bv h.bank, .int .u32 h.blocks, .int .u32 h.batches]
def may (h : H) : Bool := decide (h.bank.toNat ≤ 1) && (decide (h.blocks ≤ 4096) && decide (h.batches ≤ h.blocks))
def num (n : Nat) : Bool := decide (1 ≤ n) && decide (n ≤ 4611686018427387904)
def bodyOf (h : H) : List UInt8 := [h.bank] ++ leBytes h.blocks 4 ++ leBytes h.batches 4
def put (n : Nat) (h : H) : Blk × Int := if (num n && may h) = true then (sl.sealB n (bodyOf h), 0) else (dk.zero, 2)
def headOf (l : List UInt8) : H := ⟨l.getD 0 0, leVal ((l.drop 1).take 4), leVal ((l.drop 5).take 4)⟩
def get (b : Blk) : Nat × H × Int :=
  if (sl.get b).2.2 = 0 then
    (if (put (sl.get b).1 (headOf (sl.get b).2.1)).2 = 0 ∧ (put (sl.get b).1 (headOf (sl.get b).2.1)).1 = b then ((sl.get b).1, headOf (sl.get b).2.1, 0) else (0, zero, 5))
  else (0, zero, (sl.get b).2.2)
def newest (a b : Blk) : Nat × H × Int :=
  if ¬ (get a).2.2 = 0 ∧ ¬ (get b).2.2 = 0 then (0, zero, 7) else if (get a).1 < (get b).1 then ((get b).1, (get b).2.1, 0) else ((get a).1, (get a).2.1, 0)

theorem bodyOf_length (h : H) : (bodyOf h).length = 9 := by simp [bodyOf, leBytes_length]
theorem may_ok {h : H} (hm : may h = true) : h.bank.toNat ≤ 1 ∧ h.blocks ≤ 4096 ∧ h.batches ≤ h.blocks := by
  simp only [may, Bool.and_eq_true, decide_eq_true_eq] at hm
  exact hm
theorem num_ok {n : Nat} (hn : num n = true) : 1 ≤ n ∧ n ≤ 4611686018427387904 := by
  simp only [num, Bool.and_eq_true, decide_eq_true_eq] at hn
  exact hn
theorem put_len (n : Nat) (h : H) : (put n h).1.length = 128 := by
  unfold put
  split
  · exact sl.seal_length n (by rw [bodyOf_length]; omega)
  · exact List.length_replicate
theorem put_yes {n : Nat} {h : H} (hn : num n = true) (hm : may h = true) : put n h = (sl.sealB n (bodyOf h), 0) := by
  unfold put
  rw [hn, hm]
  rfl
theorem put_no {n : Nat} {h : H} (hq : (num n && may h) = false) : put n h = (dk.zero, 2) := by
  unfold put
  rw [hq]
  rfl
theorem put_err (n : Nat) (h : H) : (put n h).2 = 0 ↔ (num n && may h) = true := by
  unfold put
  split
  · next hq => simp [hq]
  · next hq => simp [hq]
theorem put_eq {n : Nat} {h : H} (he : (put n h).2 = 0) : put n h = (sl.sealB n (bodyOf h), 0) ∧ num n = true ∧ may h = true := by
  have hq := (put_err n h).1 he
  have h2 := hq
  rw [Bool.and_eq_true] at h2
  exact ⟨put_yes h2.1 h2.2, h2.1, h2.2⟩
/-- the body, filled up, tells the head -/
theorem headOf_body (h : H) (hok : h.Ok) (m : Nat) : headOf (bodyOf h ++ List.replicate m 0) = h := by
  have e1 : ((bodyOf h ++ List.replicate m 0).drop 1).take 4 = leBytes h.blocks 4 := by
    unfold bodyOf
    rw [List.append_assoc, List.append_assoc, List.drop_left' (show ([h.bank] : List UInt8).length = 1 from rfl)]
    exact List.take_left' (leBytes_length _ _)
  have e2 : ((bodyOf h ++ List.replicate m 0).drop 5).take 4 = leBytes h.batches 4 := by
    unfold bodyOf
    rw [List.append_assoc]
    rw [List.drop_left' (by simp [leBytes_length])]
    exact List.take_left' (leBytes_length _ _)
  have e3 : (bodyOf h ++ List.replicate m 0).getD 0 0 = h.bank := by
    unfold bodyOf
    rw [List.append_assoc, List.append_assoc]
    rfl
  unfold headOf
  rw [e1, e2, e3, leVal_bytes, leVal_bytes]
  have h1 := hok.blocks
  have h2 := hok.batches
  rw [Nat.mod_eq_of_lt (by omega), Nat.mod_eq_of_lt (by omega)]
/-- WHAT IS PUT IS GOT -/
theorem get_put {n : Nat} {h : H} (hok : h.Ok) (hn : num n = true) (hm : may h = true) : get (put n h).1 = (n, h, 0) := by
  have h1 := num_ok hn
  have hp := put_yes hn hm
  have hg : sl.get (sl.sealB n (bodyOf h)) = (n, bodyOf h ++ List.replicate (108 - (bodyOf h).length) 0, 0) := sl.get_seal (by omega) (by omega) (by rw [bodyOf_length]; omega)
  rw [hp]
  unfold get
  simp only [hg]
  rw [headOf_body h hok, if_pos trivial, hp, if_pos ⟨rfl, rfl⟩]
/-- WHAT IS GOT IS PUT AS THE SAME BLOCK -/
theorem put_get {b : Blk} (h : (get b).2.2 = 0) : put (get b).1 (get b).2.1 = (b, 0) := by
  unfold get at h ⊢
  split at h
  · next h1 =>
    split at h
    · next h2 =>
      rw [if_pos h1, if_pos h2]
      exact Prod.ext h2.2 h2.1
    · cases h
  · next h1 => exact absurd h h1
/-- what is refused has no number -/
theorem get_err {b : Blk} (h : ¬ (get b).2.2 = 0) : (get b).1 = 0 ∧ (get b).2.1 = zero := by
  unfold get at h ⊢
  split at h
  · next h1 =>
    split at h
    · exact absurd rfl h
    · next h2 =>
      rw [if_pos h1, if_neg h2]
      exact ⟨rfl, rfl⟩
  · next h1 =>
    rw [if_neg h1]
    exact ⟨rfl, rfl⟩
theorem get_num {b : Blk} (h : (get b).2.2 = 0) : 1 ≤ (get b).1 ∧ (get b).1 ≤ 4611686018427387904 ∧ may (get b).2.1 = true := by
  obtain ⟨_, h1, h2⟩ := put_eq (n := (get b).1) (h := (get b).2.1) (by rw [put_get h])
  have := num_ok h1
  exact ⟨this.1, this.2, h2⟩
theorem get_lt (b : Blk) : (get b).1 ≤ 4611686018427387904 := by
  by_cases h : (get b).2.2 = 0
  · exact (get_num h).2.1
  · rw [(get_err h).1]; omega
theorem may_Ok {h : H} (hm : may h = true) : h.Ok := by
  have := may_ok hm
  exact ⟨by omega, by omega⟩
theorem get_Ok (b : Blk) : (get b).2.1.Ok := by
  by_cases h : (get b).2.2 = 0
  · exact may_Ok (get_num h).2.2
  · rw [(get_err h).2]; exact zero_ok
theorem newest_Ok (a b : Blk) : (newest a b).2.1.Ok := by
  unfold newest
  split
  · exact zero_ok
  · split
    · exact get_Ok b
    · exact get_Ok a
/-- the newest of two that may be -/
theorem newest_two {a b : Blk} {n m : Nat} {h k : H} (ha : get a = (n, h, 0)) (hb : get b = (m, k, 0)) : newest a b = if n < m then (m, k, 0) else (n, h, 0) := by
  unfold newest
  simp only [ha, hb]
  rw [if_neg (by simp)]
/-- the newest of one, and one that is none -/
theorem newest_left {a b : Blk} {n : Nat} {h : H} (ha : get a = (n, h, 0)) (hb : ¬ (get b).2.2 = 0) : newest a b = (n, h, 0) := by
  unfold newest
  simp only [ha, (get_err hb).1]
  rw [if_neg (by simp), if_neg (by omega)]
theorem newest_right {a b : Blk} {n : Nat} {h : H} (ha : ¬ (get a).2.2 = 0) (hb : get b = (n, h, 0)) (hn : 1 ≤ n) : newest a b = (n, h, 0) := by
  unfold newest
  simp only [hb, (get_err ha).1]
  rw [if_neg (by simp), if_pos (by omega)]
theorem newest_none {a b : Blk} (ha : ¬ (get a).2.2 = 0) (hb : ¬ (get b).2.2 = 0) : newest a b = (0, zero, 7) := by
  unfold newest
  rw [if_pos ⟨ha, hb⟩]
end hd
end Go.Proofs.YtiiigbhkbpdciaaDoor
