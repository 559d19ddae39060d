/-
  cardexlaw08: BatchPuts.
-/
import Derived.Test.YtlchfadfbepapaaLives08
namespace Go.Proofs.Ytlchfadfbepapaa
open Go.RowKit
namespace bt
theorem chg_size (x : C) (hk : x.key.length ≤ 1048576) (hv : x.val.length ≤ 1048576) : (chgB x).length ≤ 2097161 := by
  unfold chgB
  split <;> simp [leBytes_length] <;> omega
theorem chgs_size : ∀ l : List C, (∀ r ∈ l, r.key.length ≤ 1048576 ∧ r.val.length ≤ 1048576) → (l.flatMap chgB).length ≤ l.length * 2097161
  | [], _ => by simp
  | x :: l, h => by
    have h1 := chg_size x (h x (by simp)).1 (h x (by simp)).2
    have h2 := chgs_size l (fun r hr => h r (by simp [hr]))
    rw [List.flatMap_cons, List.length_append, List.length_cons]
    omega
theorem bytes_size {l : List C} (hn : l.length ≤ 1048576) (h : ∀ r ∈ l, r.key.length ≤ 1048576 ∧ r.val.length ≤ 1048576) : (bytes l).length ≤ 140737480000000 := by
  have := chgs_size l h
  unfold bytes
  rw [List.length_append, leBytes_length]
  have : l.length * 2097161 ≤ 1048576 * 2097161 := Nat.mul_le_mul_right _ hn
  omega
end bt
set_option maxHeartbeats 4000000 in
set_option maxRecDepth 100000 in
theorem walk_BatchPuts (A : Option Addr) (n c : Nat) (t : List bt.R) (B : Option Addr) (m d : Nat) (l : List bt.C) (w : World) (h : TS w A n c t) (_ : n ≤ 1048576) (hs : ∀ r ∈ t, r.key.length ≤ 1048576 ∧ r.val.length ≤ 1048576) (h2 : CS w B m d l) (hm : m ≤ 1048576) (hs2 : ∀ r ∈ l, r.key.length ≤ 1048576 ∧ r.val.length ≤ 1048576) :
    Calls Try.prog 3 #[.slice A n c, .slice B m d] w fun e w' => e = .returned (.bool true) ∧ Below w.heap.size w w' := by
  have hk1 : ∀ r ∈ t, r.key.length ≤ 9223372036854775807 := fun r hr => Nat.le_trans (hs r hr).1 (by omega)
  have hk2 : ∀ r ∈ l, r.key.length ≤ 9223372036854775807 := fun r hr => Nat.le_trans (hs2 r hr).1 (by omega)
  have hsz := bt.bytes_size (by rw [h2.len]; exact hm) hs2
  have HP := Lib.hid (fun W (b : Below w.heap.size w W) => cb_put l (h2.below b) hk2 (by omega) (fun _ => hsz))
  have HR := Lib.hid (fun W (b : Below w.heap.size w W) => rputB_any _ _ _ l W (h2.below b) hk2 (by omega) (fun _ => hsz))
  have HM := Lib.hid (fun W (b : Below w.heap.size w W) => cb_may t (h.below b) hk1 (by omega))
  have HM2 := Lib.hid (fun W (b : Below w.heap.size w W) => rmay8_any _ _ _ t W (h.below b) hk1)
  have HC := Lib.hid (fun W (b : Below w.heap.size w W) => cb_mayC l (h2.below b) hk2 (by omega))
  have HC2 := Lib.hid (fun W (b : Below w.heap.size w W) => rmayC_any _ _ _ l W (h2.below b) hk2)
  obtain ⟨X, hX⟩ : ∃ X, (if bt.mayC l = true then bt.bytes l else []) = X := ⟨_, rfl⟩
  obtain ⟨E, hE⟩ : ∃ E : Int, (if bt.mayC l = true then 0 else 2) = E := ⟨_, rfl⟩
  rw [hX, hE] at HP HR
  obtain ⟨q1, hq1⟩ : ∃ q, bt.may t = q := ⟨_, rfl⟩
  obtain ⟨q2, hq2⟩ : ∃ q, bt.mayC l = q := ⟨_, rfl⟩
  rw [hq1] at HM HM2
  rw [hq2] at HC HC2
  clear hX hE hq1 hq2 hs hs2 hk1 hk2 hsz h h2
  have hEE : (E == E) = true := by simp
  have hq : (q1 == q1) = true := by cases q1 <;> rfl
  have hq' : (q2 == q2) = true := by cases q2 <;> rfl
  go_enter Try.func3, Try.ntmps3
  go_wp2_with fail
  refine (HP.out w (Below.refl _ _)).mono ?_
  rintro e w1 ⟨⟨v1, rfl, o1⟩, b1⟩
  go_wp2_with fail
  refine (HR.out w1 b1).mono ?_
  rintro e w2 ⟨⟨v2, rfl, o2⟩, b2⟩
  have b12 := b1.trans (b2.mono b1.size)
  obtain ⟨A1, c1, rfl, B1⟩ := (o1.below b2 (Nat.le_refl _)).form
  obtain ⟨A2, c2, rfl, B2⟩ := o2.form
  go_wp2_with fail
  refine (HM.out w2 b12).mono ?_
  rintro e w3 ⟨rfl, b3⟩
  have b13 := b12.trans (b3.mono b12.size)
  go_wp2_with fail
  refine (HM2.out w3 b13).mono ?_
  rintro e w4 ⟨rfl, b4⟩
  have b14 := b13.trans (b4.mono b13.size)
  go_wp2_with fail
  refine (HC.out w4 b14).mono ?_
  rintro e w5 ⟨rfl, b5⟩
  have b15 := b14.trans (b5.mono b14.size)
  go_wp2_with fail
  refine (HC2.out w5 b15).mono ?_
  rintro e w6 ⟨rfl, b6⟩
  have b16 := b15.trans (b6.mono b15.size)
  have B16 := (((B1.below b3).below b4).below b5).below b6
  have B26 := (((B2.below b3).below b4).below b5).below b6
  go_wp2_with fail
  refine (same_any _ _ _ _ _ _ _ _ w6 B16 B26).mono ?_
  rintro e w7 ⟨rfl, rfl⟩
  rw [decide_eq_true (rfl : X = X)]
  go_wp2_with fail
  refine (lives08_any w6).mono ?_
  rintro e w8 ⟨rfl, b8⟩
  have b18 := b16.trans (b8.mono b16.size)
  go_wp2_with fail
  go_ret
  exact ⟨rfl, b18⟩
end Go.Proofs.Ytlchfadfbepapaa
