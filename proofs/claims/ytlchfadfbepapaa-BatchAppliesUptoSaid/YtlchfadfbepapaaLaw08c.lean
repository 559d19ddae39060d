/-
  cardexlaw08: BatchApplies.
-/
import Derived.Test.YtlchfadfbepapaaLives08
namespace Go.Proofs.Ytlchfadfbepapaa
open Go.RowKit
set_option maxHeartbeats 4000000 in
set_option maxRecDepth 100000 in
theorem walk_BatchApplies (A : Option Addr) (n c : Nat) (a : List bt.R) (B : Option Addr) (m d : Nat) (b : List bt.R) (D : Option Addr) (p q : Nat) (l : List bt.C) (k : List UInt8) (w : World)
    (h : TS w A n c a) (hn : n ≤ 1048576) (hs : ∀ r ∈ a, r.key.length ≤ 1048576 ∧ r.val.length ≤ 1048576) (h2 : TS w B m d b) (hm : m ≤ 1048576) (hs2 : ∀ r ∈ b, r.key.length ≤ 1048576 ∧ r.val.length ≤ 1048576) (h3 : CS w D p q l) (hp : p ≤ 1048576) (hs3 : ∀ r ∈ l, r.key.length ≤ 1048576 ∧ r.val.length ≤ 1048576) (_ : k.length ≤ 1048576) :
    Calls Try.prog 5 #[.slice A n c, .slice B m d, .slice D p q, str k] w fun e w' => e = .returned (.bool true) ∧ Below w.heap.size w w' := by
  have hk1 : ∀ r ∈ a, r.key.length ≤ 9223372036854775807 := fun r hr => Nat.le_trans (hs r hr).1 (by omega)
  have hk2 : ∀ r ∈ b, r.key.length ≤ 9223372036854775807 := fun r hr => Nat.le_trans (hs2 r hr).1 (by omega)
  have hk3 : ∀ r ∈ l, r.key.length ≤ 9223372036854775807 := fun r hr => Nat.le_trans (hs3 r hr).1 (by omega)
  have PA := Lib.hid (fun W (b : Below w.heap.size w W) => cb_apply a l (h.below b) (h3.below b) (TO.all _ _ _) (CO.all _ _ _) (fun _ _ => trivial) hk1 hk3 (by omega))
  have RA := Lib.hid (fun W (b : Below w.heap.size w W) => rapply_any _ _ _ a _ _ _ l W (h.below b) (TO.all _ _ _) (fun _ _ => trivial) (h3.below b) hk1 hk3 (by omega))
  have PB := Lib.hid (fun W (x : Below w.heap.size w W) => cb_between a b (h.below x) (h2.below x) hk1 hk2 (by omega))
  have RB := Lib.hid (fun W (x : Below w.heap.size w W) => rbetween_any _ _ _ a _ _ _ b W (h.below x) (h2.below x) hk1 hk2 (by omega))
  have PW := Lib.hid (fun W (x : Below w.heap.size w W) => cb_whole a (h.below x) hk1 (by omega))
  have RW := Lib.hid (fun W (x : Below w.heap.size w W) => rwhole_any _ _ _ a W (h.below x) hk1 (by omega))
  have PF := Lib.hid (fun W (x : Below w.heap.size w W) => cb_find a k (h.below x) hk1 (by omega))
  have RF := Lib.hid (fun W (x : Below w.heap.size w W) => rfind_any _ _ _ a k W (h.below x) hk1)
  have PS := Lib.hid (fun W (x : Below w.heap.size w W) => cb_same a b (h.below x) (h2.below x))
  have RS := Lib.hid (fun W (x : Below w.heap.size w W) => rsame8_any (h.below x) (h2.below x))
  obtain ⟨X1, hX1⟩ : ∃ X, (bt.apply a l).1 = X := ⟨_, rfl⟩
  obtain ⟨E1, hE1⟩ : ∃ X, (bt.apply a l).2 = X := ⟨_, rfl⟩
  obtain ⟨X2, hX2⟩ : ∃ X, (bt.between a b).1 = X := ⟨_, rfl⟩
  obtain ⟨E2, hE2⟩ : ∃ X, (bt.between a b).2 = X := ⟨_, rfl⟩
  obtain ⟨X3, hX3⟩ : ∃ X, (bt.between [] a).1 = X := ⟨_, rfl⟩
  obtain ⟨E3, hE3⟩ : ∃ X, (bt.between [] a).2 = X := ⟨_, rfl⟩
  obtain ⟨X4, hX4⟩ : ∃ X, (bt.findR a k).getD [] = X := ⟨_, rfl⟩
  obtain ⟨E4, hE4⟩ : ∃ X, (bt.findR a k).isSome = X := ⟨_, rfl⟩
  obtain ⟨E5, hE5⟩ : ∃ X, decide (a = b) = X := ⟨_, rfl⟩
  rw [hX1, hE1] at PA RA
  rw [hX2, hE2] at PB RB
  rw [hX3, hE3] at PW RW
  rw [hX4, hE4] at PF RF
  rw [hE5] at PS RS
  clear hX1 hE1 hX2 hE2 hX3 hE3 hX4 hE4 hE5 hk1 hk2 hk3 hs hs2 hs3 h h2 h3
  have f1 : (E1 != E1) = false := by simp
  have f2 : (E2 != E2) = false := by simp
  have f3 : (E3 == E3) = true := by simp
  have f4 : (E4 == E4) = true := by cases E4 <;> rfl
  have f5 : (E5 == E5) = true := by cases E5 <;> rfl
  go_enter Try.func5, Try.ntmps5
  go_wp2_with fail
  refine (PA.out w (Below.refl _ _)).mono ?_
  rintro e w1 ⟨⟨A1, c1, rfl, T1, -⟩, b1⟩
  go_wp2_with fail
  refine (RA.out w1 b1).mono ?_
  rintro e w2 ⟨⟨A2, c2, rfl, T2, -⟩, b2⟩
  have b12 := b1.trans (b2.mono b1.size)
  go_wp2_with fail
  refine (rows_any (T1.below b2) T2).mono ?_
  rintro e w3 ⟨rfl, b3⟩
  rw [decide_eq_true (rfl : X1 = X1)]
  have b13 := b12.trans (b3.mono b12.size)
  clear PA RA T1 T2 b1 b2 b3 b12
  go_wp2_with fail
  refine (PB.out w3 b13).mono ?_
  rintro e w4 ⟨⟨A4, c4, rfl, C4⟩, b4⟩
  have b14 := b13.trans (b4.mono b13.size)
  go_wp2_with fail
  refine (RB.out w4 b14).mono ?_
  rintro e w5 ⟨⟨A5, c5, rfl, C5⟩, b5⟩
  have b15 := b14.trans (b5.mono b14.size)
  go_wp2_with fail
  refine (changes_any (C4.below b5) C5).mono ?_
  rintro e w6 ⟨rfl, b6⟩
  rw [decide_eq_true (rfl : X2 = X2)]
  have b16 := b15.trans (b6.mono b15.size)
  clear PB RB C4 C5 b4 b5 b6 b13 b14 b15
  go_wp2_with fail
  refine (PW.out w6 b16).mono ?_
  rintro e w7 ⟨⟨A7, c7, rfl, C7⟩, b7⟩
  have b17 := b16.trans (b7.mono b16.size)
  go_wp2_with fail
  refine (RW.out w7 b17).mono ?_
  rintro e w8 ⟨⟨A8, c8, rfl, C8⟩, b8⟩
  have b18 := b17.trans (b8.mono b17.size)
  have C78 := C7.below b8
  clear PW RW C7 b7 b8 b16 b17
  go_wp2_with fail
  refine (PF.out w8 b18).mono ?_
  rintro e w9 ⟨⟨v9, rfl, o9⟩, b9⟩
  have b19 := b18.trans (b9.mono b18.size)
  go_wp2_with fail
  refine (RF.out w9 b19).mono ?_
  rintro e w10 ⟨⟨v10, rfl, o10⟩, b10⟩
  have b110 := b19.trans (b10.mono b19.size)
  obtain ⟨A9, c9, rfl, B9⟩ := (o9.below b10 (Nat.le_refl _)).form
  obtain ⟨A10, c10, rfl, B10⟩ := o10.form
  have C710 := (C78.below b9).below b10
  have C810 := (C8.below b9).below b10
  clear PF RF C78 C8 o9 o10 b9 b10 b18 b19
  go_wp2_with fail
  refine (changes_any C710 C810).mono ?_
  rintro e w11 ⟨rfl, b11⟩
  rw [decide_eq_true (rfl : X3 = X3)]
  have b111 := b110.trans (b11.mono b110.size)
  have B911 := B9.below b11
  have B1011 := B10.below b11
  clear C710 C810 B9 B10 b11 b110
  go_wp2_with fail
  refine (same_any _ _ _ _ _ _ _ _ w11 B911 B1011).mono ?_
  rintro e w12 ⟨rfl, rfl⟩
  rw [decide_eq_true (rfl : X4 = X4)]
  go_wp2_with fail
  refine (PS.out w11 b111).mono ?_
  rintro e w13 ⟨rfl, b13⟩
  have b113 := b111.trans (b13.mono b111.size)
  go_wp2_with fail
  refine (RS.out w13 b113).mono ?_
  rintro e w14 ⟨rfl, b14⟩
  have b114 := b113.trans (b14.mono b113.size)
  go_wp2_with fail
  refine (lives08_any w14).mono ?_
  rintro e w15 ⟨rfl, b15⟩
  have b115 := b114.trans (b15.mono b114.size)
  go_wp2_with fail
  go_ret
  exact ⟨rfl, b115⟩
end Go.Proofs.Ytlchfadfbepapaa
