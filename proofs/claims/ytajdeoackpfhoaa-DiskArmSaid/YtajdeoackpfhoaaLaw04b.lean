/-
  cardexlaw04's walk: DiskArm.
-/
import Derived.Test.YtajdeoackpfhoaaLaw04
import Derived.Test.YtajdeoackpfhoaaLives04
namespace Go.Proofs.Ytajdeoackpfhoaa
open Go.RowKit

namespace dk
/-- a step: a Flush, or a Write -/
def act (s : St) (x : UInt8 × Blk) : Int × St := if x.1.toNat % 4 = 0 then flush s else write s ((x.1.toNat % 16 : Nat) : Int) x.2
/-- behind t tries, armed at k -/
structure Armed (k t : Nat) (s : St) : Prop where
  ok : s.Ok
  len : s.L.length ≤ t
  st : ((k = 0 ∨ t < k) ∧ s.black = false ∧ s.cut = (if k = 0 then 0 else (k : Int) - t) ∧ s.many = t) ∨ (0 < k ∧ k ≤ t ∧ s.black = true ∧ s.many = (k : Int) - 1)
theorem armed_start (k : Nat) : (arm (fresh 64) k).1 = 0 ∧ Armed k 0 (arm (fresh 64) k).2 := by
  have h : arm (fresh 64) k = (0, { fresh 64 with cut := (k : Int) }) := by
    unfold arm
    rw [if_neg (by simp [fresh]), if_neg (by omega)]
  have hok := Ok.arm (fresh_ok (n := 64) (by omega) (by omega)) (k : Int)
  refine ⟨by rw [h], hok, by rw [h]; simp [fresh], .inl ⟨by omega, by rw [h]; rfl, by rw [h]; simp only; split <;> omega, by rw [h]; rfl⟩⟩
theorem act_step {k t : Nat} {s : St} (h : Armed k t s) (x : UInt8 × Blk) (hx : x.2.length = 128) :
    (act s x).1 = (if 0 < k ∧ k ≤ t + 1 then 9 else 0) ∧ Armed k (t + 1) (act s x).2 := by
  have hS := h.ok.some
  have hlen := h.len
  rcases h.st with ⟨hk, hb, hc, hm⟩ | ⟨hk, hkt, hb, hm⟩
  · have hask : asks s ((x.1.toNat % 16 : Nat) : Int) = 0 := by
      unfold asks
      rw [if_neg (by rw [hb]; simp), if_neg (by omega)]
    by_cases hcut : s.cut = 1
    · have hk1 : 0 < k ∧ k = t + 1 := by
        rw [hcut] at hc
        split at hc <;> omega
      have hstep : step s = (9, { s with black := true }) := if_pos hcut
      have ha : act s x = (9, { s with black := true }) := by
        unfold act
        split
        · rw [flush, if_neg (by rw [hb]; simp), hstep, if_neg (by omega)]
        · rw [write, if_pos hask, hstep, if_neg (by omega)]
      rw [ha]
      exact ⟨by rw [if_pos (by omega)], ⟨h.ok.lenS, h.ok.some, h.ok.most, h.ok.lenL, h.ok.inL⟩, by simp only; omega, .inr ⟨by omega, by omega, rfl, by simp only; omega⟩⟩
    · have hnk : ¬ (0 < k ∧ k ≤ t + 1) := by
        intro h2
        rw [if_neg (by omega)] at hc
        omega
      have hstep : step s = (0, { s with cut := (if k = 0 then 0 else (k : Int) - (t + 1 : Nat)), many := s.many + 1 }) := by
        unfold step
        rw [if_neg hcut]
        congr 2
        rw [hc]
        split <;> split <;> omega
      rw [if_neg hnk]
      unfold act
      split
      · have ha : flush s = (0, { s with cut := (if k = 0 then 0 else (k : Int) - (t + 1 : Nat)), many := s.many + 1, S := lay s.S s.L, L := [] }) := by
          rw [flush, if_neg (by rw [hb]; simp), hstep, if_pos rfl]
        have hok := Ok.flush h.ok
        rw [ha] at hok ⊢
        exact ⟨rfl, hok, by simp, .inl ⟨by omega, hb, rfl, by simp only; omega⟩⟩
      · have ha : write s ((x.1.toNat % 16 : Nat) : Int) x.2 = (0, { s with cut := (if k = 0 then 0 else (k : Int) - (t + 1 : Nat)), many := s.many + 1, L := s.L ++ [(((x.1.toNat % 16 : Nat) : Int), x.2)] }) := by
          rw [write, if_pos hask, hstep, if_pos rfl]
        have hok := Ok.write h.ok (n := ((x.1.toNat % 16 : Nat) : Int)) hx
        rw [ha] at hok ⊢
        exact ⟨rfl, hok, by simp; omega, .inl ⟨by omega, hb, rfl, by simp only; omega⟩⟩
  · have ha : act s x = (9, s) := by
      unfold act
      split
      · rw [flush, if_pos hb]
      · have hask : asks s ((x.1.toNat % 16 : Nat) : Int) = 9 := by unfold asks; rw [if_pos hb]
        rw [write, hask, if_neg (by omega)]
    rw [ha]
    exact ⟨by rw [if_pos (by omega)], h.ok, by simp only; omega, .inr ⟨by omega, by omega, hb, hm⟩⟩
theorem Armed.few {k t : Nat} {s : St} (h : Armed k t s) (ht : t ≤ 60) (hk : k < 64) : s.Few := by
  have := h.len
  refine ⟨?_, by omega⟩
  rcases h.st with ⟨_, _, _, hm⟩ | ⟨_, _, _, hm⟩ <;> omega
end dk
theorem rem64 (x : UInt8) : IntKind.i64.wrap (Int.tmod (x.toNat : Int) 64) = ((x.toNat % 64 : Nat) : Int) := by
  have := x.toNat_lt
  rw [IntKind.wrap_i64, Int.tmod_eq_emod_of_nonneg (by omega)]
  omega
theorem rem4 (x : UInt8) : ((x.toNat : Int) % 4 == 0) = decide (x.toNat % 4 = 0) := by
  rw [Bool.eq_iff_iff, beq_iff_eq, decide_eq_true_iff]
  omega

set_option maxHeartbeats 4000000 in
set_option maxRecDepth 100000 in
theorem walk_DiskArm (x : UInt8) (A : Option Addr) (n c : Nat) (l : List (UInt8 × dk.Blk)) (w : World) (h : PS w A n c l) :
    Calls Try.prog 6 #[bv x, .slice A n c] w fun e w' => e = .returned (.bool true) ∧ Below w.heap.size w w' := by
  have hl := h.len
  have hcap := h.cap
  have hmax := h.max
  obtain ⟨k, hk⟩ : ∃ k, x.toNat % 64 = k := ⟨_, rfl⟩
  have hk64 : k < 64 := by omega
  have hrem : (x.toNat : Int) % 64 = (k : Int) := by omega
  obtain ⟨ha0, hA0⟩ := dk.armed_start k
  have HA := Lib.hid ha0
  clear ha0
  go_enter Try.func6, Try.ntmps6
  go_wp2_with fail
  refine (cd_new 64 (by omega) (by omega)).mono ?_
  rintro e w1 ⟨F1, d, rfl, hD1, hb1, hF1⟩
  obtain ⟨p, rfl⟩ := hD1.form
  go_wp2_with fail
  rw [hrem]
  refine (cd_arm (k : Int) (by omega) hD1).mono ?_
  rintro e w2 ⟨F2, rfl, hD2, hC2, hS2⟩
  rw [HA.out]
  have hb2 : Below w.heap.size w w2 := (Chg.of_below hb1 F1 |>.trans hC2 (Sub.refl _ _)).below (Nat.le_refl _) hF1
  have hF2 : ∀ k ∈ F2, w.heap.size ≤ k := fun k hk => (hS2 k hk).elim (hF1 k) (fun h => Nat.le_trans hb1.size h)
  clear hD1 hC2 hS2 hb1 hF1 HA hk
  go_wp2_with fail
  go_loopw [8, 9] (fun t i wr => ∃ (j : Nat) (F : List Nat) (s : dk.St), t = .int .i64 j ∧ i = .int .i64 j ∧ j ≤ n ∧ j ≤ 60 ∧ CD wr F (.pointer (some ⟨p, 0, none⟩)) s ∧ dk.Armed k j s ∧ Below w.heap.size w wr ∧ (∀ k ∈ F, w.heap.size ≤ k)) (fun _ i _ => 60 - (intOf i).toNat)
  case atStart => exact ⟨0, F2, _, rfl, rfl, by omega, by omega, hD2, hA0, hb2, hF2⟩
  case round =>
    obtain ⟨j, F, s, rfl, rfl, hjn, hj60, hD, hArm, hb, hF⟩ := hrel
    have hP := h.below hb
    clear h hD2 hA0 hb2 hF2
    by_cases hin : j < n ∧ j < 60
    · obtain ⟨h1, h2⟩ := hin
      obtain ⟨b, o, rfl, hbl, hc⟩ := hP.has (by omega)
      obtain ⟨cN, cB⟩ := hc j (by omega)
      have hx := hP.blk _ (List.getElem_mem (show j < l.length by omega))
      generalize l[j]'(by omega) = y at *
      obtain ⟨ans, hArm2⟩ := dk.act_step hArm y hx
      have hfew := hArm.few (by omega) hk64
      obtain ⟨yn, yb⟩ := y
      simp only at cN cB hx
      have hyn := yn.toNat_lt
      obtain ⟨q, hq⟩ : ∃ q : Int, (if 0 < k ∧ k ≤ j + 1 then (9 : Int) else 0) = q := ⟨_, rfl⟩
      rw [hq] at ans
      have h4 := rem4 yn
      have HP := Lib.hid hP
      clear hc hP hArm
      have hcs : (¬ 0 < k ∧ q = 0) ∨ (0 < k ∧ k ≤ j + 1 ∧ q = 9) ∨ (0 < k ∧ j + 1 < k ∧ q = 0) := by
        rw [← hq]
        rcases Nat.eq_zero_or_pos k with h | h
        · exact .inl ⟨by omega, by rw [if_neg (by omega)]⟩
        · rcases Nat.lt_or_ge (j + 1) k with h3 | h3
          · exact .inr (.inr ⟨h, h3, by rw [if_neg (by omega)]⟩)
          · exact .inr (.inl ⟨h, h3, by rw [if_pos ⟨h, h3⟩]⟩)
      clear hq
      by_cases hm : yn.toNat % 4 = 0
      · rw [decide_eq_true hm] at h4
        have hact : dk.act s (yn, yb) = dk.flush s := by unfold dk.act; rw [if_pos hm]
        rw [hact] at ans hArm2
        have hfl := cd_flush hD hfew
        rw [ans] at hfl
        have HF := Lib.hid hfl
        clear hfl hm hact ans
        rcases hcs with ⟨k0, rfl⟩ | ⟨k0, k1, rfl⟩ | ⟨k0, k1, rfl⟩
        all_goals
          go_wp2_with fail
          refine HF.out.mono ?_
          rintro e w3 ⟨F3, rfl, hD3, hC3, hS3⟩
          go_wp2_with fail
          go_roundw
          case rel =>
            refine ⟨j + 1, F3, _, by go_num, by go_num, by omega, by omega, hD3, hArm2, (Chg.of_below hb F |>.trans hC3 (Sub.refl _ _)).below (Nat.le_refl _) hF, fun k hk => (hS3 k hk).elim (hF k) (fun h => Nat.le_trans hb.size h)⟩
          case measure => simp [intOf]; omega
      · rw [decide_eq_false hm] at h4
        have hact : dk.act s (yn, yb) = dk.write s ((yn.toNat % 16 : Nat) : Int) yb := by unfold dk.act; rw [if_neg hm]
        rw [hact] at ans hArm2
        have hwr := cd_write ((yn.toNat % 16 : Nat) : Int) yb hx (h := show CD wr.drew F _ _ from hD.below ((Below.refl _ _).drew)) hfew
        rw [ans] at hwr
        have HW := Lib.hid hwr
        clear hwr hm hact ans
        rcases hcs with ⟨k0, rfl⟩ | ⟨k0, k1, rfl⟩ | ⟨k0, k1, rfl⟩
        all_goals
          go_wp2_with fail
          refine wp_region_still_tail 13 (by kernel_rfl) (by kernel_rfl) ?_
          simp only [List.take_succ_cons, List.take_zero, List.drop_succ_cons, List.drop_zero]
          iterate 12 still_step
          rw [rem16 yn]
          refine still_ld (.tmp 57) yb (show wr.drew.rangeAt b (o + j * 129 + 1) (dk.cells yb) from cB) hx rfl rfl (by rfl) ?_
          simp only [Act.put, List.setIfInBounds_toArray, List.set_cons_zero, List.set_cons_succ]
          refine wpStill_nil ?_
          change wpList _ _ _ _ _ wr.drew
          go_wp2_with fail
          refine HW.out.mono ?_
          rintro e w3 ⟨F3, rfl, hD3, hC3, hS3⟩
          go_wp2_with fail
          go_roundw
          case rel =>
            refine ⟨j + 1, F3, _, by go_num, by go_num, by omega, by omega, hD3, hArm2, ((Chg.of_below hb F |>.trans (Chg.drew _ F) (Sub.refl _ _)).trans hC3 (Sub.refl _ _)).below (Nat.le_refl _) hF, fun k hk => (hS3 k hk).elim (hF k) (fun h => Nat.le_trans hb.size h)⟩
          case measure => simp [intOf]; omega
    · have hcs : (j < n ∧ ¬ j < 60) ∨ ¬ j < n := by omega
      clear hin
      have hfew := hArm.few (by omega) hk64
      have hend : (¬ 0 < k ∧ s.black = false ∧ s.many = j) ∨ (0 < k ∧ j < k ∧ s.black = false ∧ s.many = j) ∨ (0 < k ∧ ¬ j < k ∧ s.black = true ∧ s.many = (k : Int) - 1) := by
        rcases hArm.st with ⟨h1, h2, _, h4⟩ | ⟨h1, h2, h3, h4⟩
        · rcases Nat.eq_zero_or_pos k with h | h
          · exact .inl ⟨by omega, h2, h4⟩
          · exact .inr (.inl ⟨h, by omega, h2, h4⟩)
        · exact .inr (.inr ⟨h1, by omega, h3, h4⟩)
      rcases hend with ⟨k0, hbk, hmy⟩ | ⟨k0, k1, hbk, hmy⟩ | ⟨k0, k1, hbk, hmy⟩
      · have k00 : k = 0 := by omega
        have c1 := cd_dark hD
        have c2 := cd_steps hD
        rw [hbk] at c1
        rw [hmy] at c2
        have C1 := Lib.hid c1
        have C2 := Lib.hid c2
        have kb : ((k : Int) == 0) = true := by rw [k00]; rfl
        clear c1 c2 k00
        rcases hcs with ⟨h1, h2⟩ | h1
        all_goals
          go_wp2_with fail
          refine C1.out.mono ?_
          rintro e w3 ⟨rfl, rfl⟩
          go_wp2_with fail
          refine C2.out.mono ?_
          rintro e w3 ⟨rfl, rfl⟩
          go_wp2_with fail
          refine (lives04_any _).mono ?_
          rintro e w3 ⟨rfl, hb3⟩
          go_wp2_with fail
          go_ret
          exact ⟨rfl, hb.trans (hb3.mono hb.size)⟩
      · have c1 := cd_dark hD
        have c2 := cd_steps hD
        rw [hbk] at c1
        rw [hmy] at c2
        have C1 := Lib.hid c1
        have C2 := Lib.hid c2
        have kb : ((k : Int) == 0) = false := by rw [beq_eq_false_iff_ne]; omega
        clear c1 c2
        rcases hcs with ⟨h1, h2⟩ | h1
        all_goals
          go_wp2_with fail
          refine C1.out.mono ?_
          rintro e w3 ⟨rfl, rfl⟩
          go_wp2_with fail
          refine C2.out.mono ?_
          rintro e w3 ⟨rfl, rfl⟩
          go_wp2_with fail
          refine (lives04_any _).mono ?_
          rintro e w3 ⟨rfl, hb3⟩
          go_wp2_with fail
          go_ret
          exact ⟨rfl, hb.trans (hb3.mono hb.size)⟩
      · have c1 := cd_dark hD
        have c2 := cd_steps hD
        have c3 := cd_arm 0 (by omega) hD
        have harm : (dk.arm s 0).1 = 9 := by unfold dk.arm; rw [if_pos hbk]
        rw [hbk] at c1
        rw [hmy] at c2
        rw [harm] at c3
        have C1 := Lib.hid c1
        have C2 := Lib.hid c2
        have C3 := Lib.hid c3
        have kb : ((k : Int) == 0) = false := by rw [beq_eq_false_iff_ne]; omega
        clear c1 c2 c3 harm
        rcases hcs with ⟨h1, h2⟩ | h1
        all_goals
          go_wp2_with fail
          refine C1.out.mono ?_
          rintro e w3 ⟨rfl, rfl⟩
          go_wp2_with fail
          refine C2.out.mono ?_
          rintro e w3 ⟨rfl, rfl⟩
          go_wp2_with fail
          refine C3.out.mono ?_
          rintro e w3 ⟨F3, rfl, hD3, hC3, hS3⟩
          have hb3 := (Chg.of_below hb F |>.trans hC3 (Sub.refl _ _)).below (Nat.le_refl _) hF
          go_wp2_with fail
          refine (lives04_any _).mono ?_
          rintro e w4 ⟨rfl, hb4⟩
          go_wp2_with fail
          go_ret
          exact ⟨rfl, hb3.trans (hb4.mono hb3.size)⟩
end Go.Proofs.Ytajdeoackpfhoaa
