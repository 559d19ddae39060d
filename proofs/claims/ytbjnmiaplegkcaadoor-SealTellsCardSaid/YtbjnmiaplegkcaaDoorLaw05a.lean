/-
  cardexlaw05's walk: SealKeeps.
-/
import Derived.Test.YtbjnmiaplegkcaaDoorLives05
namespace Go.Proofs.YtbjnmiaplegkcaaDoor
open Go.RowKit

namespace sl
theorem put_ok {n : Nat} {body : List UInt8} (h : (put n body).2 = 0) : 0 < n ∧ body.length ≤ 108 ∧ put n body = (sealB n body, 0) := by
  unfold put at h ⊢
  split at h
  · simp at h
  · next h1 =>
    split at h
    · simp at h
    · next h2 =>
      rw [if_neg h1, if_neg h2]
      exact ⟨by omega, by omega, rfl⟩
theorem put_err {n : Nat} {body : List UInt8} (h : ¬ (put n body).2 = 0) : (n = 0 ∨ 108 < body.length) ∧ (put n body).1 = dk.zero := by
  unfold put at h ⊢
  split at h
  · next h1 => rw [if_pos h1]; exact ⟨.inl h1, rfl⟩
  · next h1 =>
    split at h
    · next h2 => rw [if_neg h1, if_pos h2]; exact ⟨.inr h2, rfl⟩
    · simp at h
end sl
set_option maxHeartbeats 4000000 in
set_option maxRecDepth 100000 in
theorem walk_SealKeeps (n : Nat) (A : Option Addr) (k c : Nat) (body : List UInt8) (x y : UInt8) (w : World) (hn : n < 18446744073709551616) (h : BS w A k c body) (ht : Tab w) :
    Calls Tryd.prog 4 #[.int .u64 n, .slice A k c, bv x, bv y] w fun e w' => e = .returned (.bool true) ∧ Below w.heap.size w w' := by
  obtain ⟨hz, -⟩ := zero_of_info zero_blk
  have hk := h.len
  have hcap := h.cap
  have hmax := h.max
  have hput := cs_put n hn A k c body w h ht
  by_cases he : (sl.put n body).2 = 0
  · obtain ⟨hn0, hbl, hp⟩ := sl.put_ok he
    rw [hp] at hput
    have hsl := sl.seal_length n hbl
    have hget := sl.get_seal hn0 hn hbl
    have hfl : (body ++ List.replicate (108 - body.length) 0).length = 108 := by simp; omega
    have hft : (body ++ List.replicate (108 - body.length) 0).take k = body := List.take_left' hk
    have hf0 : ∀ j, j < 108 → k ≤ j → (body ++ List.replicate (108 - body.length) 0)[j]? = some (0 : UInt8) := fun j hj hkj => by
      rw [List.getElem?_append_right (by omega), List.getElem?_replicate, if_pos (by omega)]
    have hch := fun m hm v => sl.changed hsl (by rw [hget]) m hm v
    have hok : (sl.get (sl.sealB n body)).2.2 = 0 := by rw [hget]
    generalize sl.sealB n body = b at *
    generalize body ++ List.replicate (108 - body.length) 0 = full at *
    have hgc := fun W hW => cs_get b hsl W hW
    simp only [hget] at hgc
    obtain ⟨m, hm⟩ : ∃ m, x.toNat % 128 = m := ⟨_, rfl⟩
    have hm128 : m < 128 := by omega
    have hrem : (x.toNat : Int) % 128 = (m : Int) := by omega
    have hxl := x.toNat_lt
    have HP := Lib.hid hput
    have HG := Lib.hid hgc
    have HC := Lib.hid hch
    have HF := Lib.hid hfl
    have HT := Lib.hid hft
    have hk108 : (k : Int) ≤ 108 := by omega
    clear hput hp he hget hch hgc hfl hft hm
    go_enter Tryd.func4, Tryd.ntmps4
    go_wp2_with fail
    refine HP.out.mono ?_
    rintro e w1 ⟨rfl, hb1⟩
    have hr1 := heap_alloc_new w1 (.cells (dk.cells dk.zero).toArray 25)
    obtain ⟨B, hB⟩ : ∃ B, w1.heap.size = B := ⟨_, rfl⟩
    have hBw : w.heap.size ≤ B := by rw [← hB]; exact hb1.size
    rw [hB] at hr1
    go_wp2_with (first
      | (refine wp_st0 (.tmp 9) (.tmp 23) b hr1 zero_len hsl rfl rfl rfl rfl ?_; intro w2 hW2 hc2; rw [← hB] at hc2; have hb2 := hb1.trans ((new_chg hc2).mono hb1.size); have g1 := blk_range hW2)
      | refine wp_ld (.tmp 9) b g1 hsl rfl rfl rfl ?_)
    refine (HG.out _ (ht.below hb2)).mono ?_
    rintro e w3 ⟨v3, rfl, ho3, hb3⟩
    have hb23 := hb2.trans (hb3.mono hb2.size)
    have hW3 := (hb3.block B (Array.getElem?_eq_some_iff.1 hW2).1).trans hW2
    obtain ⟨A3, c3, rfl, hB3⟩ := ho3.form
    rw [HF.out] at hB3 ⊢
    have hS3 := same_any A3 A k c3 k c _ _ w3 (hB3.take (k := k) (by omega)) (h.below hb23)
    rw [HT.out, decide_eq_true rfl] at hS3
    have HS3 := Lib.hid hS3
    have hc108 := hB3.cap
    have hcm := hB3.max
    clear hS3 hW2 hc2 hr1 hb1 g1 ho3 hB
    go_wp2_with fail
    refine HS3.out.mono ?_
    rintro e w4 ⟨rfl, rfl⟩
    go_wp2_with fail
    have hr3 : RowB 25 w3 B b := hW3
    go_loopw [14, 15] (fun r t wr => ∃ j : Nat, r = .int .i64 0 ∧ t = .int .i64 j ∧ k ≤ j ∧ j ≤ 108 ∧ wr = w3) (fun _ t _ => 108 - (intOf t).toNat)
    case atStart => exact ⟨k, rfl, rfl, by omega, by omega, rfl⟩
    case round =>
      obtain ⟨j, rfl, rfl, hkj, hj, rfl⟩ := hrel
      by_cases hlt : j < 108
      · obtain ⟨g1, o1, rfl, _, hc1⟩ := hB3.has (by omega)
        have q1 := hc1 j (by rw [HF.out]; exact hlt)
        have e1 : full[j]'(by rw [HF.out]; exact hlt) = 0 := by
          have h1 := hf0 j hlt hkj
          rw [List.getElem?_eq_getElem (by rw [HF.out]; exact hlt)] at h1
          exact Option.some.inj h1
        rw [e1] at q1
        have q1' : wr.cell? ⟨g1, o1 + j, none⟩ = some (.int .u8 0) := q1
        clear q1 e1 hc1
        go_wp2_with fail
        go_roundw
        case rel => exact ⟨j + 1, rfl, by go_num, by omega, by omega, trivial⟩
        case measure => simp [intOf]; omega
      · have hlt' : ¬ (j : Int) < 108 := by omega
        have cx := hr3.cell (i := m) (by rw [hsl]; exact hm128)
        have fx := hr3.frozen m
        have hset : ∀ v, RowB 25 (wr.setCell ⟨B, m, none⟩ (bv v)) B (b.set m v) := fun v => hr3.set_ m v
        have hmb : m < b.length := by rw [hsl]; exact hm128
        obtain ⟨u, hu⟩ : ∃ u, b[m]'hmb = u := ⟨_, rfl⟩
        have cu : wr.cell? ⟨B, m, none⟩ = some (bv u) := by rw [← hu]; exact cx
        have HU := Lib.hid hu
        have HSET := Lib.hid hset
        have hy := y.toNat_lt
        have hul := u.toNat_lt
        clear cx hu hset hlt
        go_wp2_with (refine wp_ld (.tmp 9) (b.set m (u ^^^ y)) (by rw [xor_bv]; exact blk_range (HSET.out _)) (by rw [List.length_set]; exact hsl) rfl rfl rfl ?_)
        rw [xor_bv]
        have hbs := hb23.setCell (p := ⟨B, m, none⟩) hBw (bv (u ^^^ y))
        have hgc := cs_get (b.set m (u ^^^ y)) (by rw [List.length_set]; exact hsl) _ (ht.below hbs)
        obtain ⟨N5, hN5⟩ : ∃ e, (sl.get (b.set m (u ^^^ y))).1 = e := ⟨_, rfl⟩
        obtain ⟨L5, hL5⟩ : ∃ e, (sl.get (b.set m (u ^^^ y))).2.1 = e := ⟨_, rfl⟩
        obtain ⟨e5, he5⟩ : ∃ e, (sl.get (b.set m (u ^^^ y))).2.2 = e := ⟨_, rfl⟩
        have hiff : e5 = 0 ↔ y = 0 := by
          have hset0 : b.set m u = b := by rw [← HU.out]; exact List.set_getElem_self _
          constructor
          · intro h0
            have h1 := HC.out m hm128 (u ^^^ y) (he5.trans h0)
            have h2 : (b.set m (u ^^^ y))[m]? = b[m]? := by rw [h1]
            rw [List.getElem?_set, if_pos rfl, if_pos hmb, List.getElem?_eq_getElem hmb, HU.out] at h2
            exact sl.xor_ne u y (Option.some.inj h2)
          · intro h0
            rw [h0, UInt8.xor_zero, hset0] at he5
            rw [← he5]
            exact hok
        rw [hN5, hL5, he5] at hgc
        have HGC := Lib.hid hgc
        have hcs : (e5 == 0) = ((y.toNat : Int) == 0) := by
          by_cases h0 : y = 0
          · rw [hiff.2 h0, h0]; rfl
          · have h1 : ¬ e5 = 0 := fun e => h0 (hiff.1 e)
            have h2 : ¬ (y.toNat : Int) = 0 := fun e => h0 (UInt8.toNat_inj.1 (by simpa using e))
            rw [beq_eq_false_iff_ne.2 h1, beq_eq_false_iff_ne.2 h2]
        obtain ⟨q, hq⟩ : ∃ q, ((y.toNat : Int) == 0) = q := ⟨_, rfl⟩
        rw [hq] at hcs
        clear hgc hiff hN5 hL5 he5 hW3 hr3 hB3 cu fx
        refine HGC.out.mono ?_
        rintro e w5 ⟨v5, rfl, _, hb5⟩
        have hbb5 := hbs.trans (hb5.mono hbs.size)
        cases q
        all_goals
          go_wp2_with fail
          refine (lives05_any _ (ht.below hbb5)).mono ?_
          rintro e w6 ⟨rfl, hb6⟩
          go_wp2_with fail
          go_ret
          exact ⟨rfl, hbb5.trans (hb6.mono hbb5.size)⟩
  · obtain ⟨hwhy, hzero⟩ := sl.put_err he
    have hE := eq_blk dk.zero dk.zero zero_len zero_len
    rw [decide_eq_true rfl] at hE
    rw [hzero] at hput
    obtain ⟨e5, he5⟩ : ∃ e, (sl.put n body).2 = e := ⟨_, rfl⟩
    rw [he5] at hput he
    have hne : (e5 == 0) = false := by simpa using he
    have HP := Lib.hid hput
    have hcs : n = 0 ∨ (¬ n = 0 ∧ 108 < k) := by omega
    clear hput he5 he hzero hwhy
    rcases hcs with h0 | ⟨h0, h1⟩
    all_goals
      try (have h0' : ((n : Int) == 0) = true := by simp [h0])
      try (have h0'' : ((n : Int) == 0) = false := by simp [h0])
      try (have h1' : (108 : Int) < (k : Int) := by omega)
      clear h0
      go_enter Tryd.func4, Tryd.ntmps4
      go_wp2_with fail
      refine HP.out.mono ?_
      rintro e w1 ⟨rfl, hb1⟩
      have hr1 := heap_alloc_new w1 (.cells (dk.cells dk.zero).toArray 25)
      go_wp2_with (first
        | (refine wp_st0 (.tmp 9) (.tmp 23) dk.zero hr1 zero_len zero_len rfl rfl rfl rfl ?_; intro w2 hW2 hc2; have hb2 := hb1.trans ((new_chg hc2).mono hb1.size); have g1 := blk_range hW2)
        | refine wp_ldw (.tmp 9) dk.zero g1 zero_len rfl rfl (by rfl) ?_)
      refine (lives05_any _ (ht.below hb2)).mono ?_
      rintro e w3 ⟨rfl, hb3⟩
      go_wp2_with fail
      go_ret
      exact ⟨rfl, hb2.trans (hb3.mono hb2.size)⟩
end Go.Proofs.YtbjnmiaplegkcaaDoor
