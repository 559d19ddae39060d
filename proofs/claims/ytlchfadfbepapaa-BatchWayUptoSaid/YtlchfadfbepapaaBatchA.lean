/-
  cardexref08's Apply.
-/
import Derived.Test.YtlchfadfbepapaaBatchT2
import Derived.Test.YtlchfadfbepapaaBatchM2
import Derived.Test.YtlchfadfbepapaaRef00
namespace Go.Proofs.Ytlchfadfbepapaa
open Go.RowKit
theorem bt.mayC_small : ∀ (l : List bt.C) (p : Option bt.Key), bt.mayCFrom p l = true → ∀ x ∈ l, x.val.length ≤ 1048576
  | [], _, _, x, hx => by cases hx
  | y :: l, p, h, x, hx => by
    unfold bt.mayCFrom at h
    simp only [Bool.and_eq_true, decide_eq_true_eq] at h
    rcases List.mem_cons.1 hx with rfl | hx
    · exact h.1.1.1.2
    · exact bt.mayC_small l _ h.2 x hx
theorem bt.step_le (t : List bt.R) (x : bt.C) : (bt.step t x).length ≤ t.length + 1 := by
  unfold bt.step
  split
  · have := bt.without_le t x.key
    omega
  · exact bt.put_le t _
theorem bt.apply_le : ∀ (l : List bt.C) (t : List bt.R), (bt.applyL t l).length ≤ t.length + l.length
  | [], t => by simp [bt.applyL]
  | x :: l, t => by
    have h1 := bt.apply_le l (bt.step t x)
    have h2 := bt.step_le t x
    simp only [bt.applyL, List.foldl_cons, List.length_cons] at h1 ⊢
    omega
theorem bt.apply_next {t : List bt.R} {l : List bt.C} {i : Nat} (h : i < l.length) : bt.applyL t (l.take (i + 1)) = bt.step (bt.applyL t (l.take i)) l[i] := by
  unfold bt.applyL
  rw [List.take_add_one, List.getElem?_eq_getElem h, Option.toList_some, List.foldl_append]
  rfl
set_option maxHeartbeats 8000000 in
set_option maxRecDepth 100000 in
theorem rapply_any {Z : Nat → Prop} (A : Option Addr) (n c : Nat) (t : List bt.R) (B : Option Addr) (m d : Nat) (l : List bt.C) (w : World) (h : TS w A n c t) (hz : TO Z w A n) (hZ : ∀ k, w.heap.size ≤ k → Z k) (hl : CS w B m d l) (hk1 : ∀ r ∈ t, r.key.length ≤ 9223372036854775807) (hk2 : ∀ r ∈ l, r.key.length ≤ 9223372036854775807) (hn : n + m ≤ 1099511627774) : Calls Try.prog 23 #[.slice A n c, .slice B m d] w fun e w' => (∃ A' c', e = .returned (.tuple #[.slice A' (bt.apply t l).1.length c', .int .i64 (bt.apply t l).2]) ∧ TS w' A' (bt.apply t l).1.length c' (bt.apply t l).1 ∧ TO Z w' A' (bt.apply t l).1.length) ∧ Below w.heap.size w w' := by
  have hlen := h.len
  have hlenl := hl.len
  have hcap := h.cap
  have hmax := h.max
  have hcapl := hl.cap
  have hmaxl := hl.max
  have HMAY := Lib.hid (fun W (g : TS W A n c t) => rmay8_any A n c t W g hk1)
  have HMAYC := Lib.hid (fun W (g : CS W B m d l) => rmayC_any B m d l W g hk2)
  have H1 := Lib.hid h
  have HZ := Lib.hid hz
  have HZn := Lib.hid hZ
  have H2 := Lib.hid hl
  clear h hl hz hZ hk1 hk2
  by_cases c1 : bt.may t = true
  · rw [c1] at HMAY
    by_cases c2 : bt.mayC l = true
    · rw [c2] at HMAYC
      have hsm := bt.mayC_small l none c2
      have hres : bt.apply t l = (bt.applyL t l, 0) := by unfold bt.apply; rw [c1, c2]; rfl
      rw [hres]
      clear hres c1 c2
      go_enter Try.func23, Try.ntmps23
      go_wp2_with (first
        | (go_at_call 11; refine (HMAY.out _ H1.out).mono ?_; rintro e w1 ⟨rfl, hb1⟩)
        | (go_at_call 13; refine (HMAYC.out _ (H2.out.below hb1)).mono ?_; rintro e w2 ⟨rfl, hb2⟩))
      have hbb := hb1.trans (hb2.mono hb1.size)
      go_loopw [0, 6] (fun v s wr => ∃ (i : Nat) (A' : Option Addr) (c' : Nat), s = .int .i64 i ∧ i ≤ m ∧ v = .slice A' (bt.applyL t (l.take i)).length c' ∧ TS wr A' (bt.applyL t (l.take i)).length c' (bt.applyL t (l.take i)) ∧ Hid (TO Z wr A' (bt.applyL t (l.take i)).length) ∧ Below w.heap.size w wr) (fun _ s _ => m - (intOf s).toNat)
      case atStart => exact ⟨0, A, c, rfl, by omega, by rw [show bt.applyL t (l.take 0) = t from rfl, hlen], hlen.symm ▸ (H1.out.below hbb), Lib.hid (hlen.symm ▸ (HZ.out.below H1.out hbb)), hbb⟩
      case round =>
        clear hbb hb1 hb2 HMAY HMAYC H1
        obtain ⟨i, A', c', rfl, hin, rfl, ht, hto, hb⟩ := hrel
        have hle := bt.apply_le (l.take i) t
        rw [List.length_take] at hle
        by_cases hi : i < m
        · have hil : i < l.length := by omega
          have hnext := bt.apply_next (t := t) hil
          have hsmall := hsm _ (List.getElem_mem hil)
          obtain ⟨b2, o2, rfl, hbl0, hr2⟩ := (H2.out.below hb).has (by omega)
          have hbl : b2 < wr.heap.size := hbl0
          obtain ⟨p2, r2, X, cx, q2, g2⟩ := hr2 i hil
          obtain ⟨r, hr⟩ : ∃ r, l[i] = r := ⟨_, rfl⟩
          rw [hr] at p2 q2 r2 g2 hnext hsmall
          clear hr hr2 hbl0
          obtain ⟨kk, vv, gn⟩ := r
          simp only at p2 q2 r2 g2 hsmall
          obtain ⟨T0, hT0⟩ : ∃ T, bt.applyL t (l.take i) = T := ⟨_, rfl⟩
          rw [hT0] at ht hto hle hnext ⊢
          clear hT0
          obtain ⟨k0, hk0⟩ : ∃ k, T0.length = k := ⟨_, rfl⟩
          rw [hk0] at ht hto hle ⊢
          have hZr : ∀ k, wr.heap.size ≤ k → Z k := fun k hk => HZn.out k (Nat.le_trans hb.size hk)
          obtain ⟨mm, hm⟩ : ∃ m, vv.length = m := ⟨_, rfl⟩
          rw [hm] at q2 g2 hsmall
          cases gn with
          | true =>
            rw [show bt.step T0 ⟨kk, vv, true⟩ = bt.without T0 kk from rfl] at hnext
            have HN := Lib.hid hnext
            have HW := Lib.hid (rwithout_any A' k0 c' T0 kk wr ht hto.out hZr (by omega))
            clear hnext hsm g2 hk0 hm
            go_wp2_with (go_at_call 50; refine HW.out.mono ?_; rintro e w3 ⟨⟨A3, c3, rfl, ht3, ho3⟩, hb3⟩)
            go_roundw
            case rel => exact ⟨i + 1, A3, c3, by go_num, by omega, by rw [HN.out], by rw [HN.out]; exact ht3, Lib.hid (by rw [HN.out]; exact ho3), hb.trans (hb3.mono hb.size)⟩
            case measure => simp [intOf]; omega
          | false =>
            rw [show bt.step T0 ⟨kk, vv, false⟩ = bt.put T0 ⟨kk, vv⟩ from rfl] at hnext
            have HN := Lib.hid hnext
            have HCOPY := Lib.hid (fun W (hS : Below wr.heap.size wr W) => copy_any X mm cx vv W (g2.below hS) (by omega))
            have HPUT := Lib.hid (fun W A2 c2 (hS : Below wr.heap.size wr W) (hB : BS W A2 mm c2 vv) (hA2 : ∀ g p, A2 = some ⟨g, p, none⟩ → Z g) => (show Calls Try.prog 51 #[.slice A' k0 c', .agg #[str kk, .slice A2 mm c2]] W _ from hm ▸ rput8_any A' k0 c' T0 A2 c2 ⟨kk, vv⟩ W (ht.below hS) (hm.symm ▸ hB) (hto.out.below ht hS) (fun _ => hA2) (fun k hk => hZr k (Nat.le_trans hS.size hk)) (by omega)))
            clear hnext hsm g2 hk0
            go_wp2_with fail
            refine wp_region_held_drew (S := fun W => Below wr.heap.size wr W) (by kernel_rfl) (Below.refl _ _).drew (fun hHeld => ?_)
            refine wpAnyH_take (i := 0) (v := ?_) rfl (by kernel_rfl) (by kernel_rfl) (by kernel_rfl) (fun _ _ _ h => h) (Or.inl ⟨by rfl, ?_⟩) hHeld ?_
            rotate_left
            · intro w hSw; have f0 := (hSw.cell (p := ⟨b2, o2 + i * 3, none⟩) hbl).trans p2; have f1 := (hSw.cell (p := ⟨b2, o2 + i * 3 + 1, none⟩) hbl).trans q2; clear hSw; go_simp; try rfl
            simp only [List.getElem_toArray, List.getElem_cons_zero, Act.put, List.setIfInBounds_toArray, List.set_cons_zero, List.set_cons_succ]
            refine wpAnyH_take (i := 1) (v := ?_) rfl (by kernel_rfl) (by kernel_rfl) (by kernel_rfl) (fun _ _ _ h => h) (Or.inl ⟨by rfl, ?_⟩) hHeld ?_
            rotate_left
            · intro w hSw; have f0 := (hSw.cell (p := ⟨b2, o2 + i * 3, none⟩) hbl).trans p2; have f1 := (hSw.cell (p := ⟨b2, o2 + i * 3 + 1, none⟩) hbl).trans q2; clear hSw; go_simp; try rfl
            simp only [List.getElem_toArray, List.getElem_cons_zero, List.getElem_cons_succ, Act.put, List.setIfInBounds_toArray, List.set_cons_zero, List.set_cons_succ]
            refine wpAnyH_take (i := 2) (v := ?_) rfl (by kernel_rfl) (by kernel_rfl) (by kernel_rfl) (fun _ _ _ h => h) (Or.inl ⟨by rfl, ?_⟩) hHeld ?_
            rotate_left
            · intro w hSw; have f0 := (hSw.cell (p := ⟨b2, o2 + i * 3, none⟩) hbl).trans p2; have f1 := (hSw.cell (p := ⟨b2, o2 + i * 3 + 1, none⟩) hbl).trans q2; clear hSw; go_simp; try rfl
            simp only [List.getElem_toArray, List.getElem_cons_zero, List.getElem_cons_succ, Act.put, List.setIfInBounds_toArray, List.set_cons_zero, List.set_cons_succ]
            refine wpAnyH_take (i := 3) (v := ?_) rfl (by kernel_rfl) (by kernel_rfl) (by kernel_rfl) (fun _ _ _ h => h) (Or.inl ⟨by rfl, ?_⟩) hHeld ?_
            rotate_left
            · intro w hSw; have f0 := (hSw.cell (p := ⟨b2, o2 + i * 3, none⟩) hbl).trans p2; have f1 := (hSw.cell (p := ⟨b2, o2 + i * 3 + 1, none⟩) hbl).trans q2; clear hSw; go_simp; try rfl
            simp only [List.getElem_toArray, List.getElem_cons_zero, List.getElem_cons_succ, Act.put, List.setIfInBounds_toArray, List.set_cons_zero, List.set_cons_succ]
            refine wpAnyH_take (i := 4) (v := ?_) rfl (by kernel_rfl) (by kernel_rfl) (by kernel_rfl) (fun _ _ _ h => h) (Or.inl ⟨by rfl, ?_⟩) hHeld ?_
            rotate_left
            · intro w hSw; have f0 := (hSw.cell (p := ⟨b2, o2 + i * 3, none⟩) hbl).trans p2; have f1 := (hSw.cell (p := ⟨b2, o2 + i * 3 + 1, none⟩) hbl).trans q2; clear hSw; go_simp; try rfl
            simp only [List.getElem_toArray, List.getElem_cons_zero, List.getElem_cons_succ, Act.put, List.setIfInBounds_toArray, List.set_cons_zero, List.set_cons_succ]
            refine wpAnyH_take (i := 5) (v := ?_) rfl (by kernel_rfl) (by kernel_rfl) (by kernel_rfl) (fun _ _ _ h => h) (Or.inl ⟨by rfl, ?_⟩) hHeld ?_
            rotate_left
            · intro w hSw; have f0 := (hSw.cell (p := ⟨b2, o2 + i * 3, none⟩) hbl).trans p2; have f1 := (hSw.cell (p := ⟨b2, o2 + i * 3 + 1, none⟩) hbl).trans q2; clear hSw; go_simp; try rfl
            simp only [List.getElem_toArray, List.getElem_cons_zero, List.getElem_cons_succ, Act.put, List.setIfInBounds_toArray, List.set_cons_zero, List.set_cons_succ]
            refine wpAnyH_take (i := 6) (v := ?_) rfl (by kernel_rfl) (by kernel_rfl) (by kernel_rfl) (fun _ _ _ h => h) (Or.inl ⟨by rfl, ?_⟩) hHeld ?_
            rotate_left
            · intro w hSw; have f0 := (hSw.cell (p := ⟨b2, o2 + i * 3, none⟩) hbl).trans p2; have f1 := (hSw.cell (p := ⟨b2, o2 + i * 3 + 1, none⟩) hbl).trans q2; clear hSw; go_simp; try rfl
            simp only [List.getElem_toArray, List.getElem_cons_zero, List.getElem_cons_succ, Act.put, List.setIfInBounds_toArray, List.set_cons_zero, List.set_cons_succ]
            refine wpAnyH_take (i := 7) (v := ?_) rfl (by kernel_rfl) (by kernel_rfl) (by kernel_rfl) (fun _ _ _ h => h) (Or.inl ⟨by rfl, ?_⟩) hHeld ?_
            rotate_left
            · intro w hSw; have f0 := (hSw.cell (p := ⟨b2, o2 + i * 3, none⟩) hbl).trans p2; have f1 := (hSw.cell (p := ⟨b2, o2 + i * 3 + 1, none⟩) hbl).trans q2; clear hSw; go_simp; try rfl
            simp only [List.getElem_toArray, List.getElem_cons_zero, List.getElem_cons_succ, Act.put, List.setIfInBounds_toArray, List.set_cons_zero, List.set_cons_succ]
            refine wpAnyH_take (i := 8) (v := ?_) rfl (by kernel_rfl) (by kernel_rfl) (by kernel_rfl) (fun _ _ _ h => h) (Or.inl ⟨by rfl, ?_⟩) hHeld ?_
            rotate_left
            · intro w hSw; have f0 := (hSw.cell (p := ⟨b2, o2 + i * 3, none⟩) hbl).trans p2; have f1 := (hSw.cell (p := ⟨b2, o2 + i * 3 + 1, none⟩) hbl).trans q2; clear hSw; go_simp; try rfl
            simp only [List.getElem_toArray, List.getElem_cons_zero, List.getElem_cons_succ, Act.put, List.setIfInBounds_toArray, List.set_cons_zero, List.set_cons_succ]
            refine wpAnyH_take (i := 9) (v := ?_) rfl (by kernel_rfl) (by kernel_rfl) (by kernel_rfl) (fun _ _ _ h => h) (Or.inl ⟨by rfl, ?_⟩) hHeld ?_
            rotate_left
            · intro w hSw; have f0 := (hSw.cell (p := ⟨b2, o2 + i * 3, none⟩) hbl).trans p2; have f1 := (hSw.cell (p := ⟨b2, o2 + i * 3 + 1, none⟩) hbl).trans q2; clear hSw; go_simp; try rfl
            simp only [List.getElem_toArray, List.getElem_cons_zero, List.getElem_cons_succ, Act.put, List.setIfInBounds_toArray, List.set_cons_zero, List.set_cons_succ]
            refine wpAnyH_take (i := 10) (v := ?_) rfl (by kernel_rfl) (by kernel_rfl) (by kernel_rfl) (fun _ _ _ h => h) (Or.inl ⟨by rfl, ?_⟩) hHeld ?_
            rotate_left
            · intro w hSw; have f0 := (hSw.cell (p := ⟨b2, o2 + i * 3, none⟩) hbl).trans p2; have f1 := (hSw.cell (p := ⟨b2, o2 + i * 3 + 1, none⟩) hbl).trans q2; clear hSw; go_simp; try rfl
            simp only [List.getElem_toArray, List.getElem_cons_zero, List.getElem_cons_succ, Act.put, List.setIfInBounds_toArray, List.set_cons_zero, List.set_cons_succ]
            refine wpAnyH_ready (rs := [11]) (by kernel_rfl) (by simp) ?_
            refine AllReadyH.cons rfl (fun K hK => ?_) AllReadyH.nil
            rw [if_pos (by rfl)]
            go_simp
            refine (HCOPY.out _ hHeld).mono ?_
            rintro e w2 ⟨v2, rfl, ho2, hb2⟩
            have hA2' := ho2.lt
            obtain ⟨A2, c2, rfl, hB2⟩ := ho2.form
            have hA2 : ∀ g p, A2 = some ⟨g, p, none⟩ → Z g := fun g p e => hZr g (Nat.le_trans hHeld.size (hA2' g (by rw [e]; rfl)).1)
            rw [hm] at hB2
            have hh2 : Below wr.heap.size wr w2 := hHeld.trans (hb2.mono hHeld.size)
            rw [hm]
            refine hK.out _ _ hh2 (fun hHeld => ?_)
            clear hK K
            refine wpAnyH_take (i := 12) (v := ?_) rfl (by kernel_rfl) (by kernel_rfl) (by kernel_rfl) (fun _ _ _ h => h) (Or.inl ⟨by rfl, ?_⟩) hHeld ?_
            rotate_left
            · intro w hSw; clear hSw; go_simp; try rfl
            simp only [List.getElem_toArray, List.getElem_cons_zero, List.getElem_cons_succ, Act.put, List.setIfInBounds_toArray, List.set_cons_zero, List.set_cons_succ]
            refine wpAnyH_ready (rs := [13]) (by kernel_rfl) (by simp) ?_
            refine AllReadyH.cons rfl (fun K hK => ?_) AllReadyH.nil
            rw [if_pos (by rfl)]
            go_simp
            refine (HPUT.out w2 A2 c2 hh2 hB2 hA2).mono ?_
            rintro e w3 ⟨⟨A3, c3, rfl, ht3, ho3⟩, hb3⟩
            have hh3 : Below wr.heap.size wr w3 := hh2.trans (hb3.mono hh2.size)
            refine hK.out _ _ hh3 (fun hHeld => ?_)
            clear hK K
            refine wpAnyH_take (i := 14) (v := ?_) rfl (by kernel_rfl) (by kernel_rfl) (by kernel_rfl) (fun _ _ _ h => h) (Or.inl ⟨by rfl, ?_⟩) hHeld ?_
            rotate_left
            · intro w hSw; clear hSw; go_simp; try rfl
            simp only [List.getElem_toArray, List.getElem_cons_zero, List.getElem_cons_succ, Act.put, List.setIfInBounds_toArray, List.set_cons_zero]
            refine wpAnyH_done (by kernel_rfl) ?_ _
            go_wp2_with fail
            go_roundw
            case rel => exact ⟨i + 1, A3, c3, by go_num, by omega, by rw [HN.out], by rw [HN.out]; exact ht3, Lib.hid (by rw [HN.out]; exact ho3), hb.trans (hh3.mono hb.size)⟩
            case measure => simp [intOf]; omega
        · have hie : i = m := by omega
          rw [List.take_of_length_le (by omega)] at ht hto hle ⊢
          clear hie hsm
          go_wp2_with fail
          go_ret2
          exact ⟨⟨A', c', rfl, ht, hto.out⟩, hb⟩
    · have c2' : bt.mayC l = false := by simpa using c2
      rw [c2'] at HMAYC
      have hres : bt.apply t l = ([], 2) := by unfold bt.apply; rw [c1, c2']; rfl
      rw [hres]
      clear hres c1 c2 c2'
      go_enter Try.func23, Try.ntmps23
      go_wp2_with (first
        | (go_at_call 11; refine (HMAY.out _ H1.out).mono ?_; rintro e w1 ⟨rfl, hb1⟩)
        | (go_at_call 13; refine (HMAYC.out _ (H2.out.below hb1)).mono ?_; rintro e w2 ⟨rfl, hb2⟩))
      go_ret2
      exact ⟨⟨none, 0, rfl, ⟨rfl, Nat.le_refl _, by omega, fun h => absurd h (by simp)⟩, TO.nil_ _ _ _⟩, hb1.trans (hb2.mono hb1.size)⟩
  · have c1' : bt.may t = false := by simpa using c1
    rw [c1'] at HMAY
    have hres : bt.apply t l = ([], 2) := by unfold bt.apply; rw [c1']; rfl
    rw [hres]
    clear hres c1 c1'
    go_enter Try.func23, Try.ntmps23
    go_wp2_with (first
      | (go_at_call 11; refine (HMAY.out _ H1.out).mono ?_; rintro e w1 ⟨rfl, hb1⟩))
    go_ret2
    exact ⟨⟨none, 0, rfl, ⟨rfl, Nat.le_refl _, by omega, fun h => absurd h (by simp)⟩, TO.nil_ _ _ _⟩, hb1⟩
end Go.Proofs.Ytlchfadfbepapaa
