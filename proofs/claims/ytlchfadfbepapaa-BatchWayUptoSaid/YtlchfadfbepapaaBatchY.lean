/-
  THE PROGRAM's batch: are rows the same (Same)?
-/
import Derived.Test.YtlchfadfbepapaaBatchX
namespace Go.Proofs.Ytlchfadfbepapaa
open Go.RowKit Go.Shelf
set_option maxRecDepth 100000 in
theorem equal_any (A B : Option Addr) (n c m d : Nat) (a b : List UInt8) (w : World) (h : BS w A n c a) (h2 : BS w B m d b) : Calls Try.prog 53 #[.slice A n c, .slice B m d] w fun e w' => e = .returned (.bool (decide (a = b))) ∧ w = w' := by
  have k1 := run_convert_bs (P := Try.prog) h 24 5 9 Try.underlying24 Try.underlying5 Try.underlying9
  have k2 := run_convert_bs (P := Try.prog) h2 24 5 9 Try.underlying24 Try.underlying5 Try.underlying9
  go_enter Try.func53, Try.ntmps53
  go_wp2
  go_ret
  exact ⟨ret_bool (by by_cases h : a = b <;> simp [h]), rfl⟩
/-- a struct of two cells, newly made -/
theorem new2 (w : World) (a b : Value) (t : TypeId) : ∃ W, w.alloc (.cells #[a, b] t) = W ∧ W.cell? ⟨w.heap.size, 0, none⟩ = some a ∧ W.cell? ⟨w.heap.size, 1, none⟩ = some b ∧ Below w.heap.size w W ∧ W.heap.size = w.heap.size + 1 := by
  have h := heap_alloc_new w (.cells #[a, b] t)
  refine ⟨_, rfl, ?_, ?_, (Below.refl _ _).alloc (Nat.le_refl _) _, by simp⟩
  · rw [cell_of_row _ _ 0 _ _ _ h]; rfl
  · rw [cell_of_row _ _ 1 _ _ _ h]; rfl
set_option maxRecDepth 100000 in
theorem sameRow_any (k1 k2 : List UInt8) (A B : Option Addr) (n c m d : Nat) (a b : List UInt8) (w : World) (h : BS w A n c a) (h2 : BS w B m d b) : Calls Try.prog 57 #[.agg #[str k1, .slice A n c], .agg #[str k2, .slice B m d]] w fun e w' => e = .returned (.bool (decide (k1 = k2 ∧ a = b))) ∧ Below w.heap.size w w' := by
  obtain ⟨W1, hW1, a1, a2, b1, s1⟩ := new2 w (str k1) (.slice A n c) 51
  obtain ⟨W2, hW2, c1, c2, b2, s2⟩ := new2 W1 (str k2) (.slice B m d) 51
  rw [s1] at c1 c2
  have a1' := (b2.cell (p := ⟨w.heap.size, 0, none⟩) (by show w.heap.size < _; omega)).trans a1
  have a2' := (b2.cell (p := ⟨w.heap.size, 1, none⟩) (by show w.heap.size < _; omega)).trans a2
  have hb := b1.trans (b2.mono b1.size)
  have HE := Lib.hid (equal_any A B n c m d a b W2 (h.below hb) (h2.below hb))
  have HW1 := Lib.hid hW1
  have HW2 := Lib.hid hW2
  clear hW1 hW2 a1 a2 b1 b2 s2 h h2
  by_cases hk : k1 = k2
  · have hke : (k1 == k2) = true := by simp [hk]
    have hres : decide (k1 = k2 ∧ a = b) = decide (a = b) := by simp [hk]
    rw [hres]
    obtain ⟨q, hq⟩ : ∃ q, decide (a = b) = q := ⟨_, rfl⟩
    rw [hq] at HE ⊢
    clear hk hres hq
    cases q with
    | true =>
      go_enter Try.func57, Try.ntmps57
      go_wp2_with fail
      rw [HW1.out, HW2.out]
      go_wp2_with fail
      refine HE.out.mono ?_
      rintro e w3 ⟨rfl, rfl⟩
      go_wp2_with fail
      go_ret
      exact ⟨rfl, hb⟩
    | false =>
      go_enter Try.func57, Try.ntmps57
      go_wp2_with fail
      rw [HW1.out, HW2.out]
      go_wp2_with fail
      refine HE.out.mono ?_
      rintro e w3 ⟨rfl, rfl⟩
      go_wp2_with fail
      go_ret
      exact ⟨rfl, hb⟩
  · have hke : (k1 == k2) = false := beq_eq_false_iff_ne.2 hk
    have hres : decide (k1 = k2 ∧ a = b) = false := by simp [hk]
    rw [hres]
    clear hk hres HE
    go_enter Try.func57, Try.ntmps57
    go_wp2_with fail
    rw [HW1.out, HW2.out]
    go_wp2_with fail
    go_ret
    exact ⟨rfl, hb⟩
set_option maxHeartbeats 2000000 in
set_option maxRecDepth 100000 in
theorem equalF_any {A B : Option Addr} {n c m d : Nat} {w : World} (t u : List bt.R) (h1 : TS w A n c t) (h2 : TS w B m d u) : Calls Try.prog 56 #[.slice A n c, .slice B m d, .func (.func 57) #[] #[]] w fun e w' => e = .returned (.bool (decide (t = u))) ∧ Below w.heap.size w w' := by
  obtain ⟨hzr, -⟩ := zero_of_info (show (Try.prog.info? 51).map (fun i => (i.zero, i.size)) = some (some (.agg #[str [], .slice none 0 0]), 2) by kernel_rfl)
  have hen := enters_of Try.func57 (by kernel_rfl) rfl
  have hl1 := h1.len
  have hl2 := h2.len
  have hc1 := h1.cap
  have hc2 := h2.cap
  have hm1 := h1.max
  have hm2 := h2.max
  obtain ⟨Q, hQ⟩ : ∃ Q, decide (t = u) = Q := ⟨_, rfl⟩
  have HQ := Lib.hid hQ
  have H1 := Lib.hid h1
  have H2 := Lib.hid h2
  rw [hQ]
  clear h1 h2 hQ
  by_cases hnm : n = m
  · subst hnm
    go_enter Try.func56, Try.ntmps56
    go_wp2_with fail
    go_loopw [17] (fun v wr => ∃ i : Nat, v = .int .i64 i ∧ i ≤ n ∧ Hid (t.take i = u.take i) ∧ Below w.heap.size w wr) (fun v _ => n - (intOf v).toNat)
    case atStart => exact ⟨0, rfl, by omega, Lib.hid rfl, Below.refl _ _⟩
    case round =>
      obtain ⟨i, rfl, hi, hz, hb⟩ := hrel
      by_cases hlt : i < n
      · obtain ⟨b1, o1, rfl, hbl1, hr1⟩ := H1.out.has (by omega)
        obtain ⟨b2, o2, rfl, hbl2, hr2⟩ := H2.out.has (by omega)
        have hi1 : i < t.length := by omega
        have hi2 : i < u.length := by omega
        obtain ⟨p1, X, cx, q1, g1⟩ := hr1 i hi1
        obtain ⟨p2, Y, cy, q2, g2⟩ := hr2 i hi2
        have p1' := (hb.cell (p := ⟨b1, o1 + i * 2, none⟩) hbl1).trans p1
        have q1' := (hb.cell (p := ⟨b1, o1 + i * 2 + 1, none⟩) hbl1).trans q1
        have p2' := (hb.cell (p := ⟨b2, o2 + i * 2, none⟩) hbl2).trans p2
        have q2' := (hb.cell (p := ⟨b2, o2 + i * 2 + 1, none⟩) hbl2).trans q2
        have ht1 : t.take (i + 1) = t.take i ++ [t[i]] := by rw [List.take_add_one, List.getElem?_eq_getElem hi1]; rfl
        have ht2 : u.take (i + 1) = u.take i ++ [u[i]] := by rw [List.take_add_one, List.getElem?_eq_getElem hi2]; rfl
        have hne : t[i] ≠ u[i] → t ≠ u := fun hx e => hx (by subst e; rfl)
        obtain ⟨r, hr⟩ : ∃ r, t[i] = r := ⟨_, rfl⟩
        obtain ⟨s, hs⟩ : ∃ s, u[i] = s := ⟨_, rfl⟩
        rw [hr] at p1' q1' g1 ht1 hne
        rw [hs] at p2' q2' g2 ht2 hne
        clear hr1 hr2 p1 q1 p2 q2 hr hs
        have hbm := hb
        have HS := Lib.hid (fun (W : World) (hW : Below w.heap.size w W) => sameRow_any r.key s.key X Y r.val.length cx s.val.length cy r.val s.val W (g1.below hW) (g2.below hW))
        have hrs : (r.key = s.key ∧ r.val = s.val) ↔ r = s := by
          constructor
          · rintro ⟨e1, e2⟩
            cases r; cases s
            simp only at e1 e2
            rw [e1, e2]
          · rintro rfl
            exact ⟨rfl, rfl⟩
        obtain ⟨q, hq⟩ : ∃ q, decide (r.key = s.key ∧ r.val = s.val) = q := ⟨_, rfl⟩
        rw [hq] at HS
        have hq2 : q = true ↔ r = s := by rw [← hq, decide_eq_true_iff, hrs]
        have HQ2 := Lib.hid hq2
        have HT1 := Lib.hid ht1
        have HT2 := Lib.hid ht2
        have HNE := Lib.hid hne
        obtain ⟨k1, hk1⟩ : ∃ k, r.key = k := ⟨_, rfl⟩
        obtain ⟨k2, hk2⟩ : ∃ k, s.key = k := ⟨_, rfl⟩
        obtain ⟨m1, hm1⟩ : ∃ k, r.val.length = k := ⟨_, rfl⟩
        obtain ⟨m2, hm2⟩ : ∃ k, s.val.length = k := ⟨_, rfl⟩
        rw [hk1] at p1' HS
        rw [hk2] at p2' HS
        rw [hm1] at q1' HS
        rw [hm2] at q2' HS
        clear g1 g2 hrs hq hq2 ht1 ht2 hne hk1 hk2 hm1 hm2 hbm
        have p3 := (World.cell?_alloc_lt wr (.cells #[.string { data := List.toArray k1 }, .slice X m1 cx] 51) ⟨b2, o2 + i * 2, none⟩ (World.block_lt_of_cell? _ _ p2')).trans p2'
        have q3 := (World.cell?_alloc_lt wr (.cells #[.string { data := List.toArray k1 }, .slice X m1 cx] 51) ⟨b2, o2 + i * 2 + 1, none⟩ (World.block_lt_of_cell? _ _ q2')).trans q2'
        have hbA : Below w.heap.size w ((wr.alloc (.cells #[.string { data := List.toArray k1 }, .slice X m1 cx] 51)).alloc (.cells #[.string { data := List.toArray k2 }, .slice Y m2 cy] 51)) := (hb.alloc hb.size _).alloc (by have := hb.size; simp; omega) _
        go_wp2_with fail
        refine (HS.out _ hbA).mono ?_
        rintro e w3 ⟨rfl, hb3⟩
        have hb4 := hbA.trans (hb3.mono hbA.size)
        clear p3 q3 hbA hb3 p1' p2' q1' q2' HS
        cases q with
        | true =>
          have hrs := HQ2.out.1 rfl
          have HN : Hid (t.take (i + 1) = u.take (i + 1)) := Lib.hid (by rw [HT1.out, HT2.out, hz.out, hrs])
          clear hrs HT1 HT2 hz
          go_wp2_with fail
          go_roundw
          case rel => exact ⟨i + 1, by go_num, by omega, HN, hb4⟩
          case measure => simp [intOf]; omega
        | false =>
          have hQf : Q = false := by
            rw [← HQ.out]
            exact decide_eq_false (HNE.out fun e => by have := HQ2.out.2 e; cases this)
          have HQF := Lib.hid hQf
          clear hQf HNE HT1 HT2 hz HQ2 HQ
          go_wp2_with fail
          go_ret
          exact ⟨ret_bool HQF.out.symm, hb4⟩
      · have hie : i = n := by omega
        subst hie
        have hQt : Q = true := by
          have h := hz.out
          rw [List.take_of_length_le (by omega), List.take_of_length_le (by omega)] at h
          rw [← HQ.out]
          exact decide_eq_true h
        have HQT := Lib.hid hQt
        clear hQt hz HQ H1 H2
        go_wp2_with fail
        go_ret
        exact ⟨ret_bool HQT.out.symm, hb⟩
  · have hQf : Q = false := by
      rw [← HQ.out]
      exact decide_eq_false fun e => hnm (by rw [← hl1, ← hl2, e])
    have HQF := Lib.hid hQf
    clear hQf HQ H1 H2
    go_enter Try.func56, Try.ntmps56
    go_wp2_with fail
    go_ret
    exact ⟨ret_bool HQF.out.symm, Below.refl _ _⟩
theorem sameq_any {A B : Option Addr} {n c m d : Nat} {w : World} (t u : List bt.R) (h1 : TS w A n c t) (h2 : TS w B m d u) : Calls Try.prog 31 #[.slice A n c, .slice B m d] w fun e w' => e = .returned (.bool (decide (t = u))) ∧ Below w.heap.size w w' := by
  have HE := Lib.hid (equalF_any t u h1 h2)
  clear h1 h2
  go_enter Try.func31, Try.ntmps31
  go_wp2_with fail
  refine HE.out.mono ?_
  rintro e w3 ⟨rfl, hb⟩
  go_wp2_with fail
  go_ret
  exact ⟨rfl, hb⟩
end Go.Proofs.Ytlchfadfbepapaa
