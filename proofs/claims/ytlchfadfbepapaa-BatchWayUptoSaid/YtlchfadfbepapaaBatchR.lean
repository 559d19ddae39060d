/-
  THE PROGRAM's batch: which changes may not be, and whether they are sorted (slices.ContainsFunc, slices.IsSortedFunc).
-/
import Derived.Test.YtlchfadfbepapaaBatchQ
import Derived.Shelf.Abstract
namespace Go.Proofs.Ytlchfadfbepapaa
open Go.RowKit Go.Shelf
set_option maxHeartbeats 1000000 in
set_option maxRecDepth 100000 in
/-- where the first change stands that may not be -/
theorem badIndex_any (A : Option Addr) (n c : Nat) (l : List bt.C) (w : World) (h : CS w A n c l) (hk : ∀ r ∈ l, r.key.length ≤ 9223372036854775807) :
    Calls Try.prog 62 #[.slice A n c, .func (.func 40) #[] #[]] w fun e w' => ∃ r : Int, e = .returned (.int .i64 r) ∧ (0 ≤ r ↔ l.any bt.bad = true) ∧ Below w.heap.size w w' := by
  have hl := h.len
  have hcap := h.cap
  have hmax := h.max
  have hen := enters_of Try.func40 (by kernel_rfl) rfl
  have H := Lib.hid h
  clear h
  go_enter Try.func62, Try.ntmps62
  go_wp2_with fail
  go_loopw [8] (fun t wr => ∃ i : Nat, t = .int .i64 i ∧ i ≤ n ∧ Hid ((l.take i).any bt.bad = false) ∧ Below w.heap.size w wr) (fun t _ => n - (intOf t).toNat)
  case atStart => exact ⟨0, rfl, by omega, Lib.hid rfl, Below.refl _ _⟩
  case round =>
    obtain ⟨i, rfl, hi, hz, hb⟩ := hrel
    by_cases hlt : i < n
    · have hil : i < l.length := by omega
      obtain ⟨b, o, rfl, hbl, hr⟩ := H.out.has (by omega)
      obtain ⟨p1, r1, X, cx, q1, g1⟩ := hr i hil
      have p2 := (hb.cell (p := ⟨b, o + i * 3, none⟩) hbl).trans p1
      have q2 := (hb.cell (p := ⟨b, o + i * 3 + 1, none⟩) hbl).trans q1
      have r2 := (hb.cell (p := ⟨b, o + i * 3 + 2, none⟩) hbl).trans r1
      have HS := Lib.hid (mayNot_any l[i] X cx wr (Nat.le_trans g1.cap g1.max) (hk _ (List.getElem_mem hil)))
      have hmem : l[i] ∈ l := List.getElem_mem hil
      have htk : l.take (i + 1) = l.take i ++ [l[i]] := by rw [List.take_add_one, List.getElem?_eq_getElem hil]; rfl
      have HTK := Lib.hid htk
      have HMEM := Lib.hid hmem
      obtain ⟨x, hx⟩ : ∃ x, l[i] = x := ⟨_, rfl⟩
      rw [hx] at p2 q2 r2 HS HTK HMEM
      clear hr p1 r1 q1 g1 hx htk hmem
      obtain ⟨kk, vv, gn⟩ := x
      simp only at p2 q2 r2 HS
      obtain ⟨m, hm⟩ : ∃ m, vv.length = m := ⟨_, rfl⟩
      rw [hm] at q2 HS
      obtain ⟨q, hq⟩ : ∃ q, bt.bad ⟨kk, vv, gn⟩ = q := ⟨_, rfl⟩
      rw [hq] at HS
      have HQ := Lib.hid hq
      clear hq hm
      go_wp2_with fail
      refine HS.out.mono ?_
      rintro e w2 ⟨rfl, hb2⟩
      have hb3 := hb.trans (hb2.mono hb.size)
      cases q with
      | false =>
        go_wp2_with fail
        go_roundw
        case rel =>
          refine ⟨i + 1, by go_num, by omega, Lib.hid ?_, hb3⟩
          rw [HTK.out, List.any_append, hz.out]
          simp [HQ.out]
        case measure => simp [intOf]; omega
      | true =>
        go_wp2_with fail
        go_ret
        exact ⟨i, rfl, ⟨fun _ => List.any_eq_true.2 ⟨_, HMEM.out, HQ.out⟩, fun _ => by omega⟩, hb3⟩
    · have hie : i = n := by omega
      have hz2 := hz.out
      rw [List.take_of_length_le (by omega)] at hz2
      have HZ := Lib.hid hz2
      clear hz hz2 hie
      go_wp2_with fail
      go_ret
      exact ⟨-1, rfl, ⟨fun h => by omega, fun h => by rw [HZ.out] at h; cases h⟩, hb⟩
set_option maxRecDepth 100000 in
theorem badAny_any (A : Option Addr) (n c : Nat) (l : List bt.C) (w : World) (h : CS w A n c l) (hk : ∀ r ∈ l, r.key.length ≤ 9223372036854775807) :
    Calls Try.prog 39 #[.slice A n c, .func (.func 40) #[] #[]] w fun e w' => e = .returned (.bool (l.any bt.bad)) ∧ Below w.heap.size w w' := by
  have HI := Lib.hid (badIndex_any A n c l w h hk)
  clear h
  obtain ⟨q, hq⟩ : ∃ q, l.any bt.bad = q := ⟨_, rfl⟩
  rw [hq] at HI ⊢
  clear hq
  go_enter Try.func39, Try.ntmps39
  go_wp2_with fail
  refine HI.out.mono ?_
  rintro e w2 ⟨r, rfl, hr, hb⟩
  have hq : decide (0 ≤ r) = q := by
    rw [Bool.eq_iff_iff, decide_eq_true_iff, hr]
  have HQ := Lib.hid hq
  clear hr hq
  go_wp2_with fail
  go_ret
  refine ⟨?_, hb⟩
  rw [← HQ.out]
  try simp
set_option maxHeartbeats 2000000 in
set_option maxRecDepth 100000 in
theorem sorted_any (A : Option Addr) (n c : Nat) (l : List bt.C) (w : World) (h : CS w A n c l) (q : Bool) (hq : q = true ↔ ∀ j (x y : bt.C), l[j]? = some x → l[j + 1]? = some y → bt.less y.key x.key = false) :
    Calls Try.prog 41 #[.slice A n c, .func (.func 42) #[] #[]] w fun e w' => e = .returned (.bool q) ∧ Below w.heap.size w w' := by
  have HQ := Lib.hid hq
  clear hq
  have hl := h.len
  have hcap := h.cap
  have hmax := h.max
  have hen := enters_of Try.func42 (by kernel_rfl) rfl
  have H := Lib.hid h
  clear h
  go_enter Try.func41, Try.ntmps41
  go_wp2_with fail
  go_loopw [5] (fun t wr => ∃ k : Nat, t = .int .i64 ((k : Int) - 1) ∧ k ≤ n ∧ Hid (∀ j (x y : bt.C), k ≤ j + 1 → l[j]? = some x → l[j + 1]? = some y → bt.less y.key x.key = false) ∧ Below w.heap.size w wr) (fun t _ => (intOf t + 1).toNat)
  case atStart => exact ⟨n, rfl, by omega, Lib.hid (fun j x y hj _ hy => by have := (List.getElem?_eq_some_iff.1 hy).1; omega), Below.refl _ _⟩
  case round =>
    obtain ⟨k, rfl, hk, hz, hb⟩ := hrel
    by_cases h2 : 2 ≤ k
    · obtain ⟨i, rfl⟩ : ∃ i, k = i + 1 := ⟨k - 1, by omega⟩
      rw [show ((i + 1 : Nat) : Int) - 1 = (i : Int) by omega]
      have hi1 : 1 ≤ i := by omega
      have hin : i < n := by omega
      obtain ⟨b, o, rfl, hbl, hr⟩ := H.out.has (by omega)
      obtain ⟨p1, r1, X, cx, q1, -⟩ := hr i (by omega)
      obtain ⟨p3, r3, Y, cy, q3, -⟩ := hr (i - 1) (by omega)
      have hxi : l[i - 1]? = some l[i - 1] := List.getElem?_eq_getElem (by omega)
      have hyi : l[i]? = some l[i] := List.getElem?_eq_getElem (by omega)
      obtain ⟨y, hy⟩ : ∃ y, l[i] = y := ⟨_, rfl⟩
      obtain ⟨x, hx⟩ : ∃ x, l[i - 1] = x := ⟨_, rfl⟩
      rw [hy] at p1 r1 q1 hyi
      rw [hx] at p3 r3 q3 hxi
      obtain ⟨my, hmy⟩ : ∃ m, y.val.length = m := ⟨_, rfl⟩
      obtain ⟨mx, hmx⟩ : ∃ m, x.val.length = m := ⟨_, rfl⟩
      rw [hmy] at q1
      rw [hmx] at q3
      have hcl := bt.cmp_less y.key x.key
      obtain ⟨ky, hky⟩ : ∃ k, y.key = k := ⟨_, rfl⟩
      obtain ⟨kx, hkx⟩ : ∃ k, x.key = k := ⟨_, rfl⟩
      have HXI := Lib.hid hxi
      have HYI := Lib.hid hyi
      have HKY := Lib.hid hky
      have HKX := Lib.hid hkx
      rw [hky] at p1 hcl
      rw [hkx] at p3 hcl
      obtain ⟨gy, hgy⟩ : ∃ g, y.gone = g := ⟨_, rfl⟩
      obtain ⟨gx, hgx⟩ : ∃ g, x.gone = g := ⟨_, rfl⟩
      rw [hgy] at r1
      rw [hgx] at r3
      clear hr hx hy hmy hmx hky hkx hgy hgx hxi hyi
      have HB := Lib.hid (fun W => byKey_any ky kx (.slice Y mx cy) (.bool gx) (.slice X my cx) (.bool gy) W)
      have HBK := Lib.hid (fun W => byKey_any ky kx (.slice X my cx) (.bool gy) (.slice Y mx cy) (.bool gx) W)
      clear HB
      obtain ⟨cm, hcm⟩ : ∃ cm, bt.cmp ky kx = cm := ⟨_, rfl⟩
      rw [hcm] at HBK hcl
      clear hcm
      have HCL := Lib.hid hcl
      clear hcl
      have hsub : IntKind.i64.wrap ((i : Int) - 1) = ((i - 1 : Nat) : Int) := by
        rw [show (i : Int) - 1 = ((i - 1 : Nat) : Int) from by omega]
        exact IntWalk.i64_in _ ⟨by omega, by omega⟩
      have him : i - 1 < n := by omega
      go_wp2_with fail
      refine wp_region_held_drew (S := fun W => Below w.heap.size w W) (by kernel_rfl) hb.drew (fun hHeld => ?_)
      refine wpAnyH_take (i := 0) (v := ?_) rfl (by kernel_rfl) (by kernel_rfl) (by kernel_rfl) (fun _ _ _ h => h) (Or.inl ⟨by rfl, ?_⟩) hHeld ?_
      rotate_left
      · intro w hSw; have f0 := (hSw.cell (p := ⟨b, o + i * 3, none⟩) hbl).trans p1; have f1 := (hSw.cell (p := ⟨b, o + i * 3 + 1, none⟩) hbl).trans q1; have f2 := (hSw.cell (p := ⟨b, o + i * 3 + 2, none⟩) hbl).trans r1; have f3 := (hSw.cell (p := ⟨b, o + (i - 1) * 3, none⟩) hbl).trans p3; have f4 := (hSw.cell (p := ⟨b, o + (i - 1) * 3 + 1, none⟩) hbl).trans q3; have f5 := (hSw.cell (p := ⟨b, o + (i - 1) * 3 + 2, none⟩) hbl).trans r3; clear hSw; go_simp; try rfl
      simp only [List.getElem_toArray, List.getElem_cons_zero, Act.put, List.setIfInBounds_toArray, List.set_cons_zero, List.set_cons_succ]
      refine wpAnyH_take (i := 1) (v := ?_) rfl (by kernel_rfl) (by kernel_rfl) (by kernel_rfl) (fun _ _ _ h => h) (Or.inl ⟨by rfl, ?_⟩) hHeld ?_
      rotate_left
      · intro w hSw; have f0 := (hSw.cell (p := ⟨b, o + i * 3, none⟩) hbl).trans p1; have f1 := (hSw.cell (p := ⟨b, o + i * 3 + 1, none⟩) hbl).trans q1; have f2 := (hSw.cell (p := ⟨b, o + i * 3 + 2, none⟩) hbl).trans r1; have f3 := (hSw.cell (p := ⟨b, o + (i - 1) * 3, none⟩) hbl).trans p3; have f4 := (hSw.cell (p := ⟨b, o + (i - 1) * 3 + 1, none⟩) hbl).trans q3; have f5 := (hSw.cell (p := ⟨b, o + (i - 1) * 3 + 2, none⟩) hbl).trans r3; clear hSw; go_simp; try rfl
      simp only [List.getElem_toArray, List.getElem_cons_zero, List.getElem_cons_succ, Act.put, List.setIfInBounds_toArray, List.set_cons_zero, List.set_cons_succ]
      refine wpAnyH_take (i := 2) (v := ?_) rfl (by kernel_rfl) (by kernel_rfl) (by kernel_rfl) (fun _ _ _ h => h) (Or.inl ⟨by rfl, ?_⟩) hHeld ?_
      rotate_left
      · intro w hSw; have f0 := (hSw.cell (p := ⟨b, o + i * 3, none⟩) hbl).trans p1; have f1 := (hSw.cell (p := ⟨b, o + i * 3 + 1, none⟩) hbl).trans q1; have f2 := (hSw.cell (p := ⟨b, o + i * 3 + 2, none⟩) hbl).trans r1; have f3 := (hSw.cell (p := ⟨b, o + (i - 1) * 3, none⟩) hbl).trans p3; have f4 := (hSw.cell (p := ⟨b, o + (i - 1) * 3 + 1, none⟩) hbl).trans q3; have f5 := (hSw.cell (p := ⟨b, o + (i - 1) * 3 + 2, none⟩) hbl).trans r3; clear hSw; go_simp; try rfl
      simp only [List.getElem_toArray, List.getElem_cons_zero, List.getElem_cons_succ, Act.put, List.setIfInBounds_toArray, List.set_cons_zero, List.set_cons_succ]
      refine wpAnyH_take (i := 3) (v := ?_) rfl (by kernel_rfl) (by kernel_rfl) (by kernel_rfl) (fun _ _ _ h => h) (Or.inl ⟨by rfl, ?_⟩) hHeld ?_
      rotate_left
      · intro w hSw; have f0 := (hSw.cell (p := ⟨b, o + i * 3, none⟩) hbl).trans p1; have f1 := (hSw.cell (p := ⟨b, o + i * 3 + 1, none⟩) hbl).trans q1; have f2 := (hSw.cell (p := ⟨b, o + i * 3 + 2, none⟩) hbl).trans r1; have f3 := (hSw.cell (p := ⟨b, o + (i - 1) * 3, none⟩) hbl).trans p3; have f4 := (hSw.cell (p := ⟨b, o + (i - 1) * 3 + 1, none⟩) hbl).trans q3; have f5 := (hSw.cell (p := ⟨b, o + (i - 1) * 3 + 2, none⟩) hbl).trans r3; clear hSw; go_simp; try rfl
      simp only [List.getElem_toArray, List.getElem_cons_zero, List.getElem_cons_succ, Act.put, List.setIfInBounds_toArray, List.set_cons_zero, List.set_cons_succ]
      refine wpAnyH_take (i := 4) (v := ?_) rfl (by kernel_rfl) (by kernel_rfl) (by kernel_rfl) (fun _ _ _ h => h) (Or.inl ⟨by rfl, ?_⟩) hHeld ?_
      rotate_left
      · intro w hSw; have f0 := (hSw.cell (p := ⟨b, o + i * 3, none⟩) hbl).trans p1; have f1 := (hSw.cell (p := ⟨b, o + i * 3 + 1, none⟩) hbl).trans q1; have f2 := (hSw.cell (p := ⟨b, o + i * 3 + 2, none⟩) hbl).trans r1; have f3 := (hSw.cell (p := ⟨b, o + (i - 1) * 3, none⟩) hbl).trans p3; have f4 := (hSw.cell (p := ⟨b, o + (i - 1) * 3 + 1, none⟩) hbl).trans q3; have f5 := (hSw.cell (p := ⟨b, o + (i - 1) * 3 + 2, none⟩) hbl).trans r3; clear hSw; go_simp; try rfl
      simp only [List.getElem_toArray, List.getElem_cons_zero, List.getElem_cons_succ, Act.put, List.setIfInBounds_toArray, List.set_cons_zero, List.set_cons_succ]
      refine wpAnyH_take (i := 5) (v := ?_) rfl (by kernel_rfl) (by kernel_rfl) (by kernel_rfl) (fun _ _ _ h => h) (Or.inl ⟨by rfl, ?_⟩) hHeld ?_
      rotate_left
      · intro w hSw; have f0 := (hSw.cell (p := ⟨b, o + i * 3, none⟩) hbl).trans p1; have f1 := (hSw.cell (p := ⟨b, o + i * 3 + 1, none⟩) hbl).trans q1; have f2 := (hSw.cell (p := ⟨b, o + i * 3 + 2, none⟩) hbl).trans r1; have f3 := (hSw.cell (p := ⟨b, o + (i - 1) * 3, none⟩) hbl).trans p3; have f4 := (hSw.cell (p := ⟨b, o + (i - 1) * 3 + 1, none⟩) hbl).trans q3; have f5 := (hSw.cell (p := ⟨b, o + (i - 1) * 3 + 2, none⟩) hbl).trans r3; clear hSw; go_simp; try rfl
      simp only [List.getElem_toArray, List.getElem_cons_zero, List.getElem_cons_succ, Act.put, List.setIfInBounds_toArray, List.set_cons_zero, List.set_cons_succ]
      refine wpAnyH_take (i := 6) (v := ?_) rfl (by kernel_rfl) (by kernel_rfl) (by kernel_rfl) (fun _ _ _ h => h) (Or.inl ⟨by rfl, ?_⟩) hHeld ?_
      rotate_left
      · intro w hSw; have f0 := (hSw.cell (p := ⟨b, o + i * 3, none⟩) hbl).trans p1; have f1 := (hSw.cell (p := ⟨b, o + i * 3 + 1, none⟩) hbl).trans q1; have f2 := (hSw.cell (p := ⟨b, o + i * 3 + 2, none⟩) hbl).trans r1; have f3 := (hSw.cell (p := ⟨b, o + (i - 1) * 3, none⟩) hbl).trans p3; have f4 := (hSw.cell (p := ⟨b, o + (i - 1) * 3 + 1, none⟩) hbl).trans q3; have f5 := (hSw.cell (p := ⟨b, o + (i - 1) * 3 + 2, none⟩) hbl).trans r3; clear hSw; go_simp; try rfl
      simp only [List.getElem_toArray, List.getElem_cons_zero, List.getElem_cons_succ, Act.put, List.setIfInBounds_toArray, List.set_cons_zero, List.set_cons_succ]
      refine wpAnyH_take (i := 7) (v := ?_) rfl (by kernel_rfl) (by kernel_rfl) (by kernel_rfl) (fun _ _ _ h => h) (Or.inl ⟨by rfl, ?_⟩) hHeld ?_
      rotate_left
      · intro w hSw; have f0 := (hSw.cell (p := ⟨b, o + i * 3, none⟩) hbl).trans p1; have f1 := (hSw.cell (p := ⟨b, o + i * 3 + 1, none⟩) hbl).trans q1; have f2 := (hSw.cell (p := ⟨b, o + i * 3 + 2, none⟩) hbl).trans r1; have f3 := (hSw.cell (p := ⟨b, o + (i - 1) * 3, none⟩) hbl).trans p3; have f4 := (hSw.cell (p := ⟨b, o + (i - 1) * 3 + 1, none⟩) hbl).trans q3; have f5 := (hSw.cell (p := ⟨b, o + (i - 1) * 3 + 2, none⟩) hbl).trans r3; clear hSw; go_simp; try rfl
      simp only [List.getElem_toArray, List.getElem_cons_zero, List.getElem_cons_succ, Act.put, List.setIfInBounds_toArray, List.set_cons_zero, List.set_cons_succ]
      refine wpAnyH_take (i := 8) (v := ?_) rfl (by kernel_rfl) (by kernel_rfl) (by kernel_rfl) (fun _ _ _ h => h) (Or.inl ⟨by rfl, ?_⟩) hHeld ?_
      rotate_left
      · intro w hSw; have f0 := (hSw.cell (p := ⟨b, o + i * 3, none⟩) hbl).trans p1; have f1 := (hSw.cell (p := ⟨b, o + i * 3 + 1, none⟩) hbl).trans q1; have f2 := (hSw.cell (p := ⟨b, o + i * 3 + 2, none⟩) hbl).trans r1; have f3 := (hSw.cell (p := ⟨b, o + (i - 1) * 3, none⟩) hbl).trans p3; have f4 := (hSw.cell (p := ⟨b, o + (i - 1) * 3 + 1, none⟩) hbl).trans q3; have f5 := (hSw.cell (p := ⟨b, o + (i - 1) * 3 + 2, none⟩) hbl).trans r3; clear hSw; go_simp; try rfl
      simp only [List.getElem_toArray, List.getElem_cons_zero, List.getElem_cons_succ, Act.put, List.setIfInBounds_toArray, List.set_cons_zero, List.set_cons_succ]
      refine wpAnyH_take (i := 9) (v := ?_) rfl (by kernel_rfl) (by kernel_rfl) (by kernel_rfl) (fun _ _ _ h => h) (Or.inl ⟨by rfl, ?_⟩) hHeld ?_
      rotate_left
      · intro w hSw; have f0 := (hSw.cell (p := ⟨b, o + i * 3, none⟩) hbl).trans p1; have f1 := (hSw.cell (p := ⟨b, o + i * 3 + 1, none⟩) hbl).trans q1; have f2 := (hSw.cell (p := ⟨b, o + i * 3 + 2, none⟩) hbl).trans r1; have f3 := (hSw.cell (p := ⟨b, o + (i - 1) * 3, none⟩) hbl).trans p3; have f4 := (hSw.cell (p := ⟨b, o + (i - 1) * 3 + 1, none⟩) hbl).trans q3; have f5 := (hSw.cell (p := ⟨b, o + (i - 1) * 3 + 2, none⟩) hbl).trans r3; clear hSw; go_simp; try rfl
      simp only [List.getElem_toArray, List.getElem_cons_zero, List.getElem_cons_succ, Act.put, List.setIfInBounds_toArray, List.set_cons_zero, List.set_cons_succ]
      refine wpAnyH_ready (rs := [10]) (by kernel_rfl) (by simp) ?_
      refine AllReadyH.cons rfl (fun K hK => ?_) AllReadyH.nil
      rw [if_pos (by rfl)]
      go_simp
      refine (HBK.out _).mono ?_
      rintro e w3 ⟨rfl, hb3⟩
      have hb4 := hHeld.trans (hb3.mono hHeld.size)
      refine hK.out _ _ hb4 (fun hHeld => ?_)
      clear hK K
      refine wpAnyH_take (i := 11) (v := ?_) rfl (by kernel_rfl) (by kernel_rfl) (by kernel_rfl) (fun _ _ _ h => h) (Or.inl ⟨by rfl, ?_⟩) hHeld ?_
      rotate_left
      · intro w hSw; clear hSw; go_simp; try rfl
      simp only [List.getElem_toArray, List.getElem_cons_zero, List.getElem_cons_succ, Act.put, List.setIfInBounds_toArray, List.set_cons_zero, List.set_cons_succ]
      refine wpAnyH_done (by kernel_rfl) ?_ _
      by_cases hc : cm < 0
      · have hless := HCL.out.1 hc
        have HLESS := Lib.hid hless
        clear hless
        go_wp2_with fail
        go_ret
        have hqf : q = false := by
          cases hqq : q with
          | false => rfl
          | true =>
            have := HQ.out.1 hqq (i - 1) x y HXI.out (by rw [show i - 1 + 1 = i by omega]; exact HYI.out)
            rw [HKX.out, HKY.out, HLESS.out] at this
            cases this
        exact ⟨by rw [hqf]; rfl, hHeld⟩
      · have hless : bt.less ky kx = false := by
          cases hq : bt.less ky kx with
          | false => rfl
          | true => exact absurd (HCL.out.2 hq) hc
        have HLESS := Lib.hid hless
        clear hless
        go_wp2_with fail
        go_roundw
        case rel =>
          refine ⟨i, by first | rfl | go_num, by omega, Lib.hid fun j x' y' hj hx' hy' => ?_, hHeld⟩
          rcases Nat.lt_or_ge (j + 1) (i + 1) with h1 | h1
          · have e : j = i - 1 := by omega
            subst e
            rw [show i - 1 + 1 = i by omega, HYI.out] at hy'
            rw [HXI.out] at hx'
            injection hx' with hx'
            injection hy' with hy'
            rw [← hx', ← hy', HKX.out, HKY.out]
            exact HLESS.out
          · exact hz.out j x' y' h1 hx' hy'
        case measure => simp [intOf]; omega
    · have hz2 : ∀ j (x y : bt.C), l[j]? = some x → l[j + 1]? = some y → bt.less y.key x.key = false := fun j x y hx hy => hz.out j x y (by omega) hx hy
      have HZ := Lib.hid hz2
      have hc : ¬ 0 < (k : Int) - 1 := by omega
      clear hz hz2
      go_wp2_with fail
      go_ret
      exact ⟨by rw [HQ.out.2 HZ.out]; rfl, hb⟩
end Go.Proofs.Ytlchfadfbepapaa
