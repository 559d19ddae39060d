/-
  THE PROGRAM's batch: the value of a key (slices.BinarySearchFunc, Find).
-/
import Derived.Test.YtlchfadfbepapaaBatchX
import Derived.Test.YtlchfadfbepapaaBatchF
namespace Go.Proofs.Ytlchfadfbepapaa
open Go.RowKit Go.Shelf
/-- what the search answers: the place where a key belongs, and whether it is there -/
def SearchEnd (l : List bt.C) (k : bt.Key) (w : World) (e : Ending) (w' : World) : Prop := ∃ (i : Nat) (q : Bool), e = .returned (.tuple #[.int .i64 i, .bool q]) ∧ i ≤ l.length ∧ (∀ (p : Nat) (x : bt.C), p < i → l[p]? = some x → bt.less x.key k = true) ∧ (∀ x : bt.C, l[i]? = some x → bt.less x.key k = false) ∧ (q = true ↔ ∃ x : bt.C, l[i]? = some x ∧ x.key = k) ∧ Below w.heap.size w w'
set_option maxHeartbeats 4000000 in
set_option maxRecDepth 100000 in
theorem search_any (A : Option Addr) (n c : Nat) (l : List bt.C) (k : List UInt8) (w : World) (h : CS w A n c l) (hn : n ≤ 1099511627776) (hs : ∀ (p r : Nat) (x y : bt.C), p < r → l[p]? = some x → l[r]? = some y → bt.less x.key y.key = true) :
    Calls Try.prog 55 #[.slice A n c, .agg #[str k, .slice none 0 0, .bool false], .func (.func 42) #[] #[]] w (SearchEnd l k w) := by
  have hen := enters_of Try.func42 (by kernel_rfl) rfl
  have hl := h.len
  have hcap := h.cap
  have hmax := h.max
  obtain ⟨W1, hW1, a1, a2, a3, b1, s1⟩ := new3 w (str k) (.slice none 0 0) (.bool false) 39
  have HW1 := Lib.hid hW1
  have H := Lib.hid h
  have HSO := Lib.hid hs
  obtain ⟨B, hB⟩ : ∃ B, w.heap.size = B := ⟨_, rfl⟩
  rw [hB] at a1 a2 a3 s1
  have hBl : B < W1.heap.size := by omega
  have HB := Lib.hid hB
  clear hW1 h hs s1 hB
  go_enter Try.func55, Try.ntmps55
  go_wp2_with fail
  rw [HW1.out, HB.out]
  go_loopw [9, 10] (fun u v wr => ∃ i j : Nat, u = .int .i64 i ∧ v = .int .i64 j ∧ i ≤ j ∧ j ≤ n ∧ Hid (∀ (p : Nat) (x : bt.C), p < i → l[p]? = some x → bt.less x.key k = true) ∧ Hid (∀ x : bt.C, l[j]? = some x → bt.less x.key k = false) ∧ Below W1.heap.size W1 wr) (fun u v _ => (intOf v).toNat - (intOf u).toNat)
  case atStart => exact ⟨0, n, rfl, rfl, by omega, by omega, Lib.hid (fun p x h => by omega), Lib.hid (fun x hx => by have := (List.getElem?_eq_some_iff.1 hx).1; omega), Below.refl _ _⟩
  case round =>
    obtain ⟨i, j, rfl, rfl, hij, hjn, hi, hj, hb⟩ := hrel
    by_cases hlt : i < j
    · obtain ⟨m, hm⟩ : ∃ m, (i + j) / 2 = m := ⟨_, rfl⟩
      have him : i ≤ m := by omega
      have hmj : m < j := by omega
      obtain ⟨b, o, rfl, hbl, hr⟩ := H.out.has (by omega)
      have hml : m < l.length := by omega
      obtain ⟨p1, r1, X, cx, q1, -⟩ := hr m hml
      have hxm : l[m]? = some l[m] := List.getElem?_eq_getElem hml
      obtain ⟨x, hx⟩ : ∃ x, l[m] = x := ⟨_, rfl⟩
      rw [hx] at p1 q1 r1 hxm
      obtain ⟨mx, hmx⟩ : ∃ m, x.val.length = m := ⟨_, rfl⟩
      rw [hmx] at q1
      have hcl := bt.cmp_less x.key k
      obtain ⟨kx, hkx⟩ : ∃ k, x.key = k := ⟨_, rfl⟩
      obtain ⟨gx, hgx⟩ : ∃ g, x.gone = g := ⟨_, rfl⟩
      rw [hkx] at p1 hcl
      rw [hgx] at r1
      have HXM := Lib.hid hxm
      have HKX := Lib.hid hkx
      have HBK := Lib.hid (fun W => byKey_any kx k (.slice X mx cx) (.bool gx) (.slice none 0 0) (.bool false) W)
      obtain ⟨cm, hcm⟩ : ∃ cm, bt.cmp kx k = cm := ⟨_, rfl⟩
      rw [hcm] at HBK hcl
      have HCL := Lib.hid hcl
      have x0 := (b1.cell (p := ⟨b, o + m * 3, none⟩) hbl).trans p1
      have x1 := (b1.cell (p := ⟨b, o + m * 3 + 1, none⟩) hbl).trans q1
      have x2 := (b1.cell (p := ⟨b, o + m * 3 + 2, none⟩) hbl).trans r1
      have hbl1 : b < W1.heap.size := Nat.lt_of_lt_of_le hbl b1.size
      clear hr hx hmx hkx hgx hxm hcm hcl p1 q1 r1
      go_wp2_with fail
      rw [show ((i : Int) + (j : Int)) / 2 = (m : Int) by omega]
      have hmn : m < n := by omega
      refine wp_region_held_drew (S := fun W => Below W1.heap.size W1 W) (by kernel_rfl) hb.drew (fun hHeld => ?_)
      refine wpAnyH_take (i := 0) (v := ?_) rfl (by kernel_rfl) (by kernel_rfl) (by kernel_rfl) (fun _ _ _ h => h) (Or.inl ⟨by rfl, ?_⟩) hHeld ?_
      rotate_left
      · intro w hSw; have f0 := (hSw.cell (p := ⟨b, o + m * 3, none⟩) hbl1).trans x0; have f1 := (hSw.cell (p := ⟨b, o + m * 3 + 1, none⟩) hbl1).trans x1; have f2 := (hSw.cell (p := ⟨b, o + m * 3 + 2, none⟩) hbl1).trans x2; have f3 := (hSw.cell (p := ⟨B, 0, none⟩) hBl).trans a1; have f4 := (hSw.cell (p := ⟨B, 1, none⟩) hBl).trans a2; have f5 := (hSw.cell (p := ⟨B, 2, none⟩) hBl).trans a3; clear hSw; go_simp; try rfl
      simp only [List.getElem_toArray, List.getElem_cons_zero, Act.put, List.setIfInBounds_toArray, List.set_cons_zero, List.set_cons_succ]
      refine wpAnyH_take (i := 1) (v := ?_) rfl (by kernel_rfl) (by kernel_rfl) (by kernel_rfl) (fun _ _ _ h => h) (Or.inl ⟨by rfl, ?_⟩) hHeld ?_
      rotate_left
      · intro w hSw; have f0 := (hSw.cell (p := ⟨b, o + m * 3, none⟩) hbl1).trans x0; have f1 := (hSw.cell (p := ⟨b, o + m * 3 + 1, none⟩) hbl1).trans x1; have f2 := (hSw.cell (p := ⟨b, o + m * 3 + 2, none⟩) hbl1).trans x2; have f3 := (hSw.cell (p := ⟨B, 0, none⟩) hBl).trans a1; have f4 := (hSw.cell (p := ⟨B, 1, none⟩) hBl).trans a2; have f5 := (hSw.cell (p := ⟨B, 2, none⟩) hBl).trans a3; clear hSw; go_simp; try rfl
      simp only [List.getElem_toArray, List.getElem_cons_zero, List.getElem_cons_succ, Act.put, List.setIfInBounds_toArray, List.set_cons_zero, List.set_cons_succ]
      refine wpAnyH_take (i := 2) (v := ?_) rfl (by kernel_rfl) (by kernel_rfl) (by kernel_rfl) (fun _ _ _ h => h) (Or.inl ⟨by rfl, ?_⟩) hHeld ?_
      rotate_left
      · intro w hSw; have f0 := (hSw.cell (p := ⟨b, o + m * 3, none⟩) hbl1).trans x0; have f1 := (hSw.cell (p := ⟨b, o + m * 3 + 1, none⟩) hbl1).trans x1; have f2 := (hSw.cell (p := ⟨b, o + m * 3 + 2, none⟩) hbl1).trans x2; have f3 := (hSw.cell (p := ⟨B, 0, none⟩) hBl).trans a1; have f4 := (hSw.cell (p := ⟨B, 1, none⟩) hBl).trans a2; have f5 := (hSw.cell (p := ⟨B, 2, none⟩) hBl).trans a3; clear hSw; go_simp; try rfl
      simp only [List.getElem_toArray, List.getElem_cons_zero, List.getElem_cons_succ, Act.put, List.setIfInBounds_toArray, List.set_cons_zero, List.set_cons_succ]
      refine wpAnyH_take (i := 3) (v := ?_) rfl (by kernel_rfl) (by kernel_rfl) (by kernel_rfl) (fun _ _ _ h => h) (Or.inl ⟨by rfl, ?_⟩) hHeld ?_
      rotate_left
      · intro w hSw; have f0 := (hSw.cell (p := ⟨b, o + m * 3, none⟩) hbl1).trans x0; have f1 := (hSw.cell (p := ⟨b, o + m * 3 + 1, none⟩) hbl1).trans x1; have f2 := (hSw.cell (p := ⟨b, o + m * 3 + 2, none⟩) hbl1).trans x2; have f3 := (hSw.cell (p := ⟨B, 0, none⟩) hBl).trans a1; have f4 := (hSw.cell (p := ⟨B, 1, none⟩) hBl).trans a2; have f5 := (hSw.cell (p := ⟨B, 2, none⟩) hBl).trans a3; clear hSw; go_simp; try rfl
      simp only [List.getElem_toArray, List.getElem_cons_zero, List.getElem_cons_succ, Act.put, List.setIfInBounds_toArray, List.set_cons_zero, List.set_cons_succ]
      refine wpAnyH_take (i := 4) (v := ?_) rfl (by kernel_rfl) (by kernel_rfl) (by kernel_rfl) (fun _ _ _ h => h) (Or.inl ⟨by rfl, ?_⟩) hHeld ?_
      rotate_left
      · intro w hSw; have f0 := (hSw.cell (p := ⟨b, o + m * 3, none⟩) hbl1).trans x0; have f1 := (hSw.cell (p := ⟨b, o + m * 3 + 1, none⟩) hbl1).trans x1; have f2 := (hSw.cell (p := ⟨b, o + m * 3 + 2, none⟩) hbl1).trans x2; have f3 := (hSw.cell (p := ⟨B, 0, none⟩) hBl).trans a1; have f4 := (hSw.cell (p := ⟨B, 1, none⟩) hBl).trans a2; have f5 := (hSw.cell (p := ⟨B, 2, none⟩) hBl).trans a3; clear hSw; go_simp; try rfl
      simp only [List.getElem_toArray, List.getElem_cons_zero, List.getElem_cons_succ, Act.put, List.setIfInBounds_toArray, List.set_cons_zero, List.set_cons_succ]
      refine wpAnyH_take (i := 5) (v := ?_) rfl (by kernel_rfl) (by kernel_rfl) (by kernel_rfl) (fun _ _ _ h => h) (Or.inl ⟨by rfl, ?_⟩) hHeld ?_
      rotate_left
      · intro w hSw; have f0 := (hSw.cell (p := ⟨b, o + m * 3, none⟩) hbl1).trans x0; have f1 := (hSw.cell (p := ⟨b, o + m * 3 + 1, none⟩) hbl1).trans x1; have f2 := (hSw.cell (p := ⟨b, o + m * 3 + 2, none⟩) hbl1).trans x2; have f3 := (hSw.cell (p := ⟨B, 0, none⟩) hBl).trans a1; have f4 := (hSw.cell (p := ⟨B, 1, none⟩) hBl).trans a2; have f5 := (hSw.cell (p := ⟨B, 2, none⟩) hBl).trans a3; clear hSw; go_simp; try rfl
      simp only [List.getElem_toArray, List.getElem_cons_zero, List.getElem_cons_succ, Act.put, List.setIfInBounds_toArray, List.set_cons_zero, List.set_cons_succ]
      refine wpAnyH_ready (rs := [6]) (by kernel_rfl) (by simp) ?_
      refine AllReadyH.cons rfl (fun K hK => ?_) AllReadyH.nil
      rw [if_pos (by rfl)]
      go_simp
      refine (HBK.out _).mono ?_
      rintro e w3 ⟨rfl, hb3⟩
      have hb4 := hHeld.trans (hb3.mono hHeld.size)
      refine hK.out _ _ hb4 (fun hHeld => ?_)
      clear hK K
      refine wpAnyH_take (i := 7) (v := ?_) rfl (by kernel_rfl) (by kernel_rfl) (by kernel_rfl) (fun _ _ _ h => h) (Or.inl ⟨by rfl, ?_⟩) hHeld ?_
      rotate_left
      · intro w hSw; clear hSw; go_simp; try rfl
      simp only [List.getElem_toArray, List.getElem_cons_zero, List.getElem_cons_succ, Act.put, List.setIfInBounds_toArray, List.set_cons_zero, List.set_cons_succ]
      refine wpAnyH_done (by kernel_rfl) ?_ _
      clear x0 x1 x2 HBK hb3 hb4
      by_cases hc : cm < 0
      · have hless : bt.less x.key k = true := by rw [HKX.out]; exact HCL.out.1 hc
        have hi2 : ∀ (p : Nat) (y : bt.C), p < m + 1 → l[p]? = some y → bt.less y.key k = true := fun p y hp hy => by
          rcases Nat.lt_or_ge p m with h | h
          · exact bt.less_trans (HSO.out p m y x h hy HXM.out) hless
          · have e : p = m := by omega
            subst e
            rw [HXM.out] at hy
            injection hy with hy
            rw [← hy]; exact hless
        have HI := Lib.hid hi2
        clear hless hi2 hi
        go_wp2_with fail
        go_roundw
        case rel => exact ⟨m + 1, j, by go_num, rfl, by omega, by omega, HI, hj, hHeld⟩
        case measure => simp [intOf]; omega
      · have hless : bt.less x.key k = false := by
          rw [HKX.out]
          cases hq : bt.less kx k with
          | false => rfl
          | true => exact absurd (HCL.out.2 hq) hc
        have hj2 : ∀ y : bt.C, l[m]? = some y → bt.less y.key k = false := fun y hy => by
          rw [HXM.out] at hy
          injection hy with hy
          rw [← hy]; exact hless
        have HJ := Lib.hid hj2
        clear hless hj2 hj
        go_wp2_with fail
        go_roundw
        case rel => exact ⟨i, m, rfl, rfl, by omega, by omega, hi, HJ, hHeld⟩
        case measure => simp [intOf]; omega
    · have hie : i = j := by omega
      obtain rfl := hie
      by_cases hin : i < n
      · obtain ⟨b, o, rfl, hbl, hr⟩ := H.out.has (by omega)
        have hml : i < l.length := by omega
        obtain ⟨p1, r1, X, cx, q1, -⟩ := hr i hml
        have hxm : l[i]? = some l[i] := List.getElem?_eq_getElem hml
        obtain ⟨x, hx⟩ : ∃ x, l[i] = x := ⟨_, rfl⟩
        rw [hx] at p1 q1 r1 hxm
        obtain ⟨mx, hmx⟩ : ∃ m, x.val.length = m := ⟨_, rfl⟩
        rw [hmx] at q1
        have hcl := bt.cmp_zero x.key k
        obtain ⟨kx, hkx⟩ : ∃ k, x.key = k := ⟨_, rfl⟩
        obtain ⟨gx, hgx⟩ : ∃ g, x.gone = g := ⟨_, rfl⟩
        rw [hkx] at p1 hcl
        rw [hgx] at r1
        have HXM := Lib.hid hxm
        have HKX := Lib.hid hkx
        have HBK := Lib.hid (fun W => byKey_any kx k (.slice X mx cx) (.bool gx) (.slice none 0 0) (.bool false) W)
        obtain ⟨cm, hcm⟩ : ∃ cm, bt.cmp kx k = cm := ⟨_, rfl⟩
        rw [hcm] at HBK hcl
        obtain ⟨q, hq⟩ : ∃ q : Bool, (cm == 0) = q := ⟨_, rfl⟩
        have hq2 : q = true ↔ ∃ x : bt.C, l[i]? = some x ∧ x.key = k := by
          rw [← hq, beq_iff_eq, hcl]
          constructor
          · intro e
            exact ⟨x, hxm, hkx.trans e⟩
          · rintro ⟨y, hy, e⟩
            rw [hxm] at hy
            injection hy with hy
            rw [← hkx, hy, e]
        have HQ2 := Lib.hid hq2
        have x0 := (b1.cell (p := ⟨b, o + i * 3, none⟩) hbl).trans p1
        have x1 := (b1.cell (p := ⟨b, o + i * 3 + 1, none⟩) hbl).trans q1
        have x2 := (b1.cell (p := ⟨b, o + i * 3 + 2, none⟩) hbl).trans r1
        have hbl1 : b < W1.heap.size := Nat.lt_of_lt_of_le hbl b1.size
        have hd : decide ((i : Int) < (n : Int)) = true := decide_eq_true (by omega)
        have hd2 : decide (i < n) = true := decide_eq_true (by omega)
        clear hr hx hmx hkx hgx hxm hcm hcl p1 q1 r1 hq2
        go_wp2_with fail
        refine wp_region_held_drew (S := fun W => Below W1.heap.size W1 W) (by kernel_rfl) hb.drew (fun hHeld => ?_)
        refine wpAnyH_take (i := 0) (v := ?_) rfl (by kernel_rfl) (by kernel_rfl) (by kernel_rfl) (fun _ _ _ h => h) (Or.inl ⟨by rfl, ?_⟩) hHeld ?_
        rotate_left
        · intro w hSw; have f0 := (hSw.cell (p := ⟨b, o + i * 3, none⟩) hbl1).trans x0; have f1 := (hSw.cell (p := ⟨b, o + i * 3 + 1, none⟩) hbl1).trans x1; have f2 := (hSw.cell (p := ⟨b, o + i * 3 + 2, none⟩) hbl1).trans x2; have f3 := (hSw.cell (p := ⟨B, 0, none⟩) hBl).trans a1; have f4 := (hSw.cell (p := ⟨B, 1, none⟩) hBl).trans a2; have f5 := (hSw.cell (p := ⟨B, 2, none⟩) hBl).trans a3; clear hSw; go_simp; try rfl
        simp only [List.getElem_toArray, List.getElem_cons_zero, Act.put, List.setIfInBounds_toArray, List.set_cons_zero, List.set_cons_succ]
        refine wpAnyH_take (i := 1) (v := ?_) rfl (by kernel_rfl) (by kernel_rfl) (by kernel_rfl) (fun _ _ _ h => h) (Or.inl ⟨by rfl, ?_⟩) hHeld ?_
        rotate_left
        · intro w hSw; have f0 := (hSw.cell (p := ⟨b, o + i * 3, none⟩) hbl1).trans x0; have f1 := (hSw.cell (p := ⟨b, o + i * 3 + 1, none⟩) hbl1).trans x1; have f2 := (hSw.cell (p := ⟨b, o + i * 3 + 2, none⟩) hbl1).trans x2; have f3 := (hSw.cell (p := ⟨B, 0, none⟩) hBl).trans a1; have f4 := (hSw.cell (p := ⟨B, 1, none⟩) hBl).trans a2; have f5 := (hSw.cell (p := ⟨B, 2, none⟩) hBl).trans a3; clear hSw; go_simp; try rfl
        simp only [List.getElem_toArray, List.getElem_cons_zero, List.getElem_cons_succ, Act.put, List.setIfInBounds_toArray, List.set_cons_zero, List.set_cons_succ]
        refine wpAnyH_take (i := 2) (v := ?_) rfl (by kernel_rfl) (by kernel_rfl) (by kernel_rfl) (fun _ _ _ h => h) (Or.inl ⟨by rfl, ?_⟩) hHeld ?_
        rotate_left
        · intro w hSw; have f0 := (hSw.cell (p := ⟨b, o + i * 3, none⟩) hbl1).trans x0; have f1 := (hSw.cell (p := ⟨b, o + i * 3 + 1, none⟩) hbl1).trans x1; have f2 := (hSw.cell (p := ⟨b, o + i * 3 + 2, none⟩) hbl1).trans x2; have f3 := (hSw.cell (p := ⟨B, 0, none⟩) hBl).trans a1; have f4 := (hSw.cell (p := ⟨B, 1, none⟩) hBl).trans a2; have f5 := (hSw.cell (p := ⟨B, 2, none⟩) hBl).trans a3; clear hSw; go_simp; try rfl
        simp only [List.getElem_toArray, List.getElem_cons_zero, List.getElem_cons_succ, Act.put, List.setIfInBounds_toArray, List.set_cons_zero, List.set_cons_succ]
        refine wpAnyH_take (i := 3) (v := ?_) rfl (by kernel_rfl) (by kernel_rfl) (by kernel_rfl) (fun _ _ _ h => h) (Or.inl ⟨by rfl, ?_⟩) hHeld ?_
        rotate_left
        · intro w hSw; have f0 := (hSw.cell (p := ⟨b, o + i * 3, none⟩) hbl1).trans x0; have f1 := (hSw.cell (p := ⟨b, o + i * 3 + 1, none⟩) hbl1).trans x1; have f2 := (hSw.cell (p := ⟨b, o + i * 3 + 2, none⟩) hbl1).trans x2; have f3 := (hSw.cell (p := ⟨B, 0, none⟩) hBl).trans a1; have f4 := (hSw.cell (p := ⟨B, 1, none⟩) hBl).trans a2; have f5 := (hSw.cell (p := ⟨B, 2, none⟩) hBl).trans a3; clear hSw; go_simp; try rfl
        simp only [List.getElem_toArray, List.getElem_cons_zero, List.getElem_cons_succ, Act.put, List.setIfInBounds_toArray, List.set_cons_zero, List.set_cons_succ]
        refine wpAnyH_take (i := 4) (v := ?_) rfl (by kernel_rfl) (by kernel_rfl) (by kernel_rfl) (fun _ _ _ h => h) (Or.inl ⟨by rfl, ?_⟩) hHeld ?_
        rotate_left
        · intro w hSw; have f0 := (hSw.cell (p := ⟨b, o + i * 3, none⟩) hbl1).trans x0; have f1 := (hSw.cell (p := ⟨b, o + i * 3 + 1, none⟩) hbl1).trans x1; have f2 := (hSw.cell (p := ⟨b, o + i * 3 + 2, none⟩) hbl1).trans x2; have f3 := (hSw.cell (p := ⟨B, 0, none⟩) hBl).trans a1; have f4 := (hSw.cell (p := ⟨B, 1, none⟩) hBl).trans a2; have f5 := (hSw.cell (p := ⟨B, 2, none⟩) hBl).trans a3; clear hSw; go_simp; try rfl
        simp only [List.getElem_toArray, List.getElem_cons_zero, List.getElem_cons_succ, Act.put, List.setIfInBounds_toArray, List.set_cons_zero, List.set_cons_succ]
        refine wpAnyH_take (i := 5) (v := ?_) rfl (by kernel_rfl) (by kernel_rfl) (by kernel_rfl) (fun _ _ _ h => h) (Or.inl ⟨by rfl, ?_⟩) hHeld ?_
        rotate_left
        · intro w hSw; have f0 := (hSw.cell (p := ⟨b, o + i * 3, none⟩) hbl1).trans x0; have f1 := (hSw.cell (p := ⟨b, o + i * 3 + 1, none⟩) hbl1).trans x1; have f2 := (hSw.cell (p := ⟨b, o + i * 3 + 2, none⟩) hbl1).trans x2; have f3 := (hSw.cell (p := ⟨B, 0, none⟩) hBl).trans a1; have f4 := (hSw.cell (p := ⟨B, 1, none⟩) hBl).trans a2; have f5 := (hSw.cell (p := ⟨B, 2, none⟩) hBl).trans a3; clear hSw; go_simp; try rfl
        simp only [List.getElem_toArray, List.getElem_cons_zero, List.getElem_cons_succ, Act.put, List.setIfInBounds_toArray, List.set_cons_zero, List.set_cons_succ]
        refine wpAnyH_take (i := 6) (v := ?_) rfl (by kernel_rfl) (by kernel_rfl) (by kernel_rfl) (fun _ _ _ h => h) (Or.inl ⟨by rfl, ?_⟩) hHeld ?_
        rotate_left
        · intro w hSw; have f0 := (hSw.cell (p := ⟨b, o + i * 3, none⟩) hbl1).trans x0; have f1 := (hSw.cell (p := ⟨b, o + i * 3 + 1, none⟩) hbl1).trans x1; have f2 := (hSw.cell (p := ⟨b, o + i * 3 + 2, none⟩) hbl1).trans x2; have f3 := (hSw.cell (p := ⟨B, 0, none⟩) hBl).trans a1; have f4 := (hSw.cell (p := ⟨B, 1, none⟩) hBl).trans a2; have f5 := (hSw.cell (p := ⟨B, 2, none⟩) hBl).trans a3; clear hSw; go_simp; try rfl
        simp only [List.getElem_toArray, List.getElem_cons_zero, List.getElem_cons_succ, Act.put, List.setIfInBounds_toArray, List.set_cons_zero, List.set_cons_succ]
        refine wpAnyH_take (i := 7) (v := ?_) rfl (by kernel_rfl) (by kernel_rfl) (by kernel_rfl) (fun _ _ _ h => h) (Or.inl ⟨by rfl, ?_⟩) hHeld ?_
        rotate_left
        · intro w hSw; have f0 := (hSw.cell (p := ⟨b, o + i * 3, none⟩) hbl1).trans x0; have f1 := (hSw.cell (p := ⟨b, o + i * 3 + 1, none⟩) hbl1).trans x1; have f2 := (hSw.cell (p := ⟨b, o + i * 3 + 2, none⟩) hbl1).trans x2; have f3 := (hSw.cell (p := ⟨B, 0, none⟩) hBl).trans a1; have f4 := (hSw.cell (p := ⟨B, 1, none⟩) hBl).trans a2; have f5 := (hSw.cell (p := ⟨B, 2, none⟩) hBl).trans a3; clear hSw; go_simp; try rfl
        simp only [List.getElem_toArray, List.getElem_cons_zero, List.getElem_cons_succ, Act.put, List.setIfInBounds_toArray, List.set_cons_zero, List.set_cons_succ]
        refine wpAnyH_take (i := 8) (v := ?_) rfl (by kernel_rfl) (by kernel_rfl) (by kernel_rfl) (fun _ _ _ h => h) (Or.inl ⟨by rfl, ?_⟩) hHeld ?_
        rotate_left
        · intro w hSw; have f0 := (hSw.cell (p := ⟨b, o + i * 3, none⟩) hbl1).trans x0; have f1 := (hSw.cell (p := ⟨b, o + i * 3 + 1, none⟩) hbl1).trans x1; have f2 := (hSw.cell (p := ⟨b, o + i * 3 + 2, none⟩) hbl1).trans x2; have f3 := (hSw.cell (p := ⟨B, 0, none⟩) hBl).trans a1; have f4 := (hSw.cell (p := ⟨B, 1, none⟩) hBl).trans a2; have f5 := (hSw.cell (p := ⟨B, 2, none⟩) hBl).trans a3; clear hSw; go_simp; try rfl
        simp only [List.getElem_toArray, List.getElem_cons_zero, List.getElem_cons_succ, Act.put, List.setIfInBounds_toArray, List.set_cons_zero, List.set_cons_succ]
        refine wpAnyH_take (i := 9) (v := ?_) rfl (by kernel_rfl) (by kernel_rfl) (by kernel_rfl) (fun _ _ _ h => h) (Or.inl ⟨by rfl, ?_⟩) hHeld ?_
        rotate_left
        · intro w hSw; have f0 := (hSw.cell (p := ⟨b, o + i * 3, none⟩) hbl1).trans x0; have f1 := (hSw.cell (p := ⟨b, o + i * 3 + 1, none⟩) hbl1).trans x1; have f2 := (hSw.cell (p := ⟨b, o + i * 3 + 2, none⟩) hbl1).trans x2; have f3 := (hSw.cell (p := ⟨B, 0, none⟩) hBl).trans a1; have f4 := (hSw.cell (p := ⟨B, 1, none⟩) hBl).trans a2; have f5 := (hSw.cell (p := ⟨B, 2, none⟩) hBl).trans a3; clear hSw; go_simp; try rfl
        simp only [List.getElem_toArray, List.getElem_cons_zero, List.getElem_cons_succ, Act.put, List.setIfInBounds_toArray, List.set_cons_zero, List.set_cons_succ]
        refine wpAnyH_take (i := 10) (v := ?_) rfl (by kernel_rfl) (by kernel_rfl) (by kernel_rfl) (fun _ _ _ h => h) (Or.inl ⟨by rfl, ?_⟩) hHeld ?_
        rotate_left
        · intro w hSw; have f0 := (hSw.cell (p := ⟨b, o + i * 3, none⟩) hbl1).trans x0; have f1 := (hSw.cell (p := ⟨b, o + i * 3 + 1, none⟩) hbl1).trans x1; have f2 := (hSw.cell (p := ⟨b, o + i * 3 + 2, none⟩) hbl1).trans x2; have f3 := (hSw.cell (p := ⟨B, 0, none⟩) hBl).trans a1; have f4 := (hSw.cell (p := ⟨B, 1, none⟩) hBl).trans a2; have f5 := (hSw.cell (p := ⟨B, 2, none⟩) hBl).trans a3; clear hSw; go_simp; try rfl
        simp only [List.getElem_toArray, List.getElem_cons_zero, List.getElem_cons_succ, Act.put, List.setIfInBounds_toArray, List.set_cons_zero, List.set_cons_succ]
        refine wpAnyH_ready (rs := [11]) (by kernel_rfl) (by simp) ?_
        refine AllReadyH.cons rfl (fun K hK => ?_) AllReadyH.nil
        rw [if_pos (by rfl)]
        go_simp
        refine (HBK.out _).mono ?_
        rintro e w3 ⟨rfl, hb3⟩
        have hb4 := hHeld.trans (hb3.mono hHeld.size)
        refine hK.out _ _ hb4 (fun hHeld => ?_)
        clear hK K
        refine wpAnyH_take (i := 12) (v := ?_) rfl (by kernel_rfl) (by kernel_rfl) (by kernel_rfl) (fun _ _ _ h => h) (Or.inl ⟨by rfl, ?_⟩) hHeld ?_
        rotate_left
        · intro w hSw; clear hSw; go_simp; try rfl
        simp only [List.getElem_toArray, List.getElem_cons_zero, List.getElem_cons_succ, Act.put, List.setIfInBounds_toArray, List.set_cons_zero, List.set_cons_succ]
        refine wpAnyH_take (i := 13) (v := ?_) rfl (by kernel_rfl) (by kernel_rfl) (by kernel_rfl) (fun _ _ _ h => h) (Or.inl ⟨by rfl, ?_⟩) hHeld ?_
        rotate_left
        · intro w hSw; clear hSw; go_simp; try rfl
        simp only [List.getElem_toArray, List.getElem_cons_zero, List.getElem_cons_succ, Act.put, List.setIfInBounds_toArray, List.set_cons_zero, List.set_cons_succ]
        refine wpAnyH_take (i := 14) (v := ?_) rfl (by kernel_rfl) (by kernel_rfl) (by kernel_rfl) (fun _ _ _ h => h) (Or.inl ⟨by rfl, ?_⟩) hHeld ?_
        rotate_left
        · intro w hSw; clear hSw; go_simp; try rfl
        simp only [List.getElem_toArray, List.getElem_cons_zero, List.getElem_cons_succ, Act.put, List.setIfInBounds_toArray, List.set_cons_zero, List.set_cons_succ]
        refine wpAnyH_take (i := 15) (v := ?_) rfl (by kernel_rfl) (by kernel_rfl) (by kernel_rfl) (fun _ _ _ h => h) (Or.inl ⟨by rfl, ?_⟩) hHeld ?_
        rotate_left
        · intro w hSw; clear hSw; go_simp; try rfl
        simp only [List.getElem_toArray, List.getElem_cons_zero, List.getElem_cons_succ, Act.put, List.setIfInBounds_toArray, List.set_cons_zero, List.set_cons_succ]
        refine wpAnyH_done (by kernel_rfl) ?_ _
        have hbw : Below w.heap.size w w3 := b1.trans (hHeld.mono b1.size)
        clear x0 x1 x2 HBK hb3 hb4
        go_wp2_with fail
        go_ret2
        exact ⟨i, q, rfl, by omega, hi.out, hj.out, HQ2.out, hbw⟩
      · have hien : i = n := by omega
        have hd : decide ((i : Int) < (n : Int)) = false := decide_eq_false (by omega)
        have hd2 : decide (i < n) = false := decide_eq_false (by omega)
        have hq2 : false = true ↔ ∃ x : bt.C, l[i]? = some x ∧ x.key = k := by
          constructor
          · intro h; cases h
          · rintro ⟨x, hx, _⟩
            have := (List.getElem?_eq_some_iff.1 hx).1
            omega
        have HQ2 := Lib.hid hq2
        have HIN := Lib.hid hien
        clear hien hq2 H
        go_wp2_with fail
        refine wp_region_held_drew (S := fun W => Below W1.heap.size W1 W) (by kernel_rfl) hb.drew (fun hHeld => ?_)
        refine wpAnyH_take (i := 0) (v := ?_) rfl (by kernel_rfl) (by kernel_rfl) (by kernel_rfl) (fun _ _ _ h => h) (Or.inl ⟨by rfl, ?_⟩) hHeld ?_
        rotate_left
        · intro w hSw; clear hSw; go_simp; try rfl
        simp only [List.getElem_toArray, List.getElem_cons_zero, Act.put, List.setIfInBounds_toArray, List.set_cons_zero, List.set_cons_succ]
        refine wpAnyH_take (i := 1) (v := ?_) rfl (by kernel_rfl) (by kernel_rfl) (by kernel_rfl) (fun _ _ _ h => h) (Or.inl ⟨by rfl, ?_⟩) hHeld ?_
        rotate_left
        · intro w hSw; clear hSw; go_simp; try rfl
        simp only [List.getElem_toArray, List.getElem_cons_zero, List.getElem_cons_succ, Act.put, List.setIfInBounds_toArray, List.set_cons_zero, List.set_cons_succ]
        refine wpAnyH_take (i := 2) (v := ?_) rfl (by kernel_rfl) (by kernel_rfl) (by kernel_rfl) (fun _ _ _ h => h) (Or.inl ⟨by rfl, ?_⟩) hHeld ?_
        rotate_left
        · intro w hSw; clear hSw; go_simp; try rfl
        simp only [List.getElem_toArray, List.getElem_cons_zero, List.getElem_cons_succ, Act.put, List.setIfInBounds_toArray, List.set_cons_zero, List.set_cons_succ]
        refine wpAnyH_take (i := 3) (v := ?_) rfl (by kernel_rfl) (by kernel_rfl) (by kernel_rfl) (fun _ _ _ h => h) (Or.inl ⟨by rfl, ?_⟩) hHeld ?_
        rotate_left
        · intro w hSw; clear hSw; go_simp; try rfl
        simp only [List.getElem_toArray, List.getElem_cons_zero, List.getElem_cons_succ, Act.put, List.setIfInBounds_toArray, List.set_cons_zero, List.set_cons_succ]
        refine wpAnyH_take (i := 4) (v := ?_) rfl (by kernel_rfl) (by kernel_rfl) (by kernel_rfl) (fun _ _ _ h => h) (Or.inl ⟨by rfl, ?_⟩) hHeld ?_
        rotate_left
        · intro w hSw; clear hSw; go_simp; try rfl
        simp only [List.getElem_toArray, List.getElem_cons_zero, List.getElem_cons_succ, Act.put, List.setIfInBounds_toArray, List.set_cons_zero, List.set_cons_succ]
        refine wpAnyH_take (i := 5) (v := undef) rfl (by kernel_rfl) (by kernel_rfl) (by kernel_rfl) (fun _ _ _ h => h) (Or.inr ⟨by rfl, rfl⟩) hHeld ?_
        simp only [List.getElem_toArray, List.getElem_cons_zero, List.getElem_cons_succ, Act.put, List.setIfInBounds_toArray, List.set_cons_zero, List.set_cons_succ]
        refine wpAnyH_take (i := 6) (v := undef) rfl (by kernel_rfl) (by kernel_rfl) (by kernel_rfl) (fun _ _ _ h => h) (Or.inr ⟨by rfl, rfl⟩) hHeld ?_
        simp only [List.getElem_toArray, List.getElem_cons_zero, List.getElem_cons_succ, Act.put, List.setIfInBounds_toArray, List.set_cons_zero, List.set_cons_succ]
        refine wpAnyH_take (i := 7) (v := undef) rfl (by kernel_rfl) (by kernel_rfl) (by kernel_rfl) (fun _ _ _ h => h) (Or.inr ⟨by rfl, rfl⟩) hHeld ?_
        simp only [List.getElem_toArray, List.getElem_cons_zero, List.getElem_cons_succ, Act.put, List.setIfInBounds_toArray, List.set_cons_zero, List.set_cons_succ]
        refine wpAnyH_take (i := 8) (v := undef) rfl (by kernel_rfl) (by kernel_rfl) (by kernel_rfl) (fun _ _ _ h => h) (Or.inr ⟨by rfl, rfl⟩) hHeld ?_
        simp only [List.getElem_toArray, List.getElem_cons_zero, List.getElem_cons_succ, Act.put, List.setIfInBounds_toArray, List.set_cons_zero, List.set_cons_succ]
        refine wpAnyH_take (i := 9) (v := undef) rfl (by kernel_rfl) (by kernel_rfl) (by kernel_rfl) (fun _ _ _ h => h) (Or.inr ⟨by rfl, rfl⟩) hHeld ?_
        simp only [List.getElem_toArray, List.getElem_cons_zero, List.getElem_cons_succ, Act.put, List.setIfInBounds_toArray, List.set_cons_zero, List.set_cons_succ]
        refine wpAnyH_take (i := 10) (v := undef) rfl (by kernel_rfl) (by kernel_rfl) (by kernel_rfl) (fun _ _ _ h => h) (Or.inr ⟨by rfl, rfl⟩) hHeld ?_
        simp only [List.getElem_toArray, List.getElem_cons_zero, List.getElem_cons_succ, Act.put, List.setIfInBounds_toArray, List.set_cons_zero, List.set_cons_succ]
        refine wpAnyH_take (i := 11) (v := undef) rfl (by kernel_rfl) (by kernel_rfl) (by kernel_rfl) (fun _ _ _ h => h) (Or.inr ⟨by rfl, rfl⟩) hHeld ?_
        simp only [List.getElem_toArray, List.getElem_cons_zero, List.getElem_cons_succ, Act.put, List.setIfInBounds_toArray, List.set_cons_zero, List.set_cons_succ]
        refine wpAnyH_take (i := 12) (v := undef) rfl (by kernel_rfl) (by kernel_rfl) (by kernel_rfl) (fun _ _ _ h => h) (Or.inr ⟨by rfl, rfl⟩) hHeld ?_
        simp only [List.getElem_toArray, List.getElem_cons_zero, List.getElem_cons_succ, Act.put, List.setIfInBounds_toArray, List.set_cons_zero, List.set_cons_succ]
        refine wpAnyH_take (i := 13) (v := ?_) rfl (by kernel_rfl) (by kernel_rfl) (by kernel_rfl) (fun _ _ _ h => h) (Or.inl ⟨by rfl, ?_⟩) hHeld ?_
        rotate_left
        · intro w hSw; clear hSw; go_simp; try rfl
        simp only [List.getElem_toArray, List.getElem_cons_zero, List.getElem_cons_succ, Act.put, List.setIfInBounds_toArray, List.set_cons_zero, List.set_cons_succ]
        refine wpAnyH_take (i := 14) (v := ?_) rfl (by kernel_rfl) (by kernel_rfl) (by kernel_rfl) (fun _ _ _ h => h) (Or.inl ⟨by rfl, ?_⟩) hHeld ?_
        rotate_left
        · intro w hSw; clear hSw; go_simp; try rfl
        simp only [List.getElem_toArray, List.getElem_cons_zero, List.getElem_cons_succ, Act.put, List.setIfInBounds_toArray, List.set_cons_zero, List.set_cons_succ]
        refine wpAnyH_take (i := 15) (v := ?_) rfl (by kernel_rfl) (by kernel_rfl) (by kernel_rfl) (fun _ _ _ h => h) (Or.inl ⟨by rfl, ?_⟩) hHeld ?_
        rotate_left
        · intro w hSw; clear hSw; go_simp; try rfl
        simp only [List.getElem_toArray, List.getElem_cons_zero, List.getElem_cons_succ, Act.put, List.setIfInBounds_toArray, List.set_cons_zero, List.set_cons_succ]
        refine wpAnyH_done (by kernel_rfl) ?_ _
        have hbw : Below w.heap.size w wr.drew := b1.trans (hHeld.mono b1.size)
        go_wp2_with fail
        go_ret2
        exact ⟨i, false, rfl, by have := HIN.out; omega, hi.out, hj.out, HQ2.out, hbw⟩
namespace bt
theorem Sorted.get : ∀ {t : List R}, Sorted t → ∀ (p r : Nat) (x y : R), p < r → t[p]? = some x → t[r]? = some y → less x.key y.key = true
  | [], _, p, _, x, _, _, hx, _ => by simp at hx
  | a :: t, h, p, r, x, y, hpr, hx, hy => by
    obtain ⟨h1, h2⟩ := List.pairwise_cons.1 h
    cases r with
    | zero => omega
    | succ r =>
      have hy' : t[r]? = some y := by simpa using hy
      cases p with
      | zero =>
        injection hx with hx
        rw [← hx]
        exact h1 y (List.mem_of_getElem? hy')
      | succ p => exact Sorted.get h2 p r x y (by omega) (by simpa using hx) hy'
/-- what the search found is the value of the key -/
theorem find_search {t : List R} (hs : Sorted t) (k : Key) (i : Nat) (h1 : ∀ (p : Nat) (x : R), p < i → t[p]? = some x → less x.key k = true) (h2 : ∀ x, t[i]? = some x → less x.key k = false) :
    (∀ x, t[i]? = some x → x.key = k → find t k = some x.val) ∧ ((¬ ∃ x, t[i]? = some x ∧ x.key = k) → find t k = none) := by
  constructor
  · intro x hx hk
    unfold find
    have hl := (List.getElem?_eq_some_iff.1 hx).1
    have hsp : t = t.take i ++ x :: t.drop (i + 1) := by
      have hd := List.drop_eq_getElem_cons hl
      have e : t[i] = x := by rw [List.getElem?_eq_getElem hl] at hx; injection hx
      rw [e] at hd
      rw [← hd, List.take_append_drop]
    rw [hsp, List.find?_append]
    have hn : (t.take i).find? (fun r => r.key == k) = none := by
      rw [List.find?_eq_none]
      intro r hr
      obtain ⟨p, hp, e⟩ := List.getElem_of_mem hr
      have hp' : p < i := by rw [List.length_take] at hp; omega
      have hpt : t[p]? = some r := by
        rw [List.getElem_take] at e
        rw [List.getElem?_eq_getElem (by omega), e]
      have := h1 p r hp' hpt
      intro e2
      rw [eq_of_beq e2, less_irrefl] at this
      cases this
    rw [hn, Option.none_or, List.find?_cons, hk]
    simp
  · intro hno
    refine find_far fun r hr e => ?_
    obtain ⟨p, hp, e1⟩ := List.getElem_of_mem hr
    have hpt : t[p]? = some r := by rw [List.getElem?_eq_getElem hp, e1]
    rcases Nat.lt_trichotomy p i with h | h | h
    · have := h1 p r h hpt
      rw [e, less_irrefl] at this
      cases this
    · subst h
      exact hno ⟨r, hpt, e⟩
    · have hil : i < t.length := by omega
      have hit := List.getElem?_eq_getElem hil
      have hlt := Sorted.get hs i p t[i] r h hit hpt
      rw [e, h2 _ hit] at hlt
      cases hlt
end bt
set_option maxHeartbeats 2000000 in
set_option maxRecDepth 100000 in
theorem findq_any {A : Option Addr} {n c : Nat} {w : World} (t : List bt.R) (k : List UInt8) (h : TS w A n c t) (hk1 : ∀ r ∈ t, r.key.length ≤ 9223372036854775807) (hn : n ≤ 1099511627776) : Calls Try.prog 29 #[.slice A n c, str k] w fun e w' => (∃ v, e = .returned (.tuple #[v, .bool (bt.findR t k).isSome]) ∧ OwnB 5 w' w.heap.size v ((bt.findR t k).getD [])) ∧ Below w.heap.size w w' := by
  have HM := Lib.hid (mayr_any A n c t w h hk1 hn)
  by_cases hmay : bt.may t = true
  · rw [hmay] at HM
    have hsort := bt.may_sorted hmay
    have hR : bt.findR t k = bt.find t k := by unfold bt.findR; rw [if_pos hmay]
    have hsm : ∀ r ∈ t, r.val.length ≤ 1048576 := fun r hr => ((bt.mayFrom_sorted t none hmay).2.2 r hr).2
    have HP := Lib.hid (fun W (hb : Below w.heap.size w W) => puts_any A n c t W (h.below hb) hn)
    have HPUT := Lib.hid (fun W => putq_any k none 0 0 W)
    have hsl : ∀ (p r : Nat) (x y : bt.C), p < r → (t.map bt.laid)[p]? = some x → (t.map bt.laid)[r]? = some y → bt.less x.key y.key = true := fun p r x y hpr hx hy => by
      rw [List.getElem?_map] at hx hy
      obtain ⟨x', hx', rfl⟩ := Option.map_eq_some_iff.1 hx
      obtain ⟨y', hy', rfl⟩ := Option.map_eq_some_iff.1 hy
      exact bt.Sorted.get hsort p r x' y' hpr hx' hy'
    have HSE := Lib.hid (fun W g (hc : CS W (some ⟨g, 0, none⟩) n n (t.map bt.laid)) => search_any (some ⟨g, 0, none⟩) n n (t.map bt.laid) k W hc hn hsl)
    have HFS := Lib.hid (fun i a b => bt.find_search hsort k i a b)
    have HSM := Lib.hid hsm
    obtain ⟨F, hF⟩ : ∃ F, bt.find t k = F := ⟨_, rfl⟩
    rw [hR, hF]
    simp only [hF] at HFS
    clear h hk1 hmay hsl hsm hR hF hsort
    go_enter Try.func29, Try.ntmps29
    go_wp2_with fail
    refine HM.out.mono ?_
    rintro e w1 ⟨rfl, hb1⟩
    go_wp2_with fail
    refine (HP.out _ hb1).mono ?_
    rintro e w2 ⟨g, rfl, hc, hg, hgl, hb2⟩
    have hb12 := hb1.trans (hb2.mono hb1.size)
    go_wp2_with fail
    refine (HPUT.out _).mono ?_
    rintro e w3 ⟨rfl, hb3⟩
    have hb13 := hb12.trans (hb3.mono hb12.size)
    have HS2 := Lib.hid (HSE.out w3 g (hc.below hb3))
    have HC := Lib.hid (hc.below hb3)
    clear hc HSE HP HPUT HM
    go_wp2_with fail
    refine HS2.out.mono ?_
    rintro e w4 ⟨i, q, rfl, hil, hi1, hi2, hq, hb4⟩
    have hb14 := hb13.trans (hb4.mono hb13.size)
    have hi1' : ∀ (p : Nat) (x : bt.R), p < i → t[p]? = some x → bt.less x.key k = true := fun p x hp hx => hi1 p (bt.laid x) hp (by rw [List.getElem?_map, hx]; rfl)
    have hi2' : ∀ x : bt.R, t[i]? = some x → bt.less x.key k = false := fun x hx => hi2 (bt.laid x) (by rw [List.getElem?_map, hx]; rfl)
    obtain ⟨f1, f2⟩ := HFS.out i hi1' hi2'
    have hiff : (∃ x, (t.map bt.laid)[i]? = some x ∧ x.key = k) ↔ ∃ x, t[i]? = some x ∧ x.key = k := by
      constructor
      · rintro ⟨x, hx, e⟩
        rw [List.getElem?_map] at hx
        obtain ⟨y, hy, rfl⟩ := Option.map_eq_some_iff.1 hx
        exact ⟨y, hy, e⟩
      · rintro ⟨y, hy, e⟩
        exact ⟨bt.laid y, by rw [List.getElem?_map, hy]; rfl, e⟩
    cases q with
    | true =>
      obtain ⟨r, hr, hrk⟩ := hiff.1 (hq.1 rfl)
      have hF := f1 r hr hrk
      have hrs : r.val.length ≤ 1048576 := HSM.out r (List.mem_of_getElem? hr)
      obtain ⟨g', o', e, hgl', hcell⟩ := (HC.out.below hb4).has (by have := (List.getElem?_eq_some_iff.1 hr).1; have := HC.out.len; rw [List.length_map] at this; omega)
      injection e with e
      injection e with e1 e2
      subst e1 e2
      have hil' : i < (t.map bt.laid).length := by rw [List.length_map]; exact (List.getElem?_eq_some_iff.1 hr).1
      obtain ⟨-, -, X, cx, q1, g1⟩ := hcell i hil'
      have hei : (t.map bt.laid)[i] = bt.laid r := by
        rw [List.getElem_map]
        congr 1
        obtain ⟨h1, h2⟩ := List.getElem?_eq_some_iff.1 hr
        exact h2
      rw [hei] at q1 g1
      rw [Nat.zero_add] at q1
      have hin : i < n := by have := HC.out.len; omega
      change w4.cell? ⟨g, i * 3 + 1, none⟩ = some (.slice X r.val.length cx) at q1
      have HCL := Lib.hid (clone_any X r.val.length cx r.val w4 g1 (by omega))
      have HF := Lib.hid hF
      obtain ⟨m, hm⟩ : ∃ m, r.val.length = m := ⟨_, rfl⟩
      rw [hm] at q1 HCL
      clear hi1 hi2 hi1' hi2' f1 f2 hiff hq hcell g1 hei hF hm hr
      go_wp2_with fail
      refine HCL.out.mono ?_
      rintro e w5 ⟨v, rfl, ho, hb5⟩
      have hb15 := hb14.trans (hb5.mono hb14.size)
      go_wp2_with fail
      go_ret2
      rw [HF.out]
      exact ⟨⟨v, rfl, ho.mono hb14.size⟩, hb15⟩
    | false =>
      have hF : F = none := f2 fun hx => by have := hq.2 (hiff.2 hx); cases this
      have HF := Lib.hid hF
      clear hi1 hi2 hi1' hi2' f1 f2 hiff hq hF
      go_wp2_with fail
      go_ret2
      rw [HF.out]
      exact ⟨⟨_, rfl, OwnB.nil_ _ _ _⟩, hb14⟩
  · have hm' : bt.may t = false := by simpa using hmay
    rw [hm'] at HM
    have hR : bt.findR t k = none := by unfold bt.findR; rw [hm']; rfl
    rw [hR]
    clear hm' hmay hR h hk1
    go_enter Try.func29, Try.ntmps29
    go_wp2_with fail
    refine HM.out.mono ?_
    rintro e w1 ⟨rfl, hb1⟩
    go_wp2_with fail
    go_ret2
    exact ⟨⟨_, rfl, OwnB.nil_ _ _ _⟩, hb1⟩
end Go.Proofs.Ytlchfadfbepapaa
