/-
  cardexref08's Between.
-/
import Derived.Test.YtlchfadfbepapaaBatchC
import Derived.Test.YtlchfadfbepapaaRef00
import Derived.WalkMore
namespace Go.Proofs.Ytlchfadfbepapaa
open Go.RowKit
namespace bt
/-- what is left between, from places i and k on -/
def btw (a b : List R) (i k : Nat) : List C := betweenL (a.drop i) (b.drop k)
theorem btw_end {a b : List R} {i k : Nat} (hi : a.length ≤ i) (hk : b.length ≤ k) : btw a b i k = [] := by
  unfold btw
  rw [List.drop_of_length_le hi, List.drop_of_length_le hk, betweenL]
  rfl
theorem btw_a {a b : List R} {i k : Nat} (hi : i < a.length) (hk : b.length ≤ k) : btw a b i k = gone a[i] :: btw a b (i + 1) k := by
  unfold btw
  rw [List.drop_eq_getElem_cons hi, List.drop_of_length_le hk, betweenL]
theorem btw_b {a b : List R} {i k : Nat} (hi : a.length ≤ i) (hk : k < b.length) : btw a b i k = laid b[k] :: btw a b i (k + 1) := by
  unfold btw
  rw [List.drop_of_length_le hi, List.drop_eq_getElem_cons hk, betweenL, betweenL]
  rfl
theorem btw_both {a b : List R} {i k : Nat} (hi : i < a.length) (hk : k < b.length) : btw a b i k = if less a[i].key b[k].key then gone a[i] :: btw a b (i + 1) k else if less b[k].key a[i].key then laid b[k] :: btw a b i (k + 1) else if a[i].val = b[k].val then btw a b (i + 1) (k + 1) else laid b[k] :: btw a b (i + 1) (k + 1) := by
  unfold btw
  rw [List.drop_eq_getElem_cons hi, List.drop_eq_getElem_cons hk, betweenL, ← List.drop_eq_getElem_cons hi, ← List.drop_eq_getElem_cons hk]
end bt
theorem OC.elt_none {w0 w : World} {base : Nat} {v : Value} {l : List bt.C} {k : List UInt8} {u : List UInt8} (_ : OC w0 base v l) : eltO w base v [str k, .slice none 0 0, .bool true] (bt.gone ⟨k, u⟩) :=
  ⟨none, 0, rfl, OwnB.nil_ _ _ _, fun k hk => by simp [Value.ownBlock] at hk⟩
theorem OC.elt_new {w0 w : World} {base B2 : Nat} {v : Value} {l : List bt.C} (hoc : OC w0 base v l) {kb vb : List UInt8} {m : Nat} (A : Option Addr) (c : Nat) (hm : vb.length = m) (h : OwnB 5 w B2 (.slice A m c) vb) (hB : base ≤ B2) (hs : w0.heap.size ≤ B2) : eltO w base v [str kb, .slice A m c, .bool false] (bt.laid ⟨kb, vb⟩) := by
  subst hm
  exact ⟨A, c, rfl, h.mono hB, fun k hk e => by
    have h1 := (h.lt k hk).1
    have h2 := (hoc.lt k e).2
    omega⟩
section
variable {o : Oper} {a : Act} {w : World} {Q : Exit → Act → World → Prop}
/-- one change, as a slice of one, at its operation -/
theorem op_bsc {K : Act → World → Prop} (x : Operand) (u0 u1 u2 : Value) (ho : o.op = .buildSlice 23 1 #[(0, x)]) (hx : a.eval x = .agg #[u0, u1, u2])
    (h : K (a.put o.dst (.slice (some ⟨w.heap.size, 0, none⟩) 1 1)) (w.alloc (.cells #[u0, u1, u2] 39))) : o.wp Try.prog a w K Q := by
  obtain ⟨i0, hi0, hz0, hs0, _⟩ := info_parts8 info_chg
  refine wp_buildSlice 23 39 1 _ ho #[u0, u1, u2] i0 _ Try.underlying23 hi0 hz0 (by rw [hs0]; omega) (by rw [hs0]; omega) ?_ h
  rw [hs0]
  simp only [List.map_toArray, List.map_cons, List.map_nil, hx]
  have hr : Array.range (1 * 3) = #[0, 1, 2] := rfl
  rw [hr]
  simp [Instr.fill, Value.cells]
end
set_option maxHeartbeats 8000000 in
set_option maxRecDepth 100000 in
theorem rbetween_any (A : Option Addr) (n c : Nat) (a : List bt.R) (B : Option Addr) (m d : Nat) (b : List bt.R) (w : World) (h : TS w A n c a) (hl : TS w B m d b) (hk1 : ∀ r ∈ a, r.key.length ≤ 9223372036854775807) (hk2 : ∀ r ∈ b, r.key.length ≤ 9223372036854775807) (hn : n + m ≤ 1099511627774) : Calls Try.prog 26 #[.slice A n c, .slice B m d] w fun e w' => (∃ A' c', e = .returned (.tuple #[.slice A' (bt.between a b).1.length c', .int .i64 (bt.between a b).2]) ∧ CS w' A' (bt.between a b).1.length c' (bt.between a b).1) ∧ Below w.heap.size w w' := by
  have hlen := h.len
  have hlenl := hl.len
  have hcap := h.cap
  have hmax := h.max
  have hcapl := hl.cap
  have hmaxl := hl.max
  have HMAY := Lib.hid (fun W (g : TS W A n c a) => rmay8_any A n c a W g hk1)
  have HMAYB := Lib.hid (fun W (g : TS W B m d b) => rmay8_any B m d b W g hk2)
  have H1 := Lib.hid h
  have H2 := Lib.hid hl
  clear h hl hk1 hk2
  by_cases c1 : bt.may a = true
  · rw [c1] at HMAY
    by_cases c2 : bt.may b = true
    · rw [c2] at HMAYB
      have hsm2 : ∀ r ∈ b, r.val.length ≤ 1048576 := fun r hr => ((bt.mayFrom_sorted b none c2).2.2 r hr).2
      have hres : bt.between a b = (bt.btw a b 0 0, 0) := by unfold bt.between; rw [c1, c2]; rfl
      rw [hres]
      clear hres c1 c2
      go_enter Try.func26, Try.ntmps26
      go_wp2_with (first
        | (go_at_call 11; refine (HMAY.out _ H1.out).mono ?_; rintro e w1 ⟨rfl, hb1⟩; clear HMAY)
        | (go_at_call 11; refine (HMAYB.out _ (H2.out.below hb1)).mono ?_; rintro e w2 ⟨rfl, hb2⟩))
      have hbb := hb1.trans (hb2.mono hb1.size)
      go_loopw [6, 7, 8] (fun v s r wr => ∃ (i k : Nat) (acc : List bt.C), s = .int .i64 i ∧ r = .int .i64 k ∧ i ≤ n ∧ k ≤ m ∧ acc.length ≤ i + k ∧ Hid (bt.btw a b 0 0 = acc ++ bt.btw a b i k) ∧ OC wr w.heap.size v acc ∧ Below w.heap.size w wr) (fun _ s r _ => (n - (intOf s).toNat) + (m - (intOf r).toNat))
      case atStart => exact ⟨0, 0, [], rfl, rfl, by omega, by omega, by simp, rfl, OC.nil_ _ _, hbb⟩
      case round =>
        clear hbb hb1 hb2 HMAYB
        obtain ⟨i, k, acc, rfl, rfl, hin, hkm, hacc, HP, ho, hb⟩ := hrel
        by_cases hi : i < n
        · by_cases hk : k < m
          · have hN := bt.btw_both (a := a) (b := b) (i := i) (k := k) (by omega) (by omega)
            obtain ⟨b1, o1, rfl, ha1, hr1⟩ := H1.out.has (by omega)
            obtain ⟨p1, X1, c1, q1, g1⟩ := hr1 i (by omega)
            obtain ⟨b2, o2, rfl, ha2, hr2⟩ := H2.out.has (by omega)
            obtain ⟨p2, X2, c2, q2, g2⟩ := hr2 k (by omega)
            obtain ⟨ra, hra⟩ : ∃ r, a[i]'(by omega) = r := ⟨_, rfl⟩
            rw [hra] at p1 q1 g1 hN
            clear hra hr1
            obtain ⟨ka, va⟩ := ra
            simp only at p1 q1 g1 hN
            obtain ⟨m1, hm1⟩ : ∃ m, va.length = m := ⟨_, rfl⟩
            rw [hm1] at q1 g1
            have hsb := hsm2 _ (List.getElem_mem (by omega : k < b.length))
            obtain ⟨rb, hrb⟩ : ∃ r, b[k]'(by omega) = r := ⟨_, rfl⟩
            rw [hrb] at p2 q2 g2 hN hsb
            clear hrb hr2
            obtain ⟨kb, vb⟩ := rb
            simp only at p2 q2 g2 hN hsb
            obtain ⟨m2, hm2⟩ : ∃ m, vb.length = m := ⟨_, rfl⟩
            rw [hm2] at q2 g2 hsb
            have HCOPY := Lib.hid (fun W (hS : Below w.heap.size w W) => copy_any X2 m2 c2 vb W (g2.below hS) (by omega))
            have di : decide (i < n) = true := decide_eq_true (by omega)
            have ei : ((i : Int) == (n : Int)) = false := by rw [beq_eq_false_iff_ne]; omega
            have dk : decide (k < m) = true := decide_eq_true (by omega)
            have ek : ((k : Int) == (m : Int)) = false := by rw [beq_eq_false_iff_ne]; omega
            have hs1 := str_list ka
            have hs2 := str_list kb
            cases hl1 : bt.less ka kb with
            | true =>
              have hb0 : Op.bytesLess ka kb = true := hl1
              rw [if_pos hl1] at hN
              have HN := Lib.hid (show bt.btw a b 0 0 = (acc ++ [bt.gone ⟨ka, va⟩]) ++ bt.btw a b (i + 1) k by rw [HP.out, hN]; simp)
              clear hN HP hsm2 hl1
              go_wp2_with fail
              refine wp_region_held_drew (S := fun W => Below w.heap.size w W) (by kernel_rfl) hb.drew (fun hHeld => ?_)
              refine wpAnyH_take (i := 0) (v := ?_) rfl (by kernel_rfl) (by kernel_rfl) (by kernel_rfl) (fun _ _ _ h => h) (Or.inl ⟨by rfl, ?_⟩) hHeld ?_
              rotate_left
              · intro w hSw; have f0 := (hSw.cell (p := ⟨b1, o1 + i * 2, none⟩) ha1).trans p1; have f1 := (hSw.cell (p := ⟨b2, o2 + k * 2, none⟩) ha2).trans p2; clear hSw; go_simp; try rfl
              simp only [List.getElem_toArray, List.getElem_cons_zero, Act.put, List.setIfInBounds_toArray, List.set_cons_zero, List.set_cons_succ]
              refine wpAnyH_take (i := 1) (v := ?_) rfl (by kernel_rfl) (by kernel_rfl) (by kernel_rfl) (fun _ _ _ h => h) (Or.inl ⟨by rfl, ?_⟩) hHeld ?_
              rotate_left
              · intro w hSw; have f0 := (hSw.cell (p := ⟨b1, o1 + i * 2, none⟩) ha1).trans p1; have f1 := (hSw.cell (p := ⟨b2, o2 + k * 2, none⟩) ha2).trans p2; clear hSw; go_simp; try rfl
              simp only [List.getElem_toArray, List.getElem_cons_zero, List.getElem_cons_succ, Act.put, List.setIfInBounds_toArray, List.set_cons_zero, List.set_cons_succ]
              refine wpAnyH_take (i := 2) (v := ?_) rfl (by kernel_rfl) (by kernel_rfl) (by kernel_rfl) (fun _ _ _ h => h) (Or.inl ⟨by rfl, ?_⟩) hHeld ?_
              rotate_left
              · intro w hSw; have f0 := (hSw.cell (p := ⟨b1, o1 + i * 2, none⟩) ha1).trans p1; have f1 := (hSw.cell (p := ⟨b2, o2 + k * 2, none⟩) ha2).trans p2; clear hSw; go_simp; try rfl
              simp only [List.getElem_toArray, List.getElem_cons_zero, List.getElem_cons_succ, Act.put, List.setIfInBounds_toArray, List.set_cons_zero, List.set_cons_succ]
              refine wpAnyH_take (i := 3) (v := ?_) rfl (by kernel_rfl) (by kernel_rfl) (by kernel_rfl) (fun _ _ _ h => h) (Or.inl ⟨by rfl, ?_⟩) hHeld ?_
              rotate_left
              · intro w hSw; have f0 := (hSw.cell (p := ⟨b1, o1 + i * 2, none⟩) ha1).trans p1; have f1 := (hSw.cell (p := ⟨b2, o2 + k * 2, none⟩) ha2).trans p2; clear hSw; go_simp; try rfl
              simp only [List.getElem_toArray, List.getElem_cons_zero, List.getElem_cons_succ, Act.put, List.setIfInBounds_toArray, List.set_cons_zero, List.set_cons_succ]
              refine wpAnyH_take (i := 4) (v := ?_) rfl (by kernel_rfl) (by kernel_rfl) (by kernel_rfl) (fun _ _ _ h => h) (Or.inl ⟨by rfl, ?_⟩) hHeld ?_
              rotate_left
              · intro w hSw; have f0 := (hSw.cell (p := ⟨b1, o1 + i * 2, none⟩) ha1).trans p1; have f1 := (hSw.cell (p := ⟨b2, o2 + k * 2, none⟩) ha2).trans p2; clear hSw; go_simp; try rfl
              simp only [List.getElem_toArray, List.getElem_cons_zero, List.getElem_cons_succ, Act.put, List.setIfInBounds_toArray, List.set_cons_zero, List.set_cons_succ]
              refine wpAnyH_take (i := 5) (v := ?_) rfl (by kernel_rfl) (by kernel_rfl) (by kernel_rfl) (fun _ _ _ h => h) (Or.inl ⟨by rfl, ?_⟩) hHeld ?_
              rotate_left
              · intro w hSw; have f0 := (hSw.cell (p := ⟨b1, o1 + i * 2, none⟩) ha1).trans p1; have f1 := (hSw.cell (p := ⟨b2, o2 + k * 2, none⟩) ha2).trans p2; clear hSw; go_simp; try rfl
              simp only [List.getElem_toArray, List.getElem_cons_zero, List.getElem_cons_succ, Act.put, List.setIfInBounds_toArray, List.set_cons_zero, List.set_cons_succ]
              refine wpAnyH_take (i := 6) (v := ?_) rfl (by kernel_rfl) (by kernel_rfl) (by kernel_rfl) (fun _ _ _ h => h) (Or.inl ⟨by rfl, ?_⟩) hHeld ?_
              rotate_left
              · intro w hSw; have f0 := (hSw.cell (p := ⟨b1, o1 + i * 2, none⟩) ha1).trans p1; have f1 := (hSw.cell (p := ⟨b2, o2 + k * 2, none⟩) ha2).trans p2; clear hSw; go_simp; try rfl
              simp only [List.getElem_toArray, List.getElem_cons_zero, List.getElem_cons_succ, Act.put, List.setIfInBounds_toArray, List.set_cons_zero, List.set_cons_succ]
              refine wpAnyH_take (i := 7) (v := ?_) rfl (by kernel_rfl) (by kernel_rfl) (by kernel_rfl) (fun _ _ _ h => h) (Or.inl ⟨by rfl, ?_⟩) hHeld ?_
              rotate_left
              · intro w hSw; have f0 := (hSw.cell (p := ⟨b1, o1 + i * 2, none⟩) ha1).trans p1; have f1 := (hSw.cell (p := ⟨b2, o2 + k * 2, none⟩) ha2).trans p2; clear hSw; go_simp; try rfl
              simp only [List.getElem_toArray, List.getElem_cons_zero, List.getElem_cons_succ, Act.put, List.setIfInBounds_toArray, List.set_cons_zero, List.set_cons_succ]
              refine wpAnyH_take (i := 8) (v := ?_) rfl (by kernel_rfl) (by kernel_rfl) (by kernel_rfl) (fun _ _ _ h => h) (Or.inl ⟨by rfl, ?_⟩) hHeld ?_
              rotate_left
              · intro w hSw; have f0 := (hSw.cell (p := ⟨b1, o1 + i * 2, none⟩) ha1).trans p1; have f1 := (hSw.cell (p := ⟨b2, o2 + k * 2, none⟩) ha2).trans p2; clear hSw; go_simp; try rfl
              simp only [List.getElem_toArray, List.getElem_cons_zero, List.getElem_cons_succ, Act.put, List.setIfInBounds_toArray, List.set_cons_zero, List.set_cons_succ]
              refine wpAnyH_take (i := 9) (v := ?_) rfl (by kernel_rfl) (by kernel_rfl) (by kernel_rfl) (fun _ _ _ h => h) (Or.inl ⟨by rfl, ?_⟩) hHeld ?_
              rotate_left
              · intro w hSw; have f0 := (hSw.cell (p := ⟨b1, o1 + i * 2, none⟩) ha1).trans p1; have f1 := (hSw.cell (p := ⟨b2, o2 + k * 2, none⟩) ha2).trans p2; clear hSw; go_simp; try rfl
              simp only [List.getElem_toArray, List.getElem_cons_zero, List.getElem_cons_succ, Act.put, List.setIfInBounds_toArray, List.set_cons_zero, List.set_cons_succ]
              refine wpAnyH_take (i := 10) (v := ?_) rfl (by kernel_rfl) (by kernel_rfl) (by kernel_rfl) (fun _ _ _ h => h) (Or.inl ⟨by rfl, ?_⟩) hHeld ?_
              rotate_left
              · intro w hSw; have f0 := (hSw.cell (p := ⟨b1, o1 + i * 2, none⟩) ha1).trans p1; have f1 := (hSw.cell (p := ⟨b2, o2 + k * 2, none⟩) ha2).trans p2; clear hSw; go_simp; try rfl
              simp only [List.getElem_toArray, List.getElem_cons_zero, List.getElem_cons_succ, Act.put, List.setIfInBounds_toArray, List.set_cons_zero, List.set_cons_succ]
              refine wpAnyH_take (i := 11) (v := ?_) rfl (by kernel_rfl) (by kernel_rfl) (by kernel_rfl) (fun _ _ _ h => h) (Or.inl ⟨by rfl, ?_⟩) hHeld ?_
              rotate_left
              · intro w hSw; have f0 := (hSw.cell (p := ⟨b1, o1 + i * 2, none⟩) ha1).trans p1; have f1 := (hSw.cell (p := ⟨b2, o2 + k * 2, none⟩) ha2).trans p2; clear hSw; go_simp; try rfl
              simp only [List.getElem_toArray, List.getElem_cons_zero, List.getElem_cons_succ, Act.put, List.setIfInBounds_toArray, List.set_cons_zero, List.set_cons_succ]
              refine wpAnyH_take (i := 12) (v := ?_) rfl (by kernel_rfl) (by kernel_rfl) (by kernel_rfl) (fun _ _ _ h => h) (Or.inl ⟨by rfl, ?_⟩) hHeld ?_
              rotate_left
              · intro w hSw; have f0 := (hSw.cell (p := ⟨b1, o1 + i * 2, none⟩) ha1).trans p1; have f1 := (hSw.cell (p := ⟨b2, o2 + k * 2, none⟩) ha2).trans p2; clear hSw; go_simp; try rfl
              simp only [List.getElem_toArray, List.getElem_cons_zero, List.getElem_cons_succ, Act.put, List.setIfInBounds_toArray, List.set_cons_zero, List.set_cons_succ]
              refine wpAnyH_take (i := 13) (v := ?_) rfl (by kernel_rfl) (by kernel_rfl) (by kernel_rfl) (fun _ _ _ h => h) (Or.inl ⟨by rfl, ?_⟩) hHeld ?_
              rotate_left
              · intro w hSw; have f0 := (hSw.cell (p := ⟨b1, o1 + i * 2, none⟩) ha1).trans p1; have f1 := (hSw.cell (p := ⟨b2, o2 + k * 2, none⟩) ha2).trans p2; clear hSw; go_simp; try rfl
              simp only [List.getElem_toArray, List.getElem_cons_zero, List.getElem_cons_succ, Act.put, List.setIfInBounds_toArray, List.set_cons_zero, List.set_cons_succ]
              refine wpAnyH_take (i := 14) (v := ?_) rfl (by kernel_rfl) (by kernel_rfl) (by kernel_rfl) (fun _ _ _ h => h) (Or.inl ⟨by rfl, ?_⟩) hHeld ?_
              rotate_left
              · intro w hSw; have f0 := (hSw.cell (p := ⟨b1, o1 + i * 2, none⟩) ha1).trans p1; have f1 := (hSw.cell (p := ⟨b2, o2 + k * 2, none⟩) ha2).trans p2; clear hSw; go_simp; try rfl
              simp only [List.getElem_toArray, List.getElem_cons_zero, List.getElem_cons_succ, Act.put, List.setIfInBounds_toArray, List.set_cons_zero, List.set_cons_succ]
              refine wpAnyH_take (i := 15) (v := ?_) rfl (by kernel_rfl) (by kernel_rfl) (by kernel_rfl) (fun _ _ _ h => h) (Or.inl ⟨by rfl, ?_⟩) hHeld ?_
              rotate_left
              · intro w hSw; have f0 := (hSw.cell (p := ⟨b1, o1 + i * 2, none⟩) ha1).trans p1; have f1 := (hSw.cell (p := ⟨b2, o2 + k * 2, none⟩) ha2).trans p2; clear hSw; go_simp; try rfl
              simp only [List.getElem_toArray, List.getElem_cons_zero, List.getElem_cons_succ, Act.put, List.setIfInBounds_toArray, List.set_cons_zero, List.set_cons_succ]
              refine wpAnyH_take (i := 16) (v := ?_) rfl (by kernel_rfl) (by kernel_rfl) (by kernel_rfl) (fun _ _ _ h => h) (Or.inl ⟨by rfl, ?_⟩) hHeld ?_
              rotate_left
              · intro w hSw; have f0 := (hSw.cell (p := ⟨b1, o1 + i * 2, none⟩) ha1).trans p1; have f1 := (hSw.cell (p := ⟨b2, o2 + k * 2, none⟩) ha2).trans p2; clear hSw; go_simp; try rfl
              simp only [List.getElem_toArray, List.getElem_cons_zero, List.getElem_cons_succ, Act.put, List.setIfInBounds_toArray, List.set_cons_zero, List.set_cons_succ]
              refine wpAnyH_take (i := 17) (v := ?_) rfl (by kernel_rfl) (by kernel_rfl) (by kernel_rfl) (fun _ _ _ h => h) (Or.inl ⟨by rfl, ?_⟩) hHeld ?_
              rotate_left
              · intro w hSw; have f0 := (hSw.cell (p := ⟨b1, o1 + i * 2, none⟩) ha1).trans p1; have f1 := (hSw.cell (p := ⟨b2, o2 + k * 2, none⟩) ha2).trans p2; clear hSw; go_simp; try rfl
              simp only [List.getElem_toArray, List.getElem_cons_zero, List.getElem_cons_succ, Act.put, List.setIfInBounds_toArray, List.set_cons_zero, List.set_cons_succ]
              refine wpAnyH_take (i := 18) (v := ?_) rfl (by kernel_rfl) (by kernel_rfl) (by kernel_rfl) (fun _ _ _ h => h) (Or.inl ⟨by rfl, ?_⟩) hHeld ?_
              rotate_left
              · intro w hSw; have f0 := (hSw.cell (p := ⟨b1, o1 + i * 2, none⟩) ha1).trans p1; have f1 := (hSw.cell (p := ⟨b2, o2 + k * 2, none⟩) ha2).trans p2; clear hSw; go_simp; try rfl
              simp only [List.getElem_toArray, List.getElem_cons_zero, List.getElem_cons_succ, Act.put, List.setIfInBounds_toArray, List.set_cons_zero, List.set_cons_succ]
              refine wpAnyH_take (i := 19) (v := ?_) rfl (by kernel_rfl) (by kernel_rfl) (by kernel_rfl) (fun _ _ _ h => h) (Or.inl ⟨by rfl, ?_⟩) hHeld ?_
              rotate_left
              · intro w hSw; have f0 := (hSw.cell (p := ⟨b1, o1 + i * 2, none⟩) ha1).trans p1; have f1 := (hSw.cell (p := ⟨b2, o2 + k * 2, none⟩) ha2).trans p2; clear hSw; go_simp; try rfl
              simp only [List.getElem_toArray, List.getElem_cons_zero, List.getElem_cons_succ, Act.put, List.setIfInBounds_toArray, List.set_cons_zero, List.set_cons_succ]
              refine wpAnyH_take (i := 20) (v := ?_) rfl (by kernel_rfl) (by kernel_rfl) (by kernel_rfl) (fun _ _ _ h => h) (Or.inl ⟨by rfl, ?_⟩) hHeld ?_
              rotate_left
              · intro w hSw; have f0 := (hSw.cell (p := ⟨b1, o1 + i * 2, none⟩) ha1).trans p1; have f1 := (hSw.cell (p := ⟨b2, o2 + k * 2, none⟩) ha2).trans p2; clear hSw; go_simp; try rfl
              simp only [List.getElem_toArray, List.getElem_cons_zero, List.getElem_cons_succ, Act.put, List.setIfInBounds_toArray, List.set_cons_zero, List.set_cons_succ]
              refine wpAnyH_take (i := 21) (v := ?_) rfl (by kernel_rfl) (by kernel_rfl) (by kernel_rfl) (fun _ _ _ h => h) (Or.inl ⟨by rfl, ?_⟩) hHeld ?_
              rotate_left
              · intro w hSw; have f0 := (hSw.cell (p := ⟨b1, o1 + i * 2, none⟩) ha1).trans p1; have f1 := (hSw.cell (p := ⟨b2, o2 + k * 2, none⟩) ha2).trans p2; clear hSw; go_simp; try rfl
              simp only [List.getElem_toArray, List.getElem_cons_zero, List.getElem_cons_succ, Act.put, List.setIfInBounds_toArray, List.set_cons_zero, List.set_cons_succ]
              refine wpAnyH_take (i := 22) (v := ?_) rfl (by kernel_rfl) (by kernel_rfl) (by kernel_rfl) (fun _ _ _ h => h) (Or.inl ⟨by rfl, ?_⟩) hHeld ?_
              rotate_left
              · intro w hSw; have f0 := (hSw.cell (p := ⟨b1, o1 + i * 2, none⟩) ha1).trans p1; have f1 := (hSw.cell (p := ⟨b2, o2 + k * 2, none⟩) ha2).trans p2; clear hSw; go_simp; try rfl
              simp only [List.getElem_toArray, List.getElem_cons_zero, List.getElem_cons_succ, Act.put, List.setIfInBounds_toArray, List.set_cons_zero, List.set_cons_succ]
              refine wpAnyH_done (by kernel_rfl) ?_ _
              have hoB := (ho.drew).alloc (.cells #[str ka, .slice none 0 0, .bool true] 39)
              have hbB := (hb.drew).alloc (hb.drew).size (.cells #[str ka, .slice none 0 0, .bool true] 39)
              have p1d := ((hb.drew).cell (p := ⟨b1, o1 + i * 2, none⟩) ha1).trans p1
              have hEB : eltO ((wr.drew).alloc (.cells #[str ka, .slice none 0 0, .bool true] 39)) w.heap.size _ [str ka, .slice none 0 0, .bool true] (bt.gone ⟨ka, va⟩) := OC.elt_none (ho.drew)
              have hnB : ((wr.drew).alloc (.cells #[str ka, .slice none 0 0, .bool true] 39)).heap[(wr.drew).heap.size]? = some (.cells #[str ka, .slice none 0 0, .bool true] 39 (0, 0)) := heap_alloc_new _ _
              go_wp2_with (at_builtin; refine wp_apo (.tmp 50) (.tmp 57) hoB hbB.size hnB hEB (by omega) rfl rfl rfl rfl ?_; intro g3 cap3 w3 ho3 hg3 hat3 hlt3; have hb3 := hbB.grown hg3 hbB.size (fun k hk => (hoB.lt k hk).1))
              go_roundw
              case rel => exact ⟨i + 1, k, (acc ++ [bt.gone ⟨ka, va⟩]), by go_num, by go_num, by omega, by omega, by first | omega | (simp; omega), HN, ho3, hb3⟩
              case measure => simp [intOf]; omega
            | false =>
              have hb0 : Op.bytesLess ka kb = false := hl1
              rw [if_neg (by rw [hl1]; decide)] at hN
              cases hl2 : bt.less kb ka with
              | true =>
                have hb9 : Op.bytesLess kb ka = true := hl2
                have hke : (ka == kb) = false := beq_eq_false_iff_ne.2 (fun e => bt.less_ne hl2 e.symm)
                rw [if_pos hl2] at hN
                have HN := Lib.hid (show bt.btw a b 0 0 = (acc ++ [bt.laid ⟨kb, vb⟩]) ++ bt.btw a b i (k + 1) by rw [HP.out, hN]; simp)
                clear hN HP hsm2 hl1 hl2
                go_wp2_with fail
                refine wp_region_held_drew (S := fun W => Below w.heap.size w W) (by kernel_rfl) hb.drew (fun hHeld => ?_)
                refine wpAnyH_take (i := 0) (v := ?_) rfl (by kernel_rfl) (by kernel_rfl) (by kernel_rfl) (fun _ _ _ h => h) (Or.inl ⟨by rfl, ?_⟩) hHeld ?_
                rotate_left
                · intro w hSw; have f0 := (hSw.cell (p := ⟨b1, o1 + i * 2, none⟩) ha1).trans p1; have f1 := (hSw.cell (p := ⟨b2, o2 + k * 2, none⟩) ha2).trans p2; clear hSw; go_simp; try rfl
                simp only [List.getElem_toArray, List.getElem_cons_zero, Act.put, List.setIfInBounds_toArray, List.set_cons_zero, List.set_cons_succ]
                refine wpAnyH_take (i := 1) (v := ?_) rfl (by kernel_rfl) (by kernel_rfl) (by kernel_rfl) (fun _ _ _ h => h) (Or.inl ⟨by rfl, ?_⟩) hHeld ?_
                rotate_left
                · intro w hSw; have f0 := (hSw.cell (p := ⟨b1, o1 + i * 2, none⟩) ha1).trans p1; have f1 := (hSw.cell (p := ⟨b2, o2 + k * 2, none⟩) ha2).trans p2; clear hSw; go_simp; try rfl
                simp only [List.getElem_toArray, List.getElem_cons_zero, List.getElem_cons_succ, Act.put, List.setIfInBounds_toArray, List.set_cons_zero, List.set_cons_succ]
                refine wpAnyH_take (i := 2) (v := ?_) rfl (by kernel_rfl) (by kernel_rfl) (by kernel_rfl) (fun _ _ _ h => h) (Or.inl ⟨by rfl, ?_⟩) hHeld ?_
                rotate_left
                · intro w hSw; have f0 := (hSw.cell (p := ⟨b1, o1 + i * 2, none⟩) ha1).trans p1; have f1 := (hSw.cell (p := ⟨b2, o2 + k * 2, none⟩) ha2).trans p2; clear hSw; go_simp; try rfl
                simp only [List.getElem_toArray, List.getElem_cons_zero, List.getElem_cons_succ, Act.put, List.setIfInBounds_toArray, List.set_cons_zero, List.set_cons_succ]
                refine wpAnyH_take (i := 3) (v := ?_) rfl (by kernel_rfl) (by kernel_rfl) (by kernel_rfl) (fun _ _ _ h => h) (Or.inl ⟨by rfl, ?_⟩) hHeld ?_
                rotate_left
                · intro w hSw; have f0 := (hSw.cell (p := ⟨b1, o1 + i * 2, none⟩) ha1).trans p1; have f1 := (hSw.cell (p := ⟨b2, o2 + k * 2, none⟩) ha2).trans p2; clear hSw; go_simp; try rfl
                simp only [List.getElem_toArray, List.getElem_cons_zero, List.getElem_cons_succ, Act.put, List.setIfInBounds_toArray, List.set_cons_zero, List.set_cons_succ]
                refine wpAnyH_take (i := 4) (v := ?_) rfl (by kernel_rfl) (by kernel_rfl) (by kernel_rfl) (fun _ _ _ h => h) (Or.inl ⟨by rfl, ?_⟩) hHeld ?_
                rotate_left
                · intro w hSw; have f0 := (hSw.cell (p := ⟨b1, o1 + i * 2, none⟩) ha1).trans p1; have f1 := (hSw.cell (p := ⟨b2, o2 + k * 2, none⟩) ha2).trans p2; clear hSw; go_simp; try rfl
                simp only [List.getElem_toArray, List.getElem_cons_zero, List.getElem_cons_succ, Act.put, List.setIfInBounds_toArray, List.set_cons_zero, List.set_cons_succ]
                refine wpAnyH_take (i := 5) (v := ?_) rfl (by kernel_rfl) (by kernel_rfl) (by kernel_rfl) (fun _ _ _ h => h) (Or.inl ⟨by rfl, ?_⟩) hHeld ?_
                rotate_left
                · intro w hSw; have f0 := (hSw.cell (p := ⟨b1, o1 + i * 2, none⟩) ha1).trans p1; have f1 := (hSw.cell (p := ⟨b2, o2 + k * 2, none⟩) ha2).trans p2; clear hSw; go_simp; try rfl
                simp only [List.getElem_toArray, List.getElem_cons_zero, List.getElem_cons_succ, Act.put, List.setIfInBounds_toArray, List.set_cons_zero, List.set_cons_succ]
                refine wpAnyH_take (i := 6) (v := ?_) rfl (by kernel_rfl) (by kernel_rfl) (by kernel_rfl) (fun _ _ _ h => h) (Or.inl ⟨by rfl, ?_⟩) hHeld ?_
                rotate_left
                · intro w hSw; have f0 := (hSw.cell (p := ⟨b1, o1 + i * 2, none⟩) ha1).trans p1; have f1 := (hSw.cell (p := ⟨b2, o2 + k * 2, none⟩) ha2).trans p2; clear hSw; go_simp; try rfl
                simp only [List.getElem_toArray, List.getElem_cons_zero, List.getElem_cons_succ, Act.put, List.setIfInBounds_toArray, List.set_cons_zero, List.set_cons_succ]
                refine wpAnyH_take (i := 7) (v := ?_) rfl (by kernel_rfl) (by kernel_rfl) (by kernel_rfl) (fun _ _ _ h => h) (Or.inl ⟨by rfl, ?_⟩) hHeld ?_
                rotate_left
                · intro w hSw; have f0 := (hSw.cell (p := ⟨b1, o1 + i * 2, none⟩) ha1).trans p1; have f1 := (hSw.cell (p := ⟨b2, o2 + k * 2, none⟩) ha2).trans p2; clear hSw; go_simp; try rfl
                simp only [List.getElem_toArray, List.getElem_cons_zero, List.getElem_cons_succ, Act.put, List.setIfInBounds_toArray, List.set_cons_zero, List.set_cons_succ]
                refine wpAnyH_take (i := 8) (v := ?_) rfl (by kernel_rfl) (by kernel_rfl) (by kernel_rfl) (fun _ _ _ h => h) (Or.inl ⟨by rfl, ?_⟩) hHeld ?_
                rotate_left
                · intro w hSw; have f0 := (hSw.cell (p := ⟨b1, o1 + i * 2, none⟩) ha1).trans p1; have f1 := (hSw.cell (p := ⟨b2, o2 + k * 2, none⟩) ha2).trans p2; clear hSw; go_simp; try rfl
                simp only [List.getElem_toArray, List.getElem_cons_zero, List.getElem_cons_succ, Act.put, List.setIfInBounds_toArray, List.set_cons_zero, List.set_cons_succ]
                refine wpAnyH_take (i := 9) (v := ?_) rfl (by kernel_rfl) (by kernel_rfl) (by kernel_rfl) (fun _ _ _ h => h) (Or.inl ⟨by rfl, ?_⟩) hHeld ?_
                rotate_left
                · intro w hSw; have f0 := (hSw.cell (p := ⟨b1, o1 + i * 2, none⟩) ha1).trans p1; have f1 := (hSw.cell (p := ⟨b2, o2 + k * 2, none⟩) ha2).trans p2; clear hSw; go_simp; try rfl
                simp only [List.getElem_toArray, List.getElem_cons_zero, List.getElem_cons_succ, Act.put, List.setIfInBounds_toArray, List.set_cons_zero, List.set_cons_succ]
                refine wpAnyH_take (i := 10) (v := ?_) rfl (by kernel_rfl) (by kernel_rfl) (by kernel_rfl) (fun _ _ _ h => h) (Or.inl ⟨by rfl, ?_⟩) hHeld ?_
                rotate_left
                · intro w hSw; have f0 := (hSw.cell (p := ⟨b1, o1 + i * 2, none⟩) ha1).trans p1; have f1 := (hSw.cell (p := ⟨b2, o2 + k * 2, none⟩) ha2).trans p2; clear hSw; go_simp; try rfl
                simp only [List.getElem_toArray, List.getElem_cons_zero, List.getElem_cons_succ, Act.put, List.setIfInBounds_toArray, List.set_cons_zero, List.set_cons_succ]
                refine wpAnyH_take (i := 11) (v := ?_) rfl (by kernel_rfl) (by kernel_rfl) (by kernel_rfl) (fun _ _ _ h => h) (Or.inl ⟨by rfl, ?_⟩) hHeld ?_
                rotate_left
                · intro w hSw; have f0 := (hSw.cell (p := ⟨b1, o1 + i * 2, none⟩) ha1).trans p1; have f1 := (hSw.cell (p := ⟨b2, o2 + k * 2, none⟩) ha2).trans p2; clear hSw; go_simp; try rfl
                simp only [List.getElem_toArray, List.getElem_cons_zero, List.getElem_cons_succ, Act.put, List.setIfInBounds_toArray, List.set_cons_zero, List.set_cons_succ]
                refine wpAnyH_take (i := 12) (v := ?_) rfl (by kernel_rfl) (by kernel_rfl) (by kernel_rfl) (fun _ _ _ h => h) (Or.inl ⟨by rfl, ?_⟩) hHeld ?_
                rotate_left
                · intro w hSw; have f0 := (hSw.cell (p := ⟨b1, o1 + i * 2, none⟩) ha1).trans p1; have f1 := (hSw.cell (p := ⟨b2, o2 + k * 2, none⟩) ha2).trans p2; clear hSw; go_simp; try rfl
                simp only [List.getElem_toArray, List.getElem_cons_zero, List.getElem_cons_succ, Act.put, List.setIfInBounds_toArray, List.set_cons_zero, List.set_cons_succ]
                refine wpAnyH_take (i := 13) (v := ?_) rfl (by kernel_rfl) (by kernel_rfl) (by kernel_rfl) (fun _ _ _ h => h) (Or.inl ⟨by rfl, ?_⟩) hHeld ?_
                rotate_left
                · intro w hSw; have f0 := (hSw.cell (p := ⟨b1, o1 + i * 2, none⟩) ha1).trans p1; have f1 := (hSw.cell (p := ⟨b2, o2 + k * 2, none⟩) ha2).trans p2; clear hSw; go_simp; try rfl
                simp only [List.getElem_toArray, List.getElem_cons_zero, List.getElem_cons_succ, Act.put, List.setIfInBounds_toArray, List.set_cons_zero, List.set_cons_succ]
                refine wpAnyH_take (i := 14) (v := ?_) rfl (by kernel_rfl) (by kernel_rfl) (by kernel_rfl) (fun _ _ _ h => h) (Or.inl ⟨by rfl, ?_⟩) hHeld ?_
                rotate_left
                · intro w hSw; have f0 := (hSw.cell (p := ⟨b1, o1 + i * 2, none⟩) ha1).trans p1; have f1 := (hSw.cell (p := ⟨b2, o2 + k * 2, none⟩) ha2).trans p2; clear hSw; go_simp; try rfl
                simp only [List.getElem_toArray, List.getElem_cons_zero, List.getElem_cons_succ, Act.put, List.setIfInBounds_toArray, List.set_cons_zero, List.set_cons_succ]
                refine wpAnyH_take (i := 15) (v := ?_) rfl (by kernel_rfl) (by kernel_rfl) (by kernel_rfl) (fun _ _ _ h => h) (Or.inl ⟨by rfl, ?_⟩) hHeld ?_
                rotate_left
                · intro w hSw; have f0 := (hSw.cell (p := ⟨b1, o1 + i * 2, none⟩) ha1).trans p1; have f1 := (hSw.cell (p := ⟨b2, o2 + k * 2, none⟩) ha2).trans p2; clear hSw; go_simp; try rfl
                simp only [List.getElem_toArray, List.getElem_cons_zero, List.getElem_cons_succ, Act.put, List.setIfInBounds_toArray, List.set_cons_zero, List.set_cons_succ]
                refine wpAnyH_take (i := 16) (v := ?_) rfl (by kernel_rfl) (by kernel_rfl) (by kernel_rfl) (fun _ _ _ h => h) (Or.inl ⟨by rfl, ?_⟩) hHeld ?_
                rotate_left
                · intro w hSw; have f0 := (hSw.cell (p := ⟨b1, o1 + i * 2, none⟩) ha1).trans p1; have f1 := (hSw.cell (p := ⟨b2, o2 + k * 2, none⟩) ha2).trans p2; clear hSw; go_simp; try rfl
                simp only [List.getElem_toArray, List.getElem_cons_zero, List.getElem_cons_succ, Act.put, List.setIfInBounds_toArray, List.set_cons_zero, List.set_cons_succ]
                refine wpAnyH_take (i := 17) (v := ?_) rfl (by kernel_rfl) (by kernel_rfl) (by kernel_rfl) (fun _ _ _ h => h) (Or.inl ⟨by rfl, ?_⟩) hHeld ?_
                rotate_left
                · intro w hSw; have f0 := (hSw.cell (p := ⟨b1, o1 + i * 2, none⟩) ha1).trans p1; have f1 := (hSw.cell (p := ⟨b2, o2 + k * 2, none⟩) ha2).trans p2; clear hSw; go_simp; try rfl
                simp only [List.getElem_toArray, List.getElem_cons_zero, List.getElem_cons_succ, Act.put, List.setIfInBounds_toArray, List.set_cons_zero, List.set_cons_succ]
                refine wpAnyH_take (i := 18) (v := ?_) rfl (by kernel_rfl) (by kernel_rfl) (by kernel_rfl) (fun _ _ _ h => h) (Or.inl ⟨by rfl, ?_⟩) hHeld ?_
                rotate_left
                · intro w hSw; have f0 := (hSw.cell (p := ⟨b1, o1 + i * 2, none⟩) ha1).trans p1; have f1 := (hSw.cell (p := ⟨b2, o2 + k * 2, none⟩) ha2).trans p2; clear hSw; go_simp; try rfl
                simp only [List.getElem_toArray, List.getElem_cons_zero, List.getElem_cons_succ, Act.put, List.setIfInBounds_toArray, List.set_cons_zero, List.set_cons_succ]
                refine wpAnyH_take (i := 19) (v := ?_) rfl (by kernel_rfl) (by kernel_rfl) (by kernel_rfl) (fun _ _ _ h => h) (Or.inl ⟨by rfl, ?_⟩) hHeld ?_
                rotate_left
                · intro w hSw; have f0 := (hSw.cell (p := ⟨b1, o1 + i * 2, none⟩) ha1).trans p1; have f1 := (hSw.cell (p := ⟨b2, o2 + k * 2, none⟩) ha2).trans p2; clear hSw; go_simp; try rfl
                simp only [List.getElem_toArray, List.getElem_cons_zero, List.getElem_cons_succ, Act.put, List.setIfInBounds_toArray, List.set_cons_zero, List.set_cons_succ]
                refine wpAnyH_take (i := 20) (v := ?_) rfl (by kernel_rfl) (by kernel_rfl) (by kernel_rfl) (fun _ _ _ h => h) (Or.inl ⟨by rfl, ?_⟩) hHeld ?_
                rotate_left
                · intro w hSw; have f0 := (hSw.cell (p := ⟨b1, o1 + i * 2, none⟩) ha1).trans p1; have f1 := (hSw.cell (p := ⟨b2, o2 + k * 2, none⟩) ha2).trans p2; clear hSw; go_simp; try rfl
                simp only [List.getElem_toArray, List.getElem_cons_zero, List.getElem_cons_succ, Act.put, List.setIfInBounds_toArray, List.set_cons_zero, List.set_cons_succ]
                refine wpAnyH_take (i := 21) (v := ?_) rfl (by kernel_rfl) (by kernel_rfl) (by kernel_rfl) (fun _ _ _ h => h) (Or.inl ⟨by rfl, ?_⟩) hHeld ?_
                rotate_left
                · intro w hSw; have f0 := (hSw.cell (p := ⟨b1, o1 + i * 2, none⟩) ha1).trans p1; have f1 := (hSw.cell (p := ⟨b2, o2 + k * 2, none⟩) ha2).trans p2; clear hSw; go_simp; try rfl
                simp only [List.getElem_toArray, List.getElem_cons_zero, List.getElem_cons_succ, Act.put, List.setIfInBounds_toArray, List.set_cons_zero, List.set_cons_succ]
                refine wpAnyH_take (i := 22) (v := ?_) rfl (by kernel_rfl) (by kernel_rfl) (by kernel_rfl) (fun _ _ _ h => h) (Or.inl ⟨by rfl, ?_⟩) hHeld ?_
                rotate_left
                · intro w hSw; have f0 := (hSw.cell (p := ⟨b1, o1 + i * 2, none⟩) ha1).trans p1; have f1 := (hSw.cell (p := ⟨b2, o2 + k * 2, none⟩) ha2).trans p2; clear hSw; go_simp; try rfl
                simp only [List.getElem_toArray, List.getElem_cons_zero, List.getElem_cons_succ, Act.put, List.setIfInBounds_toArray, List.set_cons_zero, List.set_cons_succ]
                refine wpAnyH_done (by kernel_rfl) ?_ _
                go_wp2_with fail
                refine wp_region_held_drew (S := fun W => Below w.heap.size w W) (by kernel_rfl) hb.drew.drew (fun hHeld => ?_)
                refine wpAnyH_take (i := 0) (v := ?_) rfl (by kernel_rfl) (by kernel_rfl) (by kernel_rfl) (fun _ _ _ h => h) (Or.inl ⟨by rfl, ?_⟩) hHeld ?_
                rotate_left
                · intro w hSw; have f0 := (hSw.cell (p := ⟨b1, o1 + i * 2, none⟩) ha1).trans p1; have f1 := (hSw.cell (p := ⟨b2, o2 + k * 2, none⟩) ha2).trans p2; clear hSw; go_simp; try rfl
                simp only [List.getElem_toArray, List.getElem_cons_zero, Act.put, List.setIfInBounds_toArray, List.set_cons_zero, List.set_cons_succ]
                refine wpAnyH_take (i := 1) (v := ?_) rfl (by kernel_rfl) (by kernel_rfl) (by kernel_rfl) (fun _ _ _ h => h) (Or.inl ⟨by rfl, ?_⟩) hHeld ?_
                rotate_left
                · intro w hSw; have f0 := (hSw.cell (p := ⟨b1, o1 + i * 2, none⟩) ha1).trans p1; have f1 := (hSw.cell (p := ⟨b2, o2 + k * 2, none⟩) ha2).trans p2; clear hSw; go_simp; try rfl
                simp only [List.getElem_toArray, List.getElem_cons_zero, List.getElem_cons_succ, Act.put, List.setIfInBounds_toArray, List.set_cons_zero, List.set_cons_succ]
                refine wpAnyH_take (i := 2) (v := ?_) rfl (by kernel_rfl) (by kernel_rfl) (by kernel_rfl) (fun _ _ _ h => h) (Or.inl ⟨by rfl, ?_⟩) hHeld ?_
                rotate_left
                · intro w hSw; have f0 := (hSw.cell (p := ⟨b1, o1 + i * 2, none⟩) ha1).trans p1; have f1 := (hSw.cell (p := ⟨b2, o2 + k * 2, none⟩) ha2).trans p2; clear hSw; go_simp; try rfl
                simp only [List.getElem_toArray, List.getElem_cons_zero, List.getElem_cons_succ, Act.put, List.setIfInBounds_toArray, List.set_cons_zero, List.set_cons_succ]
                refine wpAnyH_take (i := 3) (v := ?_) rfl (by kernel_rfl) (by kernel_rfl) (by kernel_rfl) (fun _ _ _ h => h) (Or.inl ⟨by rfl, ?_⟩) hHeld ?_
                rotate_left
                · intro w hSw; have f0 := (hSw.cell (p := ⟨b1, o1 + i * 2, none⟩) ha1).trans p1; have f1 := (hSw.cell (p := ⟨b2, o2 + k * 2, none⟩) ha2).trans p2; clear hSw; go_simp; try rfl
                simp only [List.getElem_toArray, List.getElem_cons_zero, List.getElem_cons_succ, Act.put, List.setIfInBounds_toArray, List.set_cons_zero, List.set_cons_succ]
                refine wpAnyH_take (i := 4) (v := ?_) rfl (by kernel_rfl) (by kernel_rfl) (by kernel_rfl) (fun _ _ _ h => h) (Or.inl ⟨by rfl, ?_⟩) hHeld ?_
                rotate_left
                · intro w hSw; have f0 := (hSw.cell (p := ⟨b1, o1 + i * 2, none⟩) ha1).trans p1; have f1 := (hSw.cell (p := ⟨b2, o2 + k * 2, none⟩) ha2).trans p2; clear hSw; go_simp; try rfl
                simp only [List.getElem_toArray, List.getElem_cons_zero, List.getElem_cons_succ, Act.put, List.setIfInBounds_toArray, List.set_cons_zero, List.set_cons_succ]
                refine wpAnyH_take (i := 5) (v := ?_) rfl (by kernel_rfl) (by kernel_rfl) (by kernel_rfl) (fun _ _ _ h => h) (Or.inl ⟨by rfl, ?_⟩) hHeld ?_
                rotate_left
                · intro w hSw; have f0 := (hSw.cell (p := ⟨b1, o1 + i * 2, none⟩) ha1).trans p1; have f1 := (hSw.cell (p := ⟨b2, o2 + k * 2, none⟩) ha2).trans p2; clear hSw; go_simp; try rfl
                simp only [List.getElem_toArray, List.getElem_cons_zero, List.getElem_cons_succ, Act.put, List.setIfInBounds_toArray, List.set_cons_zero, List.set_cons_succ]
                refine wpAnyH_take (i := 6) (v := ?_) rfl (by kernel_rfl) (by kernel_rfl) (by kernel_rfl) (fun _ _ _ h => h) (Or.inl ⟨by rfl, ?_⟩) hHeld ?_
                rotate_left
                · intro w hSw; have f0 := (hSw.cell (p := ⟨b1, o1 + i * 2, none⟩) ha1).trans p1; have f1 := (hSw.cell (p := ⟨b2, o2 + k * 2, none⟩) ha2).trans p2; clear hSw; go_simp; try rfl
                simp only [List.getElem_toArray, List.getElem_cons_zero, List.getElem_cons_succ, Act.put, List.setIfInBounds_toArray, List.set_cons_zero, List.set_cons_succ]
                refine wpAnyH_take (i := 7) (v := ?_) rfl (by kernel_rfl) (by kernel_rfl) (by kernel_rfl) (fun _ _ _ h => h) (Or.inl ⟨by rfl, ?_⟩) hHeld ?_
                rotate_left
                · intro w hSw; have f0 := (hSw.cell (p := ⟨b1, o1 + i * 2, none⟩) ha1).trans p1; have f1 := (hSw.cell (p := ⟨b2, o2 + k * 2, none⟩) ha2).trans p2; clear hSw; go_simp; try rfl
                simp only [List.getElem_toArray, List.getElem_cons_zero, List.getElem_cons_succ, Act.put, List.setIfInBounds_toArray, List.set_cons_zero, List.set_cons_succ]
                refine wpAnyH_take (i := 8) (v := ?_) rfl (by kernel_rfl) (by kernel_rfl) (by kernel_rfl) (fun _ _ _ h => h) (Or.inl ⟨by rfl, ?_⟩) hHeld ?_
                rotate_left
                · intro w hSw; have f0 := (hSw.cell (p := ⟨b1, o1 + i * 2, none⟩) ha1).trans p1; have f1 := (hSw.cell (p := ⟨b2, o2 + k * 2, none⟩) ha2).trans p2; clear hSw; go_simp; try rfl
                simp only [List.getElem_toArray, List.getElem_cons_zero, List.getElem_cons_succ, Act.put, List.setIfInBounds_toArray, List.set_cons_zero, List.set_cons_succ]
                refine wpAnyH_take (i := 9) (v := ?_) rfl (by kernel_rfl) (by kernel_rfl) (by kernel_rfl) (fun _ _ _ h => h) (Or.inl ⟨by rfl, ?_⟩) hHeld ?_
                rotate_left
                · intro w hSw; have f0 := (hSw.cell (p := ⟨b1, o1 + i * 2, none⟩) ha1).trans p1; have f1 := (hSw.cell (p := ⟨b2, o2 + k * 2, none⟩) ha2).trans p2; clear hSw; go_simp; try rfl
                simp only [List.getElem_toArray, List.getElem_cons_zero, List.getElem_cons_succ, Act.put, List.setIfInBounds_toArray, List.set_cons_zero, List.set_cons_succ]
                refine wpAnyH_take (i := 10) (v := ?_) rfl (by kernel_rfl) (by kernel_rfl) (by kernel_rfl) (fun _ _ _ h => h) (Or.inl ⟨by rfl, ?_⟩) hHeld ?_
                rotate_left
                · intro w hSw; have f0 := (hSw.cell (p := ⟨b1, o1 + i * 2, none⟩) ha1).trans p1; have f1 := (hSw.cell (p := ⟨b2, o2 + k * 2, none⟩) ha2).trans p2; clear hSw; go_simp; try rfl
                simp only [List.getElem_toArray, List.getElem_cons_zero, List.getElem_cons_succ, Act.put, List.setIfInBounds_toArray, List.set_cons_zero, List.set_cons_succ]
                refine wpAnyH_take (i := 11) (v := ?_) rfl (by kernel_rfl) (by kernel_rfl) (by kernel_rfl) (fun _ _ _ h => h) (Or.inl ⟨by rfl, ?_⟩) hHeld ?_
                rotate_left
                · intro w hSw; have f0 := (hSw.cell (p := ⟨b1, o1 + i * 2, none⟩) ha1).trans p1; have f1 := (hSw.cell (p := ⟨b2, o2 + k * 2, none⟩) ha2).trans p2; clear hSw; go_simp; try rfl
                simp only [List.getElem_toArray, List.getElem_cons_zero, List.getElem_cons_succ, Act.put, List.setIfInBounds_toArray, List.set_cons_zero, List.set_cons_succ]
                refine wpAnyH_take (i := 12) (v := ?_) rfl (by kernel_rfl) (by kernel_rfl) (by kernel_rfl) (fun _ _ _ h => h) (Or.inl ⟨by rfl, ?_⟩) hHeld ?_
                rotate_left
                · intro w hSw; have f0 := (hSw.cell (p := ⟨b1, o1 + i * 2, none⟩) ha1).trans p1; have f1 := (hSw.cell (p := ⟨b2, o2 + k * 2, none⟩) ha2).trans p2; clear hSw; go_simp; try rfl
                simp only [List.getElem_toArray, List.getElem_cons_zero, List.getElem_cons_succ, Act.put, List.setIfInBounds_toArray, List.set_cons_zero, List.set_cons_succ]
                refine wpAnyH_take (i := 13) (v := ?_) rfl (by kernel_rfl) (by kernel_rfl) (by kernel_rfl) (fun _ _ _ h => h) (Or.inl ⟨by rfl, ?_⟩) hHeld ?_
                rotate_left
                · intro w hSw; have f0 := (hSw.cell (p := ⟨b1, o1 + i * 2, none⟩) ha1).trans p1; have f1 := (hSw.cell (p := ⟨b2, o2 + k * 2, none⟩) ha2).trans p2; clear hSw; go_simp; try rfl
                simp only [List.getElem_toArray, List.getElem_cons_zero, List.getElem_cons_succ, Act.put, List.setIfInBounds_toArray, List.set_cons_zero, List.set_cons_succ]
                refine wpAnyH_take (i := 14) (v := ?_) rfl (by kernel_rfl) (by kernel_rfl) (by kernel_rfl) (fun _ _ _ h => h) (Or.inl ⟨by rfl, ?_⟩) hHeld ?_
                rotate_left
                · intro w hSw; have f0 := (hSw.cell (p := ⟨b1, o1 + i * 2, none⟩) ha1).trans p1; have f1 := (hSw.cell (p := ⟨b2, o2 + k * 2, none⟩) ha2).trans p2; clear hSw; go_simp; try rfl
                simp only [List.getElem_toArray, List.getElem_cons_zero, List.getElem_cons_succ, Act.put, List.setIfInBounds_toArray, List.set_cons_zero, List.set_cons_succ]
                refine wpAnyH_take (i := 15) (v := ?_) rfl (by kernel_rfl) (by kernel_rfl) (by kernel_rfl) (fun _ _ _ h => h) (Or.inl ⟨by rfl, ?_⟩) hHeld ?_
                rotate_left
                · intro w hSw; have f0 := (hSw.cell (p := ⟨b1, o1 + i * 2, none⟩) ha1).trans p1; have f1 := (hSw.cell (p := ⟨b2, o2 + k * 2, none⟩) ha2).trans p2; clear hSw; go_simp; try rfl
                simp only [List.getElem_toArray, List.getElem_cons_zero, List.getElem_cons_succ, Act.put, List.setIfInBounds_toArray, List.set_cons_zero, List.set_cons_succ]
                refine wpAnyH_take (i := 16) (v := ?_) rfl (by kernel_rfl) (by kernel_rfl) (by kernel_rfl) (fun _ _ _ h => h) (Or.inl ⟨by rfl, ?_⟩) hHeld ?_
                rotate_left
                · intro w hSw; have f0 := (hSw.cell (p := ⟨b1, o1 + i * 2, none⟩) ha1).trans p1; have f1 := (hSw.cell (p := ⟨b2, o2 + k * 2, none⟩) ha2).trans p2; clear hSw; go_simp; try rfl
                simp only [List.getElem_toArray, List.getElem_cons_zero, List.getElem_cons_succ, Act.put, List.setIfInBounds_toArray, List.set_cons_zero, List.set_cons_succ]
                refine wpAnyH_done (by kernel_rfl) ?_ _
                go_wp2_with fail
                refine wp_region_held_drew (S := fun W => Below w.heap.size w W) (by kernel_rfl) hb.drew.drew.drew (fun hHeld => ?_)
                refine wpAnyH_take (i := 0) (v := ?_) rfl (by kernel_rfl) (by kernel_rfl) (by kernel_rfl) (fun _ _ _ h => h) (Or.inl ⟨by rfl, ?_⟩) hHeld ?_
                rotate_left
                · intro w hSw; have f1 := (hSw.cell (p := ⟨b2, o2 + k * 2, none⟩) ha2).trans p2; have f3 := (hSw.cell (p := ⟨b2, o2 + k * 2 + 1, none⟩) ha2).trans q2; clear hSw; go_simp; try rfl
                simp only [List.getElem_toArray, List.getElem_cons_zero, Act.put, List.setIfInBounds_toArray, List.set_cons_zero, List.set_cons_succ]
                refine wpAnyH_take (i := 1) (v := ?_) rfl (by kernel_rfl) (by kernel_rfl) (by kernel_rfl) (fun _ _ _ h => h) (Or.inl ⟨by rfl, ?_⟩) hHeld ?_
                rotate_left
                · intro w hSw; have f1 := (hSw.cell (p := ⟨b2, o2 + k * 2, none⟩) ha2).trans p2; have f3 := (hSw.cell (p := ⟨b2, o2 + k * 2 + 1, none⟩) ha2).trans q2; clear hSw; go_simp; try rfl
                simp only [List.getElem_toArray, List.getElem_cons_zero, List.getElem_cons_succ, Act.put, List.setIfInBounds_toArray, List.set_cons_zero, List.set_cons_succ]
                refine wpAnyH_take (i := 2) (v := ?_) rfl (by kernel_rfl) (by kernel_rfl) (by kernel_rfl) (fun _ _ _ h => h) (Or.inl ⟨by rfl, ?_⟩) hHeld ?_
                rotate_left
                · intro w hSw; have f1 := (hSw.cell (p := ⟨b2, o2 + k * 2, none⟩) ha2).trans p2; have f3 := (hSw.cell (p := ⟨b2, o2 + k * 2 + 1, none⟩) ha2).trans q2; clear hSw; go_simp; try rfl
                simp only [List.getElem_toArray, List.getElem_cons_zero, List.getElem_cons_succ, Act.put, List.setIfInBounds_toArray, List.set_cons_zero, List.set_cons_succ]
                refine wpAnyH_take (i := 3) (v := ?_) rfl (by kernel_rfl) (by kernel_rfl) (by kernel_rfl) (fun _ _ _ h => h) (Or.inl ⟨by rfl, ?_⟩) hHeld ?_
                rotate_left
                · intro w hSw; have f1 := (hSw.cell (p := ⟨b2, o2 + k * 2, none⟩) ha2).trans p2; have f3 := (hSw.cell (p := ⟨b2, o2 + k * 2 + 1, none⟩) ha2).trans q2; clear hSw; go_simp; try rfl
                simp only [List.getElem_toArray, List.getElem_cons_zero, List.getElem_cons_succ, Act.put, List.setIfInBounds_toArray, List.set_cons_zero, List.set_cons_succ]
                refine wpAnyH_take (i := 4) (v := ?_) rfl (by kernel_rfl) (by kernel_rfl) (by kernel_rfl) (fun _ _ _ h => h) (Or.inl ⟨by rfl, ?_⟩) hHeld ?_
                rotate_left
                · intro w hSw; have f1 := (hSw.cell (p := ⟨b2, o2 + k * 2, none⟩) ha2).trans p2; have f3 := (hSw.cell (p := ⟨b2, o2 + k * 2 + 1, none⟩) ha2).trans q2; clear hSw; go_simp; try rfl
                simp only [List.getElem_toArray, List.getElem_cons_zero, List.getElem_cons_succ, Act.put, List.setIfInBounds_toArray, List.set_cons_zero, List.set_cons_succ]
                refine wpAnyH_take (i := 5) (v := ?_) rfl (by kernel_rfl) (by kernel_rfl) (by kernel_rfl) (fun _ _ _ h => h) (Or.inl ⟨by rfl, ?_⟩) hHeld ?_
                rotate_left
                · intro w hSw; have f1 := (hSw.cell (p := ⟨b2, o2 + k * 2, none⟩) ha2).trans p2; have f3 := (hSw.cell (p := ⟨b2, o2 + k * 2 + 1, none⟩) ha2).trans q2; clear hSw; go_simp; try rfl
                simp only [List.getElem_toArray, List.getElem_cons_zero, List.getElem_cons_succ, Act.put, List.setIfInBounds_toArray, List.set_cons_zero, List.set_cons_succ]
                refine wpAnyH_take (i := 6) (v := ?_) rfl (by kernel_rfl) (by kernel_rfl) (by kernel_rfl) (fun _ _ _ h => h) (Or.inl ⟨by rfl, ?_⟩) hHeld ?_
                rotate_left
                · intro w hSw; have f1 := (hSw.cell (p := ⟨b2, o2 + k * 2, none⟩) ha2).trans p2; have f3 := (hSw.cell (p := ⟨b2, o2 + k * 2 + 1, none⟩) ha2).trans q2; clear hSw; go_simp; try rfl
                simp only [List.getElem_toArray, List.getElem_cons_zero, List.getElem_cons_succ, Act.put, List.setIfInBounds_toArray, List.set_cons_zero, List.set_cons_succ]
                refine wpAnyH_take (i := 7) (v := ?_) rfl (by kernel_rfl) (by kernel_rfl) (by kernel_rfl) (fun _ _ _ h => h) (Or.inl ⟨by rfl, ?_⟩) hHeld ?_
                rotate_left
                · intro w hSw; have f1 := (hSw.cell (p := ⟨b2, o2 + k * 2, none⟩) ha2).trans p2; have f3 := (hSw.cell (p := ⟨b2, o2 + k * 2 + 1, none⟩) ha2).trans q2; clear hSw; go_simp; try rfl
                simp only [List.getElem_toArray, List.getElem_cons_zero, List.getElem_cons_succ, Act.put, List.setIfInBounds_toArray, List.set_cons_zero, List.set_cons_succ]
                refine wpAnyH_take (i := 8) (v := ?_) rfl (by kernel_rfl) (by kernel_rfl) (by kernel_rfl) (fun _ _ _ h => h) (Or.inl ⟨by rfl, ?_⟩) hHeld ?_
                rotate_left
                · intro w hSw; have f1 := (hSw.cell (p := ⟨b2, o2 + k * 2, none⟩) ha2).trans p2; have f3 := (hSw.cell (p := ⟨b2, o2 + k * 2 + 1, none⟩) ha2).trans q2; clear hSw; go_simp; try rfl
                simp only [List.getElem_toArray, List.getElem_cons_zero, List.getElem_cons_succ, Act.put, List.setIfInBounds_toArray, List.set_cons_zero, List.set_cons_succ]
                refine wpAnyH_take (i := 9) (v := ?_) rfl (by kernel_rfl) (by kernel_rfl) (by kernel_rfl) (fun _ _ _ h => h) (Or.inl ⟨by rfl, ?_⟩) hHeld ?_
                rotate_left
                · intro w hSw; have f1 := (hSw.cell (p := ⟨b2, o2 + k * 2, none⟩) ha2).trans p2; have f3 := (hSw.cell (p := ⟨b2, o2 + k * 2 + 1, none⟩) ha2).trans q2; clear hSw; go_simp; try rfl
                simp only [List.getElem_toArray, List.getElem_cons_zero, List.getElem_cons_succ, Act.put, List.setIfInBounds_toArray, List.set_cons_zero, List.set_cons_succ]
                refine wpAnyH_take (i := 10) (v := ?_) rfl (by kernel_rfl) (by kernel_rfl) (by kernel_rfl) (fun _ _ _ h => h) (Or.inl ⟨by rfl, ?_⟩) hHeld ?_
                rotate_left
                · intro w hSw; have f1 := (hSw.cell (p := ⟨b2, o2 + k * 2, none⟩) ha2).trans p2; have f3 := (hSw.cell (p := ⟨b2, o2 + k * 2 + 1, none⟩) ha2).trans q2; clear hSw; go_simp; try rfl
                simp only [List.getElem_toArray, List.getElem_cons_zero, List.getElem_cons_succ, Act.put, List.setIfInBounds_toArray, List.set_cons_zero, List.set_cons_succ]
                refine wpAnyH_ready (rs := [11]) (by kernel_rfl) (by simp) ?_
                refine AllReadyH.cons rfl (fun K hK => ?_) AllReadyH.nil
                rw [if_pos (by rfl)]
                go_simp
                refine (HCOPY.out _ hHeld).mono ?_
                rintro e w2 ⟨v2, rfl, ho2, hb2⟩
                obtain ⟨A2, c2, rfl, hB2⟩ := ho2.form
                rw [hm2] at ho2 hB2 ⊢
                have hd2 : OC w2 w.heap.size _ acc := (ho.drew.drew).drew.below hb2 (Nat.le_refl _)
                have hh2 : Below w.heap.size w w2 := hHeld.trans (hb2.mono hHeld.size)
                have hE2 : eltO w2 w.heap.size _ [str kb, .slice A2 m2 c2, .bool false] (bt.laid ⟨kb, vb⟩) := OC.elt_new (ho.drew.drew).drew A2 c2 hm2 ho2 hHeld.size (Nat.le_refl _)
                refine hK.out _ _ hh2 (fun hHeld => ?_)
                clear hK K
                refine wpAnyH_take (i := 12) (v := ?_) rfl (by kernel_rfl) (by kernel_rfl) (by kernel_rfl) (fun _ _ _ h => h) (Or.inl ⟨by rfl, ?_⟩) hHeld ?_
                rotate_left
                · intro w hSw; clear hSw; go_simp; try rfl
                simp only [List.getElem_toArray, List.getElem_cons_zero, List.getElem_cons_succ, Act.put, List.setIfInBounds_toArray, List.set_cons_zero, List.set_cons_succ]
                refine wpAnyH_ready (rs := [13]) (by kernel_rfl) (by simp) ?_
                refine AllReadyH.cons rfl (fun K hK => ?_) AllReadyH.nil
                rw [if_pos (by rfl)]
                refine op_bsc (.tmp 90) (str kb) (.slice A2 m2 c2) (.bool false) rfl rfl ?_
                simp only [List.getElem_toArray, List.getElem_cons_zero, List.getElem_cons_succ, Act.put, List.setIfInBounds_toArray, List.set_cons_zero, List.set_cons_succ]
                have hSB := hh2.alloc hh2.size (.cells #[str kb, .slice A2 m2 c2, .bool false] 39)
                have hoB := hd2.alloc (.cells #[str kb, .slice A2 m2 c2, .bool false] 39)
                have hEB := OC.elt_keep hE2 (fun k hk => Below.heap_alloc w2 (.cells #[str kb, .slice A2 m2 c2, .bool false] 39) k hk)
                have hnB : (w2.alloc (.cells #[str kb, .slice A2 m2 c2, .bool false] 39)).heap[w2.heap.size]? = some (.cells #[str kb, .slice A2 m2 c2, .bool false] 39 (0, 0)) := heap_alloc_new w2 _
                refine hK.out _ _ hSB (fun hHeld => ?_)
                clear hK K
                refine wpAnyH_ready (rs := [14]) (by kernel_rfl) (by simp) ?_
                refine AllReadyH.cons rfl (fun K hK => ?_) AllReadyH.nil
                refine step_apo (.tmp 78) (.tmp 91) hoB hSB.size hnB hEB (by omega) rfl rfl rfl rfl ?_
                intro g3 cap3 w3 ho3 hg3 hat3 hlt3
                simp only [List.getElem_toArray, List.getElem_cons_zero, List.getElem_cons_succ, Act.put, List.setIfInBounds_toArray, List.set_cons_zero, List.set_cons_succ]
                have hb3 := hSB.grown hg3 hSB.size (fun k hk => (hoB.lt k hk).1)
                refine hK.out _ _ hb3 (fun hHeld => ?_)
                clear hK K
                refine wpAnyH_take (i := 15) (v := ?_) rfl (by kernel_rfl) (by kernel_rfl) (by kernel_rfl) (fun _ _ _ h => h) (Or.inl ⟨by rfl, ?_⟩) hHeld ?_
                rotate_left
                · intro w hSw; clear hSw; go_simp; try rfl
                simp only [List.getElem_toArray, List.getElem_cons_zero, List.getElem_cons_succ, Act.put, List.setIfInBounds_toArray, List.set_cons_zero, List.set_cons_succ]
                refine wpAnyH_done (by kernel_rfl) ?_ _
                go_wp2_with fail
                go_roundw
                case rel => exact ⟨i, k + 1, (acc ++ [bt.laid ⟨kb, vb⟩]), by go_num, by go_num, by omega, by omega, by first | omega | (simp; omega), HN, ho3, hb3⟩
                case measure => simp [intOf]; omega
              | false =>
                have hb9 : Op.bytesLess kb ka = false := hl2
                have hke : (ka == kb) = true := by
                  rcases bt.less_total ka kb with h | h | h
                  · rw [hl1] at h; cases h
                  · exact beq_iff_eq.2 h
                  · rw [hl2] at h; cases h
                rw [if_neg (by rw [hl2]; decide)] at hN
                have HSAME := Lib.hid (fun W (hS : Below w.heap.size w W) => same_any X1 X2 m1 c1 m2 c2 va vb W (g1.below hS) (g2.below hS))
                by_cases hv : va = vb
                · rw [if_pos hv] at hN
                  rw [decide_eq_true hv] at HSAME
                  have HN := Lib.hid (HP.out.trans (congrArg (acc ++ ·) hN))
                  clear hN HP hsm2 hl1 hl2 hv
                  go_wp2_with fail
                  refine wp_region_held_drew (S := fun W => Below w.heap.size w W) (by kernel_rfl) hb.drew (fun hHeld => ?_)
                  refine wpAnyH_take (i := 0) (v := ?_) rfl (by kernel_rfl) (by kernel_rfl) (by kernel_rfl) (fun _ _ _ h => h) (Or.inl ⟨by rfl, ?_⟩) hHeld ?_
                  rotate_left
                  · intro w hSw; have f0 := (hSw.cell (p := ⟨b1, o1 + i * 2, none⟩) ha1).trans p1; have f1 := (hSw.cell (p := ⟨b2, o2 + k * 2, none⟩) ha2).trans p2; clear hSw; go_simp; try rfl
                  simp only [List.getElem_toArray, List.getElem_cons_zero, Act.put, List.setIfInBounds_toArray, List.set_cons_zero, List.set_cons_succ]
                  refine wpAnyH_take (i := 1) (v := ?_) rfl (by kernel_rfl) (by kernel_rfl) (by kernel_rfl) (fun _ _ _ h => h) (Or.inl ⟨by rfl, ?_⟩) hHeld ?_
                  rotate_left
                  · intro w hSw; have f0 := (hSw.cell (p := ⟨b1, o1 + i * 2, none⟩) ha1).trans p1; have f1 := (hSw.cell (p := ⟨b2, o2 + k * 2, none⟩) ha2).trans p2; clear hSw; go_simp; try rfl
                  simp only [List.getElem_toArray, List.getElem_cons_zero, List.getElem_cons_succ, Act.put, List.setIfInBounds_toArray, List.set_cons_zero, List.set_cons_succ]
                  refine wpAnyH_take (i := 2) (v := ?_) rfl (by kernel_rfl) (by kernel_rfl) (by kernel_rfl) (fun _ _ _ h => h) (Or.inl ⟨by rfl, ?_⟩) hHeld ?_
                  rotate_left
                  · intro w hSw; have f0 := (hSw.cell (p := ⟨b1, o1 + i * 2, none⟩) ha1).trans p1; have f1 := (hSw.cell (p := ⟨b2, o2 + k * 2, none⟩) ha2).trans p2; clear hSw; go_simp; try rfl
                  simp only [List.getElem_toArray, List.getElem_cons_zero, List.getElem_cons_succ, Act.put, List.setIfInBounds_toArray, List.set_cons_zero, List.set_cons_succ]
                  refine wpAnyH_take (i := 3) (v := ?_) rfl (by kernel_rfl) (by kernel_rfl) (by kernel_rfl) (fun _ _ _ h => h) (Or.inl ⟨by rfl, ?_⟩) hHeld ?_
                  rotate_left
                  · intro w hSw; have f0 := (hSw.cell (p := ⟨b1, o1 + i * 2, none⟩) ha1).trans p1; have f1 := (hSw.cell (p := ⟨b2, o2 + k * 2, none⟩) ha2).trans p2; clear hSw; go_simp; try rfl
                  simp only [List.getElem_toArray, List.getElem_cons_zero, List.getElem_cons_succ, Act.put, List.setIfInBounds_toArray, List.set_cons_zero, List.set_cons_succ]
                  refine wpAnyH_take (i := 4) (v := ?_) rfl (by kernel_rfl) (by kernel_rfl) (by kernel_rfl) (fun _ _ _ h => h) (Or.inl ⟨by rfl, ?_⟩) hHeld ?_
                  rotate_left
                  · intro w hSw; have f0 := (hSw.cell (p := ⟨b1, o1 + i * 2, none⟩) ha1).trans p1; have f1 := (hSw.cell (p := ⟨b2, o2 + k * 2, none⟩) ha2).trans p2; clear hSw; go_simp; try rfl
                  simp only [List.getElem_toArray, List.getElem_cons_zero, List.getElem_cons_succ, Act.put, List.setIfInBounds_toArray, List.set_cons_zero, List.set_cons_succ]
                  refine wpAnyH_take (i := 5) (v := ?_) rfl (by kernel_rfl) (by kernel_rfl) (by kernel_rfl) (fun _ _ _ h => h) (Or.inl ⟨by rfl, ?_⟩) hHeld ?_
                  rotate_left
                  · intro w hSw; have f0 := (hSw.cell (p := ⟨b1, o1 + i * 2, none⟩) ha1).trans p1; have f1 := (hSw.cell (p := ⟨b2, o2 + k * 2, none⟩) ha2).trans p2; clear hSw; go_simp; try rfl
                  simp only [List.getElem_toArray, List.getElem_cons_zero, List.getElem_cons_succ, Act.put, List.setIfInBounds_toArray, List.set_cons_zero, List.set_cons_succ]
                  refine wpAnyH_take (i := 6) (v := ?_) rfl (by kernel_rfl) (by kernel_rfl) (by kernel_rfl) (fun _ _ _ h => h) (Or.inl ⟨by rfl, ?_⟩) hHeld ?_
                  rotate_left
                  · intro w hSw; have f0 := (hSw.cell (p := ⟨b1, o1 + i * 2, none⟩) ha1).trans p1; have f1 := (hSw.cell (p := ⟨b2, o2 + k * 2, none⟩) ha2).trans p2; clear hSw; go_simp; try rfl
                  simp only [List.getElem_toArray, List.getElem_cons_zero, List.getElem_cons_succ, Act.put, List.setIfInBounds_toArray, List.set_cons_zero, List.set_cons_succ]
                  refine wpAnyH_take (i := 7) (v := ?_) rfl (by kernel_rfl) (by kernel_rfl) (by kernel_rfl) (fun _ _ _ h => h) (Or.inl ⟨by rfl, ?_⟩) hHeld ?_
                  rotate_left
                  · intro w hSw; have f0 := (hSw.cell (p := ⟨b1, o1 + i * 2, none⟩) ha1).trans p1; have f1 := (hSw.cell (p := ⟨b2, o2 + k * 2, none⟩) ha2).trans p2; clear hSw; go_simp; try rfl
                  simp only [List.getElem_toArray, List.getElem_cons_zero, List.getElem_cons_succ, Act.put, List.setIfInBounds_toArray, List.set_cons_zero, List.set_cons_succ]
                  refine wpAnyH_take (i := 8) (v := ?_) rfl (by kernel_rfl) (by kernel_rfl) (by kernel_rfl) (fun _ _ _ h => h) (Or.inl ⟨by rfl, ?_⟩) hHeld ?_
                  rotate_left
                  · intro w hSw; have f0 := (hSw.cell (p := ⟨b1, o1 + i * 2, none⟩) ha1).trans p1; have f1 := (hSw.cell (p := ⟨b2, o2 + k * 2, none⟩) ha2).trans p2; clear hSw; go_simp; try rfl
                  simp only [List.getElem_toArray, List.getElem_cons_zero, List.getElem_cons_succ, Act.put, List.setIfInBounds_toArray, List.set_cons_zero, List.set_cons_succ]
                  refine wpAnyH_take (i := 9) (v := ?_) rfl (by kernel_rfl) (by kernel_rfl) (by kernel_rfl) (fun _ _ _ h => h) (Or.inl ⟨by rfl, ?_⟩) hHeld ?_
                  rotate_left
                  · intro w hSw; have f0 := (hSw.cell (p := ⟨b1, o1 + i * 2, none⟩) ha1).trans p1; have f1 := (hSw.cell (p := ⟨b2, o2 + k * 2, none⟩) ha2).trans p2; clear hSw; go_simp; try rfl
                  simp only [List.getElem_toArray, List.getElem_cons_zero, List.getElem_cons_succ, Act.put, List.setIfInBounds_toArray, List.set_cons_zero, List.set_cons_succ]
                  refine wpAnyH_take (i := 10) (v := ?_) rfl (by kernel_rfl) (by kernel_rfl) (by kernel_rfl) (fun _ _ _ h => h) (Or.inl ⟨by rfl, ?_⟩) hHeld ?_
                  rotate_left
                  · intro w hSw; have f0 := (hSw.cell (p := ⟨b1, o1 + i * 2, none⟩) ha1).trans p1; have f1 := (hSw.cell (p := ⟨b2, o2 + k * 2, none⟩) ha2).trans p2; clear hSw; go_simp; try rfl
                  simp only [List.getElem_toArray, List.getElem_cons_zero, List.getElem_cons_succ, Act.put, List.setIfInBounds_toArray, List.set_cons_zero, List.set_cons_succ]
                  refine wpAnyH_take (i := 11) (v := ?_) rfl (by kernel_rfl) (by kernel_rfl) (by kernel_rfl) (fun _ _ _ h => h) (Or.inl ⟨by rfl, ?_⟩) hHeld ?_
                  rotate_left
                  · intro w hSw; have f0 := (hSw.cell (p := ⟨b1, o1 + i * 2, none⟩) ha1).trans p1; have f1 := (hSw.cell (p := ⟨b2, o2 + k * 2, none⟩) ha2).trans p2; clear hSw; go_simp; try rfl
                  simp only [List.getElem_toArray, List.getElem_cons_zero, List.getElem_cons_succ, Act.put, List.setIfInBounds_toArray, List.set_cons_zero, List.set_cons_succ]
                  refine wpAnyH_take (i := 12) (v := ?_) rfl (by kernel_rfl) (by kernel_rfl) (by kernel_rfl) (fun _ _ _ h => h) (Or.inl ⟨by rfl, ?_⟩) hHeld ?_
                  rotate_left
                  · intro w hSw; have f0 := (hSw.cell (p := ⟨b1, o1 + i * 2, none⟩) ha1).trans p1; have f1 := (hSw.cell (p := ⟨b2, o2 + k * 2, none⟩) ha2).trans p2; clear hSw; go_simp; try rfl
                  simp only [List.getElem_toArray, List.getElem_cons_zero, List.getElem_cons_succ, Act.put, List.setIfInBounds_toArray, List.set_cons_zero, List.set_cons_succ]
                  refine wpAnyH_take (i := 13) (v := ?_) rfl (by kernel_rfl) (by kernel_rfl) (by kernel_rfl) (fun _ _ _ h => h) (Or.inl ⟨by rfl, ?_⟩) hHeld ?_
                  rotate_left
                  · intro w hSw; have f0 := (hSw.cell (p := ⟨b1, o1 + i * 2, none⟩) ha1).trans p1; have f1 := (hSw.cell (p := ⟨b2, o2 + k * 2, none⟩) ha2).trans p2; clear hSw; go_simp; try rfl
                  simp only [List.getElem_toArray, List.getElem_cons_zero, List.getElem_cons_succ, Act.put, List.setIfInBounds_toArray, List.set_cons_zero, List.set_cons_succ]
                  refine wpAnyH_take (i := 14) (v := ?_) rfl (by kernel_rfl) (by kernel_rfl) (by kernel_rfl) (fun _ _ _ h => h) (Or.inl ⟨by rfl, ?_⟩) hHeld ?_
                  rotate_left
                  · intro w hSw; have f0 := (hSw.cell (p := ⟨b1, o1 + i * 2, none⟩) ha1).trans p1; have f1 := (hSw.cell (p := ⟨b2, o2 + k * 2, none⟩) ha2).trans p2; clear hSw; go_simp; try rfl
                  simp only [List.getElem_toArray, List.getElem_cons_zero, List.getElem_cons_succ, Act.put, List.setIfInBounds_toArray, List.set_cons_zero, List.set_cons_succ]
                  refine wpAnyH_take (i := 15) (v := ?_) rfl (by kernel_rfl) (by kernel_rfl) (by kernel_rfl) (fun _ _ _ h => h) (Or.inl ⟨by rfl, ?_⟩) hHeld ?_
                  rotate_left
                  · intro w hSw; have f0 := (hSw.cell (p := ⟨b1, o1 + i * 2, none⟩) ha1).trans p1; have f1 := (hSw.cell (p := ⟨b2, o2 + k * 2, none⟩) ha2).trans p2; clear hSw; go_simp; try rfl
                  simp only [List.getElem_toArray, List.getElem_cons_zero, List.getElem_cons_succ, Act.put, List.setIfInBounds_toArray, List.set_cons_zero, List.set_cons_succ]
                  refine wpAnyH_take (i := 16) (v := ?_) rfl (by kernel_rfl) (by kernel_rfl) (by kernel_rfl) (fun _ _ _ h => h) (Or.inl ⟨by rfl, ?_⟩) hHeld ?_
                  rotate_left
                  · intro w hSw; have f0 := (hSw.cell (p := ⟨b1, o1 + i * 2, none⟩) ha1).trans p1; have f1 := (hSw.cell (p := ⟨b2, o2 + k * 2, none⟩) ha2).trans p2; clear hSw; go_simp; try rfl
                  simp only [List.getElem_toArray, List.getElem_cons_zero, List.getElem_cons_succ, Act.put, List.setIfInBounds_toArray, List.set_cons_zero, List.set_cons_succ]
                  refine wpAnyH_take (i := 17) (v := ?_) rfl (by kernel_rfl) (by kernel_rfl) (by kernel_rfl) (fun _ _ _ h => h) (Or.inl ⟨by rfl, ?_⟩) hHeld ?_
                  rotate_left
                  · intro w hSw; have f0 := (hSw.cell (p := ⟨b1, o1 + i * 2, none⟩) ha1).trans p1; have f1 := (hSw.cell (p := ⟨b2, o2 + k * 2, none⟩) ha2).trans p2; clear hSw; go_simp; try rfl
                  simp only [List.getElem_toArray, List.getElem_cons_zero, List.getElem_cons_succ, Act.put, List.setIfInBounds_toArray, List.set_cons_zero, List.set_cons_succ]
                  refine wpAnyH_take (i := 18) (v := ?_) rfl (by kernel_rfl) (by kernel_rfl) (by kernel_rfl) (fun _ _ _ h => h) (Or.inl ⟨by rfl, ?_⟩) hHeld ?_
                  rotate_left
                  · intro w hSw; have f0 := (hSw.cell (p := ⟨b1, o1 + i * 2, none⟩) ha1).trans p1; have f1 := (hSw.cell (p := ⟨b2, o2 + k * 2, none⟩) ha2).trans p2; clear hSw; go_simp; try rfl
                  simp only [List.getElem_toArray, List.getElem_cons_zero, List.getElem_cons_succ, Act.put, List.setIfInBounds_toArray, List.set_cons_zero, List.set_cons_succ]
                  refine wpAnyH_take (i := 19) (v := ?_) rfl (by kernel_rfl) (by kernel_rfl) (by kernel_rfl) (fun _ _ _ h => h) (Or.inl ⟨by rfl, ?_⟩) hHeld ?_
                  rotate_left
                  · intro w hSw; have f0 := (hSw.cell (p := ⟨b1, o1 + i * 2, none⟩) ha1).trans p1; have f1 := (hSw.cell (p := ⟨b2, o2 + k * 2, none⟩) ha2).trans p2; clear hSw; go_simp; try rfl
                  simp only [List.getElem_toArray, List.getElem_cons_zero, List.getElem_cons_succ, Act.put, List.setIfInBounds_toArray, List.set_cons_zero, List.set_cons_succ]
                  refine wpAnyH_take (i := 20) (v := ?_) rfl (by kernel_rfl) (by kernel_rfl) (by kernel_rfl) (fun _ _ _ h => h) (Or.inl ⟨by rfl, ?_⟩) hHeld ?_
                  rotate_left
                  · intro w hSw; have f0 := (hSw.cell (p := ⟨b1, o1 + i * 2, none⟩) ha1).trans p1; have f1 := (hSw.cell (p := ⟨b2, o2 + k * 2, none⟩) ha2).trans p2; clear hSw; go_simp; try rfl
                  simp only [List.getElem_toArray, List.getElem_cons_zero, List.getElem_cons_succ, Act.put, List.setIfInBounds_toArray, List.set_cons_zero, List.set_cons_succ]
                  refine wpAnyH_take (i := 21) (v := ?_) rfl (by kernel_rfl) (by kernel_rfl) (by kernel_rfl) (fun _ _ _ h => h) (Or.inl ⟨by rfl, ?_⟩) hHeld ?_
                  rotate_left
                  · intro w hSw; have f0 := (hSw.cell (p := ⟨b1, o1 + i * 2, none⟩) ha1).trans p1; have f1 := (hSw.cell (p := ⟨b2, o2 + k * 2, none⟩) ha2).trans p2; clear hSw; go_simp; try rfl
                  simp only [List.getElem_toArray, List.getElem_cons_zero, List.getElem_cons_succ, Act.put, List.setIfInBounds_toArray, List.set_cons_zero, List.set_cons_succ]
                  refine wpAnyH_take (i := 22) (v := ?_) rfl (by kernel_rfl) (by kernel_rfl) (by kernel_rfl) (fun _ _ _ h => h) (Or.inl ⟨by rfl, ?_⟩) hHeld ?_
                  rotate_left
                  · intro w hSw; have f0 := (hSw.cell (p := ⟨b1, o1 + i * 2, none⟩) ha1).trans p1; have f1 := (hSw.cell (p := ⟨b2, o2 + k * 2, none⟩) ha2).trans p2; clear hSw; go_simp; try rfl
                  simp only [List.getElem_toArray, List.getElem_cons_zero, List.getElem_cons_succ, Act.put, List.setIfInBounds_toArray, List.set_cons_zero, List.set_cons_succ]
                  refine wpAnyH_done (by kernel_rfl) ?_ _
                  go_wp2_with fail
                  refine wp_region_held_drew (S := fun W => Below w.heap.size w W) (by kernel_rfl) hb.drew.drew (fun hHeld => ?_)
                  refine wpAnyH_take (i := 0) (v := ?_) rfl (by kernel_rfl) (by kernel_rfl) (by kernel_rfl) (fun _ _ _ h => h) (Or.inl ⟨by rfl, ?_⟩) hHeld ?_
                  rotate_left
                  · intro w hSw; have f0 := (hSw.cell (p := ⟨b1, o1 + i * 2, none⟩) ha1).trans p1; have f1 := (hSw.cell (p := ⟨b2, o2 + k * 2, none⟩) ha2).trans p2; clear hSw; go_simp; try rfl
                  simp only [List.getElem_toArray, List.getElem_cons_zero, Act.put, List.setIfInBounds_toArray, List.set_cons_zero, List.set_cons_succ]
                  refine wpAnyH_take (i := 1) (v := ?_) rfl (by kernel_rfl) (by kernel_rfl) (by kernel_rfl) (fun _ _ _ h => h) (Or.inl ⟨by rfl, ?_⟩) hHeld ?_
                  rotate_left
                  · intro w hSw; have f0 := (hSw.cell (p := ⟨b1, o1 + i * 2, none⟩) ha1).trans p1; have f1 := (hSw.cell (p := ⟨b2, o2 + k * 2, none⟩) ha2).trans p2; clear hSw; go_simp; try rfl
                  simp only [List.getElem_toArray, List.getElem_cons_zero, List.getElem_cons_succ, Act.put, List.setIfInBounds_toArray, List.set_cons_zero, List.set_cons_succ]
                  refine wpAnyH_take (i := 2) (v := ?_) rfl (by kernel_rfl) (by kernel_rfl) (by kernel_rfl) (fun _ _ _ h => h) (Or.inl ⟨by rfl, ?_⟩) hHeld ?_
                  rotate_left
                  · intro w hSw; have f0 := (hSw.cell (p := ⟨b1, o1 + i * 2, none⟩) ha1).trans p1; have f1 := (hSw.cell (p := ⟨b2, o2 + k * 2, none⟩) ha2).trans p2; clear hSw; go_simp; try rfl
                  simp only [List.getElem_toArray, List.getElem_cons_zero, List.getElem_cons_succ, Act.put, List.setIfInBounds_toArray, List.set_cons_zero, List.set_cons_succ]
                  refine wpAnyH_take (i := 3) (v := ?_) rfl (by kernel_rfl) (by kernel_rfl) (by kernel_rfl) (fun _ _ _ h => h) (Or.inl ⟨by rfl, ?_⟩) hHeld ?_
                  rotate_left
                  · intro w hSw; have f0 := (hSw.cell (p := ⟨b1, o1 + i * 2, none⟩) ha1).trans p1; have f1 := (hSw.cell (p := ⟨b2, o2 + k * 2, none⟩) ha2).trans p2; clear hSw; go_simp; try rfl
                  simp only [List.getElem_toArray, List.getElem_cons_zero, List.getElem_cons_succ, Act.put, List.setIfInBounds_toArray, List.set_cons_zero, List.set_cons_succ]
                  refine wpAnyH_take (i := 4) (v := ?_) rfl (by kernel_rfl) (by kernel_rfl) (by kernel_rfl) (fun _ _ _ h => h) (Or.inl ⟨by rfl, ?_⟩) hHeld ?_
                  rotate_left
                  · intro w hSw; have f0 := (hSw.cell (p := ⟨b1, o1 + i * 2, none⟩) ha1).trans p1; have f1 := (hSw.cell (p := ⟨b2, o2 + k * 2, none⟩) ha2).trans p2; clear hSw; go_simp; try rfl
                  simp only [List.getElem_toArray, List.getElem_cons_zero, List.getElem_cons_succ, Act.put, List.setIfInBounds_toArray, List.set_cons_zero, List.set_cons_succ]
                  refine wpAnyH_take (i := 5) (v := ?_) rfl (by kernel_rfl) (by kernel_rfl) (by kernel_rfl) (fun _ _ _ h => h) (Or.inl ⟨by rfl, ?_⟩) hHeld ?_
                  rotate_left
                  · intro w hSw; have f0 := (hSw.cell (p := ⟨b1, o1 + i * 2, none⟩) ha1).trans p1; have f1 := (hSw.cell (p := ⟨b2, o2 + k * 2, none⟩) ha2).trans p2; clear hSw; go_simp; try rfl
                  simp only [List.getElem_toArray, List.getElem_cons_zero, List.getElem_cons_succ, Act.put, List.setIfInBounds_toArray, List.set_cons_zero, List.set_cons_succ]
                  refine wpAnyH_take (i := 6) (v := ?_) rfl (by kernel_rfl) (by kernel_rfl) (by kernel_rfl) (fun _ _ _ h => h) (Or.inl ⟨by rfl, ?_⟩) hHeld ?_
                  rotate_left
                  · intro w hSw; have f0 := (hSw.cell (p := ⟨b1, o1 + i * 2, none⟩) ha1).trans p1; have f1 := (hSw.cell (p := ⟨b2, o2 + k * 2, none⟩) ha2).trans p2; clear hSw; go_simp; try rfl
                  simp only [List.getElem_toArray, List.getElem_cons_zero, List.getElem_cons_succ, Act.put, List.setIfInBounds_toArray, List.set_cons_zero, List.set_cons_succ]
                  refine wpAnyH_take (i := 7) (v := ?_) rfl (by kernel_rfl) (by kernel_rfl) (by kernel_rfl) (fun _ _ _ h => h) (Or.inl ⟨by rfl, ?_⟩) hHeld ?_
                  rotate_left
                  · intro w hSw; have f0 := (hSw.cell (p := ⟨b1, o1 + i * 2, none⟩) ha1).trans p1; have f1 := (hSw.cell (p := ⟨b2, o2 + k * 2, none⟩) ha2).trans p2; clear hSw; go_simp; try rfl
                  simp only [List.getElem_toArray, List.getElem_cons_zero, List.getElem_cons_succ, Act.put, List.setIfInBounds_toArray, List.set_cons_zero, List.set_cons_succ]
                  refine wpAnyH_take (i := 8) (v := ?_) rfl (by kernel_rfl) (by kernel_rfl) (by kernel_rfl) (fun _ _ _ h => h) (Or.inl ⟨by rfl, ?_⟩) hHeld ?_
                  rotate_left
                  · intro w hSw; have f0 := (hSw.cell (p := ⟨b1, o1 + i * 2, none⟩) ha1).trans p1; have f1 := (hSw.cell (p := ⟨b2, o2 + k * 2, none⟩) ha2).trans p2; clear hSw; go_simp; try rfl
                  simp only [List.getElem_toArray, List.getElem_cons_zero, List.getElem_cons_succ, Act.put, List.setIfInBounds_toArray, List.set_cons_zero, List.set_cons_succ]
                  refine wpAnyH_take (i := 9) (v := ?_) rfl (by kernel_rfl) (by kernel_rfl) (by kernel_rfl) (fun _ _ _ h => h) (Or.inl ⟨by rfl, ?_⟩) hHeld ?_
                  rotate_left
                  · intro w hSw; have f0 := (hSw.cell (p := ⟨b1, o1 + i * 2, none⟩) ha1).trans p1; have f1 := (hSw.cell (p := ⟨b2, o2 + k * 2, none⟩) ha2).trans p2; clear hSw; go_simp; try rfl
                  simp only [List.getElem_toArray, List.getElem_cons_zero, List.getElem_cons_succ, Act.put, List.setIfInBounds_toArray, List.set_cons_zero, List.set_cons_succ]
                  refine wpAnyH_take (i := 10) (v := ?_) rfl (by kernel_rfl) (by kernel_rfl) (by kernel_rfl) (fun _ _ _ h => h) (Or.inl ⟨by rfl, ?_⟩) hHeld ?_
                  rotate_left
                  · intro w hSw; have f0 := (hSw.cell (p := ⟨b1, o1 + i * 2, none⟩) ha1).trans p1; have f1 := (hSw.cell (p := ⟨b2, o2 + k * 2, none⟩) ha2).trans p2; clear hSw; go_simp; try rfl
                  simp only [List.getElem_toArray, List.getElem_cons_zero, List.getElem_cons_succ, Act.put, List.setIfInBounds_toArray, List.set_cons_zero, List.set_cons_succ]
                  refine wpAnyH_take (i := 11) (v := ?_) rfl (by kernel_rfl) (by kernel_rfl) (by kernel_rfl) (fun _ _ _ h => h) (Or.inl ⟨by rfl, ?_⟩) hHeld ?_
                  rotate_left
                  · intro w hSw; have f0 := (hSw.cell (p := ⟨b1, o1 + i * 2, none⟩) ha1).trans p1; have f1 := (hSw.cell (p := ⟨b2, o2 + k * 2, none⟩) ha2).trans p2; clear hSw; go_simp; try rfl
                  simp only [List.getElem_toArray, List.getElem_cons_zero, List.getElem_cons_succ, Act.put, List.setIfInBounds_toArray, List.set_cons_zero, List.set_cons_succ]
                  refine wpAnyH_take (i := 12) (v := ?_) rfl (by kernel_rfl) (by kernel_rfl) (by kernel_rfl) (fun _ _ _ h => h) (Or.inl ⟨by rfl, ?_⟩) hHeld ?_
                  rotate_left
                  · intro w hSw; have f0 := (hSw.cell (p := ⟨b1, o1 + i * 2, none⟩) ha1).trans p1; have f1 := (hSw.cell (p := ⟨b2, o2 + k * 2, none⟩) ha2).trans p2; clear hSw; go_simp; try rfl
                  simp only [List.getElem_toArray, List.getElem_cons_zero, List.getElem_cons_succ, Act.put, List.setIfInBounds_toArray, List.set_cons_zero, List.set_cons_succ]
                  refine wpAnyH_take (i := 13) (v := ?_) rfl (by kernel_rfl) (by kernel_rfl) (by kernel_rfl) (fun _ _ _ h => h) (Or.inl ⟨by rfl, ?_⟩) hHeld ?_
                  rotate_left
                  · intro w hSw; have f0 := (hSw.cell (p := ⟨b1, o1 + i * 2, none⟩) ha1).trans p1; have f1 := (hSw.cell (p := ⟨b2, o2 + k * 2, none⟩) ha2).trans p2; clear hSw; go_simp; try rfl
                  simp only [List.getElem_toArray, List.getElem_cons_zero, List.getElem_cons_succ, Act.put, List.setIfInBounds_toArray, List.set_cons_zero, List.set_cons_succ]
                  refine wpAnyH_take (i := 14) (v := ?_) rfl (by kernel_rfl) (by kernel_rfl) (by kernel_rfl) (fun _ _ _ h => h) (Or.inl ⟨by rfl, ?_⟩) hHeld ?_
                  rotate_left
                  · intro w hSw; have f0 := (hSw.cell (p := ⟨b1, o1 + i * 2, none⟩) ha1).trans p1; have f1 := (hSw.cell (p := ⟨b2, o2 + k * 2, none⟩) ha2).trans p2; clear hSw; go_simp; try rfl
                  simp only [List.getElem_toArray, List.getElem_cons_zero, List.getElem_cons_succ, Act.put, List.setIfInBounds_toArray, List.set_cons_zero, List.set_cons_succ]
                  refine wpAnyH_take (i := 15) (v := ?_) rfl (by kernel_rfl) (by kernel_rfl) (by kernel_rfl) (fun _ _ _ h => h) (Or.inl ⟨by rfl, ?_⟩) hHeld ?_
                  rotate_left
                  · intro w hSw; have f0 := (hSw.cell (p := ⟨b1, o1 + i * 2, none⟩) ha1).trans p1; have f1 := (hSw.cell (p := ⟨b2, o2 + k * 2, none⟩) ha2).trans p2; clear hSw; go_simp; try rfl
                  simp only [List.getElem_toArray, List.getElem_cons_zero, List.getElem_cons_succ, Act.put, List.setIfInBounds_toArray, List.set_cons_zero, List.set_cons_succ]
                  refine wpAnyH_take (i := 16) (v := ?_) rfl (by kernel_rfl) (by kernel_rfl) (by kernel_rfl) (fun _ _ _ h => h) (Or.inl ⟨by rfl, ?_⟩) hHeld ?_
                  rotate_left
                  · intro w hSw; have f0 := (hSw.cell (p := ⟨b1, o1 + i * 2, none⟩) ha1).trans p1; have f1 := (hSw.cell (p := ⟨b2, o2 + k * 2, none⟩) ha2).trans p2; clear hSw; go_simp; try rfl
                  simp only [List.getElem_toArray, List.getElem_cons_zero, List.getElem_cons_succ, Act.put, List.setIfInBounds_toArray, List.set_cons_zero, List.set_cons_succ]
                  refine wpAnyH_done (by kernel_rfl) ?_ _
                  go_wp2_with fail
                  refine wp_region_held_drew (S := fun W => Below w.heap.size w W) (by kernel_rfl) hb.drew.drew.drew (fun hHeld => ?_)
                  refine wpAnyH_take (i := 0) (v := ?_) rfl (by kernel_rfl) (by kernel_rfl) (by kernel_rfl) (fun _ _ _ h => h) (Or.inl ⟨by rfl, ?_⟩) hHeld ?_
                  rotate_left
                  · intro w hSw; have f2 := (hSw.cell (p := ⟨b1, o1 + i * 2 + 1, none⟩) ha1).trans q1; have f3 := (hSw.cell (p := ⟨b2, o2 + k * 2 + 1, none⟩) ha2).trans q2; clear hSw; go_simp; try rfl
                  simp only [List.getElem_toArray, List.getElem_cons_zero, Act.put, List.setIfInBounds_toArray, List.set_cons_zero, List.set_cons_succ]
                  refine wpAnyH_take (i := 1) (v := ?_) rfl (by kernel_rfl) (by kernel_rfl) (by kernel_rfl) (fun _ _ _ h => h) (Or.inl ⟨by rfl, ?_⟩) hHeld ?_
                  rotate_left
                  · intro w hSw; have f2 := (hSw.cell (p := ⟨b1, o1 + i * 2 + 1, none⟩) ha1).trans q1; have f3 := (hSw.cell (p := ⟨b2, o2 + k * 2 + 1, none⟩) ha2).trans q2; clear hSw; go_simp; try rfl
                  simp only [List.getElem_toArray, List.getElem_cons_zero, List.getElem_cons_succ, Act.put, List.setIfInBounds_toArray, List.set_cons_zero, List.set_cons_succ]
                  refine wpAnyH_take (i := 2) (v := ?_) rfl (by kernel_rfl) (by kernel_rfl) (by kernel_rfl) (fun _ _ _ h => h) (Or.inl ⟨by rfl, ?_⟩) hHeld ?_
                  rotate_left
                  · intro w hSw; have f2 := (hSw.cell (p := ⟨b1, o1 + i * 2 + 1, none⟩) ha1).trans q1; have f3 := (hSw.cell (p := ⟨b2, o2 + k * 2 + 1, none⟩) ha2).trans q2; clear hSw; go_simp; try rfl
                  simp only [List.getElem_toArray, List.getElem_cons_zero, List.getElem_cons_succ, Act.put, List.setIfInBounds_toArray, List.set_cons_zero, List.set_cons_succ]
                  refine wpAnyH_take (i := 3) (v := ?_) rfl (by kernel_rfl) (by kernel_rfl) (by kernel_rfl) (fun _ _ _ h => h) (Or.inl ⟨by rfl, ?_⟩) hHeld ?_
                  rotate_left
                  · intro w hSw; have f2 := (hSw.cell (p := ⟨b1, o1 + i * 2 + 1, none⟩) ha1).trans q1; have f3 := (hSw.cell (p := ⟨b2, o2 + k * 2 + 1, none⟩) ha2).trans q2; clear hSw; go_simp; try rfl
                  simp only [List.getElem_toArray, List.getElem_cons_zero, List.getElem_cons_succ, Act.put, List.setIfInBounds_toArray, List.set_cons_zero, List.set_cons_succ]
                  refine wpAnyH_take (i := 4) (v := ?_) rfl (by kernel_rfl) (by kernel_rfl) (by kernel_rfl) (fun _ _ _ h => h) (Or.inl ⟨by rfl, ?_⟩) hHeld ?_
                  rotate_left
                  · intro w hSw; have f2 := (hSw.cell (p := ⟨b1, o1 + i * 2 + 1, none⟩) ha1).trans q1; have f3 := (hSw.cell (p := ⟨b2, o2 + k * 2 + 1, none⟩) ha2).trans q2; clear hSw; go_simp; try rfl
                  simp only [List.getElem_toArray, List.getElem_cons_zero, List.getElem_cons_succ, Act.put, List.setIfInBounds_toArray, List.set_cons_zero, List.set_cons_succ]
                  refine wpAnyH_take (i := 5) (v := ?_) rfl (by kernel_rfl) (by kernel_rfl) (by kernel_rfl) (fun _ _ _ h => h) (Or.inl ⟨by rfl, ?_⟩) hHeld ?_
                  rotate_left
                  · intro w hSw; have f2 := (hSw.cell (p := ⟨b1, o1 + i * 2 + 1, none⟩) ha1).trans q1; have f3 := (hSw.cell (p := ⟨b2, o2 + k * 2 + 1, none⟩) ha2).trans q2; clear hSw; go_simp; try rfl
                  simp only [List.getElem_toArray, List.getElem_cons_zero, List.getElem_cons_succ, Act.put, List.setIfInBounds_toArray, List.set_cons_zero, List.set_cons_succ]
                  refine wpAnyH_take (i := 6) (v := ?_) rfl (by kernel_rfl) (by kernel_rfl) (by kernel_rfl) (fun _ _ _ h => h) (Or.inl ⟨by rfl, ?_⟩) hHeld ?_
                  rotate_left
                  · intro w hSw; have f2 := (hSw.cell (p := ⟨b1, o1 + i * 2 + 1, none⟩) ha1).trans q1; have f3 := (hSw.cell (p := ⟨b2, o2 + k * 2 + 1, none⟩) ha2).trans q2; clear hSw; go_simp; try rfl
                  simp only [List.getElem_toArray, List.getElem_cons_zero, List.getElem_cons_succ, Act.put, List.setIfInBounds_toArray, List.set_cons_zero, List.set_cons_succ]
                  refine wpAnyH_take (i := 7) (v := ?_) rfl (by kernel_rfl) (by kernel_rfl) (by kernel_rfl) (fun _ _ _ h => h) (Or.inl ⟨by rfl, ?_⟩) hHeld ?_
                  rotate_left
                  · intro w hSw; have f2 := (hSw.cell (p := ⟨b1, o1 + i * 2 + 1, none⟩) ha1).trans q1; have f3 := (hSw.cell (p := ⟨b2, o2 + k * 2 + 1, none⟩) ha2).trans q2; clear hSw; go_simp; try rfl
                  simp only [List.getElem_toArray, List.getElem_cons_zero, List.getElem_cons_succ, Act.put, List.setIfInBounds_toArray, List.set_cons_zero, List.set_cons_succ]
                  refine wpAnyH_take (i := 8) (v := ?_) rfl (by kernel_rfl) (by kernel_rfl) (by kernel_rfl) (fun _ _ _ h => h) (Or.inl ⟨by rfl, ?_⟩) hHeld ?_
                  rotate_left
                  · intro w hSw; have f2 := (hSw.cell (p := ⟨b1, o1 + i * 2 + 1, none⟩) ha1).trans q1; have f3 := (hSw.cell (p := ⟨b2, o2 + k * 2 + 1, none⟩) ha2).trans q2; clear hSw; go_simp; try rfl
                  simp only [List.getElem_toArray, List.getElem_cons_zero, List.getElem_cons_succ, Act.put, List.setIfInBounds_toArray, List.set_cons_zero, List.set_cons_succ]
                  refine wpAnyH_take (i := 9) (v := ?_) rfl (by kernel_rfl) (by kernel_rfl) (by kernel_rfl) (fun _ _ _ h => h) (Or.inl ⟨by rfl, ?_⟩) hHeld ?_
                  rotate_left
                  · intro w hSw; have f2 := (hSw.cell (p := ⟨b1, o1 + i * 2 + 1, none⟩) ha1).trans q1; have f3 := (hSw.cell (p := ⟨b2, o2 + k * 2 + 1, none⟩) ha2).trans q2; clear hSw; go_simp; try rfl
                  simp only [List.getElem_toArray, List.getElem_cons_zero, List.getElem_cons_succ, Act.put, List.setIfInBounds_toArray, List.set_cons_zero, List.set_cons_succ]
                  refine wpAnyH_ready (rs := [10]) (by kernel_rfl) (by simp) ?_
                  refine AllReadyH.cons rfl (fun K hK => ?_) AllReadyH.nil
                  rw [if_pos (by rfl)]
                  go_simp
                  refine (HSAME.out _ hHeld).mono ?_
                  rintro e w9 ⟨rfl, rfl⟩
                  refine hK.out _ _ hHeld (fun hHeld => ?_)
                  clear hK K
                  refine wpAnyH_take (i := 11) (v := ?_) rfl (by kernel_rfl) (by kernel_rfl) (by kernel_rfl) (fun _ _ _ h => h) (Or.inl ⟨by rfl, ?_⟩) hHeld ?_
                  rotate_left
                  · intro w hSw; clear hSw; go_simp; try rfl
                  simp only [List.getElem_toArray, List.getElem_cons_zero, List.getElem_cons_succ, Act.put, List.setIfInBounds_toArray, List.set_cons_zero, List.set_cons_succ]
                  refine wpAnyH_done (by kernel_rfl) ?_ _
                  go_wp2_with fail
                  go_roundw
                  case rel => exact ⟨i + 1, k + 1, acc, by go_num, by go_num, by omega, by omega, by first | omega | (simp; omega), HN, ho.drew.drew.drew, hb.drew.drew.drew⟩
                  case measure => simp [intOf]; omega
                · rw [if_neg hv] at hN
                  rw [decide_eq_false hv] at HSAME
                  have HN := Lib.hid (show bt.btw a b 0 0 = (acc ++ [bt.laid ⟨kb, vb⟩]) ++ bt.btw a b (i + 1) (k + 1) by rw [HP.out, hN]; simp)
                  clear hN HP hsm2 hl1 hl2 hv
                  go_wp2_with fail
                  refine wp_region_held_drew (S := fun W => Below w.heap.size w W) (by kernel_rfl) hb.drew (fun hHeld => ?_)
                  refine wpAnyH_take (i := 0) (v := ?_) rfl (by kernel_rfl) (by kernel_rfl) (by kernel_rfl) (fun _ _ _ h => h) (Or.inl ⟨by rfl, ?_⟩) hHeld ?_
                  rotate_left
                  · intro w hSw; have f0 := (hSw.cell (p := ⟨b1, o1 + i * 2, none⟩) ha1).trans p1; have f1 := (hSw.cell (p := ⟨b2, o2 + k * 2, none⟩) ha2).trans p2; clear hSw; go_simp; try rfl
                  simp only [List.getElem_toArray, List.getElem_cons_zero, Act.put, List.setIfInBounds_toArray, List.set_cons_zero, List.set_cons_succ]
                  refine wpAnyH_take (i := 1) (v := ?_) rfl (by kernel_rfl) (by kernel_rfl) (by kernel_rfl) (fun _ _ _ h => h) (Or.inl ⟨by rfl, ?_⟩) hHeld ?_
                  rotate_left
                  · intro w hSw; have f0 := (hSw.cell (p := ⟨b1, o1 + i * 2, none⟩) ha1).trans p1; have f1 := (hSw.cell (p := ⟨b2, o2 + k * 2, none⟩) ha2).trans p2; clear hSw; go_simp; try rfl
                  simp only [List.getElem_toArray, List.getElem_cons_zero, List.getElem_cons_succ, Act.put, List.setIfInBounds_toArray, List.set_cons_zero, List.set_cons_succ]
                  refine wpAnyH_take (i := 2) (v := ?_) rfl (by kernel_rfl) (by kernel_rfl) (by kernel_rfl) (fun _ _ _ h => h) (Or.inl ⟨by rfl, ?_⟩) hHeld ?_
                  rotate_left
                  · intro w hSw; have f0 := (hSw.cell (p := ⟨b1, o1 + i * 2, none⟩) ha1).trans p1; have f1 := (hSw.cell (p := ⟨b2, o2 + k * 2, none⟩) ha2).trans p2; clear hSw; go_simp; try rfl
                  simp only [List.getElem_toArray, List.getElem_cons_zero, List.getElem_cons_succ, Act.put, List.setIfInBounds_toArray, List.set_cons_zero, List.set_cons_succ]
                  refine wpAnyH_take (i := 3) (v := ?_) rfl (by kernel_rfl) (by kernel_rfl) (by kernel_rfl) (fun _ _ _ h => h) (Or.inl ⟨by rfl, ?_⟩) hHeld ?_
                  rotate_left
                  · intro w hSw; have f0 := (hSw.cell (p := ⟨b1, o1 + i * 2, none⟩) ha1).trans p1; have f1 := (hSw.cell (p := ⟨b2, o2 + k * 2, none⟩) ha2).trans p2; clear hSw; go_simp; try rfl
                  simp only [List.getElem_toArray, List.getElem_cons_zero, List.getElem_cons_succ, Act.put, List.setIfInBounds_toArray, List.set_cons_zero, List.set_cons_succ]
                  refine wpAnyH_take (i := 4) (v := ?_) rfl (by kernel_rfl) (by kernel_rfl) (by kernel_rfl) (fun _ _ _ h => h) (Or.inl ⟨by rfl, ?_⟩) hHeld ?_
                  rotate_left
                  · intro w hSw; have f0 := (hSw.cell (p := ⟨b1, o1 + i * 2, none⟩) ha1).trans p1; have f1 := (hSw.cell (p := ⟨b2, o2 + k * 2, none⟩) ha2).trans p2; clear hSw; go_simp; try rfl
                  simp only [List.getElem_toArray, List.getElem_cons_zero, List.getElem_cons_succ, Act.put, List.setIfInBounds_toArray, List.set_cons_zero, List.set_cons_succ]
                  refine wpAnyH_take (i := 5) (v := ?_) rfl (by kernel_rfl) (by kernel_rfl) (by kernel_rfl) (fun _ _ _ h => h) (Or.inl ⟨by rfl, ?_⟩) hHeld ?_
                  rotate_left
                  · intro w hSw; have f0 := (hSw.cell (p := ⟨b1, o1 + i * 2, none⟩) ha1).trans p1; have f1 := (hSw.cell (p := ⟨b2, o2 + k * 2, none⟩) ha2).trans p2; clear hSw; go_simp; try rfl
                  simp only [List.getElem_toArray, List.getElem_cons_zero, List.getElem_cons_succ, Act.put, List.setIfInBounds_toArray, List.set_cons_zero, List.set_cons_succ]
                  refine wpAnyH_take (i := 6) (v := ?_) rfl (by kernel_rfl) (by kernel_rfl) (by kernel_rfl) (fun _ _ _ h => h) (Or.inl ⟨by rfl, ?_⟩) hHeld ?_
                  rotate_left
                  · intro w hSw; have f0 := (hSw.cell (p := ⟨b1, o1 + i * 2, none⟩) ha1).trans p1; have f1 := (hSw.cell (p := ⟨b2, o2 + k * 2, none⟩) ha2).trans p2; clear hSw; go_simp; try rfl
                  simp only [List.getElem_toArray, List.getElem_cons_zero, List.getElem_cons_succ, Act.put, List.setIfInBounds_toArray, List.set_cons_zero, List.set_cons_succ]
                  refine wpAnyH_take (i := 7) (v := ?_) rfl (by kernel_rfl) (by kernel_rfl) (by kernel_rfl) (fun _ _ _ h => h) (Or.inl ⟨by rfl, ?_⟩) hHeld ?_
                  rotate_left
                  · intro w hSw; have f0 := (hSw.cell (p := ⟨b1, o1 + i * 2, none⟩) ha1).trans p1; have f1 := (hSw.cell (p := ⟨b2, o2 + k * 2, none⟩) ha2).trans p2; clear hSw; go_simp; try rfl
                  simp only [List.getElem_toArray, List.getElem_cons_zero, List.getElem_cons_succ, Act.put, List.setIfInBounds_toArray, List.set_cons_zero, List.set_cons_succ]
                  refine wpAnyH_take (i := 8) (v := ?_) rfl (by kernel_rfl) (by kernel_rfl) (by kernel_rfl) (fun _ _ _ h => h) (Or.inl ⟨by rfl, ?_⟩) hHeld ?_
                  rotate_left
                  · intro w hSw; have f0 := (hSw.cell (p := ⟨b1, o1 + i * 2, none⟩) ha1).trans p1; have f1 := (hSw.cell (p := ⟨b2, o2 + k * 2, none⟩) ha2).trans p2; clear hSw; go_simp; try rfl
                  simp only [List.getElem_toArray, List.getElem_cons_zero, List.getElem_cons_succ, Act.put, List.setIfInBounds_toArray, List.set_cons_zero, List.set_cons_succ]
                  refine wpAnyH_take (i := 9) (v := ?_) rfl (by kernel_rfl) (by kernel_rfl) (by kernel_rfl) (fun _ _ _ h => h) (Or.inl ⟨by rfl, ?_⟩) hHeld ?_
                  rotate_left
                  · intro w hSw; have f0 := (hSw.cell (p := ⟨b1, o1 + i * 2, none⟩) ha1).trans p1; have f1 := (hSw.cell (p := ⟨b2, o2 + k * 2, none⟩) ha2).trans p2; clear hSw; go_simp; try rfl
                  simp only [List.getElem_toArray, List.getElem_cons_zero, List.getElem_cons_succ, Act.put, List.setIfInBounds_toArray, List.set_cons_zero, List.set_cons_succ]
                  refine wpAnyH_take (i := 10) (v := ?_) rfl (by kernel_rfl) (by kernel_rfl) (by kernel_rfl) (fun _ _ _ h => h) (Or.inl ⟨by rfl, ?_⟩) hHeld ?_
                  rotate_left
                  · intro w hSw; have f0 := (hSw.cell (p := ⟨b1, o1 + i * 2, none⟩) ha1).trans p1; have f1 := (hSw.cell (p := ⟨b2, o2 + k * 2, none⟩) ha2).trans p2; clear hSw; go_simp; try rfl
                  simp only [List.getElem_toArray, List.getElem_cons_zero, List.getElem_cons_succ, Act.put, List.setIfInBounds_toArray, List.set_cons_zero, List.set_cons_succ]
                  refine wpAnyH_take (i := 11) (v := ?_) rfl (by kernel_rfl) (by kernel_rfl) (by kernel_rfl) (fun _ _ _ h => h) (Or.inl ⟨by rfl, ?_⟩) hHeld ?_
                  rotate_left
                  · intro w hSw; have f0 := (hSw.cell (p := ⟨b1, o1 + i * 2, none⟩) ha1).trans p1; have f1 := (hSw.cell (p := ⟨b2, o2 + k * 2, none⟩) ha2).trans p2; clear hSw; go_simp; try rfl
                  simp only [List.getElem_toArray, List.getElem_cons_zero, List.getElem_cons_succ, Act.put, List.setIfInBounds_toArray, List.set_cons_zero, List.set_cons_succ]
                  refine wpAnyH_take (i := 12) (v := ?_) rfl (by kernel_rfl) (by kernel_rfl) (by kernel_rfl) (fun _ _ _ h => h) (Or.inl ⟨by rfl, ?_⟩) hHeld ?_
                  rotate_left
                  · intro w hSw; have f0 := (hSw.cell (p := ⟨b1, o1 + i * 2, none⟩) ha1).trans p1; have f1 := (hSw.cell (p := ⟨b2, o2 + k * 2, none⟩) ha2).trans p2; clear hSw; go_simp; try rfl
                  simp only [List.getElem_toArray, List.getElem_cons_zero, List.getElem_cons_succ, Act.put, List.setIfInBounds_toArray, List.set_cons_zero, List.set_cons_succ]
                  refine wpAnyH_take (i := 13) (v := ?_) rfl (by kernel_rfl) (by kernel_rfl) (by kernel_rfl) (fun _ _ _ h => h) (Or.inl ⟨by rfl, ?_⟩) hHeld ?_
                  rotate_left
                  · intro w hSw; have f0 := (hSw.cell (p := ⟨b1, o1 + i * 2, none⟩) ha1).trans p1; have f1 := (hSw.cell (p := ⟨b2, o2 + k * 2, none⟩) ha2).trans p2; clear hSw; go_simp; try rfl
                  simp only [List.getElem_toArray, List.getElem_cons_zero, List.getElem_cons_succ, Act.put, List.setIfInBounds_toArray, List.set_cons_zero, List.set_cons_succ]
                  refine wpAnyH_take (i := 14) (v := ?_) rfl (by kernel_rfl) (by kernel_rfl) (by kernel_rfl) (fun _ _ _ h => h) (Or.inl ⟨by rfl, ?_⟩) hHeld ?_
                  rotate_left
                  · intro w hSw; have f0 := (hSw.cell (p := ⟨b1, o1 + i * 2, none⟩) ha1).trans p1; have f1 := (hSw.cell (p := ⟨b2, o2 + k * 2, none⟩) ha2).trans p2; clear hSw; go_simp; try rfl
                  simp only [List.getElem_toArray, List.getElem_cons_zero, List.getElem_cons_succ, Act.put, List.setIfInBounds_toArray, List.set_cons_zero, List.set_cons_succ]
                  refine wpAnyH_take (i := 15) (v := ?_) rfl (by kernel_rfl) (by kernel_rfl) (by kernel_rfl) (fun _ _ _ h => h) (Or.inl ⟨by rfl, ?_⟩) hHeld ?_
                  rotate_left
                  · intro w hSw; have f0 := (hSw.cell (p := ⟨b1, o1 + i * 2, none⟩) ha1).trans p1; have f1 := (hSw.cell (p := ⟨b2, o2 + k * 2, none⟩) ha2).trans p2; clear hSw; go_simp; try rfl
                  simp only [List.getElem_toArray, List.getElem_cons_zero, List.getElem_cons_succ, Act.put, List.setIfInBounds_toArray, List.set_cons_zero, List.set_cons_succ]
                  refine wpAnyH_take (i := 16) (v := ?_) rfl (by kernel_rfl) (by kernel_rfl) (by kernel_rfl) (fun _ _ _ h => h) (Or.inl ⟨by rfl, ?_⟩) hHeld ?_
                  rotate_left
                  · intro w hSw; have f0 := (hSw.cell (p := ⟨b1, o1 + i * 2, none⟩) ha1).trans p1; have f1 := (hSw.cell (p := ⟨b2, o2 + k * 2, none⟩) ha2).trans p2; clear hSw; go_simp; try rfl
                  simp only [List.getElem_toArray, List.getElem_cons_zero, List.getElem_cons_succ, Act.put, List.setIfInBounds_toArray, List.set_cons_zero, List.set_cons_succ]
                  refine wpAnyH_take (i := 17) (v := ?_) rfl (by kernel_rfl) (by kernel_rfl) (by kernel_rfl) (fun _ _ _ h => h) (Or.inl ⟨by rfl, ?_⟩) hHeld ?_
                  rotate_left
                  · intro w hSw; have f0 := (hSw.cell (p := ⟨b1, o1 + i * 2, none⟩) ha1).trans p1; have f1 := (hSw.cell (p := ⟨b2, o2 + k * 2, none⟩) ha2).trans p2; clear hSw; go_simp; try rfl
                  simp only [List.getElem_toArray, List.getElem_cons_zero, List.getElem_cons_succ, Act.put, List.setIfInBounds_toArray, List.set_cons_zero, List.set_cons_succ]
                  refine wpAnyH_take (i := 18) (v := ?_) rfl (by kernel_rfl) (by kernel_rfl) (by kernel_rfl) (fun _ _ _ h => h) (Or.inl ⟨by rfl, ?_⟩) hHeld ?_
                  rotate_left
                  · intro w hSw; have f0 := (hSw.cell (p := ⟨b1, o1 + i * 2, none⟩) ha1).trans p1; have f1 := (hSw.cell (p := ⟨b2, o2 + k * 2, none⟩) ha2).trans p2; clear hSw; go_simp; try rfl
                  simp only [List.getElem_toArray, List.getElem_cons_zero, List.getElem_cons_succ, Act.put, List.setIfInBounds_toArray, List.set_cons_zero, List.set_cons_succ]
                  refine wpAnyH_take (i := 19) (v := ?_) rfl (by kernel_rfl) (by kernel_rfl) (by kernel_rfl) (fun _ _ _ h => h) (Or.inl ⟨by rfl, ?_⟩) hHeld ?_
                  rotate_left
                  · intro w hSw; have f0 := (hSw.cell (p := ⟨b1, o1 + i * 2, none⟩) ha1).trans p1; have f1 := (hSw.cell (p := ⟨b2, o2 + k * 2, none⟩) ha2).trans p2; clear hSw; go_simp; try rfl
                  simp only [List.getElem_toArray, List.getElem_cons_zero, List.getElem_cons_succ, Act.put, List.setIfInBounds_toArray, List.set_cons_zero, List.set_cons_succ]
                  refine wpAnyH_take (i := 20) (v := ?_) rfl (by kernel_rfl) (by kernel_rfl) (by kernel_rfl) (fun _ _ _ h => h) (Or.inl ⟨by rfl, ?_⟩) hHeld ?_
                  rotate_left
                  · intro w hSw; have f0 := (hSw.cell (p := ⟨b1, o1 + i * 2, none⟩) ha1).trans p1; have f1 := (hSw.cell (p := ⟨b2, o2 + k * 2, none⟩) ha2).trans p2; clear hSw; go_simp; try rfl
                  simp only [List.getElem_toArray, List.getElem_cons_zero, List.getElem_cons_succ, Act.put, List.setIfInBounds_toArray, List.set_cons_zero, List.set_cons_succ]
                  refine wpAnyH_take (i := 21) (v := ?_) rfl (by kernel_rfl) (by kernel_rfl) (by kernel_rfl) (fun _ _ _ h => h) (Or.inl ⟨by rfl, ?_⟩) hHeld ?_
                  rotate_left
                  · intro w hSw; have f0 := (hSw.cell (p := ⟨b1, o1 + i * 2, none⟩) ha1).trans p1; have f1 := (hSw.cell (p := ⟨b2, o2 + k * 2, none⟩) ha2).trans p2; clear hSw; go_simp; try rfl
                  simp only [List.getElem_toArray, List.getElem_cons_zero, List.getElem_cons_succ, Act.put, List.setIfInBounds_toArray, List.set_cons_zero, List.set_cons_succ]
                  refine wpAnyH_take (i := 22) (v := ?_) rfl (by kernel_rfl) (by kernel_rfl) (by kernel_rfl) (fun _ _ _ h => h) (Or.inl ⟨by rfl, ?_⟩) hHeld ?_
                  rotate_left
                  · intro w hSw; have f0 := (hSw.cell (p := ⟨b1, o1 + i * 2, none⟩) ha1).trans p1; have f1 := (hSw.cell (p := ⟨b2, o2 + k * 2, none⟩) ha2).trans p2; clear hSw; go_simp; try rfl
                  simp only [List.getElem_toArray, List.getElem_cons_zero, List.getElem_cons_succ, Act.put, List.setIfInBounds_toArray, List.set_cons_zero, List.set_cons_succ]
                  refine wpAnyH_done (by kernel_rfl) ?_ _
                  go_wp2_with fail
                  refine wp_region_held_drew (S := fun W => Below w.heap.size w W) (by kernel_rfl) hb.drew.drew (fun hHeld => ?_)
                  refine wpAnyH_take (i := 0) (v := ?_) rfl (by kernel_rfl) (by kernel_rfl) (by kernel_rfl) (fun _ _ _ h => h) (Or.inl ⟨by rfl, ?_⟩) hHeld ?_
                  rotate_left
                  · intro w hSw; have f0 := (hSw.cell (p := ⟨b1, o1 + i * 2, none⟩) ha1).trans p1; have f1 := (hSw.cell (p := ⟨b2, o2 + k * 2, none⟩) ha2).trans p2; clear hSw; go_simp; try rfl
                  simp only [List.getElem_toArray, List.getElem_cons_zero, Act.put, List.setIfInBounds_toArray, List.set_cons_zero, List.set_cons_succ]
                  refine wpAnyH_take (i := 1) (v := ?_) rfl (by kernel_rfl) (by kernel_rfl) (by kernel_rfl) (fun _ _ _ h => h) (Or.inl ⟨by rfl, ?_⟩) hHeld ?_
                  rotate_left
                  · intro w hSw; have f0 := (hSw.cell (p := ⟨b1, o1 + i * 2, none⟩) ha1).trans p1; have f1 := (hSw.cell (p := ⟨b2, o2 + k * 2, none⟩) ha2).trans p2; clear hSw; go_simp; try rfl
                  simp only [List.getElem_toArray, List.getElem_cons_zero, List.getElem_cons_succ, Act.put, List.setIfInBounds_toArray, List.set_cons_zero, List.set_cons_succ]
                  refine wpAnyH_take (i := 2) (v := ?_) rfl (by kernel_rfl) (by kernel_rfl) (by kernel_rfl) (fun _ _ _ h => h) (Or.inl ⟨by rfl, ?_⟩) hHeld ?_
                  rotate_left
                  · intro w hSw; have f0 := (hSw.cell (p := ⟨b1, o1 + i * 2, none⟩) ha1).trans p1; have f1 := (hSw.cell (p := ⟨b2, o2 + k * 2, none⟩) ha2).trans p2; clear hSw; go_simp; try rfl
                  simp only [List.getElem_toArray, List.getElem_cons_zero, List.getElem_cons_succ, Act.put, List.setIfInBounds_toArray, List.set_cons_zero, List.set_cons_succ]
                  refine wpAnyH_take (i := 3) (v := ?_) rfl (by kernel_rfl) (by kernel_rfl) (by kernel_rfl) (fun _ _ _ h => h) (Or.inl ⟨by rfl, ?_⟩) hHeld ?_
                  rotate_left
                  · intro w hSw; have f0 := (hSw.cell (p := ⟨b1, o1 + i * 2, none⟩) ha1).trans p1; have f1 := (hSw.cell (p := ⟨b2, o2 + k * 2, none⟩) ha2).trans p2; clear hSw; go_simp; try rfl
                  simp only [List.getElem_toArray, List.getElem_cons_zero, List.getElem_cons_succ, Act.put, List.setIfInBounds_toArray, List.set_cons_zero, List.set_cons_succ]
                  refine wpAnyH_take (i := 4) (v := ?_) rfl (by kernel_rfl) (by kernel_rfl) (by kernel_rfl) (fun _ _ _ h => h) (Or.inl ⟨by rfl, ?_⟩) hHeld ?_
                  rotate_left
                  · intro w hSw; have f0 := (hSw.cell (p := ⟨b1, o1 + i * 2, none⟩) ha1).trans p1; have f1 := (hSw.cell (p := ⟨b2, o2 + k * 2, none⟩) ha2).trans p2; clear hSw; go_simp; try rfl
                  simp only [List.getElem_toArray, List.getElem_cons_zero, List.getElem_cons_succ, Act.put, List.setIfInBounds_toArray, List.set_cons_zero, List.set_cons_succ]
                  refine wpAnyH_take (i := 5) (v := ?_) rfl (by kernel_rfl) (by kernel_rfl) (by kernel_rfl) (fun _ _ _ h => h) (Or.inl ⟨by rfl, ?_⟩) hHeld ?_
                  rotate_left
                  · intro w hSw; have f0 := (hSw.cell (p := ⟨b1, o1 + i * 2, none⟩) ha1).trans p1; have f1 := (hSw.cell (p := ⟨b2, o2 + k * 2, none⟩) ha2).trans p2; clear hSw; go_simp; try rfl
                  simp only [List.getElem_toArray, List.getElem_cons_zero, List.getElem_cons_succ, Act.put, List.setIfInBounds_toArray, List.set_cons_zero, List.set_cons_succ]
                  refine wpAnyH_take (i := 6) (v := ?_) rfl (by kernel_rfl) (by kernel_rfl) (by kernel_rfl) (fun _ _ _ h => h) (Or.inl ⟨by rfl, ?_⟩) hHeld ?_
                  rotate_left
                  · intro w hSw; have f0 := (hSw.cell (p := ⟨b1, o1 + i * 2, none⟩) ha1).trans p1; have f1 := (hSw.cell (p := ⟨b2, o2 + k * 2, none⟩) ha2).trans p2; clear hSw; go_simp; try rfl
                  simp only [List.getElem_toArray, List.getElem_cons_zero, List.getElem_cons_succ, Act.put, List.setIfInBounds_toArray, List.set_cons_zero, List.set_cons_succ]
                  refine wpAnyH_take (i := 7) (v := ?_) rfl (by kernel_rfl) (by kernel_rfl) (by kernel_rfl) (fun _ _ _ h => h) (Or.inl ⟨by rfl, ?_⟩) hHeld ?_
                  rotate_left
                  · intro w hSw; have f0 := (hSw.cell (p := ⟨b1, o1 + i * 2, none⟩) ha1).trans p1; have f1 := (hSw.cell (p := ⟨b2, o2 + k * 2, none⟩) ha2).trans p2; clear hSw; go_simp; try rfl
                  simp only [List.getElem_toArray, List.getElem_cons_zero, List.getElem_cons_succ, Act.put, List.setIfInBounds_toArray, List.set_cons_zero, List.set_cons_succ]
                  refine wpAnyH_take (i := 8) (v := ?_) rfl (by kernel_rfl) (by kernel_rfl) (by kernel_rfl) (fun _ _ _ h => h) (Or.inl ⟨by rfl, ?_⟩) hHeld ?_
                  rotate_left
                  · intro w hSw; have f0 := (hSw.cell (p := ⟨b1, o1 + i * 2, none⟩) ha1).trans p1; have f1 := (hSw.cell (p := ⟨b2, o2 + k * 2, none⟩) ha2).trans p2; clear hSw; go_simp; try rfl
                  simp only [List.getElem_toArray, List.getElem_cons_zero, List.getElem_cons_succ, Act.put, List.setIfInBounds_toArray, List.set_cons_zero, List.set_cons_succ]
                  refine wpAnyH_take (i := 9) (v := ?_) rfl (by kernel_rfl) (by kernel_rfl) (by kernel_rfl) (fun _ _ _ h => h) (Or.inl ⟨by rfl, ?_⟩) hHeld ?_
                  rotate_left
                  · intro w hSw; have f0 := (hSw.cell (p := ⟨b1, o1 + i * 2, none⟩) ha1).trans p1; have f1 := (hSw.cell (p := ⟨b2, o2 + k * 2, none⟩) ha2).trans p2; clear hSw; go_simp; try rfl
                  simp only [List.getElem_toArray, List.getElem_cons_zero, List.getElem_cons_succ, Act.put, List.setIfInBounds_toArray, List.set_cons_zero, List.set_cons_succ]
                  refine wpAnyH_take (i := 10) (v := ?_) rfl (by kernel_rfl) (by kernel_rfl) (by kernel_rfl) (fun _ _ _ h => h) (Or.inl ⟨by rfl, ?_⟩) hHeld ?_
                  rotate_left
                  · intro w hSw; have f0 := (hSw.cell (p := ⟨b1, o1 + i * 2, none⟩) ha1).trans p1; have f1 := (hSw.cell (p := ⟨b2, o2 + k * 2, none⟩) ha2).trans p2; clear hSw; go_simp; try rfl
                  simp only [List.getElem_toArray, List.getElem_cons_zero, List.getElem_cons_succ, Act.put, List.setIfInBounds_toArray, List.set_cons_zero, List.set_cons_succ]
                  refine wpAnyH_take (i := 11) (v := ?_) rfl (by kernel_rfl) (by kernel_rfl) (by kernel_rfl) (fun _ _ _ h => h) (Or.inl ⟨by rfl, ?_⟩) hHeld ?_
                  rotate_left
                  · intro w hSw; have f0 := (hSw.cell (p := ⟨b1, o1 + i * 2, none⟩) ha1).trans p1; have f1 := (hSw.cell (p := ⟨b2, o2 + k * 2, none⟩) ha2).trans p2; clear hSw; go_simp; try rfl
                  simp only [List.getElem_toArray, List.getElem_cons_zero, List.getElem_cons_succ, Act.put, List.setIfInBounds_toArray, List.set_cons_zero, List.set_cons_succ]
                  refine wpAnyH_take (i := 12) (v := ?_) rfl (by kernel_rfl) (by kernel_rfl) (by kernel_rfl) (fun _ _ _ h => h) (Or.inl ⟨by rfl, ?_⟩) hHeld ?_
                  rotate_left
                  · intro w hSw; have f0 := (hSw.cell (p := ⟨b1, o1 + i * 2, none⟩) ha1).trans p1; have f1 := (hSw.cell (p := ⟨b2, o2 + k * 2, none⟩) ha2).trans p2; clear hSw; go_simp; try rfl
                  simp only [List.getElem_toArray, List.getElem_cons_zero, List.getElem_cons_succ, Act.put, List.setIfInBounds_toArray, List.set_cons_zero, List.set_cons_succ]
                  refine wpAnyH_take (i := 13) (v := ?_) rfl (by kernel_rfl) (by kernel_rfl) (by kernel_rfl) (fun _ _ _ h => h) (Or.inl ⟨by rfl, ?_⟩) hHeld ?_
                  rotate_left
                  · intro w hSw; have f0 := (hSw.cell (p := ⟨b1, o1 + i * 2, none⟩) ha1).trans p1; have f1 := (hSw.cell (p := ⟨b2, o2 + k * 2, none⟩) ha2).trans p2; clear hSw; go_simp; try rfl
                  simp only [List.getElem_toArray, List.getElem_cons_zero, List.getElem_cons_succ, Act.put, List.setIfInBounds_toArray, List.set_cons_zero, List.set_cons_succ]
                  refine wpAnyH_take (i := 14) (v := ?_) rfl (by kernel_rfl) (by kernel_rfl) (by kernel_rfl) (fun _ _ _ h => h) (Or.inl ⟨by rfl, ?_⟩) hHeld ?_
                  rotate_left
                  · intro w hSw; have f0 := (hSw.cell (p := ⟨b1, o1 + i * 2, none⟩) ha1).trans p1; have f1 := (hSw.cell (p := ⟨b2, o2 + k * 2, none⟩) ha2).trans p2; clear hSw; go_simp; try rfl
                  simp only [List.getElem_toArray, List.getElem_cons_zero, List.getElem_cons_succ, Act.put, List.setIfInBounds_toArray, List.set_cons_zero, List.set_cons_succ]
                  refine wpAnyH_take (i := 15) (v := ?_) rfl (by kernel_rfl) (by kernel_rfl) (by kernel_rfl) (fun _ _ _ h => h) (Or.inl ⟨by rfl, ?_⟩) hHeld ?_
                  rotate_left
                  · intro w hSw; have f0 := (hSw.cell (p := ⟨b1, o1 + i * 2, none⟩) ha1).trans p1; have f1 := (hSw.cell (p := ⟨b2, o2 + k * 2, none⟩) ha2).trans p2; clear hSw; go_simp; try rfl
                  simp only [List.getElem_toArray, List.getElem_cons_zero, List.getElem_cons_succ, Act.put, List.setIfInBounds_toArray, List.set_cons_zero, List.set_cons_succ]
                  refine wpAnyH_take (i := 16) (v := ?_) rfl (by kernel_rfl) (by kernel_rfl) (by kernel_rfl) (fun _ _ _ h => h) (Or.inl ⟨by rfl, ?_⟩) hHeld ?_
                  rotate_left
                  · intro w hSw; have f0 := (hSw.cell (p := ⟨b1, o1 + i * 2, none⟩) ha1).trans p1; have f1 := (hSw.cell (p := ⟨b2, o2 + k * 2, none⟩) ha2).trans p2; clear hSw; go_simp; try rfl
                  simp only [List.getElem_toArray, List.getElem_cons_zero, List.getElem_cons_succ, Act.put, List.setIfInBounds_toArray, List.set_cons_zero, List.set_cons_succ]
                  refine wpAnyH_done (by kernel_rfl) ?_ _
                  go_wp2_with fail
                  refine wp_region_held_drew (S := fun W => Below w.heap.size w W) (by kernel_rfl) hb.drew.drew.drew (fun hHeld => ?_)
                  refine wpAnyH_take (i := 0) (v := ?_) rfl (by kernel_rfl) (by kernel_rfl) (by kernel_rfl) (fun _ _ _ h => h) (Or.inl ⟨by rfl, ?_⟩) hHeld ?_
                  rotate_left
                  · intro w hSw; have f2 := (hSw.cell (p := ⟨b1, o1 + i * 2 + 1, none⟩) ha1).trans q1; have f3 := (hSw.cell (p := ⟨b2, o2 + k * 2 + 1, none⟩) ha2).trans q2; clear hSw; go_simp; try rfl
                  simp only [List.getElem_toArray, List.getElem_cons_zero, Act.put, List.setIfInBounds_toArray, List.set_cons_zero, List.set_cons_succ]
                  refine wpAnyH_take (i := 1) (v := ?_) rfl (by kernel_rfl) (by kernel_rfl) (by kernel_rfl) (fun _ _ _ h => h) (Or.inl ⟨by rfl, ?_⟩) hHeld ?_
                  rotate_left
                  · intro w hSw; have f2 := (hSw.cell (p := ⟨b1, o1 + i * 2 + 1, none⟩) ha1).trans q1; have f3 := (hSw.cell (p := ⟨b2, o2 + k * 2 + 1, none⟩) ha2).trans q2; clear hSw; go_simp; try rfl
                  simp only [List.getElem_toArray, List.getElem_cons_zero, List.getElem_cons_succ, Act.put, List.setIfInBounds_toArray, List.set_cons_zero, List.set_cons_succ]
                  refine wpAnyH_take (i := 2) (v := ?_) rfl (by kernel_rfl) (by kernel_rfl) (by kernel_rfl) (fun _ _ _ h => h) (Or.inl ⟨by rfl, ?_⟩) hHeld ?_
                  rotate_left
                  · intro w hSw; have f2 := (hSw.cell (p := ⟨b1, o1 + i * 2 + 1, none⟩) ha1).trans q1; have f3 := (hSw.cell (p := ⟨b2, o2 + k * 2 + 1, none⟩) ha2).trans q2; clear hSw; go_simp; try rfl
                  simp only [List.getElem_toArray, List.getElem_cons_zero, List.getElem_cons_succ, Act.put, List.setIfInBounds_toArray, List.set_cons_zero, List.set_cons_succ]
                  refine wpAnyH_take (i := 3) (v := ?_) rfl (by kernel_rfl) (by kernel_rfl) (by kernel_rfl) (fun _ _ _ h => h) (Or.inl ⟨by rfl, ?_⟩) hHeld ?_
                  rotate_left
                  · intro w hSw; have f2 := (hSw.cell (p := ⟨b1, o1 + i * 2 + 1, none⟩) ha1).trans q1; have f3 := (hSw.cell (p := ⟨b2, o2 + k * 2 + 1, none⟩) ha2).trans q2; clear hSw; go_simp; try rfl
                  simp only [List.getElem_toArray, List.getElem_cons_zero, List.getElem_cons_succ, Act.put, List.setIfInBounds_toArray, List.set_cons_zero, List.set_cons_succ]
                  refine wpAnyH_take (i := 4) (v := ?_) rfl (by kernel_rfl) (by kernel_rfl) (by kernel_rfl) (fun _ _ _ h => h) (Or.inl ⟨by rfl, ?_⟩) hHeld ?_
                  rotate_left
                  · intro w hSw; have f2 := (hSw.cell (p := ⟨b1, o1 + i * 2 + 1, none⟩) ha1).trans q1; have f3 := (hSw.cell (p := ⟨b2, o2 + k * 2 + 1, none⟩) ha2).trans q2; clear hSw; go_simp; try rfl
                  simp only [List.getElem_toArray, List.getElem_cons_zero, List.getElem_cons_succ, Act.put, List.setIfInBounds_toArray, List.set_cons_zero, List.set_cons_succ]
                  refine wpAnyH_take (i := 5) (v := ?_) rfl (by kernel_rfl) (by kernel_rfl) (by kernel_rfl) (fun _ _ _ h => h) (Or.inl ⟨by rfl, ?_⟩) hHeld ?_
                  rotate_left
                  · intro w hSw; have f2 := (hSw.cell (p := ⟨b1, o1 + i * 2 + 1, none⟩) ha1).trans q1; have f3 := (hSw.cell (p := ⟨b2, o2 + k * 2 + 1, none⟩) ha2).trans q2; clear hSw; go_simp; try rfl
                  simp only [List.getElem_toArray, List.getElem_cons_zero, List.getElem_cons_succ, Act.put, List.setIfInBounds_toArray, List.set_cons_zero, List.set_cons_succ]
                  refine wpAnyH_take (i := 6) (v := ?_) rfl (by kernel_rfl) (by kernel_rfl) (by kernel_rfl) (fun _ _ _ h => h) (Or.inl ⟨by rfl, ?_⟩) hHeld ?_
                  rotate_left
                  · intro w hSw; have f2 := (hSw.cell (p := ⟨b1, o1 + i * 2 + 1, none⟩) ha1).trans q1; have f3 := (hSw.cell (p := ⟨b2, o2 + k * 2 + 1, none⟩) ha2).trans q2; clear hSw; go_simp; try rfl
                  simp only [List.getElem_toArray, List.getElem_cons_zero, List.getElem_cons_succ, Act.put, List.setIfInBounds_toArray, List.set_cons_zero, List.set_cons_succ]
                  refine wpAnyH_take (i := 7) (v := ?_) rfl (by kernel_rfl) (by kernel_rfl) (by kernel_rfl) (fun _ _ _ h => h) (Or.inl ⟨by rfl, ?_⟩) hHeld ?_
                  rotate_left
                  · intro w hSw; have f2 := (hSw.cell (p := ⟨b1, o1 + i * 2 + 1, none⟩) ha1).trans q1; have f3 := (hSw.cell (p := ⟨b2, o2 + k * 2 + 1, none⟩) ha2).trans q2; clear hSw; go_simp; try rfl
                  simp only [List.getElem_toArray, List.getElem_cons_zero, List.getElem_cons_succ, Act.put, List.setIfInBounds_toArray, List.set_cons_zero, List.set_cons_succ]
                  refine wpAnyH_take (i := 8) (v := ?_) rfl (by kernel_rfl) (by kernel_rfl) (by kernel_rfl) (fun _ _ _ h => h) (Or.inl ⟨by rfl, ?_⟩) hHeld ?_
                  rotate_left
                  · intro w hSw; have f2 := (hSw.cell (p := ⟨b1, o1 + i * 2 + 1, none⟩) ha1).trans q1; have f3 := (hSw.cell (p := ⟨b2, o2 + k * 2 + 1, none⟩) ha2).trans q2; clear hSw; go_simp; try rfl
                  simp only [List.getElem_toArray, List.getElem_cons_zero, List.getElem_cons_succ, Act.put, List.setIfInBounds_toArray, List.set_cons_zero, List.set_cons_succ]
                  refine wpAnyH_take (i := 9) (v := ?_) rfl (by kernel_rfl) (by kernel_rfl) (by kernel_rfl) (fun _ _ _ h => h) (Or.inl ⟨by rfl, ?_⟩) hHeld ?_
                  rotate_left
                  · intro w hSw; have f2 := (hSw.cell (p := ⟨b1, o1 + i * 2 + 1, none⟩) ha1).trans q1; have f3 := (hSw.cell (p := ⟨b2, o2 + k * 2 + 1, none⟩) ha2).trans q2; clear hSw; go_simp; try rfl
                  simp only [List.getElem_toArray, List.getElem_cons_zero, List.getElem_cons_succ, Act.put, List.setIfInBounds_toArray, List.set_cons_zero, List.set_cons_succ]
                  refine wpAnyH_ready (rs := [10]) (by kernel_rfl) (by simp) ?_
                  refine AllReadyH.cons rfl (fun K hK => ?_) AllReadyH.nil
                  rw [if_pos (by rfl)]
                  go_simp
                  refine (HSAME.out _ hHeld).mono ?_
                  rintro e w9 ⟨rfl, rfl⟩
                  refine hK.out _ _ hHeld (fun hHeld => ?_)
                  clear hK K
                  refine wpAnyH_take (i := 11) (v := ?_) rfl (by kernel_rfl) (by kernel_rfl) (by kernel_rfl) (fun _ _ _ h => h) (Or.inl ⟨by rfl, ?_⟩) hHeld ?_
                  rotate_left
                  · intro w hSw; clear hSw; go_simp; try rfl
                  simp only [List.getElem_toArray, List.getElem_cons_zero, List.getElem_cons_succ, Act.put, List.setIfInBounds_toArray, List.set_cons_zero, List.set_cons_succ]
                  refine wpAnyH_done (by kernel_rfl) ?_ _
                  go_wp2_with fail
                  refine wp_region_held_drew (S := fun W => Below w.heap.size w W) (by kernel_rfl) hb.drew.drew.drew.drew (fun hHeld => ?_)
                  refine wpAnyH_take (i := 0) (v := ?_) rfl (by kernel_rfl) (by kernel_rfl) (by kernel_rfl) (fun _ _ _ h => h) (Or.inl ⟨by rfl, ?_⟩) hHeld ?_
                  rotate_left
                  · intro w hSw; have f1 := (hSw.cell (p := ⟨b2, o2 + k * 2, none⟩) ha2).trans p2; have f3 := (hSw.cell (p := ⟨b2, o2 + k * 2 + 1, none⟩) ha2).trans q2; clear hSw; go_simp; try rfl
                  simp only [List.getElem_toArray, List.getElem_cons_zero, Act.put, List.setIfInBounds_toArray, List.set_cons_zero, List.set_cons_succ]
                  refine wpAnyH_take (i := 1) (v := ?_) rfl (by kernel_rfl) (by kernel_rfl) (by kernel_rfl) (fun _ _ _ h => h) (Or.inl ⟨by rfl, ?_⟩) hHeld ?_
                  rotate_left
                  · intro w hSw; have f1 := (hSw.cell (p := ⟨b2, o2 + k * 2, none⟩) ha2).trans p2; have f3 := (hSw.cell (p := ⟨b2, o2 + k * 2 + 1, none⟩) ha2).trans q2; clear hSw; go_simp; try rfl
                  simp only [List.getElem_toArray, List.getElem_cons_zero, List.getElem_cons_succ, Act.put, List.setIfInBounds_toArray, List.set_cons_zero, List.set_cons_succ]
                  refine wpAnyH_take (i := 2) (v := ?_) rfl (by kernel_rfl) (by kernel_rfl) (by kernel_rfl) (fun _ _ _ h => h) (Or.inl ⟨by rfl, ?_⟩) hHeld ?_
                  rotate_left
                  · intro w hSw; have f1 := (hSw.cell (p := ⟨b2, o2 + k * 2, none⟩) ha2).trans p2; have f3 := (hSw.cell (p := ⟨b2, o2 + k * 2 + 1, none⟩) ha2).trans q2; clear hSw; go_simp; try rfl
                  simp only [List.getElem_toArray, List.getElem_cons_zero, List.getElem_cons_succ, Act.put, List.setIfInBounds_toArray, List.set_cons_zero, List.set_cons_succ]
                  refine wpAnyH_take (i := 3) (v := ?_) rfl (by kernel_rfl) (by kernel_rfl) (by kernel_rfl) (fun _ _ _ h => h) (Or.inl ⟨by rfl, ?_⟩) hHeld ?_
                  rotate_left
                  · intro w hSw; have f1 := (hSw.cell (p := ⟨b2, o2 + k * 2, none⟩) ha2).trans p2; have f3 := (hSw.cell (p := ⟨b2, o2 + k * 2 + 1, none⟩) ha2).trans q2; clear hSw; go_simp; try rfl
                  simp only [List.getElem_toArray, List.getElem_cons_zero, List.getElem_cons_succ, Act.put, List.setIfInBounds_toArray, List.set_cons_zero, List.set_cons_succ]
                  refine wpAnyH_take (i := 4) (v := ?_) rfl (by kernel_rfl) (by kernel_rfl) (by kernel_rfl) (fun _ _ _ h => h) (Or.inl ⟨by rfl, ?_⟩) hHeld ?_
                  rotate_left
                  · intro w hSw; have f1 := (hSw.cell (p := ⟨b2, o2 + k * 2, none⟩) ha2).trans p2; have f3 := (hSw.cell (p := ⟨b2, o2 + k * 2 + 1, none⟩) ha2).trans q2; clear hSw; go_simp; try rfl
                  simp only [List.getElem_toArray, List.getElem_cons_zero, List.getElem_cons_succ, Act.put, List.setIfInBounds_toArray, List.set_cons_zero, List.set_cons_succ]
                  refine wpAnyH_take (i := 5) (v := ?_) rfl (by kernel_rfl) (by kernel_rfl) (by kernel_rfl) (fun _ _ _ h => h) (Or.inl ⟨by rfl, ?_⟩) hHeld ?_
                  rotate_left
                  · intro w hSw; have f1 := (hSw.cell (p := ⟨b2, o2 + k * 2, none⟩) ha2).trans p2; have f3 := (hSw.cell (p := ⟨b2, o2 + k * 2 + 1, none⟩) ha2).trans q2; clear hSw; go_simp; try rfl
                  simp only [List.getElem_toArray, List.getElem_cons_zero, List.getElem_cons_succ, Act.put, List.setIfInBounds_toArray, List.set_cons_zero, List.set_cons_succ]
                  refine wpAnyH_take (i := 6) (v := ?_) rfl (by kernel_rfl) (by kernel_rfl) (by kernel_rfl) (fun _ _ _ h => h) (Or.inl ⟨by rfl, ?_⟩) hHeld ?_
                  rotate_left
                  · intro w hSw; have f1 := (hSw.cell (p := ⟨b2, o2 + k * 2, none⟩) ha2).trans p2; have f3 := (hSw.cell (p := ⟨b2, o2 + k * 2 + 1, none⟩) ha2).trans q2; clear hSw; go_simp; try rfl
                  simp only [List.getElem_toArray, List.getElem_cons_zero, List.getElem_cons_succ, Act.put, List.setIfInBounds_toArray, List.set_cons_zero, List.set_cons_succ]
                  refine wpAnyH_take (i := 7) (v := ?_) rfl (by kernel_rfl) (by kernel_rfl) (by kernel_rfl) (fun _ _ _ h => h) (Or.inl ⟨by rfl, ?_⟩) hHeld ?_
                  rotate_left
                  · intro w hSw; have f1 := (hSw.cell (p := ⟨b2, o2 + k * 2, none⟩) ha2).trans p2; have f3 := (hSw.cell (p := ⟨b2, o2 + k * 2 + 1, none⟩) ha2).trans q2; clear hSw; go_simp; try rfl
                  simp only [List.getElem_toArray, List.getElem_cons_zero, List.getElem_cons_succ, Act.put, List.setIfInBounds_toArray, List.set_cons_zero, List.set_cons_succ]
                  refine wpAnyH_take (i := 8) (v := ?_) rfl (by kernel_rfl) (by kernel_rfl) (by kernel_rfl) (fun _ _ _ h => h) (Or.inl ⟨by rfl, ?_⟩) hHeld ?_
                  rotate_left
                  · intro w hSw; have f1 := (hSw.cell (p := ⟨b2, o2 + k * 2, none⟩) ha2).trans p2; have f3 := (hSw.cell (p := ⟨b2, o2 + k * 2 + 1, none⟩) ha2).trans q2; clear hSw; go_simp; try rfl
                  simp only [List.getElem_toArray, List.getElem_cons_zero, List.getElem_cons_succ, Act.put, List.setIfInBounds_toArray, List.set_cons_zero, List.set_cons_succ]
                  refine wpAnyH_take (i := 9) (v := ?_) rfl (by kernel_rfl) (by kernel_rfl) (by kernel_rfl) (fun _ _ _ h => h) (Or.inl ⟨by rfl, ?_⟩) hHeld ?_
                  rotate_left
                  · intro w hSw; have f1 := (hSw.cell (p := ⟨b2, o2 + k * 2, none⟩) ha2).trans p2; have f3 := (hSw.cell (p := ⟨b2, o2 + k * 2 + 1, none⟩) ha2).trans q2; clear hSw; go_simp; try rfl
                  simp only [List.getElem_toArray, List.getElem_cons_zero, List.getElem_cons_succ, Act.put, List.setIfInBounds_toArray, List.set_cons_zero, List.set_cons_succ]
                  refine wpAnyH_take (i := 10) (v := ?_) rfl (by kernel_rfl) (by kernel_rfl) (by kernel_rfl) (fun _ _ _ h => h) (Or.inl ⟨by rfl, ?_⟩) hHeld ?_
                  rotate_left
                  · intro w hSw; have f1 := (hSw.cell (p := ⟨b2, o2 + k * 2, none⟩) ha2).trans p2; have f3 := (hSw.cell (p := ⟨b2, o2 + k * 2 + 1, none⟩) ha2).trans q2; clear hSw; go_simp; try rfl
                  simp only [List.getElem_toArray, List.getElem_cons_zero, List.getElem_cons_succ, Act.put, List.setIfInBounds_toArray, List.set_cons_zero, List.set_cons_succ]
                  refine wpAnyH_ready (rs := [11]) (by kernel_rfl) (by simp) ?_
                  refine AllReadyH.cons rfl (fun K hK => ?_) AllReadyH.nil
                  rw [if_pos (by rfl)]
                  go_simp
                  refine (HCOPY.out _ hHeld).mono ?_
                  rintro e w2 ⟨v2, rfl, ho2, hb2⟩
                  obtain ⟨A2, c2, rfl, hB2⟩ := ho2.form
                  rw [hm2] at ho2 hB2 ⊢
                  have hd2 : OC w2 w.heap.size _ acc := (ho.drew.drew.drew).drew.below hb2 (Nat.le_refl _)
                  have hh2 : Below w.heap.size w w2 := hHeld.trans (hb2.mono hHeld.size)
                  have hE2 : eltO w2 w.heap.size _ [str kb, .slice A2 m2 c2, .bool false] (bt.laid ⟨kb, vb⟩) := OC.elt_new (ho.drew.drew.drew).drew A2 c2 hm2 ho2 hHeld.size (Nat.le_refl _)
                  refine hK.out _ _ hh2 (fun hHeld => ?_)
                  clear hK K
                  refine wpAnyH_take (i := 12) (v := ?_) rfl (by kernel_rfl) (by kernel_rfl) (by kernel_rfl) (fun _ _ _ h => h) (Or.inl ⟨by rfl, ?_⟩) hHeld ?_
                  rotate_left
                  · intro w hSw; clear hSw; go_simp; try rfl
                  simp only [List.getElem_toArray, List.getElem_cons_zero, List.getElem_cons_succ, Act.put, List.setIfInBounds_toArray, List.set_cons_zero, List.set_cons_succ]
                  refine wpAnyH_ready (rs := [13]) (by kernel_rfl) (by simp) ?_
                  refine AllReadyH.cons rfl (fun K hK => ?_) AllReadyH.nil
                  rw [if_pos (by rfl)]
                  refine op_bsc (.tmp 119) (str kb) (.slice A2 m2 c2) (.bool false) rfl rfl ?_
                  simp only [List.getElem_toArray, List.getElem_cons_zero, List.getElem_cons_succ, Act.put, List.setIfInBounds_toArray, List.set_cons_zero, List.set_cons_succ]
                  have hSB := hh2.alloc hh2.size (.cells #[str kb, .slice A2 m2 c2, .bool false] 39)
                  have hoB := hd2.alloc (.cells #[str kb, .slice A2 m2 c2, .bool false] 39)
                  have hEB := OC.elt_keep hE2 (fun k hk => Below.heap_alloc w2 (.cells #[str kb, .slice A2 m2 c2, .bool false] 39) k hk)
                  have hnB : (w2.alloc (.cells #[str kb, .slice A2 m2 c2, .bool false] 39)).heap[w2.heap.size]? = some (.cells #[str kb, .slice A2 m2 c2, .bool false] 39 (0, 0)) := heap_alloc_new w2 _
                  refine hK.out _ _ hSB (fun hHeld => ?_)
                  clear hK K
                  refine wpAnyH_ready (rs := [14]) (by kernel_rfl) (by simp) ?_
                  refine AllReadyH.cons rfl (fun K hK => ?_) AllReadyH.nil
                  refine step_apo (.tmp 107) (.tmp 120) hoB hSB.size hnB hEB (by omega) rfl rfl rfl rfl ?_
                  intro g3 cap3 w3 ho3 hg3 hat3 hlt3
                  simp only [List.getElem_toArray, List.getElem_cons_zero, List.getElem_cons_succ, Act.put, List.setIfInBounds_toArray, List.set_cons_zero, List.set_cons_succ]
                  have hb3 := hSB.grown hg3 hSB.size (fun k hk => (hoB.lt k hk).1)
                  refine hK.out _ _ hb3 (fun hHeld => ?_)
                  clear hK K
                  refine wpAnyH_take (i := 15) (v := ?_) rfl (by kernel_rfl) (by kernel_rfl) (by kernel_rfl) (fun _ _ _ h => h) (Or.inl ⟨by rfl, ?_⟩) hHeld ?_
                  rotate_left
                  · intro w hSw; clear hSw; go_simp; try rfl
                  simp only [List.getElem_toArray, List.getElem_cons_zero, List.getElem_cons_succ, Act.put, List.setIfInBounds_toArray, List.set_cons_zero, List.set_cons_succ]
                  refine wpAnyH_done (by kernel_rfl) ?_ _
                  go_wp2_with fail
                  go_roundw
                  case rel => exact ⟨i + 1, k + 1, (acc ++ [bt.laid ⟨kb, vb⟩]), by go_num, by go_num, by omega, by omega, by first | omega | (simp; omega), HN, ho3, hb3⟩
                  case measure => simp [intOf]; omega
          · have hN := bt.btw_a (a := a) (b := b) (i := i) (k := k) (by omega) (by omega)
            obtain ⟨b1, o1, rfl, ha1, hr1⟩ := H1.out.has (by omega)
            obtain ⟨p1, X1, c1, q1, g1⟩ := hr1 i (by omega)
            obtain ⟨ra, hra⟩ : ∃ r, a[i]'(by omega) = r := ⟨_, rfl⟩
            rw [hra] at p1 q1 g1 hN
            clear hra hr1
            obtain ⟨ka, va⟩ := ra
            simp only at p1 q1 g1 hN
            obtain ⟨m1, hm1⟩ : ∃ m, va.length = m := ⟨_, rfl⟩
            rw [hm1] at q1 g1
            have di : decide (i < n) = true := decide_eq_true (by omega)
            have ei : ((i : Int) == (n : Int)) = false := by rw [beq_eq_false_iff_ne]; omega
            have dk : decide (k < m) = false := decide_eq_false (by omega)
            have ek : ((k : Int) == (m : Int)) = true := by rw [beq_iff_eq]; omega
            have HN := Lib.hid (show bt.btw a b 0 0 = (acc ++ [bt.gone ⟨ka, va⟩]) ++ bt.btw a b (i + 1) k by rw [HP.out, hN]; simp)
            clear hN HP hsm2
            go_wp2_with fail
            refine wp_region_held_drew (S := fun W => Below w.heap.size w W) (by kernel_rfl) hb.drew (fun hHeld => ?_)
            refine wpAnyH_take (i := 0) (v := ?_) rfl (by kernel_rfl) (by kernel_rfl) (by kernel_rfl) (fun _ _ _ h => h) (Or.inl ⟨by rfl, ?_⟩) hHeld ?_
            rotate_left
            · intro w hSw; clear hSw; go_simp; try rfl
            simp only [List.getElem_toArray, List.getElem_cons_zero, Act.put, List.setIfInBounds_toArray, List.set_cons_zero, List.set_cons_succ]
            refine wpAnyH_take (i := 1) (v := ?_) rfl (by kernel_rfl) (by kernel_rfl) (by kernel_rfl) (fun _ _ _ h => h) (Or.inl ⟨by rfl, ?_⟩) hHeld ?_
            rotate_left
            · intro w hSw; clear hSw; go_simp; try rfl
            simp only [List.getElem_toArray, List.getElem_cons_zero, List.getElem_cons_succ, Act.put, List.setIfInBounds_toArray, List.set_cons_zero, List.set_cons_succ]
            refine wpAnyH_take (i := 2) (v := ?_) rfl (by kernel_rfl) (by kernel_rfl) (by kernel_rfl) (fun _ _ _ h => h) (Or.inl ⟨by rfl, ?_⟩) hHeld ?_
            rotate_left
            · intro w hSw; clear hSw; go_simp; try rfl
            simp only [List.getElem_toArray, List.getElem_cons_zero, List.getElem_cons_succ, Act.put, List.setIfInBounds_toArray, List.set_cons_zero, List.set_cons_succ]
            refine wpAnyH_take (i := 3) (v := ?_) rfl (by kernel_rfl) (by kernel_rfl) (by kernel_rfl) (fun _ _ _ h => h) (Or.inl ⟨by rfl, ?_⟩) hHeld ?_
            rotate_left
            · intro w hSw; clear hSw; go_simp; try rfl
            simp only [List.getElem_toArray, List.getElem_cons_zero, List.getElem_cons_succ, Act.put, List.setIfInBounds_toArray, List.set_cons_zero, List.set_cons_succ]
            refine wpAnyH_take (i := 4) (v := ?_) rfl (by kernel_rfl) (by kernel_rfl) (by kernel_rfl) (fun _ _ _ h => h) (Or.inl ⟨by rfl, ?_⟩) hHeld ?_
            rotate_left
            · intro w hSw; clear hSw; go_simp; try rfl
            simp only [List.getElem_toArray, List.getElem_cons_zero, List.getElem_cons_succ, Act.put, List.setIfInBounds_toArray, List.set_cons_zero, List.set_cons_succ]
            refine wpAnyH_take (i := 5) (v := undef) rfl (by kernel_rfl) (by kernel_rfl) (by kernel_rfl) (fun _ _ _ h => h) (Or.inr ⟨by rfl, rfl⟩) hHeld ?_
            simp only [List.getElem_toArray, List.getElem_cons_zero, List.getElem_cons_succ, Act.put, List.setIfInBounds_toArray, List.set_cons_zero, List.set_cons_succ]
            refine wpAnyH_take (i := 6) (v := undef) rfl (by kernel_rfl) (by kernel_rfl) (by kernel_rfl) (fun _ _ _ h => h) (Or.inr ⟨by rfl, rfl⟩) hHeld ?_
            simp only [List.getElem_toArray, List.getElem_cons_zero, List.getElem_cons_succ, Act.put, List.setIfInBounds_toArray, List.set_cons_zero, List.set_cons_succ]
            refine wpAnyH_take (i := 7) (v := undef) rfl (by kernel_rfl) (by kernel_rfl) (by kernel_rfl) (fun _ _ _ h => h) (Or.inr ⟨by rfl, rfl⟩) hHeld ?_
            simp only [List.getElem_toArray, List.getElem_cons_zero, List.getElem_cons_succ, Act.put, List.setIfInBounds_toArray, List.set_cons_zero, List.set_cons_succ]
            refine wpAnyH_take (i := 8) (v := undef) rfl (by kernel_rfl) (by kernel_rfl) (by kernel_rfl) (fun _ _ _ h => h) (Or.inr ⟨by rfl, rfl⟩) hHeld ?_
            simp only [List.getElem_toArray, List.getElem_cons_zero, List.getElem_cons_succ, Act.put, List.setIfInBounds_toArray, List.set_cons_zero, List.set_cons_succ]
            refine wpAnyH_take (i := 9) (v := undef) rfl (by kernel_rfl) (by kernel_rfl) (by kernel_rfl) (fun _ _ _ h => h) (Or.inr ⟨by rfl, rfl⟩) hHeld ?_
            simp only [List.getElem_toArray, List.getElem_cons_zero, List.getElem_cons_succ, Act.put, List.setIfInBounds_toArray, List.set_cons_zero, List.set_cons_succ]
            refine wpAnyH_take (i := 10) (v := undef) rfl (by kernel_rfl) (by kernel_rfl) (by kernel_rfl) (fun _ _ _ h => h) (Or.inr ⟨by rfl, rfl⟩) hHeld ?_
            simp only [List.getElem_toArray, List.getElem_cons_zero, List.getElem_cons_succ, Act.put, List.setIfInBounds_toArray, List.set_cons_zero, List.set_cons_succ]
            refine wpAnyH_take (i := 11) (v := undef) rfl (by kernel_rfl) (by kernel_rfl) (by kernel_rfl) (fun _ _ _ h => h) (Or.inr ⟨by rfl, rfl⟩) hHeld ?_
            simp only [List.getElem_toArray, List.getElem_cons_zero, List.getElem_cons_succ, Act.put, List.setIfInBounds_toArray, List.set_cons_zero, List.set_cons_succ]
            refine wpAnyH_take (i := 12) (v := undef) rfl (by kernel_rfl) (by kernel_rfl) (by kernel_rfl) (fun _ _ _ h => h) (Or.inr ⟨by rfl, rfl⟩) hHeld ?_
            simp only [List.getElem_toArray, List.getElem_cons_zero, List.getElem_cons_succ, Act.put, List.setIfInBounds_toArray, List.set_cons_zero, List.set_cons_succ]
            refine wpAnyH_take (i := 13) (v := undef) rfl (by kernel_rfl) (by kernel_rfl) (by kernel_rfl) (fun _ _ _ h => h) (Or.inr ⟨by rfl, rfl⟩) hHeld ?_
            simp only [List.getElem_toArray, List.getElem_cons_zero, List.getElem_cons_succ, Act.put, List.setIfInBounds_toArray, List.set_cons_zero, List.set_cons_succ]
            refine wpAnyH_take (i := 14) (v := undef) rfl (by kernel_rfl) (by kernel_rfl) (by kernel_rfl) (fun _ _ _ h => h) (Or.inr ⟨by rfl, rfl⟩) hHeld ?_
            simp only [List.getElem_toArray, List.getElem_cons_zero, List.getElem_cons_succ, Act.put, List.setIfInBounds_toArray, List.set_cons_zero, List.set_cons_succ]
            refine wpAnyH_take (i := 15) (v := undef) rfl (by kernel_rfl) (by kernel_rfl) (by kernel_rfl) (fun _ _ _ h => h) (Or.inr ⟨by rfl, rfl⟩) hHeld ?_
            simp only [List.getElem_toArray, List.getElem_cons_zero, List.getElem_cons_succ, Act.put, List.setIfInBounds_toArray, List.set_cons_zero, List.set_cons_succ]
            refine wpAnyH_take (i := 16) (v := undef) rfl (by kernel_rfl) (by kernel_rfl) (by kernel_rfl) (fun _ _ _ h => h) (Or.inr ⟨by rfl, rfl⟩) hHeld ?_
            simp only [List.getElem_toArray, List.getElem_cons_zero, List.getElem_cons_succ, Act.put, List.setIfInBounds_toArray, List.set_cons_zero, List.set_cons_succ]
            refine wpAnyH_take (i := 17) (v := undef) rfl (by kernel_rfl) (by kernel_rfl) (by kernel_rfl) (fun _ _ _ h => h) (Or.inr ⟨by rfl, rfl⟩) hHeld ?_
            simp only [List.getElem_toArray, List.getElem_cons_zero, List.getElem_cons_succ, Act.put, List.setIfInBounds_toArray, List.set_cons_zero, List.set_cons_succ]
            refine wpAnyH_take (i := 18) (v := undef) rfl (by kernel_rfl) (by kernel_rfl) (by kernel_rfl) (fun _ _ _ h => h) (Or.inr ⟨by rfl, rfl⟩) hHeld ?_
            simp only [List.getElem_toArray, List.getElem_cons_zero, List.getElem_cons_succ, Act.put, List.setIfInBounds_toArray, List.set_cons_zero, List.set_cons_succ]
            refine wpAnyH_take (i := 19) (v := undef) rfl (by kernel_rfl) (by kernel_rfl) (by kernel_rfl) (fun _ _ _ h => h) (Or.inr ⟨by rfl, rfl⟩) hHeld ?_
            simp only [List.getElem_toArray, List.getElem_cons_zero, List.getElem_cons_succ, Act.put, List.setIfInBounds_toArray, List.set_cons_zero, List.set_cons_succ]
            refine wpAnyH_take (i := 20) (v := undef) rfl (by kernel_rfl) (by kernel_rfl) (by kernel_rfl) (fun _ _ _ h => h) (Or.inr ⟨by rfl, rfl⟩) hHeld ?_
            simp only [List.getElem_toArray, List.getElem_cons_zero, List.getElem_cons_succ, Act.put, List.setIfInBounds_toArray, List.set_cons_zero, List.set_cons_succ]
            refine wpAnyH_take (i := 21) (v := undef) rfl (by kernel_rfl) (by kernel_rfl) (by kernel_rfl) (fun _ _ _ h => h) (Or.inr ⟨by rfl, rfl⟩) hHeld ?_
            simp only [List.getElem_toArray, List.getElem_cons_zero, List.getElem_cons_succ, Act.put, List.setIfInBounds_toArray, List.set_cons_zero, List.set_cons_succ]
            refine wpAnyH_take (i := 22) (v := ?_) rfl (by kernel_rfl) (by kernel_rfl) (by kernel_rfl) (fun _ _ _ h => h) (Or.inl ⟨by rfl, ?_⟩) hHeld ?_
            rotate_left
            · intro w hSw; clear hSw; go_simp; try rfl
            simp only [List.getElem_toArray, List.getElem_cons_zero, List.getElem_cons_succ, Act.put, List.setIfInBounds_toArray, List.set_cons_zero, List.set_cons_succ]
            refine wpAnyH_done (by kernel_rfl) ?_ _
            have hoB := (ho.drew).alloc (.cells #[str ka, .slice none 0 0, .bool true] 39)
            have hbB := (hb.drew).alloc (hb.drew).size (.cells #[str ka, .slice none 0 0, .bool true] 39)
            have p1d := ((hb.drew).cell (p := ⟨b1, o1 + i * 2, none⟩) ha1).trans p1
            have hEB : eltO ((wr.drew).alloc (.cells #[str ka, .slice none 0 0, .bool true] 39)) w.heap.size _ [str ka, .slice none 0 0, .bool true] (bt.gone ⟨ka, va⟩) := OC.elt_none (ho.drew)
            have hnB : ((wr.drew).alloc (.cells #[str ka, .slice none 0 0, .bool true] 39)).heap[(wr.drew).heap.size]? = some (.cells #[str ka, .slice none 0 0, .bool true] 39 (0, 0)) := heap_alloc_new _ _
            go_wp2_with (at_builtin; refine wp_apo (.tmp 50) (.tmp 57) hoB hbB.size hnB hEB (by omega) rfl rfl rfl rfl ?_; intro g3 cap3 w3 ho3 hg3 hat3 hlt3; have hb3 := hbB.grown hg3 hbB.size (fun k hk => (hoB.lt k hk).1))
            go_roundw
            case rel => exact ⟨i + 1, k, (acc ++ [bt.gone ⟨ka, va⟩]), by go_num, by go_num, by omega, by omega, by first | omega | (simp; omega), HN, ho3, hb3⟩
            case measure => simp [intOf]; omega
        · by_cases hk : k < m
          · have hN := bt.btw_b (a := a) (b := b) (i := i) (k := k) (by omega) (by omega)
            obtain ⟨b2, o2, rfl, ha2, hr2⟩ := H2.out.has (by omega)
            obtain ⟨p2, X2, c2, q2, g2⟩ := hr2 k (by omega)
            have hsb := hsm2 _ (List.getElem_mem (by omega : k < b.length))
            obtain ⟨rb, hrb⟩ : ∃ r, b[k]'(by omega) = r := ⟨_, rfl⟩
            rw [hrb] at p2 q2 g2 hN hsb
            clear hrb hr2
            obtain ⟨kb, vb⟩ := rb
            simp only at p2 q2 g2 hN hsb
            obtain ⟨m2, hm2⟩ : ∃ m, vb.length = m := ⟨_, rfl⟩
            rw [hm2] at q2 g2 hsb
            have HCOPY := Lib.hid (fun W (hS : Below w.heap.size w W) => copy_any X2 m2 c2 vb W (g2.below hS) (by omega))
            have di : decide (i < n) = false := decide_eq_false (by omega)
            have ei : ((i : Int) == (n : Int)) = true := by rw [beq_iff_eq]; omega
            have dk : decide (k < m) = true := decide_eq_true (by omega)
            have ek : ((k : Int) == (m : Int)) = false := by rw [beq_eq_false_iff_ne]; omega
            have HN := Lib.hid (show bt.btw a b 0 0 = (acc ++ [bt.laid ⟨kb, vb⟩]) ++ bt.btw a b i (k + 1) by rw [HP.out, hN]; simp)
            clear hN HP hsm2
            go_wp2_with fail
            refine wp_region_held_drew (S := fun W => Below w.heap.size w W) (by kernel_rfl) hb.drew (fun hHeld => ?_)
            refine wpAnyH_take (i := 0) (v := ?_) rfl (by kernel_rfl) (by kernel_rfl) (by kernel_rfl) (fun _ _ _ h => h) (Or.inl ⟨by rfl, ?_⟩) hHeld ?_
            rotate_left
            · intro w hSw; clear hSw; go_simp; try rfl
            simp only [List.getElem_toArray, List.getElem_cons_zero, Act.put, List.setIfInBounds_toArray, List.set_cons_zero, List.set_cons_succ]
            refine wpAnyH_take (i := 1) (v := ?_) rfl (by kernel_rfl) (by kernel_rfl) (by kernel_rfl) (fun _ _ _ h => h) (Or.inl ⟨by rfl, ?_⟩) hHeld ?_
            rotate_left
            · intro w hSw; clear hSw; go_simp; try rfl
            simp only [List.getElem_toArray, List.getElem_cons_zero, List.getElem_cons_succ, Act.put, List.setIfInBounds_toArray, List.set_cons_zero, List.set_cons_succ]
            refine wpAnyH_take (i := 2) (v := ?_) rfl (by kernel_rfl) (by kernel_rfl) (by kernel_rfl) (fun _ _ _ h => h) (Or.inl ⟨by rfl, ?_⟩) hHeld ?_
            rotate_left
            · intro w hSw; clear hSw; go_simp; try rfl
            simp only [List.getElem_toArray, List.getElem_cons_zero, List.getElem_cons_succ, Act.put, List.setIfInBounds_toArray, List.set_cons_zero, List.set_cons_succ]
            refine wpAnyH_take (i := 3) (v := ?_) rfl (by kernel_rfl) (by kernel_rfl) (by kernel_rfl) (fun _ _ _ h => h) (Or.inl ⟨by rfl, ?_⟩) hHeld ?_
            rotate_left
            · intro w hSw; clear hSw; go_simp; try rfl
            simp only [List.getElem_toArray, List.getElem_cons_zero, List.getElem_cons_succ, Act.put, List.setIfInBounds_toArray, List.set_cons_zero, List.set_cons_succ]
            refine wpAnyH_take (i := 4) (v := ?_) rfl (by kernel_rfl) (by kernel_rfl) (by kernel_rfl) (fun _ _ _ h => h) (Or.inl ⟨by rfl, ?_⟩) hHeld ?_
            rotate_left
            · intro w hSw; clear hSw; go_simp; try rfl
            simp only [List.getElem_toArray, List.getElem_cons_zero, List.getElem_cons_succ, Act.put, List.setIfInBounds_toArray, List.set_cons_zero, List.set_cons_succ]
            refine wpAnyH_take (i := 5) (v := ?_) rfl (by kernel_rfl) (by kernel_rfl) (by kernel_rfl) (fun _ _ _ h => h) (Or.inl ⟨by rfl, ?_⟩) hHeld ?_
            rotate_left
            · intro w hSw; clear hSw; go_simp; try rfl
            simp only [List.getElem_toArray, List.getElem_cons_zero, List.getElem_cons_succ, Act.put, List.setIfInBounds_toArray, List.set_cons_zero, List.set_cons_succ]
            refine wpAnyH_take (i := 6) (v := ?_) rfl (by kernel_rfl) (by kernel_rfl) (by kernel_rfl) (fun _ _ _ h => h) (Or.inl ⟨by rfl, ?_⟩) hHeld ?_
            rotate_left
            · intro w hSw; clear hSw; go_simp; try rfl
            simp only [List.getElem_toArray, List.getElem_cons_zero, List.getElem_cons_succ, Act.put, List.setIfInBounds_toArray, List.set_cons_zero, List.set_cons_succ]
            refine wpAnyH_take (i := 7) (v := ?_) rfl (by kernel_rfl) (by kernel_rfl) (by kernel_rfl) (fun _ _ _ h => h) (Or.inl ⟨by rfl, ?_⟩) hHeld ?_
            rotate_left
            · intro w hSw; clear hSw; go_simp; try rfl
            simp only [List.getElem_toArray, List.getElem_cons_zero, List.getElem_cons_succ, Act.put, List.setIfInBounds_toArray, List.set_cons_zero, List.set_cons_succ]
            refine wpAnyH_take (i := 8) (v := ?_) rfl (by kernel_rfl) (by kernel_rfl) (by kernel_rfl) (fun _ _ _ h => h) (Or.inl ⟨by rfl, ?_⟩) hHeld ?_
            rotate_left
            · intro w hSw; clear hSw; go_simp; try rfl
            simp only [List.getElem_toArray, List.getElem_cons_zero, List.getElem_cons_succ, Act.put, List.setIfInBounds_toArray, List.set_cons_zero, List.set_cons_succ]
            refine wpAnyH_take (i := 9) (v := ?_) rfl (by kernel_rfl) (by kernel_rfl) (by kernel_rfl) (fun _ _ _ h => h) (Or.inl ⟨by rfl, ?_⟩) hHeld ?_
            rotate_left
            · intro w hSw; clear hSw; go_simp; try rfl
            simp only [List.getElem_toArray, List.getElem_cons_zero, List.getElem_cons_succ, Act.put, List.setIfInBounds_toArray, List.set_cons_zero, List.set_cons_succ]
            refine wpAnyH_take (i := 10) (v := undef) rfl (by kernel_rfl) (by kernel_rfl) (by kernel_rfl) (fun _ _ _ h => h) (Or.inr ⟨by rfl, rfl⟩) hHeld ?_
            simp only [List.getElem_toArray, List.getElem_cons_zero, List.getElem_cons_succ, Act.put, List.setIfInBounds_toArray, List.set_cons_zero, List.set_cons_succ]
            refine wpAnyH_take (i := 11) (v := undef) rfl (by kernel_rfl) (by kernel_rfl) (by kernel_rfl) (fun _ _ _ h => h) (Or.inr ⟨by rfl, rfl⟩) hHeld ?_
            simp only [List.getElem_toArray, List.getElem_cons_zero, List.getElem_cons_succ, Act.put, List.setIfInBounds_toArray, List.set_cons_zero, List.set_cons_succ]
            refine wpAnyH_take (i := 12) (v := undef) rfl (by kernel_rfl) (by kernel_rfl) (by kernel_rfl) (fun _ _ _ h => h) (Or.inr ⟨by rfl, rfl⟩) hHeld ?_
            simp only [List.getElem_toArray, List.getElem_cons_zero, List.getElem_cons_succ, Act.put, List.setIfInBounds_toArray, List.set_cons_zero, List.set_cons_succ]
            refine wpAnyH_take (i := 13) (v := undef) rfl (by kernel_rfl) (by kernel_rfl) (by kernel_rfl) (fun _ _ _ h => h) (Or.inr ⟨by rfl, rfl⟩) hHeld ?_
            simp only [List.getElem_toArray, List.getElem_cons_zero, List.getElem_cons_succ, Act.put, List.setIfInBounds_toArray, List.set_cons_zero, List.set_cons_succ]
            refine wpAnyH_take (i := 14) (v := undef) rfl (by kernel_rfl) (by kernel_rfl) (by kernel_rfl) (fun _ _ _ h => h) (Or.inr ⟨by rfl, rfl⟩) hHeld ?_
            simp only [List.getElem_toArray, List.getElem_cons_zero, List.getElem_cons_succ, Act.put, List.setIfInBounds_toArray, List.set_cons_zero, List.set_cons_succ]
            refine wpAnyH_take (i := 15) (v := undef) rfl (by kernel_rfl) (by kernel_rfl) (by kernel_rfl) (fun _ _ _ h => h) (Or.inr ⟨by rfl, rfl⟩) hHeld ?_
            simp only [List.getElem_toArray, List.getElem_cons_zero, List.getElem_cons_succ, Act.put, List.setIfInBounds_toArray, List.set_cons_zero, List.set_cons_succ]
            refine wpAnyH_take (i := 16) (v := undef) rfl (by kernel_rfl) (by kernel_rfl) (by kernel_rfl) (fun _ _ _ h => h) (Or.inr ⟨by rfl, rfl⟩) hHeld ?_
            simp only [List.getElem_toArray, List.getElem_cons_zero, List.getElem_cons_succ, Act.put, List.setIfInBounds_toArray, List.set_cons_zero, List.set_cons_succ]
            refine wpAnyH_take (i := 17) (v := undef) rfl (by kernel_rfl) (by kernel_rfl) (by kernel_rfl) (fun _ _ _ h => h) (Or.inr ⟨by rfl, rfl⟩) hHeld ?_
            simp only [List.getElem_toArray, List.getElem_cons_zero, List.getElem_cons_succ, Act.put, List.setIfInBounds_toArray, List.set_cons_zero, List.set_cons_succ]
            refine wpAnyH_take (i := 18) (v := undef) rfl (by kernel_rfl) (by kernel_rfl) (by kernel_rfl) (fun _ _ _ h => h) (Or.inr ⟨by rfl, rfl⟩) hHeld ?_
            simp only [List.getElem_toArray, List.getElem_cons_zero, List.getElem_cons_succ, Act.put, List.setIfInBounds_toArray, List.set_cons_zero, List.set_cons_succ]
            refine wpAnyH_take (i := 19) (v := undef) rfl (by kernel_rfl) (by kernel_rfl) (by kernel_rfl) (fun _ _ _ h => h) (Or.inr ⟨by rfl, rfl⟩) hHeld ?_
            simp only [List.getElem_toArray, List.getElem_cons_zero, List.getElem_cons_succ, Act.put, List.setIfInBounds_toArray, List.set_cons_zero, List.set_cons_succ]
            refine wpAnyH_take (i := 20) (v := undef) rfl (by kernel_rfl) (by kernel_rfl) (by kernel_rfl) (fun _ _ _ h => h) (Or.inr ⟨by rfl, rfl⟩) hHeld ?_
            simp only [List.getElem_toArray, List.getElem_cons_zero, List.getElem_cons_succ, Act.put, List.setIfInBounds_toArray, List.set_cons_zero, List.set_cons_succ]
            refine wpAnyH_take (i := 21) (v := ?_) rfl (by kernel_rfl) (by kernel_rfl) (by kernel_rfl) (fun _ _ _ h => h) (Or.inl ⟨by rfl, ?_⟩) hHeld ?_
            rotate_left
            · intro w hSw; clear hSw; go_simp; try rfl
            simp only [List.getElem_toArray, List.getElem_cons_zero, List.getElem_cons_succ, Act.put, List.setIfInBounds_toArray, List.set_cons_zero, List.set_cons_succ]
            refine wpAnyH_take (i := 22) (v := ?_) rfl (by kernel_rfl) (by kernel_rfl) (by kernel_rfl) (fun _ _ _ h => h) (Or.inl ⟨by rfl, ?_⟩) hHeld ?_
            rotate_left
            · intro w hSw; clear hSw; go_simp; try rfl
            simp only [List.getElem_toArray, List.getElem_cons_zero, List.getElem_cons_succ, Act.put, List.setIfInBounds_toArray, List.set_cons_zero, List.set_cons_succ]
            refine wpAnyH_done (by kernel_rfl) ?_ _
            go_wp2_with fail
            refine wp_region_held_drew (S := fun W => Below w.heap.size w W) (by kernel_rfl) hb.drew.drew (fun hHeld => ?_)
            refine wpAnyH_take (i := 0) (v := ?_) rfl (by kernel_rfl) (by kernel_rfl) (by kernel_rfl) (fun _ _ _ h => h) (Or.inl ⟨by rfl, ?_⟩) hHeld ?_
            rotate_left
            · intro w hSw; clear hSw; go_simp; try rfl
            simp only [List.getElem_toArray, List.getElem_cons_zero, Act.put, List.setIfInBounds_toArray, List.set_cons_zero, List.set_cons_succ]
            refine wpAnyH_take (i := 1) (v := ?_) rfl (by kernel_rfl) (by kernel_rfl) (by kernel_rfl) (fun _ _ _ h => h) (Or.inl ⟨by rfl, ?_⟩) hHeld ?_
            rotate_left
            · intro w hSw; clear hSw; go_simp; try rfl
            simp only [List.getElem_toArray, List.getElem_cons_zero, List.getElem_cons_succ, Act.put, List.setIfInBounds_toArray, List.set_cons_zero, List.set_cons_succ]
            refine wpAnyH_take (i := 2) (v := ?_) rfl (by kernel_rfl) (by kernel_rfl) (by kernel_rfl) (fun _ _ _ h => h) (Or.inl ⟨by rfl, ?_⟩) hHeld ?_
            rotate_left
            · intro w hSw; clear hSw; go_simp; try rfl
            simp only [List.getElem_toArray, List.getElem_cons_zero, List.getElem_cons_succ, Act.put, List.setIfInBounds_toArray, List.set_cons_zero, List.set_cons_succ]
            refine wpAnyH_take (i := 3) (v := ?_) rfl (by kernel_rfl) (by kernel_rfl) (by kernel_rfl) (fun _ _ _ h => h) (Or.inl ⟨by rfl, ?_⟩) hHeld ?_
            rotate_left
            · intro w hSw; clear hSw; go_simp; try rfl
            simp only [List.getElem_toArray, List.getElem_cons_zero, List.getElem_cons_succ, Act.put, List.setIfInBounds_toArray, List.set_cons_zero, List.set_cons_succ]
            refine wpAnyH_take (i := 4) (v := ?_) rfl (by kernel_rfl) (by kernel_rfl) (by kernel_rfl) (fun _ _ _ h => h) (Or.inl ⟨by rfl, ?_⟩) hHeld ?_
            rotate_left
            · intro w hSw; clear hSw; go_simp; try rfl
            simp only [List.getElem_toArray, List.getElem_cons_zero, List.getElem_cons_succ, Act.put, List.setIfInBounds_toArray, List.set_cons_zero, List.set_cons_succ]
            refine wpAnyH_take (i := 5) (v := undef) rfl (by kernel_rfl) (by kernel_rfl) (by kernel_rfl) (fun _ _ _ h => h) (Or.inr ⟨by rfl, rfl⟩) hHeld ?_
            simp only [List.getElem_toArray, List.getElem_cons_zero, List.getElem_cons_succ, Act.put, List.setIfInBounds_toArray, List.set_cons_zero, List.set_cons_succ]
            refine wpAnyH_take (i := 6) (v := undef) rfl (by kernel_rfl) (by kernel_rfl) (by kernel_rfl) (fun _ _ _ h => h) (Or.inr ⟨by rfl, rfl⟩) hHeld ?_
            simp only [List.getElem_toArray, List.getElem_cons_zero, List.getElem_cons_succ, Act.put, List.setIfInBounds_toArray, List.set_cons_zero, List.set_cons_succ]
            refine wpAnyH_take (i := 7) (v := undef) rfl (by kernel_rfl) (by kernel_rfl) (by kernel_rfl) (fun _ _ _ h => h) (Or.inr ⟨by rfl, rfl⟩) hHeld ?_
            simp only [List.getElem_toArray, List.getElem_cons_zero, List.getElem_cons_succ, Act.put, List.setIfInBounds_toArray, List.set_cons_zero, List.set_cons_succ]
            refine wpAnyH_take (i := 8) (v := undef) rfl (by kernel_rfl) (by kernel_rfl) (by kernel_rfl) (fun _ _ _ h => h) (Or.inr ⟨by rfl, rfl⟩) hHeld ?_
            simp only [List.getElem_toArray, List.getElem_cons_zero, List.getElem_cons_succ, Act.put, List.setIfInBounds_toArray, List.set_cons_zero, List.set_cons_succ]
            refine wpAnyH_take (i := 9) (v := undef) rfl (by kernel_rfl) (by kernel_rfl) (by kernel_rfl) (fun _ _ _ h => h) (Or.inr ⟨by rfl, rfl⟩) hHeld ?_
            simp only [List.getElem_toArray, List.getElem_cons_zero, List.getElem_cons_succ, Act.put, List.setIfInBounds_toArray, List.set_cons_zero, List.set_cons_succ]
            refine wpAnyH_take (i := 10) (v := undef) rfl (by kernel_rfl) (by kernel_rfl) (by kernel_rfl) (fun _ _ _ h => h) (Or.inr ⟨by rfl, rfl⟩) hHeld ?_
            simp only [List.getElem_toArray, List.getElem_cons_zero, List.getElem_cons_succ, Act.put, List.setIfInBounds_toArray, List.set_cons_zero, List.set_cons_succ]
            refine wpAnyH_take (i := 11) (v := undef) rfl (by kernel_rfl) (by kernel_rfl) (by kernel_rfl) (fun _ _ _ h => h) (Or.inr ⟨by rfl, rfl⟩) hHeld ?_
            simp only [List.getElem_toArray, List.getElem_cons_zero, List.getElem_cons_succ, Act.put, List.setIfInBounds_toArray, List.set_cons_zero, List.set_cons_succ]
            refine wpAnyH_take (i := 12) (v := undef) rfl (by kernel_rfl) (by kernel_rfl) (by kernel_rfl) (fun _ _ _ h => h) (Or.inr ⟨by rfl, rfl⟩) hHeld ?_
            simp only [List.getElem_toArray, List.getElem_cons_zero, List.getElem_cons_succ, Act.put, List.setIfInBounds_toArray, List.set_cons_zero, List.set_cons_succ]
            refine wpAnyH_take (i := 13) (v := undef) rfl (by kernel_rfl) (by kernel_rfl) (by kernel_rfl) (fun _ _ _ h => h) (Or.inr ⟨by rfl, rfl⟩) hHeld ?_
            simp only [List.getElem_toArray, List.getElem_cons_zero, List.getElem_cons_succ, Act.put, List.setIfInBounds_toArray, List.set_cons_zero, List.set_cons_succ]
            refine wpAnyH_take (i := 14) (v := undef) rfl (by kernel_rfl) (by kernel_rfl) (by kernel_rfl) (fun _ _ _ h => h) (Or.inr ⟨by rfl, rfl⟩) hHeld ?_
            simp only [List.getElem_toArray, List.getElem_cons_zero, List.getElem_cons_succ, Act.put, List.setIfInBounds_toArray, List.set_cons_zero, List.set_cons_succ]
            refine wpAnyH_take (i := 15) (v := undef) rfl (by kernel_rfl) (by kernel_rfl) (by kernel_rfl) (fun _ _ _ h => h) (Or.inr ⟨by rfl, rfl⟩) hHeld ?_
            simp only [List.getElem_toArray, List.getElem_cons_zero, List.getElem_cons_succ, Act.put, List.setIfInBounds_toArray, List.set_cons_zero, List.set_cons_succ]
            refine wpAnyH_take (i := 16) (v := ?_) rfl (by kernel_rfl) (by kernel_rfl) (by kernel_rfl) (fun _ _ _ h => h) (Or.inl ⟨by rfl, ?_⟩) hHeld ?_
            rotate_left
            · intro w hSw; clear hSw; go_simp; try rfl
            simp only [List.getElem_toArray, List.getElem_cons_zero, List.getElem_cons_succ, Act.put, List.setIfInBounds_toArray, List.set_cons_zero, List.set_cons_succ]
            refine wpAnyH_done (by kernel_rfl) ?_ _
            go_wp2_with fail
            refine wp_region_held_drew (S := fun W => Below w.heap.size w W) (by kernel_rfl) hb.drew.drew.drew (fun hHeld => ?_)
            refine wpAnyH_take (i := 0) (v := ?_) rfl (by kernel_rfl) (by kernel_rfl) (by kernel_rfl) (fun _ _ _ h => h) (Or.inl ⟨by rfl, ?_⟩) hHeld ?_
            rotate_left
            · intro w hSw; have f1 := (hSw.cell (p := ⟨b2, o2 + k * 2, none⟩) ha2).trans p2; have f3 := (hSw.cell (p := ⟨b2, o2 + k * 2 + 1, none⟩) ha2).trans q2; clear hSw; go_simp; try rfl
            simp only [List.getElem_toArray, List.getElem_cons_zero, Act.put, List.setIfInBounds_toArray, List.set_cons_zero, List.set_cons_succ]
            refine wpAnyH_take (i := 1) (v := ?_) rfl (by kernel_rfl) (by kernel_rfl) (by kernel_rfl) (fun _ _ _ h => h) (Or.inl ⟨by rfl, ?_⟩) hHeld ?_
            rotate_left
            · intro w hSw; have f1 := (hSw.cell (p := ⟨b2, o2 + k * 2, none⟩) ha2).trans p2; have f3 := (hSw.cell (p := ⟨b2, o2 + k * 2 + 1, none⟩) ha2).trans q2; clear hSw; go_simp; try rfl
            simp only [List.getElem_toArray, List.getElem_cons_zero, List.getElem_cons_succ, Act.put, List.setIfInBounds_toArray, List.set_cons_zero, List.set_cons_succ]
            refine wpAnyH_take (i := 2) (v := ?_) rfl (by kernel_rfl) (by kernel_rfl) (by kernel_rfl) (fun _ _ _ h => h) (Or.inl ⟨by rfl, ?_⟩) hHeld ?_
            rotate_left
            · intro w hSw; have f1 := (hSw.cell (p := ⟨b2, o2 + k * 2, none⟩) ha2).trans p2; have f3 := (hSw.cell (p := ⟨b2, o2 + k * 2 + 1, none⟩) ha2).trans q2; clear hSw; go_simp; try rfl
            simp only [List.getElem_toArray, List.getElem_cons_zero, List.getElem_cons_succ, Act.put, List.setIfInBounds_toArray, List.set_cons_zero, List.set_cons_succ]
            refine wpAnyH_take (i := 3) (v := ?_) rfl (by kernel_rfl) (by kernel_rfl) (by kernel_rfl) (fun _ _ _ h => h) (Or.inl ⟨by rfl, ?_⟩) hHeld ?_
            rotate_left
            · intro w hSw; have f1 := (hSw.cell (p := ⟨b2, o2 + k * 2, none⟩) ha2).trans p2; have f3 := (hSw.cell (p := ⟨b2, o2 + k * 2 + 1, none⟩) ha2).trans q2; clear hSw; go_simp; try rfl
            simp only [List.getElem_toArray, List.getElem_cons_zero, List.getElem_cons_succ, Act.put, List.setIfInBounds_toArray, List.set_cons_zero, List.set_cons_succ]
            refine wpAnyH_take (i := 4) (v := ?_) rfl (by kernel_rfl) (by kernel_rfl) (by kernel_rfl) (fun _ _ _ h => h) (Or.inl ⟨by rfl, ?_⟩) hHeld ?_
            rotate_left
            · intro w hSw; have f1 := (hSw.cell (p := ⟨b2, o2 + k * 2, none⟩) ha2).trans p2; have f3 := (hSw.cell (p := ⟨b2, o2 + k * 2 + 1, none⟩) ha2).trans q2; clear hSw; go_simp; try rfl
            simp only [List.getElem_toArray, List.getElem_cons_zero, List.getElem_cons_succ, Act.put, List.setIfInBounds_toArray, List.set_cons_zero, List.set_cons_succ]
            refine wpAnyH_take (i := 5) (v := ?_) rfl (by kernel_rfl) (by kernel_rfl) (by kernel_rfl) (fun _ _ _ h => h) (Or.inl ⟨by rfl, ?_⟩) hHeld ?_
            rotate_left
            · intro w hSw; have f1 := (hSw.cell (p := ⟨b2, o2 + k * 2, none⟩) ha2).trans p2; have f3 := (hSw.cell (p := ⟨b2, o2 + k * 2 + 1, none⟩) ha2).trans q2; clear hSw; go_simp; try rfl
            simp only [List.getElem_toArray, List.getElem_cons_zero, List.getElem_cons_succ, Act.put, List.setIfInBounds_toArray, List.set_cons_zero, List.set_cons_succ]
            refine wpAnyH_take (i := 6) (v := ?_) rfl (by kernel_rfl) (by kernel_rfl) (by kernel_rfl) (fun _ _ _ h => h) (Or.inl ⟨by rfl, ?_⟩) hHeld ?_
            rotate_left
            · intro w hSw; have f1 := (hSw.cell (p := ⟨b2, o2 + k * 2, none⟩) ha2).trans p2; have f3 := (hSw.cell (p := ⟨b2, o2 + k * 2 + 1, none⟩) ha2).trans q2; clear hSw; go_simp; try rfl
            simp only [List.getElem_toArray, List.getElem_cons_zero, List.getElem_cons_succ, Act.put, List.setIfInBounds_toArray, List.set_cons_zero, List.set_cons_succ]
            refine wpAnyH_take (i := 7) (v := ?_) rfl (by kernel_rfl) (by kernel_rfl) (by kernel_rfl) (fun _ _ _ h => h) (Or.inl ⟨by rfl, ?_⟩) hHeld ?_
            rotate_left
            · intro w hSw; have f1 := (hSw.cell (p := ⟨b2, o2 + k * 2, none⟩) ha2).trans p2; have f3 := (hSw.cell (p := ⟨b2, o2 + k * 2 + 1, none⟩) ha2).trans q2; clear hSw; go_simp; try rfl
            simp only [List.getElem_toArray, List.getElem_cons_zero, List.getElem_cons_succ, Act.put, List.setIfInBounds_toArray, List.set_cons_zero, List.set_cons_succ]
            refine wpAnyH_take (i := 8) (v := ?_) rfl (by kernel_rfl) (by kernel_rfl) (by kernel_rfl) (fun _ _ _ h => h) (Or.inl ⟨by rfl, ?_⟩) hHeld ?_
            rotate_left
            · intro w hSw; have f1 := (hSw.cell (p := ⟨b2, o2 + k * 2, none⟩) ha2).trans p2; have f3 := (hSw.cell (p := ⟨b2, o2 + k * 2 + 1, none⟩) ha2).trans q2; clear hSw; go_simp; try rfl
            simp only [List.getElem_toArray, List.getElem_cons_zero, List.getElem_cons_succ, Act.put, List.setIfInBounds_toArray, List.set_cons_zero, List.set_cons_succ]
            refine wpAnyH_take (i := 9) (v := ?_) rfl (by kernel_rfl) (by kernel_rfl) (by kernel_rfl) (fun _ _ _ h => h) (Or.inl ⟨by rfl, ?_⟩) hHeld ?_
            rotate_left
            · intro w hSw; have f1 := (hSw.cell (p := ⟨b2, o2 + k * 2, none⟩) ha2).trans p2; have f3 := (hSw.cell (p := ⟨b2, o2 + k * 2 + 1, none⟩) ha2).trans q2; clear hSw; go_simp; try rfl
            simp only [List.getElem_toArray, List.getElem_cons_zero, List.getElem_cons_succ, Act.put, List.setIfInBounds_toArray, List.set_cons_zero, List.set_cons_succ]
            refine wpAnyH_take (i := 10) (v := ?_) rfl (by kernel_rfl) (by kernel_rfl) (by kernel_rfl) (fun _ _ _ h => h) (Or.inl ⟨by rfl, ?_⟩) hHeld ?_
            rotate_left
            · intro w hSw; have f1 := (hSw.cell (p := ⟨b2, o2 + k * 2, none⟩) ha2).trans p2; have f3 := (hSw.cell (p := ⟨b2, o2 + k * 2 + 1, none⟩) ha2).trans q2; clear hSw; go_simp; try rfl
            simp only [List.getElem_toArray, List.getElem_cons_zero, List.getElem_cons_succ, Act.put, List.setIfInBounds_toArray, List.set_cons_zero, List.set_cons_succ]
            refine wpAnyH_ready (rs := [11]) (by kernel_rfl) (by simp) ?_
            refine AllReadyH.cons rfl (fun K hK => ?_) AllReadyH.nil
            rw [if_pos (by rfl)]
            go_simp
            refine (HCOPY.out _ hHeld).mono ?_
            rintro e w2 ⟨v2, rfl, ho2, hb2⟩
            obtain ⟨A2, c2, rfl, hB2⟩ := ho2.form
            rw [hm2] at ho2 hB2 ⊢
            have hd2 : OC w2 w.heap.size _ acc := (ho.drew.drew).drew.below hb2 (Nat.le_refl _)
            have hh2 : Below w.heap.size w w2 := hHeld.trans (hb2.mono hHeld.size)
            have hE2 : eltO w2 w.heap.size _ [str kb, .slice A2 m2 c2, .bool false] (bt.laid ⟨kb, vb⟩) := OC.elt_new (ho.drew.drew).drew A2 c2 hm2 ho2 hHeld.size (Nat.le_refl _)
            refine hK.out _ _ hh2 (fun hHeld => ?_)
            clear hK K
            refine wpAnyH_take (i := 12) (v := ?_) rfl (by kernel_rfl) (by kernel_rfl) (by kernel_rfl) (fun _ _ _ h => h) (Or.inl ⟨by rfl, ?_⟩) hHeld ?_
            rotate_left
            · intro w hSw; clear hSw; go_simp; try rfl
            simp only [List.getElem_toArray, List.getElem_cons_zero, List.getElem_cons_succ, Act.put, List.setIfInBounds_toArray, List.set_cons_zero, List.set_cons_succ]
            refine wpAnyH_ready (rs := [13]) (by kernel_rfl) (by simp) ?_
            refine AllReadyH.cons rfl (fun K hK => ?_) AllReadyH.nil
            rw [if_pos (by rfl)]
            refine op_bsc (.tmp 90) (str kb) (.slice A2 m2 c2) (.bool false) rfl rfl ?_
            simp only [List.getElem_toArray, List.getElem_cons_zero, List.getElem_cons_succ, Act.put, List.setIfInBounds_toArray, List.set_cons_zero, List.set_cons_succ]
            have hSB := hh2.alloc hh2.size (.cells #[str kb, .slice A2 m2 c2, .bool false] 39)
            have hoB := hd2.alloc (.cells #[str kb, .slice A2 m2 c2, .bool false] 39)
            have hEB := OC.elt_keep hE2 (fun k hk => Below.heap_alloc w2 (.cells #[str kb, .slice A2 m2 c2, .bool false] 39) k hk)
            have hnB : (w2.alloc (.cells #[str kb, .slice A2 m2 c2, .bool false] 39)).heap[w2.heap.size]? = some (.cells #[str kb, .slice A2 m2 c2, .bool false] 39 (0, 0)) := heap_alloc_new w2 _
            refine hK.out _ _ hSB (fun hHeld => ?_)
            clear hK K
            refine wpAnyH_ready (rs := [14]) (by kernel_rfl) (by simp) ?_
            refine AllReadyH.cons rfl (fun K hK => ?_) AllReadyH.nil
            refine step_apo (.tmp 78) (.tmp 91) hoB hSB.size hnB hEB (by omega) rfl rfl rfl rfl ?_
            intro g3 cap3 w3 ho3 hg3 hat3 hlt3
            simp only [List.getElem_toArray, List.getElem_cons_zero, List.getElem_cons_succ, Act.put, List.setIfInBounds_toArray, List.set_cons_zero, List.set_cons_succ]
            have hb3 := hSB.grown hg3 hSB.size (fun k hk => (hoB.lt k hk).1)
            refine hK.out _ _ hb3 (fun hHeld => ?_)
            clear hK K
            refine wpAnyH_take (i := 15) (v := ?_) rfl (by kernel_rfl) (by kernel_rfl) (by kernel_rfl) (fun _ _ _ h => h) (Or.inl ⟨by rfl, ?_⟩) hHeld ?_
            rotate_left
            · intro w hSw; clear hSw; go_simp; try rfl
            simp only [List.getElem_toArray, List.getElem_cons_zero, List.getElem_cons_succ, Act.put, List.setIfInBounds_toArray, List.set_cons_zero, List.set_cons_succ]
            refine wpAnyH_done (by kernel_rfl) ?_ _
            go_wp2_with fail
            go_roundw
            case rel => exact ⟨i, k + 1, (acc ++ [bt.laid ⟨kb, vb⟩]), by go_num, by go_num, by omega, by omega, by first | omega | (simp; omega), HN, ho3, hb3⟩
            case measure => simp [intOf]; omega
          · have hz := bt.btw_end (a := a) (b := b) (i := i) (k := k) (by omega) (by omega)
            have hres : acc = bt.btw a b 0 0 := by rw [HP.out, hz, List.append_nil]
            have HCS := Lib.hid ho.cs
            rw [hres] at HCS
            clear hz HP hres hsm2 ho
            go_wp2_with fail
            go_ret2
            obtain ⟨A', c', e1, hcs⟩ := HCS.out
            exact ⟨⟨A', c', e1 ▸ rfl, hcs⟩, hb⟩
    · have c2' : bt.may b = false := by simpa using c2
      rw [c2'] at HMAYB
      have hres : bt.between a b = ([], 2) := by unfold bt.between; rw [c1, c2']; rfl
      rw [hres]
      clear hres c1 c2 c2'
      go_enter Try.func26, Try.ntmps26
      go_wp2_with (first
        | (go_at_call 11; refine (HMAY.out _ H1.out).mono ?_; rintro e w1 ⟨rfl, hb1⟩; clear HMAY)
        | (go_at_call 11; refine (HMAYB.out _ (H2.out.below hb1)).mono ?_; rintro e w2 ⟨rfl, hb2⟩))
      go_ret2
      exact ⟨⟨none, 0, rfl, rfl, Nat.le_refl _, by omega, fun h => absurd h (by simp)⟩, hb1.trans (hb2.mono hb1.size)⟩
  · have c1' : bt.may a = false := by simpa using c1
    rw [c1'] at HMAY
    have hres : bt.between a b = ([], 2) := by unfold bt.between; rw [c1']; rfl
    rw [hres]
    clear hres c1 c1'
    go_enter Try.func26, Try.ntmps26
    go_wp2_with (first
      | (go_at_call 11; refine (HMAY.out _ H1.out).mono ?_; rintro e w1 ⟨rfl, hb1⟩))
    go_ret2
    exact ⟨⟨none, 0, rfl, rfl, Nat.le_refl _, by omega, fun h => absurd h (by simp)⟩, hb1⟩
end Go.Proofs.Ytlchfadfbepapaa
