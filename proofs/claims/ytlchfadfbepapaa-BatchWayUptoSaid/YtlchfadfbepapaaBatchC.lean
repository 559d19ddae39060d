/-
  CHANGES OF THE CALL's OWN, their values' bytes the call's own too.
-/
import Derived.Test.YtlchfadfbepapaaBatchT
namespace Go.Proofs.Ytlchfadfbepapaa
open Go.RowKit
/-- a change's cells: its bytes are of the call's own, in another block than the row -/
def eltO (w : World) (base : Nat) (v : Value) (cs : List Value) (x : bt.C) : Prop :=
  ∃ A c, cs = [str x.key, .slice A x.val.length c, .bool x.gone] ∧ OwnB 5 w base (.slice A x.val.length c) x.val ∧ ∀ k, (Value.slice A x.val.length c).ownBlock = some k → v.ownBlock ≠ some k
/-- CHANGES OF THE CALL's OWN -/
def OC (w : World) (base : Nat) (v : Value) (l : List bt.C) : Prop := OT 39 3 (eltO w base v) w base v l
namespace OC
variable {w w' : World} {base : Nat} {v : Value} {l : List bt.C}
theorem nil_ (w : World) (base : Nat) : OC w base (.slice none 0 0) [] := OT.nil_ _ _ _ _ _
theorem elt_keep {cs : List Value} {x : bt.C} (h : eltO w base v cs x) (hk : ∀ k, k < w.heap.size → w'.heap[k]? = w.heap[k]?) : eltO w' base v cs x := by
  obtain ⟨A, c, h1, h2, h3⟩ := h
  refine ⟨A, c, h1, ?_, h3⟩
  rcases h2 with hn | ⟨g, r, a, b, c2, d⟩
  · exact .inl hn
  · exact .inr ⟨g, r, a, b, (hk g (Array.getElem?_eq_some_iff.1 c2).1).trans c2, d⟩
theorem keep (h : OC w base v l) (hk : ∀ k, k < w.heap.size → w'.heap[k]? = w.heap[k]?) : OC w' base v l :=
  (OT.keep h hk).imp fun _ _ hx => elt_keep hx hk
theorem below {B : Nat} (h : OC w base v l) (hb : Below B w w') (hB : w.heap.size ≤ B) : OC w' base v l := h.keep fun k hk => hb.block k (by omega)
theorem alloc (h : OC w base v l) (o : Obj) : OC (w.alloc o) base v l := h.keep fun k hk => Below.heap_alloc w o k hk
theorem drew (h : OC w base v l) : OC w.drew base v l := h.keep fun _ _ => rfl
theorem lt (h : OC w base v l) : ∀ k, v.ownBlock = some k → base ≤ k ∧ k < w.heap.size := OT.lt h
/-- what is built reads as changes -/
theorem cs (h : OC w base v l) : ∃ A c, v = .slice A l.length c ∧ CS w A l.length c l :=
  OT.cs (w0 := w) (h.imp fun _ _ ⟨A, c, h1, h2, _⟩ => ⟨A, c, h1, h2.bs⟩) (Below.refl _ _)
/-- what an element is behind one that is appended -/
theorem elt_more {cs : List Value} {x : bt.C} {g n cap : Nat} (h : eltO w base v cs x) (hg : w.grownBy w' v.ownBlock) (hat : v.ownBlock = some g ∨ g = w.heap.size) : eltO w' base (.slice (some ⟨g, 0, none⟩) n cap) cs x := by
  obtain ⟨A, c, h1, h2, h3⟩ := h
  refine ⟨A, c, h1, h2.kept hg ?_, fun k hk e => ?_⟩
  · cases hq : (Value.slice A x.val.length c).ownBlock with
    | none => exact .inl rfl
    | some k => exact .inr (fun e => h3 k hq e.symm)
  · have hgk : g = k := by simpa [Value.ownBlock] using e
    subst hgk
    rcases hat with e1 | e1
    · exact h3 g hk e1
    · have := (h2.lt g hk).2
      omega
end OC
section
variable {ops : Array Oper} {rest : List Oper} {o : Oper} {a : Act} {w : World} {Q : Exit → Act → World → Prop}
/-- one change is appended -/
theorem wp_apo (x y : Operand) {v : Value} {l : List bt.C} {r : bt.C} {B base : Nat} {u0 u1 u2 : Value} (hown : OC w base v l) (hbase : base ≤ w.heap.size) (hB : w.heap[B]? = some (.cells #[u0, u1, u2] 39 (0, 0))) (hR : eltO w base v [u0, u1, u2] r) (hn : l.length ≤ 1099511627776) (hgd : o.guard = none)
    (ho : o.op = .call { callee := .builtin .append, args := #[x, y], argTypes := #[23, 23] }) (hx : a.eval x = v) (hy : a.eval y = .slice (some ⟨B, 0, none⟩) 1 1)
    (h : ∀ g cap W', OC W' base (.slice (some ⟨g, 0, none⟩) (l.length + 1) cap) (l ++ [r]) → w.grownBy W' v.ownBlock → (v.ownBlock = some g ∨ g = w.heap.size) → g < W'.heap.size → wpList Try.prog ops Q rest (a.put o.dst (.slice (some ⟨g, 0, none⟩) (l.length + 1) cap)) W') : wpList Try.prog ops Q (o :: rest) a w := by
  obtain ⟨i0, hi0, hz0, hs0, hb0⟩ := info_parts8 info_chg
  obtain ⟨T, h1, h2, h3⟩ := hown
  refine wpList_append_lies w hgd x y 23 ho base 39 i0 _ 3 48 Try.underlying23 hi0 hz0 hs0 hb0 rfl (by omega) v l.length _ hx h1 ⟨B, 0, none⟩ 1 1 [u0, u1, u2] hy rfl ?_ ?_ (by omega) (by rw [maxLen_eq]; omega) (by omega) hbase _ rfl ?_
  · have := World.news_of_block hB
    simpa using this
  · obtain ⟨A, c, e, _⟩ := hR
    rw [e]
    intro u hu
    simp only [List.mem_cons, List.not_mem_nil, or_false] at hu
    rcases hu with rfl | rfl | rfl <;> rfl
  · intro g cap W' k1 k2 k3 k4
    exact h g cap W' (OT.imp (OT.more h2 h3 rfl hR k1) fun cs x hx => OC.elt_more hx k2 k3) k2 k3 k4
/-- one change is appended, at a step of a region that draws -/
theorem step_apo {K : Act → World → Prop} {E0 : Prop} (x y : Operand) {v : Value} {l : List bt.C} {r : bt.C} {B base : Nat} {u0 u1 u2 : Value} (hown : OC w base v l) (hbase : base ≤ w.heap.size) (hB : w.heap[B]? = some (.cells #[u0, u1, u2] 39 (0, 0))) (hR : eltO w base v [u0, u1, u2] r) (hn : l.length ≤ 1099511627776) (hgd : o.guard = none)
    (ho : o.op = .call { callee := .builtin .append, args := #[x, y], argTypes := #[23, 23] }) (hx : a.eval x = v) (hy : a.eval y = .slice (some ⟨B, 0, none⟩) 1 1)
    (h : ∀ g cap W', OC W' base (.slice (some ⟨g, 0, none⟩) (l.length + 1) cap) (l ++ [r]) → w.grownBy W' v.ownBlock → (v.ownBlock = some g ∨ g = w.heap.size) → g < W'.heap.size → K (a.put o.dst (.slice (some ⟨g, 0, none⟩) (l.length + 1) cap)) W') :
    if Region.wanted o (yielded ops a.tmps) = true then Oper.wp Try.prog o a w K Q else E0 := by
  obtain ⟨i0, hi0, hz0, hs0, hb0⟩ := info_parts8 info_chg
  obtain ⟨T, h1, h2, h3⟩ := hown
  refine step_append_lies w hgd x y 23 ho base 39 i0 _ 3 48 Try.underlying23 hi0 hz0 hs0 hb0 rfl (by omega) v l.length _ hx h1 ⟨B, 0, none⟩ 1 1 [u0, u1, u2] hy rfl ?_ ?_ (by omega) (by rw [maxLen_eq]; omega) (by omega) hbase _ rfl ?_
  · have := World.news_of_block hB
    simpa using this
  · obtain ⟨A, c, e, _⟩ := hR
    rw [e]
    intro u hu
    simp only [List.mem_cons, List.not_mem_nil, or_false] at hu
    rcases hu with rfl | rfl | rfl <;> rfl
  · intro g cap W' k1 k2 k3 k4
    exact h g cap W' (OT.imp (OT.more h2 h3 rfl hR k1) fun cs x hx => OC.elt_more hx k2 k3) k2 k3 k4
end
end Go.Proofs.Ytlchfadfbepapaa
