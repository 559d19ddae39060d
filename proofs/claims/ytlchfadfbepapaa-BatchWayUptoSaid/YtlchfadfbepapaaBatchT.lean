/-
  TABLES AND CHANGES OF THE CALL's OWN: one more is appended; what is built reads as a table.
-/
import Derived.Test.YtlchfadfbepapaaBatchM
import Derived.Deep.AppendLies
import Derived.Great.BuildSlice
import Derived.StillTailTactics
namespace Go.Proofs.Ytlchfadfbepapaa
open Go.RowKit
theorem flat_at {α : Type} (k : Nat) : ∀ (LL : List (List α)), (∀ x ∈ LL, x.length = k) → ∀ (i : Nat) (hi : i < LL.length) (j : Nat), j < k → LL.flatten[i * k + j]? = LL[i][j]?
  | [], _, i, hi, _, _ => by simp at hi
  | x :: r, h, 0, _, j, hj => by
    rw [List.flatten_cons, Nat.zero_mul, Nat.zero_add, List.getElem?_append_left (by rw [h x (List.mem_cons_self ..)]; exact hj)]
    rfl
  | x :: r, h, i + 1, hi, j, hj => by
    have hx := h x (List.mem_cons_self ..)
    rw [List.flatten_cons, List.getElem?_append_right (by rw [hx, Nat.add_mul]; omega), hx, show (i + 1) * k + j - k = i * k + j from by rw [Nat.add_mul]; omega]
    exact flat_at k r (fun y hy => h y (List.mem_cons_of_mem _ hy)) i (by simpa using hi) j hj
/-- A ROW OF STRUCTS OF THE CALL's OWN: its elements' cells are what R says of the list's. -/
def OT {α : Type} (e : TypeId) (s : Nat) (R : List Value → α → Prop) (w : World) (base : Nat) (v : Value) (l : List α) : Prop :=
  ∃ T : List (List Value), w.ownsRow base e s v l.length T.flatten ∧ T.length = l.length ∧ ∀ (i : Nat) (x : α), l[i]? = some x → ∃ cs : List Value, T[i]? = some cs ∧ cs.length = s ∧ R cs x
namespace OT
variable {α : Type} {e : TypeId} {s : Nat} {R : List Value → α → Prop} {w w' : World} {base : Nat} {v : Value} {l : List α}
theorem nil_ (e : TypeId) (s : Nat) (R : List Value → α → Prop) (w : World) (base : Nat) : OT e s R w base (.slice none 0 0) [] :=
  ⟨[], World.ownsRow_nil _ _ _ _, rfl, fun i x h => by simp at h⟩
theorem keep (h : OT e s R w base v l) (hk : ∀ k, k < w.heap.size → w'.heap[k]? = w.heap[k]?) : OT e s R w' base v l := by
  obtain ⟨T, h1, h2, h3⟩ := h
  refine ⟨T, ⟨h1.1, h1.2.imp id ?_⟩, h2, h3⟩
  rintro ⟨g, cap, cur, a, b, c, d⟩
  exact ⟨g, cap, cur, a, b, (hk g (Array.getElem?_eq_some_iff.1 c).1).trans c, d⟩
theorem below {B : Nat} (h : OT e s R w base v l) (hb : Below B w w') (hB : w.heap.size ≤ B) : OT e s R w' base v l := h.keep fun k hk => hb.block k (by omega)
theorem alloc (h : OT e s R w base v l) (o : Obj) : OT e s R (w.alloc o) base v l := h.keep fun k hk => Below.heap_alloc w o k hk
theorem drew (h : OT e s R w base v l) : OT e s R w.drew base v l := h.keep fun _ _ => rfl
theorem lt (h : OT e s R w base v l) : ∀ k, v.ownBlock = some k → base ≤ k ∧ k < w.heap.size := by
  obtain ⟨T, h1, _⟩ := h
  exact h1.lt
theorem form (h : OT e s R w base v l) : ∃ A c, v = .slice A l.length c := by
  obtain ⟨T, h1, _⟩ := h
  rcases h1.2 with ⟨rfl, h0⟩ | ⟨g, cap, cur, rfl, _⟩
  · exact ⟨none, 0, by rw [h0]⟩
  · exact ⟨_, cap, rfl⟩
theorem imp {R' : List Value → α → Prop} (h : OT e s R w base v l) (hR : ∀ cs x, R cs x → R' cs x) : OT e s R' w base v l := by
  obtain ⟨T, h1, h2, h3⟩ := h
  exact ⟨T, h1, h2, fun i x hx => by
    obtain ⟨cs, a, b, c⟩ := h3 i x hx
    exact ⟨cs, a, b, hR _ _ c⟩⟩
/-- what stands at place i -/
theorem cells {g c : Nat} (h : OT e s R w base (.slice (some ⟨g, 0, none⟩) l.length c) l) {i : Nat} (hi : i < l.length) : ∃ cs, cs.length = s ∧ R cs l[i] ∧ ∀ j u, cs[j]? = some u → w.cell? ⟨g, i * s + j, none⟩ = some u := by
  obtain ⟨T, h1, h2, h3⟩ := h
  obtain ⟨cs, h4, h5, h6⟩ := h3 i l[i] (List.getElem?_eq_getElem hi)
  have hall : ∀ x ∈ T, x.length = s := fun x hx => by
    obtain ⟨k, hk, rfl⟩ := List.getElem_of_mem hx
    obtain ⟨cs', a, b, _⟩ := h3 k (l[k]'(by omega)) (List.getElem?_eq_getElem (by omega))
    rw [List.getElem?_eq_getElem hk] at a
    rw [Option.some.inj a, b]
  refine ⟨cs, h5, h6, fun j u hj => ?_⟩
  have hj' : j < s := by
    have := (List.getElem?_eq_some_iff.1 hj).1
    omega
  have hiT : i < T.length := by omega
  have h7 := flat_at s T hall i hiT j hj'
  have h8 : T[i] = cs := by
    rw [List.getElem?_eq_getElem hiT] at h4
    exact Option.some.inj h4
  rw [h8, hj] at h7
  have h9 : i * s + j < l.length * s := by
    have : (i + 1) * s ≤ l.length * s := Nat.mul_le_mul_right _ (by omega)
    rw [Nat.add_mul] at this
    omega
  rw [h1.cellAt _ h9]
  exact h7
/-- one more -/
theorem more {x : α} {cs : List Value} {T : List (List Value)} {v' : Value} (hT : T.length = l.length) (hall : ∀ (i : Nat) (x : α), l[i]? = some x → ∃ cs : List Value, T[i]? = some cs ∧ cs.length = s ∧ R cs x) (hs : cs.length = s) (hR : R cs x) (h : w'.ownsRow base e s v' (l.length + 1) (T.flatten ++ cs)) : OT e s R w' base v' (l ++ [x]) := by
  refine ⟨T ++ [cs], by simpa using h, by simp [hT], fun i y hy => ?_⟩
  by_cases hi : i < l.length
  · rw [List.getElem?_append_left hi] at hy
    rw [List.getElem?_append_left (by omega)]
    exact hall i y hy
  · have hil : i = l.length := by
      have := (List.getElem?_eq_some_iff.1 hy).1
      simp at this
      omega
    subst hil
    rw [List.getElem?_append_right (Nat.le_refl _), Nat.sub_self] at hy
    simp only [List.getElem?_cons_zero, Option.some.injEq] at hy
    subst hy
    refine ⟨cs, ?_, hs, hR⟩
    rw [List.getElem?_append_right (by omega), hT, Nat.sub_self]
    rfl
end OT
/-- a row's cells -/
def eltR (Z : Nat → Prop) (w0 : World) (cs : List Value) (r : bt.R) : Prop := ∃ A c, cs = [str r.key, .slice A r.val.length c] ∧ BS w0 A r.val.length c r.val ∧ (0 < r.val.length → ∀ g p, A = some ⟨g, p, none⟩ → Z g)
/-- a change's cells -/
def eltC (w0 : World) (cs : List Value) (x : bt.C) : Prop := ∃ A c, cs = [str x.key, .slice A x.val.length c, .bool x.gone] ∧ BS w0 A x.val.length c x.val
/-- what is built reads as a table -/
theorem OT.ts {Z : Nat → Prop} {e : TypeId} {w0 w : World} {base : Nat} {v : Value} {l : List bt.R} (h : OT e 2 (eltR Z w0) w base v l) (hb : Below w0.heap.size w0 w) (hZ : ∀ k, base ≤ k → Z k) : ∃ A c, v = .slice A l.length c ∧ TS w A l.length c l ∧ TO Z w A l.length := by
  have hc := fun g c (e1 : v = .slice (some ⟨g, 0, none⟩) l.length c) => @OT.cells bt.R e 2 (eltR Z w0) w base l g c (e1 ▸ h)
  obtain ⟨T, h1, h2, h3⟩ := h
  rcases h1.2 with ⟨e1, h0⟩ | ⟨g, cap, cur, e1, hb1, hg, k1, k2, k3, k4⟩
  · rw [e1, h0]
    exact ⟨none, 0, rfl, ⟨h0, Nat.le_refl _, by omega, fun h => absurd h (by omega)⟩, TO.nil_ _ _ _⟩
  · rw [maxLen_eq] at k2
    refine ⟨_, cap, e1, ⟨rfl, k1, k2, fun hn => ⟨g, 0, rfl, (Array.getElem?_eq_some_iff.1 hg).1, fun i hi => ?_⟩⟩, fun b o e2 hn => ?_⟩
    · obtain ⟨cs, -, ⟨A, c, rfl, hB, -⟩, hcell⟩ := hc g _ e1 hi
      have c0 := hcell 0 _ rfl
      have c1 := hcell 1 _ rfl
      rw [Nat.zero_add]
      exact ⟨c0, A, c, c1, hB.below hb⟩
    · injection e2 with e2
      injection e2 with e3 e4
      subst e3 e4
      refine ⟨hZ _ hb1, fun i hi Ai mi ci hcl h0 g2 p2 e5 => ?_⟩
      obtain ⟨cs, -, ⟨A, c, rfl, hB, hA⟩, hcell⟩ := hc g _ e1 hi
      have c1 := hcell 1 _ rfl
      rw [Nat.zero_add, c1] at hcl
      injection hcl with hcl
      injection hcl with q1 q2 q3
      subst q1 q2
      exact hA h0 g2 p2 e5
/-- what is built reads as changes -/
theorem OT.cs {e : TypeId} {w0 w : World} {base : Nat} {v : Value} {l : List bt.C} (h : OT e 3 (eltC w0) w base v l) (hb : Below w0.heap.size w0 w) : ∃ A c, v = .slice A l.length c ∧ CS w A l.length c l := by
  have hc := fun g c (e1 : v = .slice (some ⟨g, 0, none⟩) l.length c) => @OT.cells bt.C e 3 (eltC w0) w base l g c (e1 ▸ h)
  obtain ⟨T, h1, h2, h3⟩ := h
  rcases h1.2 with ⟨e1, h0⟩ | ⟨g, cap, cur, e1, hb1, hg, k1, k2, k3, k4⟩
  · rw [e1, h0]
    exact ⟨none, 0, rfl, h0, Nat.le_refl _, by omega, fun h => absurd h (by omega)⟩
  · rw [maxLen_eq] at k2
    refine ⟨_, cap, e1, rfl, k1, k2, fun hn => ⟨g, 0, rfl, (Array.getElem?_eq_some_iff.1 hg).1, fun i hi => ?_⟩⟩
    obtain ⟨cs, -, ⟨A, c, rfl, hB⟩, hcell⟩ := hc g _ e1 hi
    have c0 := hcell 0 _ rfl
    have c1 := hcell 1 _ rfl
    have c2 := hcell 2 _ rfl
    rw [Nat.zero_add]
    exact ⟨c0, c2, A, c, c1, hB.below hb⟩
theorem info_parts8 {e : TypeId} {z : Value} {sz bt : Nat} (h : (Try.prog.info? e).map (fun i => (i.zero, i.size, i.bytes)) = some (some z, sz, bt)) : ∃ i, Try.prog.info? e = some i ∧ i.zero = some z ∧ i.size = sz ∧ i.bytes = bt := by
  cases hq : Try.prog.info? e with
  | none => simp [hq] at h
  | some i =>
    simp only [hq, Option.map_some, Option.some.injEq, Prod.mk.injEq] at h
    exact ⟨i, rfl, h.1, h.2.1, h.2.2⟩
theorem info_row : (Try.prog.info? 51).map (fun i => (i.zero, i.size, i.bytes)) = some (some (.agg #[str [], .slice none 0 0]), 2, 40) := by kernel_rfl
theorem info_chg : (Try.prog.info? 39).map (fun i => (i.zero, i.size, i.bytes)) = some (some (.agg #[str [], .slice none 0 0, .bool false]), 3, 48) := by kernel_rfl
section
variable {ops : Array Oper} {rest : List Oper} {o : Oper} {a : Act} {w : World} {Q : Exit → Act → World → Prop}
/-- one row, as a slice of one -/
theorem wp_bsr (x : Operand) (u0 u1 : Value) (hg : o.guard = none) (ho : o.op = .buildSlice 22 1 #[(0, x)]) (hx : a.eval x = .agg #[u0, u1])
    (h : wpList Try.prog ops Q rest (a.put o.dst (.slice (some ⟨w.heap.size, 0, none⟩) 1 1)) (w.alloc (.cells #[u0, u1] 51))) : wpList Try.prog ops Q (o :: rest) a w := by
  obtain ⟨i0, hi0, hz0, hs0, _⟩ := info_parts8 info_row
  refine wpList_buildSlice hg 22 51 1 _ ho #[u0, u1] i0 _ Try.underlying22 hi0 hz0 (by rw [hs0]; omega) (by rw [hs0]; omega) ?_ h
  rw [hs0]
  simp only [List.map_toArray, List.map_cons, List.map_nil, hx]
  have hr : Array.range (1 * 2) = #[0, 1] := rfl
  rw [hr]
  simp [Instr.fill, Value.cells]
/-- one change, as a slice of one -/
theorem wp_bsc (x : Operand) (u0 u1 u2 : Value) (hg : o.guard = none) (ho : o.op = .buildSlice 23 1 #[(0, x)]) (hx : a.eval x = .agg #[u0, u1, u2])
    (h : wpList Try.prog ops Q rest (a.put o.dst (.slice (some ⟨w.heap.size, 0, none⟩) 1 1)) (w.alloc (.cells #[u0, u1, u2] 39))) : wpList Try.prog ops Q (o :: rest) a w := by
  obtain ⟨i0, hi0, hz0, hs0, _⟩ := info_parts8 info_chg
  refine wpList_buildSlice hg 23 39 1 _ ho #[u0, u1, u2] i0 _ Try.underlying23 hi0 hz0 (by rw [hs0]; omega) (by rw [hs0]; omega) ?_ h
  rw [hs0]
  simp only [List.map_toArray, List.map_cons, List.map_nil, hx]
  have hr : Array.range (1 * 3) = #[0, 1, 2] := rfl
  rw [hr]
  simp [Instr.fill, Value.cells]
/-- one row is appended -/
theorem wp_apr {Z : Nat → Prop} (x y : Operand) {v : Value} {l : List bt.R} {r : bt.R} {B base : Nat} {w0 : World} {u0 u1 : Value} (hown : OT 51 2 (eltR Z w0) w base v l) (hbase : base ≤ w.heap.size) (hB : w.heap[B]? = some (.cells #[u0, u1] 51 (0, 0))) (hR : eltR Z w0 [u0, u1] r) (hn : l.length ≤ 1099511627776) (hgd : o.guard = none)
    (ho : o.op = .call { callee := .builtin .append, args := #[x, y], argTypes := #[22, 22] }) (hx : a.eval x = v) (hy : a.eval y = .slice (some ⟨B, 0, none⟩) 1 1)
    (h : ∀ g cap W', OT 51 2 (eltR Z w0) W' base (.slice (some ⟨g, 0, none⟩) (l.length + 1) cap) (l ++ [r]) → w.grownBy W' v.ownBlock → (v.ownBlock = some g ∨ g = w.heap.size) → g < W'.heap.size → wpList Try.prog ops Q rest (a.put o.dst (.slice (some ⟨g, 0, none⟩) (l.length + 1) cap)) W') : wpList Try.prog ops Q (o :: rest) a w := by
  obtain ⟨i0, hi0, hz0, hs0, hb0⟩ := info_parts8 info_row
  obtain ⟨T, h1, h2, h3⟩ := hown
  refine wpList_append_lies w hgd x y 22 ho base 51 i0 _ 2 40 Try.underlying22 hi0 hz0 hs0 hb0 rfl (by omega) v l.length _ hx h1 ⟨B, 0, none⟩ 1 1 [u0, u1] hy rfl ?_ ?_ (by omega) (by rw [maxLen_eq]; omega) (by omega) hbase _ rfl ?_
  · have := World.news_of_block hB
    simpa using this
  · obtain ⟨A, c, e, _⟩ := hR
    rw [e]
    intro u hu
    simp only [List.mem_cons, List.not_mem_nil, or_false] at hu
    rcases hu with rfl | rfl <;> rfl
  · intro g cap W' k1 k2 k3 k4
    exact h g cap W' (OT.more h2 h3 rfl hR k1) k2 k3 k4
/-- one change is appended -/
theorem wp_apc (x y : Operand) {v : Value} {l : List bt.C} {r : bt.C} {B base : Nat} {w0 : World} {u0 u1 u2 : Value} (hown : OT 39 3 (eltC w0) w base v l) (hbase : base ≤ w.heap.size) (hB : w.heap[B]? = some (.cells #[u0, u1, u2] 39 (0, 0))) (hR : eltC w0 [u0, u1, u2] r) (hn : l.length ≤ 1099511627776) (hgd : o.guard = none)
    (ho : o.op = .call { callee := .builtin .append, args := #[x, y], argTypes := #[23, 23] }) (hx : a.eval x = v) (hy : a.eval y = .slice (some ⟨B, 0, none⟩) 1 1)
    (h : ∀ g cap W', OT 39 3 (eltC w0) W' base (.slice (some ⟨g, 0, none⟩) (l.length + 1) cap) (l ++ [r]) → w.grownBy W' v.ownBlock → (v.ownBlock = some g ∨ g = w.heap.size) → g < W'.heap.size → wpList Try.prog ops Q rest (a.put o.dst (.slice (some ⟨g, 0, none⟩) (l.length + 1) cap)) W') : wpList Try.prog ops Q (o :: rest) a w := by
  obtain ⟨i0, hi0, hz0, hs0, hb0⟩ := info_parts8 info_chg
  obtain ⟨T, h1, h2, h3⟩ := hown
  refine wpList_append_lies w hgd x y 23 ho base 39 i0 _ 3 48 Try.underlying23 hi0 hz0 hs0 hb0 rfl (by omega) v l.length _ hx h1 ⟨B, 0, none⟩ 1 1 [u0, u1, u2] hy rfl ?_ ?_ (by omega) (by rw [maxLen_eq]; omega) (by omega) hbase _ rfl ?_
  · have := World.news_of_block hB
    simpa using this
  · obtain ⟨A, c, e, _⟩ := hR
    rw [e]
    intro u hu
    simp only [List.mem_cons, List.not_mem_nil, or_false] at hu
    rcases hu with rfl | rfl | rfl <;> rfl
  · intro g cap W' k1 k2 k3 k4
    exact h g cap W' (OT.more h2 h3 rfl hR k1) k2 k3 k4
end
end Go.Proofs.Ytlchfadfbepapaa
