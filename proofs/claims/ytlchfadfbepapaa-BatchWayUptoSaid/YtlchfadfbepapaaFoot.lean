/-
  FOOTPRINTS: which blocks a call may have changed; what is known of other blocks stays. No program is named here.
-/
import Derived.Test.YtlchfadfbepapaaWords
import Derived.Deep.MidRow
namespace Go.Proofs.Ytlchfadfbepapaa
open Go.RowKit

/-- blocks of F alone, and new ones, may have changed -/
structure Chg (w w' : World) (F : List Nat) : Prop where
  os : w'.os = w.os
  tape : w'.tape = w.tape
  output : w'.output = w.output
  size : w.heap.size ≤ w'.heap.size
  block : ∀ k, k < w.heap.size → k ∉ F → w'.heap[k]? = w.heap[k]?
/-- F' has blocks of F and new ones alone -/
def Sub (w : World) (F' F : List Nat) : Prop := ∀ k ∈ F', k ∈ F ∨ w.heap.size ≤ k
def Apt (F G : List Nat) : Prop := ∀ k ∈ F, k ∉ G
/-- all of F is there -/
def Ther (w : World) (F : List Nat) : Prop := ∀ k ∈ F, k < w.heap.size
/-- w' has what w has in the blocks of F -/
def Same (w w' : World) (F : List Nat) : Prop := ∀ k ∈ F, w'.heap[k]? = w.heap[k]?

theorem Sub.refl (w : World) (F : List Nat) : Sub w F F := fun _ h => .inl h
theorem Sub.trans {w w1 : World} {F F1 F2 : List Nat} (h : Sub w1 F2 F1) (h1 : Sub w F1 F) (hs : w.heap.size ≤ w1.heap.size) : Sub w F2 F := fun k hk => by
  rcases h k hk with h2 | h2
  · exact h1 k h2
  · exact .inr (Nat.le_trans hs h2)
theorem Sub.app {w : World} {F F' G G' : List Nat} (h : Sub w F' F) (h' : Sub w G' G) : Sub w (F' ++ G') (F ++ G) := fun k hk => by
  rcases List.mem_append.1 hk with h1 | h1
  · exact (h k h1).imp (fun x => List.mem_append_left _ x) id
  · exact (h' k h1).imp (fun x => List.mem_append_right _ x) id
theorem Chg.refl (w : World) (F : List Nat) : Chg w w F := ⟨rfl, rfl, rfl, Nat.le_refl _, fun _ _ _ => rfl⟩
theorem Chg.trans {w w1 w2 : World} {F F1 : List Nat} (h : Chg w w1 F) (h1 : Chg w1 w2 F1) (hF : Sub w F1 F) : Chg w w2 F :=
  ⟨h1.os.trans h.os, h1.tape.trans h.tape, h1.output.trans h.output, Nat.le_trans h.size h1.size, fun k hk hn => by
    rw [h1.block k (Nat.lt_of_lt_of_le hk h.size) (fun hm => by
      rcases hF k hm with h2 | h2
      · exact hn h2
      · omega)]
    exact h.block k hk hn⟩
theorem Chg.mono {w w' : World} {F G : List Nat} (h : Chg w w' F) (hF : Sub w F G) : Chg w w' G := (Chg.refl w G).trans h hF
theorem Chg.of_below {w w' : World} (h : Below w.heap.size w w') (F : List Nat) : Chg w w' F := ⟨h.os, h.tape, h.output, h.size, fun k hk _ => h.block k hk⟩
theorem Chg.below {w w' : World} {F : List Nat} {B : Nat} (h : Chg w w' F) (hB : B ≤ w.heap.size) (hF : ∀ k ∈ F, B ≤ k) : Below B w w' :=
  ⟨h.os, h.tape, h.output, h.size, fun k hk => h.block k (by omega) (fun hm => by have := hF k hm; omega)⟩
theorem Chg.setCell (w : World) (g i : Nat) (u : Value) : Chg w (w.setCell ⟨g, i, none⟩ u) [g] :=
  ⟨rfl, rfl, rfl, by simp [World.setCell], fun k _ hn => Below.heap_setCell w ⟨g, i, none⟩ u k (fun e => hn (by rw [List.mem_singleton]; exact e))⟩
theorem Chg.setCells (g : Nat) : ∀ (vs : List Value) (i : Nat) (w : World), Chg w (w.setCells g i vs) [g]
  | [], _, w => Chg.refl w _
  | v :: r, i, w => by
    rw [World.setCells]
    exact (Chg.setCell w g i v).trans (Chg.setCells g r (i + 1) _) (Sub.refl _ _)
theorem Chg.alloc (w : World) (o : Obj) (F : List Nat) : Chg w (w.alloc o) F := Chg.of_below ((Below.refl _ _).alloc (Nat.le_refl _) o) F
theorem Chg.drew (w : World) (F : List Nat) : Chg w w.drew F := ⟨rfl, rfl, rfl, Nat.le_refl _, fun _ _ _ => rfl⟩
theorem Chg.drewN (w : World) (n : Nat) (F : List Nat) : Chg w (w.drewN n) F := ⟨rfl, rfl, rfl, Nat.le_refl _, fun _ _ _ => rfl⟩
theorem Chg.grown {w w' : World} {row : Option Nat} (h : w.grownBy w' row) : Chg w w' row.toList :=
  ⟨h.os, h.tape, h.output, h.size, fun k hk hn => h.block k hk (fun e => hn (by rw [← e]; simp))⟩
theorem Ther.mono {w w' : World} {F : List Nat} (h : Ther w F) (hs : w.heap.size ≤ w'.heap.size) : Ther w' F := fun k hk => Nat.lt_of_lt_of_le (h k hk) hs
theorem Ther.app {w : World} {F G : List Nat} (h : Ther w F) (h' : Ther w G) : Ther w (F ++ G) := fun k hk => (List.mem_append.1 hk).elim (h k) (h' k)
theorem Apt.symm {F G : List Nat} (h : Apt F G) : Apt G F := fun k hk hm => h k hm hk
theorem Apt.step {w : World} {F F' G : List Nat} (h : Apt F G) (hs : Sub w F' F) (hG : Ther w G) : Apt F' G := fun k hk hm => by
  rcases hs k hk with h1 | h1
  · exact h k h1 hm
  · have := hG k hm
    omega
theorem Chg.same {w w' : World} {F G : List Nat} (h : Chg w w' F) (ha : Apt F G) (hG : Ther w G) : Same w w' G := fun k hk => h.block k (hG k hk) (fun hm => ha k hm hk)
theorem Same.cell {w w' : World} {F : List Nat} (h : Same w w' F) {p : Addr} (hp : p.block ∈ F) : w'.cell? p = w.cell? p := by
  simp only [World.cell?, h _ hp]
theorem Same.sub {w w' : World} {F G : List Nat} (h : Same w w' F) (hG : ∀ k ∈ G, k ∈ F) : Same w w' G := fun k hk => h k (hG k hk)
theorem Same.drew (w : World) (F : List Nat) : Same w w.drew F := fun _ _ => rfl

/-- one cell of a known block is stored -/
theorem block_set {w : World} {g i : Nat} {cs : Array Value} {t : TypeId} {fr : Nat × Nat} (h : w.heap[g]? = some (.cells cs t fr)) (v : Value) : (w.setCell ⟨g, i, none⟩ v).heap[g]? = some (.cells (cs.setIfInBounds i v) t fr) := by
  simp only [World.setCell, Array.getElem?_modify, h]
  simp
/-- cells in the midst of a known block are stored -/
theorem block_sets {g : Nat} {t : TypeId} {fr : Nat × Nat} : ∀ (vs : List Value) (i : Nat) (cs : List Value) (w : World), w.heap[g]? = some (.cells cs.toArray t fr) → i + vs.length ≤ cs.length →
    (w.setCells g i vs).heap[g]? = some (.cells (cs.take i ++ vs ++ cs.drop (i + vs.length)).toArray t fr)
  | [], i, cs, w, h, _ => by
    rw [World.setCells, h]
    simp
  | v :: r, i, cs, w, h, hl => by
    rw [World.setCells]
    simp only [List.length_cons] at hl
    have h1 := block_set (i := i) h v
    have e1 : (cs.toArray.setIfInBounds i v) = (cs.set i v).toArray := by simp
    rw [e1] at h1
    have := block_sets r (i + 1) (cs.set i v) _ h1 (by simp; omega)
    rw [this]
    congr 3
    have e2 : (cs.set i v).take (i + 1) = cs.take i ++ [v] := by
      rw [List.take_succ_eq_append_getElem (by simp; omega), List.take_set_of_le (Nat.le_refl _)]
      simp
    have e3 : (cs.set i v).drop (i + 1 + r.length) = cs.drop (i + (v :: r).length) := by
      rw [List.drop_set_of_lt (by omega), List.length_cons, Nat.add_assoc, Nat.add_comm 1]
    rw [e2, e3]
    simp
/-- a range of a known block -/
theorem range_of {w : World} {g : Nat} {cs : List Value} {t : TypeId} {fr : Nat × Nat} (h : w.heap[g]? = some (.cells cs.toArray t fr)) (o : Nat) (vs : List Value) (hv : ∀ j v, vs[j]? = some v → cs[o + j]? = some v) : w.rangeAt g o vs := fun j v hj => by
  rw [cell_of_row w g (o + j) cs.toArray t fr h]
  simpa using hv j v hj
theorem there_of {w : World} {g : Nat} {cs : List Value} {t : TypeId} (h : w.heap[g]? = some (.cells cs.toArray t (0, 0))) (o n : Nat) (hn : o + n ≤ cs.length) : w.there g o n := fun j hj => by
  refine ⟨?_, by simp [World.frozen?, h]⟩
  rw [cell_of_row w g (o + j) cs.toArray t (0, 0) h]
  simp
  omega
end Go.Proofs.Ytlchfadfbepapaa
