/-
  cardexlaw07: what is done to both (desk.act).
-/
import Derived.Test.YtknndmhkfonfmaaGreatDoorM8
import Derived.Test.YtknndmhkfonfmaaGreatDoorM1
import Derived.Test.YtknndmhkfonfmaaGreatDoorM5
import Derived.Deep.SlicePairs
import Derived.Deep.Slices
import Derived.Test.YtknndmhkfonfmaaGreatDoorM3
import Derived.Test.YtknndmhkfonfmaaGreatDoorM7
namespace Go.Proofs.YtknndmhkfonfmaaGreatDoor
open Go.RowKit
/-- an act -/
structure JA where
  kind : Int
  n : Int
  at_ : Int
  x : UInt8
  bA : Option Addr
  bn : Nat
  bc : Nat
  bl : List UInt8
  pA : Option Addr
  pn : Nat
  pc : Nat
  pl : List Int
instance : Inhabited JA := ⟨⟨0, 0, 0, 0, none, 0, 0, [], none, 0, 0, []⟩⟩
def JA.cells (a : JA) : List Value := [.int .i64 a.kind, .int .i64 a.n, .int .i64 a.at_, bv a.x, .slice a.bA a.bn a.bc, .slice a.pA a.pn a.pc]
structure JA.Ok (w : World) (a : JA) : Prop where
  b : BS w a.bA a.bn a.bc a.bl
  p : IS w a.pA a.pn a.pc a.pl
  n : -9223372036854775808 ≤ a.n ∧ a.n ≤ 9223372036854775807
  kind : -9223372036854775808 ≤ a.kind ∧ a.kind ≤ 9223372036854775807
namespace JA
variable {a : JA} {w : World} {g : Nat} {t : TypeId}
theorem c0 (h : w.heap[g]? = some (.cells a.cells.toArray t)) : w.cell? ⟨g, 0, none⟩ = some (.int .i64 a.kind) := by rw [cell_of_row _ _ _ _ _ _ h]; rfl
theorem c1 (h : w.heap[g]? = some (.cells a.cells.toArray t)) : w.cell? ⟨g, 1, none⟩ = some (.int .i64 a.n) := by rw [cell_of_row _ _ _ _ _ _ h]; rfl
theorem c2 (h : w.heap[g]? = some (.cells a.cells.toArray t)) : w.cell? ⟨g, 2, none⟩ = some (.int .i64 a.at_) := by rw [cell_of_row _ _ _ _ _ _ h]; rfl
theorem c3 (h : w.heap[g]? = some (.cells a.cells.toArray t)) : w.cell? ⟨g, 3, none⟩ = some (bv a.x) := by rw [cell_of_row _ _ _ _ _ _ h]; rfl
theorem c4 (h : w.heap[g]? = some (.cells a.cells.toArray t)) : w.cell? ⟨g, 4, none⟩ = some (.slice a.bA a.bn a.bc) := by rw [cell_of_row _ _ _ _ _ _ h]; rfl
theorem c5 (h : w.heap[g]? = some (.cells a.cells.toArray t)) : w.cell? ⟨g, 5, none⟩ = some (.slice a.pA a.pn a.pc) := by rw [cell_of_row _ _ _ _ _ _ h]; rfl
/-- what an act makes of a disk, and of whether there is a journal on it -/
def does (a : JA) (s : dk.St) (b : Bool) : dk.St × Bool :=
  if 20000 < a.bn then (s, b)
  else if a.kind = 0 then (if b then ((jn.append s (jn.newest s).2.1 a.bl).2, b) else (s, b))
  else if a.kind = 1 then (if b then ((jn.replace s (jn.newest s).2.1 a.bl).2, b) else (s, b))
  else if a.kind = 2 then (s, decide (jn.opens s = 0))
  else if a.kind = 3 then ((jn.make s).2, decide ((jn.make s).1 = 0))
  else if a.kind = 4 then ((dk.arm s a.n).2, b)
  else ((dk.rot s a.n a.at_ a.x).2, decide (jn.opens (dk.rot s a.n a.at_ a.x).2 = 0))
end JA
theorem BS.keepF {w w' : World} {F : List Nat} {A : Option Addr} {n c : Nat} {l : List UInt8} (h : BS w A n c l) (hc : Chg w w' F) (hF : 0 < n → ∀ x o, A = some ⟨x, o, none⟩ → x ∉ F) : BS w' A n c l :=
  ⟨h.len, h.cap, h.max, h.small, fun hn => by
    obtain ⟨b, o, e, hb, hcell⟩ := h.has hn
    refine ⟨b, o, e, Nat.lt_of_lt_of_le hb hc.size, fun i hi => ?_⟩
    rw [← hcell i hi]
    have := hc.block b hb (hF hn b o e)
    simp only [World.cell?, this]⟩
theorem RK.heapq {w0 w w1 w2 : World} {F G : List Nat} {q x : Nat} (h : RK w0 w F G (.pointer (some ⟨x, 0, none⟩)) q) (c1 : Chg w w1 F) (c2 : Chg w1 w2 G) : w2.heap[x]? = some (.cells #[.pointer (some ⟨q, 0, none⟩)] 89 (0, 0)) := by
  obtain ⟨x', e, h1, h2, h3, _⟩ := h
  injection e with e
  injection e with e
  injection e with e
  subst e
  have hl := (Array.getElem?_eq_some_iff.1 h1).1
  exact (c2.block x (Nat.lt_of_lt_of_le hl c1.size) h3).trans ((c1.block x hl h2).trans h1)
theorem RK.kept {w0 w w' : World} {F G : List Nat} {kv : Value} {q : Nat} (h : RK w0 w F G kv q) (hc : Chg w w' F) : RK w0 w' F G kv q := by
  obtain ⟨x, e, h1, h2, h3⟩ := h
  exact ⟨x, e, (hc.block x (Array.getElem?_eq_some_iff.1 h1).1 h2).trans h1, h2, h3⟩
variable {w0 w w' : World} {D p q : Nat} {F G : List Nat} {jv kv : Value} {s : dk.St} {b : Bool}
set_option maxHeartbeats 4000000 in
set_option maxRecDepth 100000 in
theorem desk_act0 (a : JA) (ha : a.Ok w0) (hk : a.kind = 0) (hlen : ¬ 20000 < a.bn) {N : Nat} {k : hd.H} (f : jn.Fit s N k) (hn : hd.num (N + 1) = true) (hm : s.many + 8400 < 1048576) (h : DK w0 w D p q F G jv kv s (some true)) (ht : Tabs w0) :
    Calls Tryz.prog 7 #[.pointer (some ⟨D, 0, none⟩), .agg a.cells.toArray] w fun e w' => ∃ F' G', e = .returned (.bool true) ∧ DK w0 w' D p q F' G' jv kv (jn.append s k a.bl).2 (some true) := by
  obtain ⟨jq, rfl⟩ := (h.prog rfl).form
  obtain ⟨kq, rfl, -⟩ := h.docu rfl
  have b1 : Below w.heap.size w (w.alloc (.cells a.cells.toArray 39)) := (Below.refl _ _).alloc (Nat.le_refl _) _
  have r1 := heap_alloc_new w (.cells a.cells.toArray 39)
  have z0 := JA.c0 r1
  have z4 := JA.c4 r1
  rw [hk] at z0
  have hlen' : (a.bn : Int) ≤ 20000 := by omega
  have hD1 := h.below b1.drew
  have hHlt : w.heap.size < (w.alloc (.cells a.cells.toArray 39)).drew.heap.size := (Array.getElem?_eq_some_iff.1 r1).1
  have hr1d : (w.alloc (.cells a.cells.toArray 39)).drew.heap[w.heap.size]? = some (.cells a.cells.toArray 39 (0, 0)) := r1
  have hHF : w.heap.size ∉ F := fun hm => Nat.lt_irrefl _ (h.thF _ hm)
  have hHG : w.heap.size ∉ G := fun hm => Nat.lt_irrefl _ (h.thG _ hm)
  have hlt0 : ∀ x o, 0 < a.bn → a.bA = some ⟨x, o, none⟩ → x < w0.heap.size := fun x o h0 e => by
    obtain ⟨b, o', e', hb, _⟩ := ha.b.has h0
    rw [e] at e'
    injection e' with e'
    injection e' with e' _ _
    omega
  have hBF : 0 < a.bn → ∀ x o, a.bA = some ⟨x, o, none⟩ → x ∉ F := fun h0 x o e hm => by have := h.ownF x hm; have := hlt0 x o h0 e; omega
  have hB1 : BS (w.alloc (.cells a.cells.toArray 39)).drew a.bA a.bn a.bc a.bl := ha.b.below hD1.under
  have HJ := Lib.hid (jf_appendF (hD1.prog rfl) ht f hn (by omega) hB1 hBF)
  have HK := Lib.hid (fun W (hW : RJ W G (.pointer (some ⟨kq, 0, none⟩)) s) (hB : BS W a.bA a.bn a.bc a.bl) => rj_append hW hB (by omega) ⟨by omega, by rw [f.sure]; simp⟩)
  rw [f.new] at HK
  clear hk
  go_enter Tryz.func7, Tryz.ntmps7
  go_wp2_with fail
  refine wp_region_held_drew (S := fun W => W.heap[D]? = some (.cells #[.pointer (some ⟨p, 0, none⟩), .pointer (some ⟨q, 0, none⟩), .pointer (some ⟨jq, 0, none⟩), .pointer (some ⟨kq, 0, none⟩)] 34 (0, 0)) ∧ W.heap[w.heap.size]? = some (.cells a.cells.toArray 39 (0, 0))) (by kernel_rfl) ⟨hD1.cell, hr1d⟩ (fun hHeld => ?_)
  refine wpAnyH_take (i := 0) (v := ?_) rfl (by kernel_rfl) (by kernel_rfl) (by kernel_rfl) (fun _ _ _ h => h) (Or.inl ⟨by rfl, ?_⟩) hHeld ?_
  rotate_left
  · intro w hSw; have c0 := (cell_of_row _ _ 0 _ _ _ hSw.1).trans (by rfl : _ = some (.pointer (some ⟨p, 0, none⟩))); have c1 := (cell_of_row _ _ 1 _ _ _ hSw.1).trans (by rfl : _ = some (.pointer (some ⟨q, 0, none⟩))); have c2 := (cell_of_row _ _ 2 _ _ _ hSw.1).trans (by rfl : _ = some (.pointer (some ⟨jq, 0, none⟩))); have c3 := (cell_of_row _ _ 3 _ _ _ hSw.1).trans (by rfl : _ = some (.pointer (some ⟨kq, 0, none⟩))); have a1 := JA.c1 hSw.2; have a2 := JA.c2 hSw.2; have a3 := JA.c3 hSw.2; have a4 := JA.c4 hSw.2; clear hSw; go_simp; try rfl
  simp only [List.getElem_toArray, List.getElem_cons_zero, Act.put, List.setIfInBounds_toArray, List.set_cons_zero, List.set_cons_succ]
  refine wpAnyH_take (i := 1) (v := ?_) rfl (by kernel_rfl) (by kernel_rfl) (by kernel_rfl) (fun _ _ _ h => h) (Or.inl ⟨by rfl, ?_⟩) hHeld ?_
  rotate_left
  · intro w hSw; have c0 := (cell_of_row _ _ 0 _ _ _ hSw.1).trans (by rfl : _ = some (.pointer (some ⟨p, 0, none⟩))); have c1 := (cell_of_row _ _ 1 _ _ _ hSw.1).trans (by rfl : _ = some (.pointer (some ⟨q, 0, none⟩))); have c2 := (cell_of_row _ _ 2 _ _ _ hSw.1).trans (by rfl : _ = some (.pointer (some ⟨jq, 0, none⟩))); have c3 := (cell_of_row _ _ 3 _ _ _ hSw.1).trans (by rfl : _ = some (.pointer (some ⟨kq, 0, none⟩))); have a1 := JA.c1 hSw.2; have a2 := JA.c2 hSw.2; have a3 := JA.c3 hSw.2; have a4 := JA.c4 hSw.2; clear hSw; go_simp; try rfl
  simp only [List.getElem_toArray, List.getElem_cons_zero, List.getElem_cons_succ, Act.put, List.setIfInBounds_toArray, List.set_cons_zero, List.set_cons_succ]
  refine wpAnyH_take (i := 2) (v := ?_) rfl (by kernel_rfl) (by kernel_rfl) (by kernel_rfl) (fun _ _ _ h => h) (Or.inl ⟨by rfl, ?_⟩) hHeld ?_
  rotate_left
  · intro w hSw; have c0 := (cell_of_row _ _ 0 _ _ _ hSw.1).trans (by rfl : _ = some (.pointer (some ⟨p, 0, none⟩))); have c1 := (cell_of_row _ _ 1 _ _ _ hSw.1).trans (by rfl : _ = some (.pointer (some ⟨q, 0, none⟩))); have c2 := (cell_of_row _ _ 2 _ _ _ hSw.1).trans (by rfl : _ = some (.pointer (some ⟨jq, 0, none⟩))); have c3 := (cell_of_row _ _ 3 _ _ _ hSw.1).trans (by rfl : _ = some (.pointer (some ⟨kq, 0, none⟩))); have a1 := JA.c1 hSw.2; have a2 := JA.c2 hSw.2; have a3 := JA.c3 hSw.2; have a4 := JA.c4 hSw.2; clear hSw; go_simp; try rfl
  simp only [List.getElem_toArray, List.getElem_cons_zero, List.getElem_cons_succ, Act.put, List.setIfInBounds_toArray, List.set_cons_zero, List.set_cons_succ]
  refine wpAnyH_take (i := 3) (v := ?_) rfl (by kernel_rfl) (by kernel_rfl) (by kernel_rfl) (fun _ _ _ h => h) (Or.inl ⟨by rfl, ?_⟩) hHeld ?_
  rotate_left
  · intro w hSw; have c0 := (cell_of_row _ _ 0 _ _ _ hSw.1).trans (by rfl : _ = some (.pointer (some ⟨p, 0, none⟩))); have c1 := (cell_of_row _ _ 1 _ _ _ hSw.1).trans (by rfl : _ = some (.pointer (some ⟨q, 0, none⟩))); have c2 := (cell_of_row _ _ 2 _ _ _ hSw.1).trans (by rfl : _ = some (.pointer (some ⟨jq, 0, none⟩))); have c3 := (cell_of_row _ _ 3 _ _ _ hSw.1).trans (by rfl : _ = some (.pointer (some ⟨kq, 0, none⟩))); have a1 := JA.c1 hSw.2; have a2 := JA.c2 hSw.2; have a3 := JA.c3 hSw.2; have a4 := JA.c4 hSw.2; clear hSw; go_simp; try rfl
  simp only [List.getElem_toArray, List.getElem_cons_zero, List.getElem_cons_succ, Act.put, List.setIfInBounds_toArray, List.set_cons_zero, List.set_cons_succ]
  refine wpAnyH_take (i := 4) (v := ?_) rfl (by kernel_rfl) (by kernel_rfl) (by kernel_rfl) (fun _ _ _ h => h) (Or.inl ⟨by rfl, ?_⟩) hHeld ?_
  rotate_left
  · intro w hSw; have c0 := (cell_of_row _ _ 0 _ _ _ hSw.1).trans (by rfl : _ = some (.pointer (some ⟨p, 0, none⟩))); have c1 := (cell_of_row _ _ 1 _ _ _ hSw.1).trans (by rfl : _ = some (.pointer (some ⟨q, 0, none⟩))); have c2 := (cell_of_row _ _ 2 _ _ _ hSw.1).trans (by rfl : _ = some (.pointer (some ⟨jq, 0, none⟩))); have c3 := (cell_of_row _ _ 3 _ _ _ hSw.1).trans (by rfl : _ = some (.pointer (some ⟨kq, 0, none⟩))); have a1 := JA.c1 hSw.2; have a2 := JA.c2 hSw.2; have a3 := JA.c3 hSw.2; have a4 := JA.c4 hSw.2; clear hSw; go_simp; try rfl
  simp only [List.getElem_toArray, List.getElem_cons_zero, List.getElem_cons_succ, Act.put, List.setIfInBounds_toArray, List.set_cons_zero, List.set_cons_succ]
  refine wpAnyH_take (i := 5) (v := ?_) rfl (by kernel_rfl) (by kernel_rfl) (by kernel_rfl) (fun _ _ _ h => h) (Or.inl ⟨by rfl, ?_⟩) hHeld ?_
  rotate_left
  · intro w hSw; have c0 := (cell_of_row _ _ 0 _ _ _ hSw.1).trans (by rfl : _ = some (.pointer (some ⟨p, 0, none⟩))); have c1 := (cell_of_row _ _ 1 _ _ _ hSw.1).trans (by rfl : _ = some (.pointer (some ⟨q, 0, none⟩))); have c2 := (cell_of_row _ _ 2 _ _ _ hSw.1).trans (by rfl : _ = some (.pointer (some ⟨jq, 0, none⟩))); have c3 := (cell_of_row _ _ 3 _ _ _ hSw.1).trans (by rfl : _ = some (.pointer (some ⟨kq, 0, none⟩))); have a1 := JA.c1 hSw.2; have a2 := JA.c2 hSw.2; have a3 := JA.c3 hSw.2; have a4 := JA.c4 hSw.2; clear hSw; go_simp; try rfl
  simp only [List.getElem_toArray, List.getElem_cons_zero, List.getElem_cons_succ, Act.put, List.setIfInBounds_toArray, List.set_cons_zero, List.set_cons_succ]
  refine wpAnyH_take (i := 6) (v := ?_) rfl (by kernel_rfl) (by kernel_rfl) (by kernel_rfl) (fun _ _ _ h => h) (Or.inl ⟨by rfl, ?_⟩) hHeld ?_
  rotate_left
  · intro w hSw; have c0 := (cell_of_row _ _ 0 _ _ _ hSw.1).trans (by rfl : _ = some (.pointer (some ⟨p, 0, none⟩))); have c1 := (cell_of_row _ _ 1 _ _ _ hSw.1).trans (by rfl : _ = some (.pointer (some ⟨q, 0, none⟩))); have c2 := (cell_of_row _ _ 2 _ _ _ hSw.1).trans (by rfl : _ = some (.pointer (some ⟨jq, 0, none⟩))); have c3 := (cell_of_row _ _ 3 _ _ _ hSw.1).trans (by rfl : _ = some (.pointer (some ⟨kq, 0, none⟩))); have a1 := JA.c1 hSw.2; have a2 := JA.c2 hSw.2; have a3 := JA.c3 hSw.2; have a4 := JA.c4 hSw.2; clear hSw; go_simp; try rfl
  simp only [List.getElem_toArray, List.getElem_cons_zero, List.getElem_cons_succ, Act.put, List.setIfInBounds_toArray, List.set_cons_zero, List.set_cons_succ]
  refine wpAnyH_take (i := 7) (v := ?_) rfl (by kernel_rfl) (by kernel_rfl) (by kernel_rfl) (fun _ _ _ h => h) (Or.inl ⟨by rfl, ?_⟩) hHeld ?_
  rotate_left
  · intro w hSw; have c0 := (cell_of_row _ _ 0 _ _ _ hSw.1).trans (by rfl : _ = some (.pointer (some ⟨p, 0, none⟩))); have c1 := (cell_of_row _ _ 1 _ _ _ hSw.1).trans (by rfl : _ = some (.pointer (some ⟨q, 0, none⟩))); have c2 := (cell_of_row _ _ 2 _ _ _ hSw.1).trans (by rfl : _ = some (.pointer (some ⟨jq, 0, none⟩))); have c3 := (cell_of_row _ _ 3 _ _ _ hSw.1).trans (by rfl : _ = some (.pointer (some ⟨kq, 0, none⟩))); have a1 := JA.c1 hSw.2; have a2 := JA.c2 hSw.2; have a3 := JA.c3 hSw.2; have a4 := JA.c4 hSw.2; clear hSw; go_simp; try rfl
  simp only [List.getElem_toArray, List.getElem_cons_zero, List.getElem_cons_succ, Act.put, List.setIfInBounds_toArray, List.set_cons_zero, List.set_cons_succ]
  refine wpAnyH_take (i := 8) (v := ?_) rfl (by kernel_rfl) (by kernel_rfl) (by kernel_rfl) (fun _ _ _ h => h) (Or.inl ⟨by rfl, ?_⟩) hHeld ?_
  rotate_left
  · intro w hSw; have c0 := (cell_of_row _ _ 0 _ _ _ hSw.1).trans (by rfl : _ = some (.pointer (some ⟨p, 0, none⟩))); have c1 := (cell_of_row _ _ 1 _ _ _ hSw.1).trans (by rfl : _ = some (.pointer (some ⟨q, 0, none⟩))); have c2 := (cell_of_row _ _ 2 _ _ _ hSw.1).trans (by rfl : _ = some (.pointer (some ⟨jq, 0, none⟩))); have c3 := (cell_of_row _ _ 3 _ _ _ hSw.1).trans (by rfl : _ = some (.pointer (some ⟨kq, 0, none⟩))); have a1 := JA.c1 hSw.2; have a2 := JA.c2 hSw.2; have a3 := JA.c3 hSw.2; have a4 := JA.c4 hSw.2; clear hSw; go_simp; try rfl
  simp only [List.getElem_toArray, List.getElem_cons_zero, List.getElem_cons_succ, Act.put, List.setIfInBounds_toArray, List.set_cons_zero, List.set_cons_succ]
  refine wpAnyH_take (i := 9) (v := ?_) rfl (by kernel_rfl) (by kernel_rfl) (by kernel_rfl) (fun _ _ _ h => h) (Or.inl ⟨by rfl, ?_⟩) hHeld ?_
  rotate_left
  · intro w hSw; have c0 := (cell_of_row _ _ 0 _ _ _ hSw.1).trans (by rfl : _ = some (.pointer (some ⟨p, 0, none⟩))); have c1 := (cell_of_row _ _ 1 _ _ _ hSw.1).trans (by rfl : _ = some (.pointer (some ⟨q, 0, none⟩))); have c2 := (cell_of_row _ _ 2 _ _ _ hSw.1).trans (by rfl : _ = some (.pointer (some ⟨jq, 0, none⟩))); have c3 := (cell_of_row _ _ 3 _ _ _ hSw.1).trans (by rfl : _ = some (.pointer (some ⟨kq, 0, none⟩))); have a1 := JA.c1 hSw.2; have a2 := JA.c2 hSw.2; have a3 := JA.c3 hSw.2; have a4 := JA.c4 hSw.2; clear hSw; go_simp; try rfl
  simp only [List.getElem_toArray, List.getElem_cons_zero, List.getElem_cons_succ, Act.put, List.setIfInBounds_toArray, List.set_cons_zero, List.set_cons_succ]
  refine wpAnyH_take (i := 10) (v := ?_) rfl (by kernel_rfl) (by kernel_rfl) (by kernel_rfl) (fun _ _ _ h => h) (Or.inl ⟨by rfl, ?_⟩) hHeld ?_
  rotate_left
  · intro w hSw; have c0 := (cell_of_row _ _ 0 _ _ _ hSw.1).trans (by rfl : _ = some (.pointer (some ⟨p, 0, none⟩))); have c1 := (cell_of_row _ _ 1 _ _ _ hSw.1).trans (by rfl : _ = some (.pointer (some ⟨q, 0, none⟩))); have c2 := (cell_of_row _ _ 2 _ _ _ hSw.1).trans (by rfl : _ = some (.pointer (some ⟨jq, 0, none⟩))); have c3 := (cell_of_row _ _ 3 _ _ _ hSw.1).trans (by rfl : _ = some (.pointer (some ⟨kq, 0, none⟩))); have a1 := JA.c1 hSw.2; have a2 := JA.c2 hSw.2; have a3 := JA.c3 hSw.2; have a4 := JA.c4 hSw.2; clear hSw; go_simp; try rfl
  simp only [List.getElem_toArray, List.getElem_cons_zero, List.getElem_cons_succ, Act.put, List.setIfInBounds_toArray, List.set_cons_zero, List.set_cons_succ]
  refine wpAnyH_take (i := 11) (v := ?_) rfl (by kernel_rfl) (by kernel_rfl) (by kernel_rfl) (fun _ _ _ h => h) (Or.inl ⟨by rfl, ?_⟩) hHeld ?_
  rotate_left
  · intro w hSw; have c0 := (cell_of_row _ _ 0 _ _ _ hSw.1).trans (by rfl : _ = some (.pointer (some ⟨p, 0, none⟩))); have c1 := (cell_of_row _ _ 1 _ _ _ hSw.1).trans (by rfl : _ = some (.pointer (some ⟨q, 0, none⟩))); have c2 := (cell_of_row _ _ 2 _ _ _ hSw.1).trans (by rfl : _ = some (.pointer (some ⟨jq, 0, none⟩))); have c3 := (cell_of_row _ _ 3 _ _ _ hSw.1).trans (by rfl : _ = some (.pointer (some ⟨kq, 0, none⟩))); have a1 := JA.c1 hSw.2; have a2 := JA.c2 hSw.2; have a3 := JA.c3 hSw.2; have a4 := JA.c4 hSw.2; clear hSw; go_simp; try rfl
  simp only [List.getElem_toArray, List.getElem_cons_zero, List.getElem_cons_succ, Act.put, List.setIfInBounds_toArray, List.set_cons_zero, List.set_cons_succ]
  refine wpAnyH_take (i := 13) (v := ?_) rfl (by kernel_rfl) (by kernel_rfl) (by kernel_rfl) (fun _ _ _ h => h) (Or.inl ⟨by rfl, ?_⟩) hHeld ?_
  rotate_left
  · intro w hSw; have c0 := (cell_of_row _ _ 0 _ _ _ hSw.1).trans (by rfl : _ = some (.pointer (some ⟨p, 0, none⟩))); have c1 := (cell_of_row _ _ 1 _ _ _ hSw.1).trans (by rfl : _ = some (.pointer (some ⟨q, 0, none⟩))); have c2 := (cell_of_row _ _ 2 _ _ _ hSw.1).trans (by rfl : _ = some (.pointer (some ⟨jq, 0, none⟩))); have c3 := (cell_of_row _ _ 3 _ _ _ hSw.1).trans (by rfl : _ = some (.pointer (some ⟨kq, 0, none⟩))); have a1 := JA.c1 hSw.2; have a2 := JA.c2 hSw.2; have a3 := JA.c3 hSw.2; have a4 := JA.c4 hSw.2; clear hSw; go_simp; try rfl
  simp only [List.getElem_toArray, List.getElem_cons_zero, List.getElem_cons_succ, Act.put, List.setIfInBounds_toArray, List.set_cons_zero, List.set_cons_succ]
  refine wpAnyH_take (i := 14) (v := ?_) rfl (by kernel_rfl) (by kernel_rfl) (by kernel_rfl) (fun _ _ _ h => h) (Or.inl ⟨by rfl, ?_⟩) hHeld ?_
  rotate_left
  · intro w hSw; have c0 := (cell_of_row _ _ 0 _ _ _ hSw.1).trans (by rfl : _ = some (.pointer (some ⟨p, 0, none⟩))); have c1 := (cell_of_row _ _ 1 _ _ _ hSw.1).trans (by rfl : _ = some (.pointer (some ⟨q, 0, none⟩))); have c2 := (cell_of_row _ _ 2 _ _ _ hSw.1).trans (by rfl : _ = some (.pointer (some ⟨jq, 0, none⟩))); have c3 := (cell_of_row _ _ 3 _ _ _ hSw.1).trans (by rfl : _ = some (.pointer (some ⟨kq, 0, none⟩))); have a1 := JA.c1 hSw.2; have a2 := JA.c2 hSw.2; have a3 := JA.c3 hSw.2; have a4 := JA.c4 hSw.2; clear hSw; go_simp; try rfl
  simp only [List.getElem_toArray, List.getElem_cons_zero, List.getElem_cons_succ, Act.put, List.setIfInBounds_toArray, List.set_cons_zero, List.set_cons_succ]
  refine wpAnyH_take (i := 15) (v := ?_) rfl (by kernel_rfl) (by kernel_rfl) (by kernel_rfl) (fun _ _ _ h => h) (Or.inl ⟨by rfl, ?_⟩) hHeld ?_
  rotate_left
  · intro w hSw; have c0 := (cell_of_row _ _ 0 _ _ _ hSw.1).trans (by rfl : _ = some (.pointer (some ⟨p, 0, none⟩))); have c1 := (cell_of_row _ _ 1 _ _ _ hSw.1).trans (by rfl : _ = some (.pointer (some ⟨q, 0, none⟩))); have c2 := (cell_of_row _ _ 2 _ _ _ hSw.1).trans (by rfl : _ = some (.pointer (some ⟨jq, 0, none⟩))); have c3 := (cell_of_row _ _ 3 _ _ _ hSw.1).trans (by rfl : _ = some (.pointer (some ⟨kq, 0, none⟩))); have a1 := JA.c1 hSw.2; have a2 := JA.c2 hSw.2; have a3 := JA.c3 hSw.2; have a4 := JA.c4 hSw.2; clear hSw; go_simp; try rfl
  simp only [List.getElem_toArray, List.getElem_cons_zero, List.getElem_cons_succ, Act.put, List.setIfInBounds_toArray, List.set_cons_zero, List.set_cons_succ]
  refine wpAnyH_take (i := 16) (v := ?_) rfl (by kernel_rfl) (by kernel_rfl) (by kernel_rfl) (fun _ _ _ h => h) (Or.inl ⟨by rfl, ?_⟩) hHeld ?_
  rotate_left
  · intro w hSw; have c0 := (cell_of_row _ _ 0 _ _ _ hSw.1).trans (by rfl : _ = some (.pointer (some ⟨p, 0, none⟩))); have c1 := (cell_of_row _ _ 1 _ _ _ hSw.1).trans (by rfl : _ = some (.pointer (some ⟨q, 0, none⟩))); have c2 := (cell_of_row _ _ 2 _ _ _ hSw.1).trans (by rfl : _ = some (.pointer (some ⟨jq, 0, none⟩))); have c3 := (cell_of_row _ _ 3 _ _ _ hSw.1).trans (by rfl : _ = some (.pointer (some ⟨kq, 0, none⟩))); have a1 := JA.c1 hSw.2; have a2 := JA.c2 hSw.2; have a3 := JA.c3 hSw.2; have a4 := JA.c4 hSw.2; clear hSw; go_simp; try rfl
  simp only [List.getElem_toArray, List.getElem_cons_zero, List.getElem_cons_succ, Act.put, List.setIfInBounds_toArray, List.set_cons_zero, List.set_cons_succ]
  refine wpAnyH_take (i := 17) (v := ?_) rfl (by kernel_rfl) (by kernel_rfl) (by kernel_rfl) (fun _ _ _ h => h) (Or.inl ⟨by rfl, ?_⟩) hHeld ?_
  rotate_left
  · intro w hSw; have c0 := (cell_of_row _ _ 0 _ _ _ hSw.1).trans (by rfl : _ = some (.pointer (some ⟨p, 0, none⟩))); have c1 := (cell_of_row _ _ 1 _ _ _ hSw.1).trans (by rfl : _ = some (.pointer (some ⟨q, 0, none⟩))); have c2 := (cell_of_row _ _ 2 _ _ _ hSw.1).trans (by rfl : _ = some (.pointer (some ⟨jq, 0, none⟩))); have c3 := (cell_of_row _ _ 3 _ _ _ hSw.1).trans (by rfl : _ = some (.pointer (some ⟨kq, 0, none⟩))); have a1 := JA.c1 hSw.2; have a2 := JA.c2 hSw.2; have a3 := JA.c3 hSw.2; have a4 := JA.c4 hSw.2; clear hSw; go_simp; try rfl
  simp only [List.getElem_toArray, List.getElem_cons_zero, List.getElem_cons_succ, Act.put, List.setIfInBounds_toArray, List.set_cons_zero, List.set_cons_succ]
  refine wpAnyH_take (i := 18) (v := ?_) rfl (by kernel_rfl) (by kernel_rfl) (by kernel_rfl) (fun _ _ _ h => h) (Or.inl ⟨by rfl, ?_⟩) hHeld ?_
  rotate_left
  · intro w hSw; have c0 := (cell_of_row _ _ 0 _ _ _ hSw.1).trans (by rfl : _ = some (.pointer (some ⟨p, 0, none⟩))); have c1 := (cell_of_row _ _ 1 _ _ _ hSw.1).trans (by rfl : _ = some (.pointer (some ⟨q, 0, none⟩))); have c2 := (cell_of_row _ _ 2 _ _ _ hSw.1).trans (by rfl : _ = some (.pointer (some ⟨jq, 0, none⟩))); have c3 := (cell_of_row _ _ 3 _ _ _ hSw.1).trans (by rfl : _ = some (.pointer (some ⟨kq, 0, none⟩))); have a1 := JA.c1 hSw.2; have a2 := JA.c2 hSw.2; have a3 := JA.c3 hSw.2; have a4 := JA.c4 hSw.2; clear hSw; go_simp; try rfl
  simp only [List.getElem_toArray, List.getElem_cons_zero, List.getElem_cons_succ, Act.put, List.setIfInBounds_toArray, List.set_cons_zero, List.set_cons_succ]
  refine wpAnyH_ready (rs := [12]) (by kernel_rfl) (by simp) ?_
  refine AllReadyH.cons rfl (fun K hK => ?_) AllReadyH.nil
  rw [if_pos (by rfl)]
  go_simp
  refine (HJ.out).mono ?_
  rintro e w2 ⟨F2, rfl, hj2, hc2, hs2⟩
  have hq2 := (hc2.block D hD1.lt hD1.dF).trans hHeld.1
  have ha2 := (hc2.block w.heap.size hHlt hHF).trans hHeld.2
  refine hK.out _ _ ⟨hq2, ha2⟩ (fun hHeld => ?_)
  clear hK K
  have hr2 := desk_mid hD1 hc2
  have hk2 := (RK.kept (hD1.docu rfl) hc2).rj hr2
  refine wpAnyH_ready (rs := [19]) (by kernel_rfl) (by simp) ?_
  refine AllReadyH.cons rfl (fun K hK => ?_) AllReadyH.nil
  rw [if_pos (by rfl)]
  go_simp
  refine (HK.out w2 hk2 (hB1.keepF hc2 hBF)).mono ?_
  rintro e w3 ⟨G3, rfl, hk3, hc3, hs3⟩
  have hGx := hD1.dG
  have hq3 := (hc3.block D (Nat.lt_of_lt_of_le hD1.lt hc2.size) hD1.dG).trans hHeld.1
  have ha3 := (hc3.block w.heap.size (Nat.lt_of_lt_of_le hHlt hc2.size) hHG).trans hHeld.2
  refine hK.out _ _ ⟨hq3, ha3⟩ (fun hHeld => ?_)
  clear hK K
  refine wpAnyH_take (i := 20) (v := ?_) rfl (by kernel_rfl) (by kernel_rfl) (by kernel_rfl) (fun _ _ _ h => h) (Or.inl ⟨by rfl, ?_⟩) hHeld ?_
  rotate_left
  · intro w hSw; have c0 := (cell_of_row _ _ 0 _ _ _ hSw.1).trans (by rfl : _ = some (.pointer (some ⟨p, 0, none⟩))); have c1 := (cell_of_row _ _ 1 _ _ _ hSw.1).trans (by rfl : _ = some (.pointer (some ⟨q, 0, none⟩))); have c2 := (cell_of_row _ _ 2 _ _ _ hSw.1).trans (by rfl : _ = some (.pointer (some ⟨jq, 0, none⟩))); have c3 := (cell_of_row _ _ 3 _ _ _ hSw.1).trans (by rfl : _ = some (.pointer (some ⟨kq, 0, none⟩))); have a1 := JA.c1 hSw.2; have a2 := JA.c2 hSw.2; have a3 := JA.c3 hSw.2; have a4 := JA.c4 hSw.2; clear hSw; go_simp; try rfl
  simp only [List.getElem_toArray, List.getElem_cons_zero, List.getElem_cons_succ, Act.put, List.setIfInBounds_toArray, List.set_cons_zero, List.set_cons_succ]
  refine wpAnyH_take (i := 21) (v := ?_) rfl (by kernel_rfl) (by kernel_rfl) (by kernel_rfl) (fun _ _ _ h => h) (Or.inl ⟨by rfl, ?_⟩) hHeld ?_
  rotate_left
  · intro w hSw; have c0 := (cell_of_row _ _ 0 _ _ _ hSw.1).trans (by rfl : _ = some (.pointer (some ⟨p, 0, none⟩))); have c1 := (cell_of_row _ _ 1 _ _ _ hSw.1).trans (by rfl : _ = some (.pointer (some ⟨q, 0, none⟩))); have c2 := (cell_of_row _ _ 2 _ _ _ hSw.1).trans (by rfl : _ = some (.pointer (some ⟨jq, 0, none⟩))); have c3 := (cell_of_row _ _ 3 _ _ _ hSw.1).trans (by rfl : _ = some (.pointer (some ⟨kq, 0, none⟩))); have a1 := JA.c1 hSw.2; have a2 := JA.c2 hSw.2; have a3 := JA.c3 hSw.2; have a4 := JA.c4 hSw.2; clear hSw; go_simp; try rfl
  simp only [List.getElem_toArray, List.getElem_cons_zero, List.getElem_cons_succ, Act.put, List.setIfInBounds_toArray, List.set_cons_zero, List.set_cons_succ]
  refine wpAnyH_take (i := 22) (v := ?_) rfl (by kernel_rfl) (by kernel_rfl) (by kernel_rfl) (fun _ _ _ h => h) (Or.inl ⟨by rfl, ?_⟩) hHeld ?_
  rotate_left
  · intro w hSw; have c0 := (cell_of_row _ _ 0 _ _ _ hSw.1).trans (by rfl : _ = some (.pointer (some ⟨p, 0, none⟩))); have c1 := (cell_of_row _ _ 1 _ _ _ hSw.1).trans (by rfl : _ = some (.pointer (some ⟨q, 0, none⟩))); have c2 := (cell_of_row _ _ 2 _ _ _ hSw.1).trans (by rfl : _ = some (.pointer (some ⟨jq, 0, none⟩))); have c3 := (cell_of_row _ _ 3 _ _ _ hSw.1).trans (by rfl : _ = some (.pointer (some ⟨kq, 0, none⟩))); have a1 := JA.c1 hSw.2; have a2 := JA.c2 hSw.2; have a3 := JA.c3 hSw.2; have a4 := JA.c4 hSw.2; clear hSw; go_simp; try rfl
  simp only [List.getElem_toArray, List.getElem_cons_zero, List.getElem_cons_succ, Act.put, List.setIfInBounds_toArray, List.set_cons_zero, List.set_cons_succ]
  refine wpAnyH_done (by kernel_rfl) ?_ _
  have hfin := desk_step (b' := some true) hD1 hc2 hs2 hj2.there hj2.df (fun _ => hj2) (.inl rfl) hc3 hs3 (hk3.rd (RK.heapq (hD1.docu rfl) hc2 hc3))
  have HFIN := Lib.hid hfin
  clear hfin hHeld hj2 hk3 hk2 hr2 hc2 hc3 hs2 hs3 hD1 HJ HK hq2 hq3 ha2 ha3
  go_wp2_with fail
  go_ret
  exact ⟨F2, G3, rfl, HFIN.out⟩
set_option maxHeartbeats 4000000 in
set_option maxRecDepth 100000 in
theorem desk_act1 (a : JA) (ha : a.Ok w0) (hk : a.kind = 1) (hlen : ¬ 20000 < a.bn) {N : Nat} {k : hd.H} (f : jn.Fit s N k) (hn : hd.num (N + 1) = true) (hm : s.many + 8400 < 1048576) (h : DK w0 w D p q F G jv kv s (some true)) (ht : Tabs w0) :
    Calls Tryz.prog 7 #[.pointer (some ⟨D, 0, none⟩), .agg a.cells.toArray] w fun e w' => ∃ F' G', e = .returned (.bool true) ∧ DK w0 w' D p q F' G' jv kv (jn.replace s k a.bl).2 (some true) := by
  obtain ⟨jq, rfl⟩ := (h.prog rfl).form
  obtain ⟨kq, rfl, -⟩ := h.docu rfl
  have b1 : Below w.heap.size w (w.alloc (.cells a.cells.toArray 39)) := (Below.refl _ _).alloc (Nat.le_refl _) _
  have r1 := heap_alloc_new w (.cells a.cells.toArray 39)
  have z0 := JA.c0 r1
  have z4 := JA.c4 r1
  rw [hk] at z0
  have hlen' : (a.bn : Int) ≤ 20000 := by omega
  have hD1 := h.below b1.drew
  have hHlt : w.heap.size < (w.alloc (.cells a.cells.toArray 39)).drew.heap.size := (Array.getElem?_eq_some_iff.1 r1).1
  have hr1d : (w.alloc (.cells a.cells.toArray 39)).drew.heap[w.heap.size]? = some (.cells a.cells.toArray 39 (0, 0)) := r1
  have hHF : w.heap.size ∉ F := fun hm => Nat.lt_irrefl _ (h.thF _ hm)
  have hHG : w.heap.size ∉ G := fun hm => Nat.lt_irrefl _ (h.thG _ hm)
  have hlt0 : ∀ x o, 0 < a.bn → a.bA = some ⟨x, o, none⟩ → x < w0.heap.size := fun x o h0 e => by
    obtain ⟨b, o', e', hb, _⟩ := ha.b.has h0
    rw [e] at e'
    injection e' with e'
    injection e' with e' _ _
    omega
  have hBF : 0 < a.bn → ∀ x o, a.bA = some ⟨x, o, none⟩ → x ∉ F := fun h0 x o e hm => by have := h.ownF x hm; have := hlt0 x o h0 e; omega
  have hB1 : BS (w.alloc (.cells a.cells.toArray 39)).drew a.bA a.bn a.bc a.bl := ha.b.below hD1.under
  have HJ := Lib.hid (jf_replaceF (hD1.prog rfl) ht f hn (by omega) hB1 hBF)
  have HK := Lib.hid (fun W (hW : RJ W G (.pointer (some ⟨kq, 0, none⟩)) s) (hB : BS W a.bA a.bn a.bc a.bl) => rj_replace hW hB (by omega) ⟨by omega, by rw [f.sure]; simp⟩)
  rw [f.new] at HK
  clear hk
  go_enter Tryz.func7, Tryz.ntmps7
  go_wp2_with fail
  refine wp_region_held_drew (S := fun W => W.heap[D]? = some (.cells #[.pointer (some ⟨p, 0, none⟩), .pointer (some ⟨q, 0, none⟩), .pointer (some ⟨jq, 0, none⟩), .pointer (some ⟨kq, 0, none⟩)] 34 (0, 0)) ∧ W.heap[w.heap.size]? = some (.cells a.cells.toArray 39 (0, 0))) (by kernel_rfl) ⟨hD1.cell, hr1d⟩ (fun hHeld => ?_)
  refine wpAnyH_take (i := 0) (v := ?_) rfl (by kernel_rfl) (by kernel_rfl) (by kernel_rfl) (fun _ _ _ h => h) (Or.inl ⟨by rfl, ?_⟩) hHeld ?_
  rotate_left
  · intro w hSw; have c0 := (cell_of_row _ _ 0 _ _ _ hSw.1).trans (by rfl : _ = some (.pointer (some ⟨p, 0, none⟩))); have c1 := (cell_of_row _ _ 1 _ _ _ hSw.1).trans (by rfl : _ = some (.pointer (some ⟨q, 0, none⟩))); have c2 := (cell_of_row _ _ 2 _ _ _ hSw.1).trans (by rfl : _ = some (.pointer (some ⟨jq, 0, none⟩))); have c3 := (cell_of_row _ _ 3 _ _ _ hSw.1).trans (by rfl : _ = some (.pointer (some ⟨kq, 0, none⟩))); have a1 := JA.c1 hSw.2; have a2 := JA.c2 hSw.2; have a3 := JA.c3 hSw.2; have a4 := JA.c4 hSw.2; clear hSw; go_simp; try rfl
  simp only [List.getElem_toArray, List.getElem_cons_zero, Act.put, List.setIfInBounds_toArray, List.set_cons_zero, List.set_cons_succ]
  refine wpAnyH_take (i := 1) (v := ?_) rfl (by kernel_rfl) (by kernel_rfl) (by kernel_rfl) (fun _ _ _ h => h) (Or.inl ⟨by rfl, ?_⟩) hHeld ?_
  rotate_left
  · intro w hSw; have c0 := (cell_of_row _ _ 0 _ _ _ hSw.1).trans (by rfl : _ = some (.pointer (some ⟨p, 0, none⟩))); have c1 := (cell_of_row _ _ 1 _ _ _ hSw.1).trans (by rfl : _ = some (.pointer (some ⟨q, 0, none⟩))); have c2 := (cell_of_row _ _ 2 _ _ _ hSw.1).trans (by rfl : _ = some (.pointer (some ⟨jq, 0, none⟩))); have c3 := (cell_of_row _ _ 3 _ _ _ hSw.1).trans (by rfl : _ = some (.pointer (some ⟨kq, 0, none⟩))); have a1 := JA.c1 hSw.2; have a2 := JA.c2 hSw.2; have a3 := JA.c3 hSw.2; have a4 := JA.c4 hSw.2; clear hSw; go_simp; try rfl
  simp only [List.getElem_toArray, List.getElem_cons_zero, List.getElem_cons_succ, Act.put, List.setIfInBounds_toArray, List.set_cons_zero, List.set_cons_succ]
  refine wpAnyH_take (i := 2) (v := ?_) rfl (by kernel_rfl) (by kernel_rfl) (by kernel_rfl) (fun _ _ _ h => h) (Or.inl ⟨by rfl, ?_⟩) hHeld ?_
  rotate_left
  · intro w hSw; have c0 := (cell_of_row _ _ 0 _ _ _ hSw.1).trans (by rfl : _ = some (.pointer (some ⟨p, 0, none⟩))); have c1 := (cell_of_row _ _ 1 _ _ _ hSw.1).trans (by rfl : _ = some (.pointer (some ⟨q, 0, none⟩))); have c2 := (cell_of_row _ _ 2 _ _ _ hSw.1).trans (by rfl : _ = some (.pointer (some ⟨jq, 0, none⟩))); have c3 := (cell_of_row _ _ 3 _ _ _ hSw.1).trans (by rfl : _ = some (.pointer (some ⟨kq, 0, none⟩))); have a1 := JA.c1 hSw.2; have a2 := JA.c2 hSw.2; have a3 := JA.c3 hSw.2; have a4 := JA.c4 hSw.2; clear hSw; go_simp; try rfl
  simp only [List.getElem_toArray, List.getElem_cons_zero, List.getElem_cons_succ, Act.put, List.setIfInBounds_toArray, List.set_cons_zero, List.set_cons_succ]
  refine wpAnyH_take (i := 3) (v := ?_) rfl (by kernel_rfl) (by kernel_rfl) (by kernel_rfl) (fun _ _ _ h => h) (Or.inl ⟨by rfl, ?_⟩) hHeld ?_
  rotate_left
  · intro w hSw; have c0 := (cell_of_row _ _ 0 _ _ _ hSw.1).trans (by rfl : _ = some (.pointer (some ⟨p, 0, none⟩))); have c1 := (cell_of_row _ _ 1 _ _ _ hSw.1).trans (by rfl : _ = some (.pointer (some ⟨q, 0, none⟩))); have c2 := (cell_of_row _ _ 2 _ _ _ hSw.1).trans (by rfl : _ = some (.pointer (some ⟨jq, 0, none⟩))); have c3 := (cell_of_row _ _ 3 _ _ _ hSw.1).trans (by rfl : _ = some (.pointer (some ⟨kq, 0, none⟩))); have a1 := JA.c1 hSw.2; have a2 := JA.c2 hSw.2; have a3 := JA.c3 hSw.2; have a4 := JA.c4 hSw.2; clear hSw; go_simp; try rfl
  simp only [List.getElem_toArray, List.getElem_cons_zero, List.getElem_cons_succ, Act.put, List.setIfInBounds_toArray, List.set_cons_zero, List.set_cons_succ]
  refine wpAnyH_take (i := 4) (v := ?_) rfl (by kernel_rfl) (by kernel_rfl) (by kernel_rfl) (fun _ _ _ h => h) (Or.inl ⟨by rfl, ?_⟩) hHeld ?_
  rotate_left
  · intro w hSw; have c0 := (cell_of_row _ _ 0 _ _ _ hSw.1).trans (by rfl : _ = some (.pointer (some ⟨p, 0, none⟩))); have c1 := (cell_of_row _ _ 1 _ _ _ hSw.1).trans (by rfl : _ = some (.pointer (some ⟨q, 0, none⟩))); have c2 := (cell_of_row _ _ 2 _ _ _ hSw.1).trans (by rfl : _ = some (.pointer (some ⟨jq, 0, none⟩))); have c3 := (cell_of_row _ _ 3 _ _ _ hSw.1).trans (by rfl : _ = some (.pointer (some ⟨kq, 0, none⟩))); have a1 := JA.c1 hSw.2; have a2 := JA.c2 hSw.2; have a3 := JA.c3 hSw.2; have a4 := JA.c4 hSw.2; clear hSw; go_simp; try rfl
  simp only [List.getElem_toArray, List.getElem_cons_zero, List.getElem_cons_succ, Act.put, List.setIfInBounds_toArray, List.set_cons_zero, List.set_cons_succ]
  refine wpAnyH_take (i := 5) (v := ?_) rfl (by kernel_rfl) (by kernel_rfl) (by kernel_rfl) (fun _ _ _ h => h) (Or.inl ⟨by rfl, ?_⟩) hHeld ?_
  rotate_left
  · intro w hSw; have c0 := (cell_of_row _ _ 0 _ _ _ hSw.1).trans (by rfl : _ = some (.pointer (some ⟨p, 0, none⟩))); have c1 := (cell_of_row _ _ 1 _ _ _ hSw.1).trans (by rfl : _ = some (.pointer (some ⟨q, 0, none⟩))); have c2 := (cell_of_row _ _ 2 _ _ _ hSw.1).trans (by rfl : _ = some (.pointer (some ⟨jq, 0, none⟩))); have c3 := (cell_of_row _ _ 3 _ _ _ hSw.1).trans (by rfl : _ = some (.pointer (some ⟨kq, 0, none⟩))); have a1 := JA.c1 hSw.2; have a2 := JA.c2 hSw.2; have a3 := JA.c3 hSw.2; have a4 := JA.c4 hSw.2; clear hSw; go_simp; try rfl
  simp only [List.getElem_toArray, List.getElem_cons_zero, List.getElem_cons_succ, Act.put, List.setIfInBounds_toArray, List.set_cons_zero, List.set_cons_succ]
  refine wpAnyH_take (i := 6) (v := ?_) rfl (by kernel_rfl) (by kernel_rfl) (by kernel_rfl) (fun _ _ _ h => h) (Or.inl ⟨by rfl, ?_⟩) hHeld ?_
  rotate_left
  · intro w hSw; have c0 := (cell_of_row _ _ 0 _ _ _ hSw.1).trans (by rfl : _ = some (.pointer (some ⟨p, 0, none⟩))); have c1 := (cell_of_row _ _ 1 _ _ _ hSw.1).trans (by rfl : _ = some (.pointer (some ⟨q, 0, none⟩))); have c2 := (cell_of_row _ _ 2 _ _ _ hSw.1).trans (by rfl : _ = some (.pointer (some ⟨jq, 0, none⟩))); have c3 := (cell_of_row _ _ 3 _ _ _ hSw.1).trans (by rfl : _ = some (.pointer (some ⟨kq, 0, none⟩))); have a1 := JA.c1 hSw.2; have a2 := JA.c2 hSw.2; have a3 := JA.c3 hSw.2; have a4 := JA.c4 hSw.2; clear hSw; go_simp; try rfl
  simp only [List.getElem_toArray, List.getElem_cons_zero, List.getElem_cons_succ, Act.put, List.setIfInBounds_toArray, List.set_cons_zero, List.set_cons_succ]
  refine wpAnyH_take (i := 7) (v := ?_) rfl (by kernel_rfl) (by kernel_rfl) (by kernel_rfl) (fun _ _ _ h => h) (Or.inl ⟨by rfl, ?_⟩) hHeld ?_
  rotate_left
  · intro w hSw; have c0 := (cell_of_row _ _ 0 _ _ _ hSw.1).trans (by rfl : _ = some (.pointer (some ⟨p, 0, none⟩))); have c1 := (cell_of_row _ _ 1 _ _ _ hSw.1).trans (by rfl : _ = some (.pointer (some ⟨q, 0, none⟩))); have c2 := (cell_of_row _ _ 2 _ _ _ hSw.1).trans (by rfl : _ = some (.pointer (some ⟨jq, 0, none⟩))); have c3 := (cell_of_row _ _ 3 _ _ _ hSw.1).trans (by rfl : _ = some (.pointer (some ⟨kq, 0, none⟩))); have a1 := JA.c1 hSw.2; have a2 := JA.c2 hSw.2; have a3 := JA.c3 hSw.2; have a4 := JA.c4 hSw.2; clear hSw; go_simp; try rfl
  simp only [List.getElem_toArray, List.getElem_cons_zero, List.getElem_cons_succ, Act.put, List.setIfInBounds_toArray, List.set_cons_zero, List.set_cons_succ]
  refine wpAnyH_take (i := 8) (v := ?_) rfl (by kernel_rfl) (by kernel_rfl) (by kernel_rfl) (fun _ _ _ h => h) (Or.inl ⟨by rfl, ?_⟩) hHeld ?_
  rotate_left
  · intro w hSw; have c0 := (cell_of_row _ _ 0 _ _ _ hSw.1).trans (by rfl : _ = some (.pointer (some ⟨p, 0, none⟩))); have c1 := (cell_of_row _ _ 1 _ _ _ hSw.1).trans (by rfl : _ = some (.pointer (some ⟨q, 0, none⟩))); have c2 := (cell_of_row _ _ 2 _ _ _ hSw.1).trans (by rfl : _ = some (.pointer (some ⟨jq, 0, none⟩))); have c3 := (cell_of_row _ _ 3 _ _ _ hSw.1).trans (by rfl : _ = some (.pointer (some ⟨kq, 0, none⟩))); have a1 := JA.c1 hSw.2; have a2 := JA.c2 hSw.2; have a3 := JA.c3 hSw.2; have a4 := JA.c4 hSw.2; clear hSw; go_simp; try rfl
  simp only [List.getElem_toArray, List.getElem_cons_zero, List.getElem_cons_succ, Act.put, List.setIfInBounds_toArray, List.set_cons_zero, List.set_cons_succ]
  refine wpAnyH_take (i := 9) (v := ?_) rfl (by kernel_rfl) (by kernel_rfl) (by kernel_rfl) (fun _ _ _ h => h) (Or.inl ⟨by rfl, ?_⟩) hHeld ?_
  rotate_left
  · intro w hSw; have c0 := (cell_of_row _ _ 0 _ _ _ hSw.1).trans (by rfl : _ = some (.pointer (some ⟨p, 0, none⟩))); have c1 := (cell_of_row _ _ 1 _ _ _ hSw.1).trans (by rfl : _ = some (.pointer (some ⟨q, 0, none⟩))); have c2 := (cell_of_row _ _ 2 _ _ _ hSw.1).trans (by rfl : _ = some (.pointer (some ⟨jq, 0, none⟩))); have c3 := (cell_of_row _ _ 3 _ _ _ hSw.1).trans (by rfl : _ = some (.pointer (some ⟨kq, 0, none⟩))); have a1 := JA.c1 hSw.2; have a2 := JA.c2 hSw.2; have a3 := JA.c3 hSw.2; have a4 := JA.c4 hSw.2; clear hSw; go_simp; try rfl
  simp only [List.getElem_toArray, List.getElem_cons_zero, List.getElem_cons_succ, Act.put, List.setIfInBounds_toArray, List.set_cons_zero, List.set_cons_succ]
  refine wpAnyH_take (i := 10) (v := ?_) rfl (by kernel_rfl) (by kernel_rfl) (by kernel_rfl) (fun _ _ _ h => h) (Or.inl ⟨by rfl, ?_⟩) hHeld ?_
  rotate_left
  · intro w hSw; have c0 := (cell_of_row _ _ 0 _ _ _ hSw.1).trans (by rfl : _ = some (.pointer (some ⟨p, 0, none⟩))); have c1 := (cell_of_row _ _ 1 _ _ _ hSw.1).trans (by rfl : _ = some (.pointer (some ⟨q, 0, none⟩))); have c2 := (cell_of_row _ _ 2 _ _ _ hSw.1).trans (by rfl : _ = some (.pointer (some ⟨jq, 0, none⟩))); have c3 := (cell_of_row _ _ 3 _ _ _ hSw.1).trans (by rfl : _ = some (.pointer (some ⟨kq, 0, none⟩))); have a1 := JA.c1 hSw.2; have a2 := JA.c2 hSw.2; have a3 := JA.c3 hSw.2; have a4 := JA.c4 hSw.2; clear hSw; go_simp; try rfl
  simp only [List.getElem_toArray, List.getElem_cons_zero, List.getElem_cons_succ, Act.put, List.setIfInBounds_toArray, List.set_cons_zero, List.set_cons_succ]
  refine wpAnyH_take (i := 11) (v := ?_) rfl (by kernel_rfl) (by kernel_rfl) (by kernel_rfl) (fun _ _ _ h => h) (Or.inl ⟨by rfl, ?_⟩) hHeld ?_
  rotate_left
  · intro w hSw; have c0 := (cell_of_row _ _ 0 _ _ _ hSw.1).trans (by rfl : _ = some (.pointer (some ⟨p, 0, none⟩))); have c1 := (cell_of_row _ _ 1 _ _ _ hSw.1).trans (by rfl : _ = some (.pointer (some ⟨q, 0, none⟩))); have c2 := (cell_of_row _ _ 2 _ _ _ hSw.1).trans (by rfl : _ = some (.pointer (some ⟨jq, 0, none⟩))); have c3 := (cell_of_row _ _ 3 _ _ _ hSw.1).trans (by rfl : _ = some (.pointer (some ⟨kq, 0, none⟩))); have a1 := JA.c1 hSw.2; have a2 := JA.c2 hSw.2; have a3 := JA.c3 hSw.2; have a4 := JA.c4 hSw.2; clear hSw; go_simp; try rfl
  simp only [List.getElem_toArray, List.getElem_cons_zero, List.getElem_cons_succ, Act.put, List.setIfInBounds_toArray, List.set_cons_zero, List.set_cons_succ]
  refine wpAnyH_take (i := 13) (v := ?_) rfl (by kernel_rfl) (by kernel_rfl) (by kernel_rfl) (fun _ _ _ h => h) (Or.inl ⟨by rfl, ?_⟩) hHeld ?_
  rotate_left
  · intro w hSw; have c0 := (cell_of_row _ _ 0 _ _ _ hSw.1).trans (by rfl : _ = some (.pointer (some ⟨p, 0, none⟩))); have c1 := (cell_of_row _ _ 1 _ _ _ hSw.1).trans (by rfl : _ = some (.pointer (some ⟨q, 0, none⟩))); have c2 := (cell_of_row _ _ 2 _ _ _ hSw.1).trans (by rfl : _ = some (.pointer (some ⟨jq, 0, none⟩))); have c3 := (cell_of_row _ _ 3 _ _ _ hSw.1).trans (by rfl : _ = some (.pointer (some ⟨kq, 0, none⟩))); have a1 := JA.c1 hSw.2; have a2 := JA.c2 hSw.2; have a3 := JA.c3 hSw.2; have a4 := JA.c4 hSw.2; clear hSw; go_simp; try rfl
  simp only [List.getElem_toArray, List.getElem_cons_zero, List.getElem_cons_succ, Act.put, List.setIfInBounds_toArray, List.set_cons_zero, List.set_cons_succ]
  refine wpAnyH_take (i := 14) (v := ?_) rfl (by kernel_rfl) (by kernel_rfl) (by kernel_rfl) (fun _ _ _ h => h) (Or.inl ⟨by rfl, ?_⟩) hHeld ?_
  rotate_left
  · intro w hSw; have c0 := (cell_of_row _ _ 0 _ _ _ hSw.1).trans (by rfl : _ = some (.pointer (some ⟨p, 0, none⟩))); have c1 := (cell_of_row _ _ 1 _ _ _ hSw.1).trans (by rfl : _ = some (.pointer (some ⟨q, 0, none⟩))); have c2 := (cell_of_row _ _ 2 _ _ _ hSw.1).trans (by rfl : _ = some (.pointer (some ⟨jq, 0, none⟩))); have c3 := (cell_of_row _ _ 3 _ _ _ hSw.1).trans (by rfl : _ = some (.pointer (some ⟨kq, 0, none⟩))); have a1 := JA.c1 hSw.2; have a2 := JA.c2 hSw.2; have a3 := JA.c3 hSw.2; have a4 := JA.c4 hSw.2; clear hSw; go_simp; try rfl
  simp only [List.getElem_toArray, List.getElem_cons_zero, List.getElem_cons_succ, Act.put, List.setIfInBounds_toArray, List.set_cons_zero, List.set_cons_succ]
  refine wpAnyH_take (i := 15) (v := ?_) rfl (by kernel_rfl) (by kernel_rfl) (by kernel_rfl) (fun _ _ _ h => h) (Or.inl ⟨by rfl, ?_⟩) hHeld ?_
  rotate_left
  · intro w hSw; have c0 := (cell_of_row _ _ 0 _ _ _ hSw.1).trans (by rfl : _ = some (.pointer (some ⟨p, 0, none⟩))); have c1 := (cell_of_row _ _ 1 _ _ _ hSw.1).trans (by rfl : _ = some (.pointer (some ⟨q, 0, none⟩))); have c2 := (cell_of_row _ _ 2 _ _ _ hSw.1).trans (by rfl : _ = some (.pointer (some ⟨jq, 0, none⟩))); have c3 := (cell_of_row _ _ 3 _ _ _ hSw.1).trans (by rfl : _ = some (.pointer (some ⟨kq, 0, none⟩))); have a1 := JA.c1 hSw.2; have a2 := JA.c2 hSw.2; have a3 := JA.c3 hSw.2; have a4 := JA.c4 hSw.2; clear hSw; go_simp; try rfl
  simp only [List.getElem_toArray, List.getElem_cons_zero, List.getElem_cons_succ, Act.put, List.setIfInBounds_toArray, List.set_cons_zero, List.set_cons_succ]
  refine wpAnyH_take (i := 16) (v := ?_) rfl (by kernel_rfl) (by kernel_rfl) (by kernel_rfl) (fun _ _ _ h => h) (Or.inl ⟨by rfl, ?_⟩) hHeld ?_
  rotate_left
  · intro w hSw; have c0 := (cell_of_row _ _ 0 _ _ _ hSw.1).trans (by rfl : _ = some (.pointer (some ⟨p, 0, none⟩))); have c1 := (cell_of_row _ _ 1 _ _ _ hSw.1).trans (by rfl : _ = some (.pointer (some ⟨q, 0, none⟩))); have c2 := (cell_of_row _ _ 2 _ _ _ hSw.1).trans (by rfl : _ = some (.pointer (some ⟨jq, 0, none⟩))); have c3 := (cell_of_row _ _ 3 _ _ _ hSw.1).trans (by rfl : _ = some (.pointer (some ⟨kq, 0, none⟩))); have a1 := JA.c1 hSw.2; have a2 := JA.c2 hSw.2; have a3 := JA.c3 hSw.2; have a4 := JA.c4 hSw.2; clear hSw; go_simp; try rfl
  simp only [List.getElem_toArray, List.getElem_cons_zero, List.getElem_cons_succ, Act.put, List.setIfInBounds_toArray, List.set_cons_zero, List.set_cons_succ]
  refine wpAnyH_take (i := 17) (v := ?_) rfl (by kernel_rfl) (by kernel_rfl) (by kernel_rfl) (fun _ _ _ h => h) (Or.inl ⟨by rfl, ?_⟩) hHeld ?_
  rotate_left
  · intro w hSw; have c0 := (cell_of_row _ _ 0 _ _ _ hSw.1).trans (by rfl : _ = some (.pointer (some ⟨p, 0, none⟩))); have c1 := (cell_of_row _ _ 1 _ _ _ hSw.1).trans (by rfl : _ = some (.pointer (some ⟨q, 0, none⟩))); have c2 := (cell_of_row _ _ 2 _ _ _ hSw.1).trans (by rfl : _ = some (.pointer (some ⟨jq, 0, none⟩))); have c3 := (cell_of_row _ _ 3 _ _ _ hSw.1).trans (by rfl : _ = some (.pointer (some ⟨kq, 0, none⟩))); have a1 := JA.c1 hSw.2; have a2 := JA.c2 hSw.2; have a3 := JA.c3 hSw.2; have a4 := JA.c4 hSw.2; clear hSw; go_simp; try rfl
  simp only [List.getElem_toArray, List.getElem_cons_zero, List.getElem_cons_succ, Act.put, List.setIfInBounds_toArray, List.set_cons_zero, List.set_cons_succ]
  refine wpAnyH_take (i := 18) (v := ?_) rfl (by kernel_rfl) (by kernel_rfl) (by kernel_rfl) (fun _ _ _ h => h) (Or.inl ⟨by rfl, ?_⟩) hHeld ?_
  rotate_left
  · intro w hSw; have c0 := (cell_of_row _ _ 0 _ _ _ hSw.1).trans (by rfl : _ = some (.pointer (some ⟨p, 0, none⟩))); have c1 := (cell_of_row _ _ 1 _ _ _ hSw.1).trans (by rfl : _ = some (.pointer (some ⟨q, 0, none⟩))); have c2 := (cell_of_row _ _ 2 _ _ _ hSw.1).trans (by rfl : _ = some (.pointer (some ⟨jq, 0, none⟩))); have c3 := (cell_of_row _ _ 3 _ _ _ hSw.1).trans (by rfl : _ = some (.pointer (some ⟨kq, 0, none⟩))); have a1 := JA.c1 hSw.2; have a2 := JA.c2 hSw.2; have a3 := JA.c3 hSw.2; have a4 := JA.c4 hSw.2; clear hSw; go_simp; try rfl
  simp only [List.getElem_toArray, List.getElem_cons_zero, List.getElem_cons_succ, Act.put, List.setIfInBounds_toArray, List.set_cons_zero, List.set_cons_succ]
  refine wpAnyH_ready (rs := [12]) (by kernel_rfl) (by simp) ?_
  refine AllReadyH.cons rfl (fun K hK => ?_) AllReadyH.nil
  rw [if_pos (by rfl)]
  go_simp
  refine (HJ.out).mono ?_
  rintro e w2 ⟨F2, rfl, hj2, hc2, hs2⟩
  have hq2 := (hc2.block D hD1.lt hD1.dF).trans hHeld.1
  have ha2 := (hc2.block w.heap.size hHlt hHF).trans hHeld.2
  refine hK.out _ _ ⟨hq2, ha2⟩ (fun hHeld => ?_)
  clear hK K
  have hr2 := desk_mid hD1 hc2
  have hk2 := (RK.kept (hD1.docu rfl) hc2).rj hr2
  refine wpAnyH_ready (rs := [19]) (by kernel_rfl) (by simp) ?_
  refine AllReadyH.cons rfl (fun K hK => ?_) AllReadyH.nil
  rw [if_pos (by rfl)]
  go_simp
  refine (HK.out w2 hk2 (hB1.keepF hc2 hBF)).mono ?_
  rintro e w3 ⟨G3, rfl, hk3, hc3, hs3⟩
  have hGx := hD1.dG
  have hq3 := (hc3.block D (Nat.lt_of_lt_of_le hD1.lt hc2.size) hD1.dG).trans hHeld.1
  have ha3 := (hc3.block w.heap.size (Nat.lt_of_lt_of_le hHlt hc2.size) hHG).trans hHeld.2
  refine hK.out _ _ ⟨hq3, ha3⟩ (fun hHeld => ?_)
  clear hK K
  refine wpAnyH_take (i := 20) (v := ?_) rfl (by kernel_rfl) (by kernel_rfl) (by kernel_rfl) (fun _ _ _ h => h) (Or.inl ⟨by rfl, ?_⟩) hHeld ?_
  rotate_left
  · intro w hSw; have c0 := (cell_of_row _ _ 0 _ _ _ hSw.1).trans (by rfl : _ = some (.pointer (some ⟨p, 0, none⟩))); have c1 := (cell_of_row _ _ 1 _ _ _ hSw.1).trans (by rfl : _ = some (.pointer (some ⟨q, 0, none⟩))); have c2 := (cell_of_row _ _ 2 _ _ _ hSw.1).trans (by rfl : _ = some (.pointer (some ⟨jq, 0, none⟩))); have c3 := (cell_of_row _ _ 3 _ _ _ hSw.1).trans (by rfl : _ = some (.pointer (some ⟨kq, 0, none⟩))); have a1 := JA.c1 hSw.2; have a2 := JA.c2 hSw.2; have a3 := JA.c3 hSw.2; have a4 := JA.c4 hSw.2; clear hSw; go_simp; try rfl
  simp only [List.getElem_toArray, List.getElem_cons_zero, List.getElem_cons_succ, Act.put, List.setIfInBounds_toArray, List.set_cons_zero, List.set_cons_succ]
  refine wpAnyH_take (i := 21) (v := ?_) rfl (by kernel_rfl) (by kernel_rfl) (by kernel_rfl) (fun _ _ _ h => h) (Or.inl ⟨by rfl, ?_⟩) hHeld ?_
  rotate_left
  · intro w hSw; have c0 := (cell_of_row _ _ 0 _ _ _ hSw.1).trans (by rfl : _ = some (.pointer (some ⟨p, 0, none⟩))); have c1 := (cell_of_row _ _ 1 _ _ _ hSw.1).trans (by rfl : _ = some (.pointer (some ⟨q, 0, none⟩))); have c2 := (cell_of_row _ _ 2 _ _ _ hSw.1).trans (by rfl : _ = some (.pointer (some ⟨jq, 0, none⟩))); have c3 := (cell_of_row _ _ 3 _ _ _ hSw.1).trans (by rfl : _ = some (.pointer (some ⟨kq, 0, none⟩))); have a1 := JA.c1 hSw.2; have a2 := JA.c2 hSw.2; have a3 := JA.c3 hSw.2; have a4 := JA.c4 hSw.2; clear hSw; go_simp; try rfl
  simp only [List.getElem_toArray, List.getElem_cons_zero, List.getElem_cons_succ, Act.put, List.setIfInBounds_toArray, List.set_cons_zero, List.set_cons_succ]
  refine wpAnyH_take (i := 22) (v := ?_) rfl (by kernel_rfl) (by kernel_rfl) (by kernel_rfl) (fun _ _ _ h => h) (Or.inl ⟨by rfl, ?_⟩) hHeld ?_
  rotate_left
  · intro w hSw; have c0 := (cell_of_row _ _ 0 _ _ _ hSw.1).trans (by rfl : _ = some (.pointer (some ⟨p, 0, none⟩))); have c1 := (cell_of_row _ _ 1 _ _ _ hSw.1).trans (by rfl : _ = some (.pointer (some ⟨q, 0, none⟩))); have c2 := (cell_of_row _ _ 2 _ _ _ hSw.1).trans (by rfl : _ = some (.pointer (some ⟨jq, 0, none⟩))); have c3 := (cell_of_row _ _ 3 _ _ _ hSw.1).trans (by rfl : _ = some (.pointer (some ⟨kq, 0, none⟩))); have a1 := JA.c1 hSw.2; have a2 := JA.c2 hSw.2; have a3 := JA.c3 hSw.2; have a4 := JA.c4 hSw.2; clear hSw; go_simp; try rfl
  simp only [List.getElem_toArray, List.getElem_cons_zero, List.getElem_cons_succ, Act.put, List.setIfInBounds_toArray, List.set_cons_zero, List.set_cons_succ]
  refine wpAnyH_done (by kernel_rfl) ?_ _
  have hfin := desk_step (b' := some true) hD1 hc2 hs2 hj2.there hj2.df (fun _ => hj2) (.inl rfl) hc3 hs3 (hk3.rd (RK.heapq (hD1.docu rfl) hc2 hc3))
  have HFIN := Lib.hid hfin
  clear hfin hHeld hj2 hk3 hk2 hr2 hc2 hc3 hs2 hs3 hD1 HJ HK hq2 hq3 ha2 ha3
  go_wp2_with fail
  go_ret
  exact ⟨F2, G3, rfl, HFIN.out⟩
set_option maxHeartbeats 4000000 in
set_option maxRecDepth 100000 in
theorem desk_actL (a : JA) (hlen : 20000 < a.bn) (h : DK w0 w D p q F G jv kv s (some b)) :
    Calls Tryz.prog 7 #[.pointer (some ⟨D, 0, none⟩), .agg a.cells.toArray] w fun e w' => e = .returned (.bool true) ∧ DK w0 w' D p q F G jv kv s (some b) := by
  have b1 : Below w.heap.size w (w.alloc (.cells a.cells.toArray 39)) := (Below.refl _ _).alloc (Nat.le_refl _) _
  have r1 := heap_alloc_new w (.cells a.cells.toArray 39)
  have z0 := JA.c0 r1
  have z4 := JA.c4 r1
  have hlen' : (20000 : Int) < (a.bn : Int) := by omega
  go_enter Tryz.func7, Tryz.ntmps7
  go_wp2_with fail
  go_ret
  exact ⟨rfl, h.below b1⟩
set_option maxHeartbeats 4000000 in
set_option maxRecDepth 100000 in
theorem desk_no0 (a : JA) (hk : a.kind = 0) (hlen : ¬ 20000 < a.bn) (h : DK w0 w D p q F G jv kv s (some false)) :
    Calls Tryz.prog 7 #[.pointer (some ⟨D, 0, none⟩), .agg a.cells.toArray] w fun e w' => e = .returned (.bool true) ∧ DK w0 w' D p q F G jv kv s (some false) := by
  obtain ⟨rfl, rfl⟩ := h.no rfl
  have b1 : Below w.heap.size w (w.alloc (.cells a.cells.toArray 39)) := (Below.refl _ _).alloc (Nat.le_refl _) _
  have r1 := heap_alloc_new w (.cells a.cells.toArray 39)
  have z0 := JA.c0 r1
  have z4 := JA.c4 r1
  rw [hk] at z0
  have hlen' : (a.bn : Int) ≤ 20000 := by omega
  have hD1 := h.below b1
  have k3 := hD1.c3
  clear hk
  go_enter Tryz.func7, Tryz.ntmps7
  go_wp2_with fail
  refine wp_region_held_drew (S := fun W => W.heap[D]? = some (.cells #[.pointer (some ⟨p, 0, none⟩), .pointer (some ⟨q, 0, none⟩), .pointer none, .pointer none] 34 (0, 0))) (by kernel_rfl) hD1.cell (fun hHeld => ?_)
  refine wpAnyH_take (i := 0) (v := ?_) rfl (by kernel_rfl) (by kernel_rfl) (by kernel_rfl) (fun _ _ _ h => h) (Or.inl ⟨by rfl, ?_⟩) hHeld ?_
  rotate_left
  · intro w hSw; have c3 := (cell_of_row _ _ 3 _ _ _ hSw).trans (by rfl : _ = some (.pointer none)); clear hSw; go_simp; try rfl
  simp only [List.getElem_toArray, List.getElem_cons_zero, Act.put, List.setIfInBounds_toArray, List.set_cons_zero, List.set_cons_succ]
  refine wpAnyH_take (i := 1) (v := ?_) rfl (by kernel_rfl) (by kernel_rfl) (by kernel_rfl) (fun _ _ _ h => h) (Or.inl ⟨by rfl, ?_⟩) hHeld ?_
  rotate_left
  · intro w hSw; have c3 := (cell_of_row _ _ 3 _ _ _ hSw).trans (by rfl : _ = some (.pointer none)); clear hSw; go_simp; try rfl
  simp only [List.getElem_toArray, List.getElem_cons_zero, List.getElem_cons_succ, Act.put, List.setIfInBounds_toArray, List.set_cons_zero, List.set_cons_succ]
  refine wpAnyH_take (i := 2) (v := ?_) rfl (by kernel_rfl) (by kernel_rfl) (by kernel_rfl) (fun _ _ _ h => h) (Or.inl ⟨by rfl, ?_⟩) hHeld ?_
  rotate_left
  · intro w hSw; have c3 := (cell_of_row _ _ 3 _ _ _ hSw).trans (by rfl : _ = some (.pointer none)); clear hSw; go_simp; try rfl
  simp only [List.getElem_toArray, List.getElem_cons_zero, List.getElem_cons_succ, Act.put, List.setIfInBounds_toArray, List.set_cons_zero, List.set_cons_succ]
  refine wpAnyH_take (i := 3) (v := ?_) rfl (by kernel_rfl) (by kernel_rfl) (by kernel_rfl) (fun _ _ _ h => h) (Or.inl ⟨by rfl, ?_⟩) hHeld ?_
  rotate_left
  · intro w hSw; have c3 := (cell_of_row _ _ 3 _ _ _ hSw).trans (by rfl : _ = some (.pointer none)); clear hSw; go_simp; try rfl
  simp only [List.getElem_toArray, List.getElem_cons_zero, List.getElem_cons_succ, Act.put, List.setIfInBounds_toArray, List.set_cons_zero, List.set_cons_succ]
  refine wpAnyH_take (i := 4) (v := ?_) rfl (by kernel_rfl) (by kernel_rfl) (by kernel_rfl) (fun _ _ _ h => h) (Or.inl ⟨by rfl, ?_⟩) hHeld ?_
  rotate_left
  · intro w hSw; have c3 := (cell_of_row _ _ 3 _ _ _ hSw).trans (by rfl : _ = some (.pointer none)); clear hSw; go_simp; try rfl
  simp only [List.getElem_toArray, List.getElem_cons_zero, List.getElem_cons_succ, Act.put, List.setIfInBounds_toArray, List.set_cons_zero, List.set_cons_succ]
  refine wpAnyH_take (i := 5) (v := ?_) rfl (by kernel_rfl) (by kernel_rfl) (by kernel_rfl) (fun _ _ _ h => h) (Or.inl ⟨by rfl, ?_⟩) hHeld ?_
  rotate_left
  · intro w hSw; have c3 := (cell_of_row _ _ 3 _ _ _ hSw).trans (by rfl : _ = some (.pointer none)); clear hSw; go_simp; try rfl
  simp only [List.getElem_toArray, List.getElem_cons_zero, List.getElem_cons_succ, Act.put, List.setIfInBounds_toArray, List.set_cons_zero, List.set_cons_succ]
  refine wpAnyH_take (i := 6) (v := undef) rfl (by kernel_rfl) (by kernel_rfl) (by kernel_rfl) (fun _ _ _ h => h) (Or.inr ⟨by rfl, rfl⟩) hHeld ?_
  simp only [List.getElem_toArray, List.getElem_cons_zero, List.getElem_cons_succ, Act.put, List.setIfInBounds_toArray, List.set_cons_zero, List.set_cons_succ]
  refine wpAnyH_take (i := 7) (v := undef) rfl (by kernel_rfl) (by kernel_rfl) (by kernel_rfl) (fun _ _ _ h => h) (Or.inr ⟨by rfl, rfl⟩) hHeld ?_
  simp only [List.getElem_toArray, List.getElem_cons_zero, List.getElem_cons_succ, Act.put, List.setIfInBounds_toArray, List.set_cons_zero, List.set_cons_succ]
  refine wpAnyH_take (i := 8) (v := undef) rfl (by kernel_rfl) (by kernel_rfl) (by kernel_rfl) (fun _ _ _ h => h) (Or.inr ⟨by rfl, rfl⟩) hHeld ?_
  simp only [List.getElem_toArray, List.getElem_cons_zero, List.getElem_cons_succ, Act.put, List.setIfInBounds_toArray, List.set_cons_zero, List.set_cons_succ]
  refine wpAnyH_take (i := 9) (v := undef) rfl (by kernel_rfl) (by kernel_rfl) (by kernel_rfl) (fun _ _ _ h => h) (Or.inr ⟨by rfl, rfl⟩) hHeld ?_
  simp only [List.getElem_toArray, List.getElem_cons_zero, List.getElem_cons_succ, Act.put, List.setIfInBounds_toArray, List.set_cons_zero, List.set_cons_succ]
  refine wpAnyH_take (i := 10) (v := undef) rfl (by kernel_rfl) (by kernel_rfl) (by kernel_rfl) (fun _ _ _ h => h) (Or.inr ⟨by rfl, rfl⟩) hHeld ?_
  simp only [List.getElem_toArray, List.getElem_cons_zero, List.getElem_cons_succ, Act.put, List.setIfInBounds_toArray, List.set_cons_zero, List.set_cons_succ]
  refine wpAnyH_take (i := 11) (v := undef) rfl (by kernel_rfl) (by kernel_rfl) (by kernel_rfl) (fun _ _ _ h => h) (Or.inr ⟨by rfl, rfl⟩) hHeld ?_
  simp only [List.getElem_toArray, List.getElem_cons_zero, List.getElem_cons_succ, Act.put, List.setIfInBounds_toArray, List.set_cons_zero, List.set_cons_succ]
  refine wpAnyH_take (i := 12) (v := undef) rfl (by kernel_rfl) (by kernel_rfl) (by kernel_rfl) (fun _ _ _ h => h) (Or.inr ⟨by rfl, rfl⟩) hHeld ?_
  simp only [List.getElem_toArray, List.getElem_cons_zero, List.getElem_cons_succ, Act.put, List.setIfInBounds_toArray, List.set_cons_zero, List.set_cons_succ]
  refine wpAnyH_take (i := 13) (v := undef) rfl (by kernel_rfl) (by kernel_rfl) (by kernel_rfl) (fun _ _ _ h => h) (Or.inr ⟨by rfl, rfl⟩) hHeld ?_
  simp only [List.getElem_toArray, List.getElem_cons_zero, List.getElem_cons_succ, Act.put, List.setIfInBounds_toArray, List.set_cons_zero, List.set_cons_succ]
  refine wpAnyH_take (i := 14) (v := undef) rfl (by kernel_rfl) (by kernel_rfl) (by kernel_rfl) (fun _ _ _ h => h) (Or.inr ⟨by rfl, rfl⟩) hHeld ?_
  simp only [List.getElem_toArray, List.getElem_cons_zero, List.getElem_cons_succ, Act.put, List.setIfInBounds_toArray, List.set_cons_zero, List.set_cons_succ]
  refine wpAnyH_take (i := 15) (v := undef) rfl (by kernel_rfl) (by kernel_rfl) (by kernel_rfl) (fun _ _ _ h => h) (Or.inr ⟨by rfl, rfl⟩) hHeld ?_
  simp only [List.getElem_toArray, List.getElem_cons_zero, List.getElem_cons_succ, Act.put, List.setIfInBounds_toArray, List.set_cons_zero, List.set_cons_succ]
  refine wpAnyH_take (i := 16) (v := undef) rfl (by kernel_rfl) (by kernel_rfl) (by kernel_rfl) (fun _ _ _ h => h) (Or.inr ⟨by rfl, rfl⟩) hHeld ?_
  simp only [List.getElem_toArray, List.getElem_cons_zero, List.getElem_cons_succ, Act.put, List.setIfInBounds_toArray, List.set_cons_zero, List.set_cons_succ]
  refine wpAnyH_take (i := 17) (v := undef) rfl (by kernel_rfl) (by kernel_rfl) (by kernel_rfl) (fun _ _ _ h => h) (Or.inr ⟨by rfl, rfl⟩) hHeld ?_
  simp only [List.getElem_toArray, List.getElem_cons_zero, List.getElem_cons_succ, Act.put, List.setIfInBounds_toArray, List.set_cons_zero, List.set_cons_succ]
  refine wpAnyH_take (i := 18) (v := undef) rfl (by kernel_rfl) (by kernel_rfl) (by kernel_rfl) (fun _ _ _ h => h) (Or.inr ⟨by rfl, rfl⟩) hHeld ?_
  simp only [List.getElem_toArray, List.getElem_cons_zero, List.getElem_cons_succ, Act.put, List.setIfInBounds_toArray, List.set_cons_zero, List.set_cons_succ]
  refine wpAnyH_take (i := 19) (v := undef) rfl (by kernel_rfl) (by kernel_rfl) (by kernel_rfl) (fun _ _ _ h => h) (Or.inr ⟨by rfl, rfl⟩) hHeld ?_
  simp only [List.getElem_toArray, List.getElem_cons_zero, List.getElem_cons_succ, Act.put, List.setIfInBounds_toArray, List.set_cons_zero, List.set_cons_succ]
  refine wpAnyH_take (i := 20) (v := undef) rfl (by kernel_rfl) (by kernel_rfl) (by kernel_rfl) (fun _ _ _ h => h) (Or.inr ⟨by rfl, rfl⟩) hHeld ?_
  simp only [List.getElem_toArray, List.getElem_cons_zero, List.getElem_cons_succ, Act.put, List.setIfInBounds_toArray, List.set_cons_zero, List.set_cons_succ]
  refine wpAnyH_take (i := 21) (v := ?_) rfl (by kernel_rfl) (by kernel_rfl) (by kernel_rfl) (fun _ _ _ h => h) (Or.inl ⟨by rfl, ?_⟩) hHeld ?_
  rotate_left
  · intro w hSw; have c3 := (cell_of_row _ _ 3 _ _ _ hSw).trans (by rfl : _ = some (.pointer none)); clear hSw; go_simp; try rfl
  simp only [List.getElem_toArray, List.getElem_cons_zero, List.getElem_cons_succ, Act.put, List.setIfInBounds_toArray, List.set_cons_zero, List.set_cons_succ]
  refine wpAnyH_take (i := 22) (v := ?_) rfl (by kernel_rfl) (by kernel_rfl) (by kernel_rfl) (fun _ _ _ h => h) (Or.inl ⟨by rfl, ?_⟩) hHeld ?_
  rotate_left
  · intro w hSw; have c3 := (cell_of_row _ _ 3 _ _ _ hSw).trans (by rfl : _ = some (.pointer none)); clear hSw; go_simp; try rfl
  simp only [List.getElem_toArray, List.getElem_cons_zero, List.getElem_cons_succ, Act.put, List.setIfInBounds_toArray, List.set_cons_zero, List.set_cons_succ]
  refine wpAnyH_done (by kernel_rfl) ?_ _
  clear hHeld
  go_wp2_with fail
  go_ret
  exact ⟨rfl, hD1.below (Below.refl _ _).drew⟩
set_option maxHeartbeats 4000000 in
set_option maxRecDepth 100000 in
theorem desk_no1 (a : JA) (hk : a.kind = 1) (hlen : ¬ 20000 < a.bn) (h : DK w0 w D p q F G jv kv s (some false)) :
    Calls Tryz.prog 7 #[.pointer (some ⟨D, 0, none⟩), .agg a.cells.toArray] w fun e w' => e = .returned (.bool true) ∧ DK w0 w' D p q F G jv kv s (some false) := by
  obtain ⟨rfl, rfl⟩ := h.no rfl
  have b1 : Below w.heap.size w (w.alloc (.cells a.cells.toArray 39)) := (Below.refl _ _).alloc (Nat.le_refl _) _
  have r1 := heap_alloc_new w (.cells a.cells.toArray 39)
  have z0 := JA.c0 r1
  have z4 := JA.c4 r1
  rw [hk] at z0
  have hlen' : (a.bn : Int) ≤ 20000 := by omega
  have hD1 := h.below b1
  have k3 := hD1.c3
  clear hk
  go_enter Tryz.func7, Tryz.ntmps7
  go_wp2_with fail
  refine wp_region_held_drew (S := fun W => W.heap[D]? = some (.cells #[.pointer (some ⟨p, 0, none⟩), .pointer (some ⟨q, 0, none⟩), .pointer none, .pointer none] 34 (0, 0))) (by kernel_rfl) hD1.cell (fun hHeld => ?_)
  refine wpAnyH_take (i := 0) (v := ?_) rfl (by kernel_rfl) (by kernel_rfl) (by kernel_rfl) (fun _ _ _ h => h) (Or.inl ⟨by rfl, ?_⟩) hHeld ?_
  rotate_left
  · intro w hSw; have c3 := (cell_of_row _ _ 3 _ _ _ hSw).trans (by rfl : _ = some (.pointer none)); clear hSw; go_simp; try rfl
  simp only [List.getElem_toArray, List.getElem_cons_zero, Act.put, List.setIfInBounds_toArray, List.set_cons_zero, List.set_cons_succ]
  refine wpAnyH_take (i := 1) (v := ?_) rfl (by kernel_rfl) (by kernel_rfl) (by kernel_rfl) (fun _ _ _ h => h) (Or.inl ⟨by rfl, ?_⟩) hHeld ?_
  rotate_left
  · intro w hSw; have c3 := (cell_of_row _ _ 3 _ _ _ hSw).trans (by rfl : _ = some (.pointer none)); clear hSw; go_simp; try rfl
  simp only [List.getElem_toArray, List.getElem_cons_zero, List.getElem_cons_succ, Act.put, List.setIfInBounds_toArray, List.set_cons_zero, List.set_cons_succ]
  refine wpAnyH_take (i := 2) (v := ?_) rfl (by kernel_rfl) (by kernel_rfl) (by kernel_rfl) (fun _ _ _ h => h) (Or.inl ⟨by rfl, ?_⟩) hHeld ?_
  rotate_left
  · intro w hSw; have c3 := (cell_of_row _ _ 3 _ _ _ hSw).trans (by rfl : _ = some (.pointer none)); clear hSw; go_simp; try rfl
  simp only [List.getElem_toArray, List.getElem_cons_zero, List.getElem_cons_succ, Act.put, List.setIfInBounds_toArray, List.set_cons_zero, List.set_cons_succ]
  refine wpAnyH_take (i := 3) (v := ?_) rfl (by kernel_rfl) (by kernel_rfl) (by kernel_rfl) (fun _ _ _ h => h) (Or.inl ⟨by rfl, ?_⟩) hHeld ?_
  rotate_left
  · intro w hSw; have c3 := (cell_of_row _ _ 3 _ _ _ hSw).trans (by rfl : _ = some (.pointer none)); clear hSw; go_simp; try rfl
  simp only [List.getElem_toArray, List.getElem_cons_zero, List.getElem_cons_succ, Act.put, List.setIfInBounds_toArray, List.set_cons_zero, List.set_cons_succ]
  refine wpAnyH_take (i := 4) (v := ?_) rfl (by kernel_rfl) (by kernel_rfl) (by kernel_rfl) (fun _ _ _ h => h) (Or.inl ⟨by rfl, ?_⟩) hHeld ?_
  rotate_left
  · intro w hSw; have c3 := (cell_of_row _ _ 3 _ _ _ hSw).trans (by rfl : _ = some (.pointer none)); clear hSw; go_simp; try rfl
  simp only [List.getElem_toArray, List.getElem_cons_zero, List.getElem_cons_succ, Act.put, List.setIfInBounds_toArray, List.set_cons_zero, List.set_cons_succ]
  refine wpAnyH_take (i := 5) (v := ?_) rfl (by kernel_rfl) (by kernel_rfl) (by kernel_rfl) (fun _ _ _ h => h) (Or.inl ⟨by rfl, ?_⟩) hHeld ?_
  rotate_left
  · intro w hSw; have c3 := (cell_of_row _ _ 3 _ _ _ hSw).trans (by rfl : _ = some (.pointer none)); clear hSw; go_simp; try rfl
  simp only [List.getElem_toArray, List.getElem_cons_zero, List.getElem_cons_succ, Act.put, List.setIfInBounds_toArray, List.set_cons_zero, List.set_cons_succ]
  refine wpAnyH_take (i := 6) (v := undef) rfl (by kernel_rfl) (by kernel_rfl) (by kernel_rfl) (fun _ _ _ h => h) (Or.inr ⟨by rfl, rfl⟩) hHeld ?_
  simp only [List.getElem_toArray, List.getElem_cons_zero, List.getElem_cons_succ, Act.put, List.setIfInBounds_toArray, List.set_cons_zero, List.set_cons_succ]
  refine wpAnyH_take (i := 7) (v := undef) rfl (by kernel_rfl) (by kernel_rfl) (by kernel_rfl) (fun _ _ _ h => h) (Or.inr ⟨by rfl, rfl⟩) hHeld ?_
  simp only [List.getElem_toArray, List.getElem_cons_zero, List.getElem_cons_succ, Act.put, List.setIfInBounds_toArray, List.set_cons_zero, List.set_cons_succ]
  refine wpAnyH_take (i := 8) (v := undef) rfl (by kernel_rfl) (by kernel_rfl) (by kernel_rfl) (fun _ _ _ h => h) (Or.inr ⟨by rfl, rfl⟩) hHeld ?_
  simp only [List.getElem_toArray, List.getElem_cons_zero, List.getElem_cons_succ, Act.put, List.setIfInBounds_toArray, List.set_cons_zero, List.set_cons_succ]
  refine wpAnyH_take (i := 9) (v := undef) rfl (by kernel_rfl) (by kernel_rfl) (by kernel_rfl) (fun _ _ _ h => h) (Or.inr ⟨by rfl, rfl⟩) hHeld ?_
  simp only [List.getElem_toArray, List.getElem_cons_zero, List.getElem_cons_succ, Act.put, List.setIfInBounds_toArray, List.set_cons_zero, List.set_cons_succ]
  refine wpAnyH_take (i := 10) (v := undef) rfl (by kernel_rfl) (by kernel_rfl) (by kernel_rfl) (fun _ _ _ h => h) (Or.inr ⟨by rfl, rfl⟩) hHeld ?_
  simp only [List.getElem_toArray, List.getElem_cons_zero, List.getElem_cons_succ, Act.put, List.setIfInBounds_toArray, List.set_cons_zero, List.set_cons_succ]
  refine wpAnyH_take (i := 11) (v := undef) rfl (by kernel_rfl) (by kernel_rfl) (by kernel_rfl) (fun _ _ _ h => h) (Or.inr ⟨by rfl, rfl⟩) hHeld ?_
  simp only [List.getElem_toArray, List.getElem_cons_zero, List.getElem_cons_succ, Act.put, List.setIfInBounds_toArray, List.set_cons_zero, List.set_cons_succ]
  refine wpAnyH_take (i := 12) (v := undef) rfl (by kernel_rfl) (by kernel_rfl) (by kernel_rfl) (fun _ _ _ h => h) (Or.inr ⟨by rfl, rfl⟩) hHeld ?_
  simp only [List.getElem_toArray, List.getElem_cons_zero, List.getElem_cons_succ, Act.put, List.setIfInBounds_toArray, List.set_cons_zero, List.set_cons_succ]
  refine wpAnyH_take (i := 13) (v := undef) rfl (by kernel_rfl) (by kernel_rfl) (by kernel_rfl) (fun _ _ _ h => h) (Or.inr ⟨by rfl, rfl⟩) hHeld ?_
  simp only [List.getElem_toArray, List.getElem_cons_zero, List.getElem_cons_succ, Act.put, List.setIfInBounds_toArray, List.set_cons_zero, List.set_cons_succ]
  refine wpAnyH_take (i := 14) (v := undef) rfl (by kernel_rfl) (by kernel_rfl) (by kernel_rfl) (fun _ _ _ h => h) (Or.inr ⟨by rfl, rfl⟩) hHeld ?_
  simp only [List.getElem_toArray, List.getElem_cons_zero, List.getElem_cons_succ, Act.put, List.setIfInBounds_toArray, List.set_cons_zero, List.set_cons_succ]
  refine wpAnyH_take (i := 15) (v := undef) rfl (by kernel_rfl) (by kernel_rfl) (by kernel_rfl) (fun _ _ _ h => h) (Or.inr ⟨by rfl, rfl⟩) hHeld ?_
  simp only [List.getElem_toArray, List.getElem_cons_zero, List.getElem_cons_succ, Act.put, List.setIfInBounds_toArray, List.set_cons_zero, List.set_cons_succ]
  refine wpAnyH_take (i := 16) (v := undef) rfl (by kernel_rfl) (by kernel_rfl) (by kernel_rfl) (fun _ _ _ h => h) (Or.inr ⟨by rfl, rfl⟩) hHeld ?_
  simp only [List.getElem_toArray, List.getElem_cons_zero, List.getElem_cons_succ, Act.put, List.setIfInBounds_toArray, List.set_cons_zero, List.set_cons_succ]
  refine wpAnyH_take (i := 17) (v := undef) rfl (by kernel_rfl) (by kernel_rfl) (by kernel_rfl) (fun _ _ _ h => h) (Or.inr ⟨by rfl, rfl⟩) hHeld ?_
  simp only [List.getElem_toArray, List.getElem_cons_zero, List.getElem_cons_succ, Act.put, List.setIfInBounds_toArray, List.set_cons_zero, List.set_cons_succ]
  refine wpAnyH_take (i := 18) (v := undef) rfl (by kernel_rfl) (by kernel_rfl) (by kernel_rfl) (fun _ _ _ h => h) (Or.inr ⟨by rfl, rfl⟩) hHeld ?_
  simp only [List.getElem_toArray, List.getElem_cons_zero, List.getElem_cons_succ, Act.put, List.setIfInBounds_toArray, List.set_cons_zero, List.set_cons_succ]
  refine wpAnyH_take (i := 19) (v := undef) rfl (by kernel_rfl) (by kernel_rfl) (by kernel_rfl) (fun _ _ _ h => h) (Or.inr ⟨by rfl, rfl⟩) hHeld ?_
  simp only [List.getElem_toArray, List.getElem_cons_zero, List.getElem_cons_succ, Act.put, List.setIfInBounds_toArray, List.set_cons_zero, List.set_cons_succ]
  refine wpAnyH_take (i := 20) (v := undef) rfl (by kernel_rfl) (by kernel_rfl) (by kernel_rfl) (fun _ _ _ h => h) (Or.inr ⟨by rfl, rfl⟩) hHeld ?_
  simp only [List.getElem_toArray, List.getElem_cons_zero, List.getElem_cons_succ, Act.put, List.setIfInBounds_toArray, List.set_cons_zero, List.set_cons_succ]
  refine wpAnyH_take (i := 21) (v := ?_) rfl (by kernel_rfl) (by kernel_rfl) (by kernel_rfl) (fun _ _ _ h => h) (Or.inl ⟨by rfl, ?_⟩) hHeld ?_
  rotate_left
  · intro w hSw; have c3 := (cell_of_row _ _ 3 _ _ _ hSw).trans (by rfl : _ = some (.pointer none)); clear hSw; go_simp; try rfl
  simp only [List.getElem_toArray, List.getElem_cons_zero, List.getElem_cons_succ, Act.put, List.setIfInBounds_toArray, List.set_cons_zero, List.set_cons_succ]
  refine wpAnyH_take (i := 22) (v := ?_) rfl (by kernel_rfl) (by kernel_rfl) (by kernel_rfl) (fun _ _ _ h => h) (Or.inl ⟨by rfl, ?_⟩) hHeld ?_
  rotate_left
  · intro w hSw; have c3 := (cell_of_row _ _ 3 _ _ _ hSw).trans (by rfl : _ = some (.pointer none)); clear hSw; go_simp; try rfl
  simp only [List.getElem_toArray, List.getElem_cons_zero, List.getElem_cons_succ, Act.put, List.setIfInBounds_toArray, List.set_cons_zero, List.set_cons_succ]
  refine wpAnyH_done (by kernel_rfl) ?_ _
  clear hHeld
  go_wp2_with fail
  go_ret
  exact ⟨rfl, hD1.below (Below.refl _ _).drew⟩
set_option maxHeartbeats 4000000 in
set_option maxRecDepth 100000 in
theorem desk_act2 {bb : Option Bool} (a : JA) (hk : a.kind = 2) (hlen : ¬ 20000 < a.bn) (h : DK w0 w D p q F G jv kv s bb) (ht : Tabs w0) :
    Calls Tryz.prog 7 #[.pointer (some ⟨D, 0, none⟩), .agg a.cells.toArray] w fun e w' => ∃ F' jv' kv', e = .returned (.bool true) ∧ DK w0 w' D p q F' G jv' kv' s (some (decide (jn.opens s = 0))) := by
  have b1 : Below w.heap.size w (w.alloc (.cells a.cells.toArray 39)) := (Below.refl _ _).alloc (Nat.le_refl _) _
  have r1 := heap_alloc_new w (.cells a.cells.toArray 39)
  have z0 := JA.c0 r1
  have z4 := JA.c4 r1
  rw [hk] at z0
  have hlen' : (a.bn : Int) ≤ 20000 := by omega
  have HO := Lib.hid (desk_open (h.below b1) ht)
  clear hk
  go_enter Tryz.func7, Tryz.ntmps7
  go_wp2_with fail
  refine HO.out.mono ?_
  rintro e w2 ⟨F2, jv2, kv2, rfl, h2, -⟩
  go_wp2_with fail
  go_ret
  exact ⟨F2, jv2, kv2, rfl, h2⟩
theorem prog_df {bb : Option Bool} (_h : DK w0 w D p q F G jv kv s bb) {w1 : World} {Fd F1 : List Nat} {s1 : dk.St} (hd : DF w0 w Fd (.pointer (some ⟨p, 0, none⟩)) s) (hFd : ∀ k ∈ Fd, k ∈ F) (h1 : CD w1 F1 (.pointer (some ⟨p, 0, none⟩)) s1) (hc : Chg w w1 Fd) (hs : Sub w F1 Fd) :
    Chg w w1 F ∧ Sub w F1 F ∧ Ther w1 F1 ∧ (∃ Fd, DF w0 w1 Fd (.pointer (some ⟨p, 0, none⟩)) s1 ∧ ∀ k ∈ Fd, k ∈ F1) :=
  ⟨hc.mono (fun k hk => .inl (hFd k hk)), fun k hk => (hs k hk).imp (hFd k) id, h1.there, ⟨F1, dw_step hd h1 hc hs, fun _ h => h⟩⟩
theorem prog_arm {bb : Option Bool} (h : DK w0 w D p q F G jv kv s bb) (n : Int) (hn : n ≤ 9223372036854775807) : Calls Tryz.prog 28 #[.pointer (some ⟨p, 0, none⟩), .int .i64 n] w fun e w' =>
    ∃ F', e = .returned (.int .i64 (dk.arm s n).1) ∧ Chg w w' F ∧ Sub w F' F ∧ Ther w' F' ∧ (∃ Fd, DF w0 w' Fd (.pointer (some ⟨p, 0, none⟩)) (dk.arm s n).2 ∧ ∀ k ∈ Fd, k ∈ F') ∧ (bb = some true → JF w0 w' F' (.pointer (some ⟨p, 0, none⟩)) jv (dk.arm s n).2) := by
  by_cases hb : bb = some true
  · refine (jf_arm n hn (h.prog hb)).mono ?_
    rintro e w' ⟨F', rfl, h1, h2, h3⟩
    exact ⟨F', rfl, h2, h3, h1.there, h1.df, fun _ => h1⟩
  · obtain ⟨Fd, hd, hFd⟩ := h.df
    refine (cd_arm n hn hd.cd).mono ?_
    rintro e w' ⟨F', rfl, h1, h2, h3⟩
    obtain ⟨x1, x2, x3, x4⟩ := prog_df h hd hFd h1 h2 h3
    exact ⟨F', rfl, x1, x2, x3, x4, fun e => absurd e hb⟩
theorem prog_rot {bb : Option Bool} (h : DK w0 w D p q F G jv kv s bb) (n at_ : Int) (x : UInt8) : Calls Tryz.prog 30 #[.pointer (some ⟨p, 0, none⟩), .int .i64 n, .int .i64 at_, bv x] w fun e w' =>
    ∃ F', e = .returned (.int .i64 (dk.rot s n at_ x).1) ∧ Chg w w' F ∧ Sub w F' F ∧ Ther w' F' ∧ (∃ Fd, DF w0 w' Fd (.pointer (some ⟨p, 0, none⟩)) (dk.rot s n at_ x).2 ∧ ∀ k ∈ Fd, k ∈ F') := by
  obtain ⟨Fd, hd, hFd⟩ := h.df
  refine (cd_rot n at_ x hd.cd).mono ?_
  rintro e w' ⟨F', rfl, h1, h2, h3⟩
  obtain ⟨x1, x2, x3, x4⟩ := prog_df h hd hFd h1 h2 h3
  exact ⟨F', rfl, x1, x2, x3, x4⟩
theorem prog_crash {bb : Option Bool} (h : DK w0 w D p q F G jv kv s bb) (A : Option Addr) (n cp : Nat) (l : List Int) (hl : IS w A n cp l) (hA : 0 < n → ∀ b o, A = some ⟨b, o, none⟩ → b < w0.heap.size) : Calls Tryz.prog 10 #[.pointer (some ⟨p, 0, none⟩), .slice A n cp] w fun e w' =>
    ∃ F', e = .returned (.int .i64 0) ∧ Chg w w' F ∧ Sub w F' F ∧ Ther w' F' ∧ (∃ Fd, DF w0 w' Fd (.pointer (some ⟨p, 0, none⟩)) (dk.crash s l) ∧ ∀ k ∈ Fd, k ∈ F') := by
  obtain ⟨Fd, hd, hFd⟩ := h.df
  refine (df_crash A n cp l hl hA hd).mono ?_
  rintro e w' ⟨F', rfl, h1, h2, h3⟩
  obtain ⟨x1, x2, x3, x4⟩ := prog_df h hd hFd h1.cd h2 h3
  exact ⟨F', rfl, x1, x2, x3, x4⟩
set_option maxHeartbeats 4000000 in
set_option maxRecDepth 100000 in
theorem desk_act4 (a : JA) (ha : a.Ok w0) (hk : a.kind = 4) (hlen : ¬ 20000 < a.bn) (h : DK w0 w D p q F G jv kv s (some b)) :
    Calls Tryz.prog 7 #[.pointer (some ⟨D, 0, none⟩), .agg a.cells.toArray] w fun e w' => ∃ F' G', e = .returned (.bool true) ∧ DK w0 w' D p q F' G' jv kv (dk.arm s a.n).2 (some b) := by
  have b1 : Below w.heap.size w (w.alloc (.cells a.cells.toArray 39)) := (Below.refl _ _).alloc (Nat.le_refl _) _
  have r1 := heap_alloc_new w (.cells a.cells.toArray 39)
  have z0 := JA.c0 r1
  have z4 := JA.c4 r1
  rw [hk] at z0
  have hlen' : (a.bn : Int) ≤ 20000 := by omega
  have hD1 := h.below b1.drew
  have hHlt : w.heap.size < (w.alloc (.cells a.cells.toArray 39)).drew.heap.size := (Array.getElem?_eq_some_iff.1 r1).1
  have hr1d : (w.alloc (.cells a.cells.toArray 39)).drew.heap[w.heap.size]? = some (.cells a.cells.toArray 39 (0, 0)) := r1
  have hHF : w.heap.size ∉ F := fun hm => Nat.lt_irrefl _ (h.thF _ hm)
  have hHG : w.heap.size ∉ G := fun hm => Nat.lt_irrefl _ (h.thG _ hm)
  have HP := Lib.hid (prog_arm hD1 a.n ha.n.2)
  clear hk
  go_enter Tryz.func7, Tryz.ntmps7
  go_wp2_with fail
  refine wp_region_held_drew (S := fun W => (∃ xj xk, W.heap[D]? = some (.cells #[.pointer (some ⟨p, 0, none⟩), .pointer (some ⟨q, 0, none⟩), xj, xk] 34 (0, 0))) ∧ W.heap[w.heap.size]? = some (.cells a.cells.toArray 39 (0, 0))) (by kernel_rfl) ⟨⟨_, _, hD1.cell⟩, hr1d⟩ (fun hHeld => ?_)
  refine wpAnyH_take (i := 0) (v := ?_) rfl (by kernel_rfl) (by kernel_rfl) (by kernel_rfl) (fun _ _ _ h => h) (Or.inl ⟨by rfl, ?_⟩) hHeld ?_
  rotate_left
  · intro w hSw; obtain ⟨xj, xk, hx⟩ := hSw.1; have c0 := (cell_of_row _ _ 0 _ _ _ hx).trans (by rfl : _ = some (.pointer (some ⟨p, 0, none⟩))); have c1 := (cell_of_row _ _ 1 _ _ _ hx).trans (by rfl : _ = some (.pointer (some ⟨q, 0, none⟩))); have a1 := JA.c1 hSw.2; have a2 := JA.c2 hSw.2; have a3 := JA.c3 hSw.2; have a4 := JA.c4 hSw.2; clear hx; clear hSw; go_simp; try rfl
  simp only [List.getElem_toArray, List.getElem_cons_zero, Act.put, List.setIfInBounds_toArray, List.set_cons_zero, List.set_cons_succ]
  refine wpAnyH_take (i := 1) (v := ?_) rfl (by kernel_rfl) (by kernel_rfl) (by kernel_rfl) (fun _ _ _ h => h) (Or.inl ⟨by rfl, ?_⟩) hHeld ?_
  rotate_left
  · intro w hSw; obtain ⟨xj, xk, hx⟩ := hSw.1; have c0 := (cell_of_row _ _ 0 _ _ _ hx).trans (by rfl : _ = some (.pointer (some ⟨p, 0, none⟩))); have c1 := (cell_of_row _ _ 1 _ _ _ hx).trans (by rfl : _ = some (.pointer (some ⟨q, 0, none⟩))); have a1 := JA.c1 hSw.2; have a2 := JA.c2 hSw.2; have a3 := JA.c3 hSw.2; have a4 := JA.c4 hSw.2; clear hx; clear hSw; go_simp; try rfl
  simp only [List.getElem_toArray, List.getElem_cons_zero, List.getElem_cons_succ, Act.put, List.setIfInBounds_toArray, List.set_cons_zero, List.set_cons_succ]
  refine wpAnyH_take (i := 2) (v := ?_) rfl (by kernel_rfl) (by kernel_rfl) (by kernel_rfl) (fun _ _ _ h => h) (Or.inl ⟨by rfl, ?_⟩) hHeld ?_
  rotate_left
  · intro w hSw; obtain ⟨xj, xk, hx⟩ := hSw.1; have c0 := (cell_of_row _ _ 0 _ _ _ hx).trans (by rfl : _ = some (.pointer (some ⟨p, 0, none⟩))); have c1 := (cell_of_row _ _ 1 _ _ _ hx).trans (by rfl : _ = some (.pointer (some ⟨q, 0, none⟩))); have a1 := JA.c1 hSw.2; have a2 := JA.c2 hSw.2; have a3 := JA.c3 hSw.2; have a4 := JA.c4 hSw.2; clear hx; clear hSw; go_simp; try rfl
  simp only [List.getElem_toArray, List.getElem_cons_zero, List.getElem_cons_succ, Act.put, List.setIfInBounds_toArray, List.set_cons_zero, List.set_cons_succ]
  refine wpAnyH_take (i := 3) (v := ?_) rfl (by kernel_rfl) (by kernel_rfl) (by kernel_rfl) (fun _ _ _ h => h) (Or.inl ⟨by rfl, ?_⟩) hHeld ?_
  rotate_left
  · intro w hSw; obtain ⟨xj, xk, hx⟩ := hSw.1; have c0 := (cell_of_row _ _ 0 _ _ _ hx).trans (by rfl : _ = some (.pointer (some ⟨p, 0, none⟩))); have c1 := (cell_of_row _ _ 1 _ _ _ hx).trans (by rfl : _ = some (.pointer (some ⟨q, 0, none⟩))); have a1 := JA.c1 hSw.2; have a2 := JA.c2 hSw.2; have a3 := JA.c3 hSw.2; have a4 := JA.c4 hSw.2; clear hx; clear hSw; go_simp; try rfl
  simp only [List.getElem_toArray, List.getElem_cons_zero, List.getElem_cons_succ, Act.put, List.setIfInBounds_toArray, List.set_cons_zero, List.set_cons_succ]
  refine wpAnyH_take (i := 4) (v := ?_) rfl (by kernel_rfl) (by kernel_rfl) (by kernel_rfl) (fun _ _ _ h => h) (Or.inl ⟨by rfl, ?_⟩) hHeld ?_
  rotate_left
  · intro w hSw; obtain ⟨xj, xk, hx⟩ := hSw.1; have c0 := (cell_of_row _ _ 0 _ _ _ hx).trans (by rfl : _ = some (.pointer (some ⟨p, 0, none⟩))); have c1 := (cell_of_row _ _ 1 _ _ _ hx).trans (by rfl : _ = some (.pointer (some ⟨q, 0, none⟩))); have a1 := JA.c1 hSw.2; have a2 := JA.c2 hSw.2; have a3 := JA.c3 hSw.2; have a4 := JA.c4 hSw.2; clear hx; clear hSw; go_simp; try rfl
  simp only [List.getElem_toArray, List.getElem_cons_zero, List.getElem_cons_succ, Act.put, List.setIfInBounds_toArray, List.set_cons_zero, List.set_cons_succ]
  refine wpAnyH_take (i := 5) (v := ?_) rfl (by kernel_rfl) (by kernel_rfl) (by kernel_rfl) (fun _ _ _ h => h) (Or.inl ⟨by rfl, ?_⟩) hHeld ?_
  rotate_left
  · intro w hSw; obtain ⟨xj, xk, hx⟩ := hSw.1; have c0 := (cell_of_row _ _ 0 _ _ _ hx).trans (by rfl : _ = some (.pointer (some ⟨p, 0, none⟩))); have c1 := (cell_of_row _ _ 1 _ _ _ hx).trans (by rfl : _ = some (.pointer (some ⟨q, 0, none⟩))); have a1 := JA.c1 hSw.2; have a2 := JA.c2 hSw.2; have a3 := JA.c3 hSw.2; have a4 := JA.c4 hSw.2; clear hx; clear hSw; go_simp; try rfl
  simp only [List.getElem_toArray, List.getElem_cons_zero, List.getElem_cons_succ, Act.put, List.setIfInBounds_toArray, List.set_cons_zero, List.set_cons_succ]
  refine wpAnyH_take (i := 7) (v := ?_) rfl (by kernel_rfl) (by kernel_rfl) (by kernel_rfl) (fun _ _ _ h => h) (Or.inl ⟨by rfl, ?_⟩) hHeld ?_
  rotate_left
  · intro w hSw; obtain ⟨xj, xk, hx⟩ := hSw.1; have c0 := (cell_of_row _ _ 0 _ _ _ hx).trans (by rfl : _ = some (.pointer (some ⟨p, 0, none⟩))); have c1 := (cell_of_row _ _ 1 _ _ _ hx).trans (by rfl : _ = some (.pointer (some ⟨q, 0, none⟩))); have a1 := JA.c1 hSw.2; have a2 := JA.c2 hSw.2; have a3 := JA.c3 hSw.2; have a4 := JA.c4 hSw.2; clear hx; clear hSw; go_simp; try rfl
  simp only [List.getElem_toArray, List.getElem_cons_zero, List.getElem_cons_succ, Act.put, List.setIfInBounds_toArray, List.set_cons_zero, List.set_cons_succ]
  refine wpAnyH_take (i := 8) (v := ?_) rfl (by kernel_rfl) (by kernel_rfl) (by kernel_rfl) (fun _ _ _ h => h) (Or.inl ⟨by rfl, ?_⟩) hHeld ?_
  rotate_left
  · intro w hSw; obtain ⟨xj, xk, hx⟩ := hSw.1; have c0 := (cell_of_row _ _ 0 _ _ _ hx).trans (by rfl : _ = some (.pointer (some ⟨p, 0, none⟩))); have c1 := (cell_of_row _ _ 1 _ _ _ hx).trans (by rfl : _ = some (.pointer (some ⟨q, 0, none⟩))); have a1 := JA.c1 hSw.2; have a2 := JA.c2 hSw.2; have a3 := JA.c3 hSw.2; have a4 := JA.c4 hSw.2; clear hx; clear hSw; go_simp; try rfl
  simp only [List.getElem_toArray, List.getElem_cons_zero, List.getElem_cons_succ, Act.put, List.setIfInBounds_toArray, List.set_cons_zero, List.set_cons_succ]
  refine wpAnyH_take (i := 9) (v := ?_) rfl (by kernel_rfl) (by kernel_rfl) (by kernel_rfl) (fun _ _ _ h => h) (Or.inl ⟨by rfl, ?_⟩) hHeld ?_
  rotate_left
  · intro w hSw; obtain ⟨xj, xk, hx⟩ := hSw.1; have c0 := (cell_of_row _ _ 0 _ _ _ hx).trans (by rfl : _ = some (.pointer (some ⟨p, 0, none⟩))); have c1 := (cell_of_row _ _ 1 _ _ _ hx).trans (by rfl : _ = some (.pointer (some ⟨q, 0, none⟩))); have a1 := JA.c1 hSw.2; have a2 := JA.c2 hSw.2; have a3 := JA.c3 hSw.2; have a4 := JA.c4 hSw.2; clear hx; clear hSw; go_simp; try rfl
  simp only [List.getElem_toArray, List.getElem_cons_zero, List.getElem_cons_succ, Act.put, List.setIfInBounds_toArray, List.set_cons_zero, List.set_cons_succ]
  refine wpAnyH_take (i := 10) (v := ?_) rfl (by kernel_rfl) (by kernel_rfl) (by kernel_rfl) (fun _ _ _ h => h) (Or.inl ⟨by rfl, ?_⟩) hHeld ?_
  rotate_left
  · intro w hSw; obtain ⟨xj, xk, hx⟩ := hSw.1; have c0 := (cell_of_row _ _ 0 _ _ _ hx).trans (by rfl : _ = some (.pointer (some ⟨p, 0, none⟩))); have c1 := (cell_of_row _ _ 1 _ _ _ hx).trans (by rfl : _ = some (.pointer (some ⟨q, 0, none⟩))); have a1 := JA.c1 hSw.2; have a2 := JA.c2 hSw.2; have a3 := JA.c3 hSw.2; have a4 := JA.c4 hSw.2; clear hx; clear hSw; go_simp; try rfl
  simp only [List.getElem_toArray, List.getElem_cons_zero, List.getElem_cons_succ, Act.put, List.setIfInBounds_toArray, List.set_cons_zero, List.set_cons_succ]
  refine wpAnyH_take (i := 11) (v := ?_) rfl (by kernel_rfl) (by kernel_rfl) (by kernel_rfl) (fun _ _ _ h => h) (Or.inl ⟨by rfl, ?_⟩) hHeld ?_
  rotate_left
  · intro w hSw; obtain ⟨xj, xk, hx⟩ := hSw.1; have c0 := (cell_of_row _ _ 0 _ _ _ hx).trans (by rfl : _ = some (.pointer (some ⟨p, 0, none⟩))); have c1 := (cell_of_row _ _ 1 _ _ _ hx).trans (by rfl : _ = some (.pointer (some ⟨q, 0, none⟩))); have a1 := JA.c1 hSw.2; have a2 := JA.c2 hSw.2; have a3 := JA.c3 hSw.2; have a4 := JA.c4 hSw.2; clear hx; clear hSw; go_simp; try rfl
  simp only [List.getElem_toArray, List.getElem_cons_zero, List.getElem_cons_succ, Act.put, List.setIfInBounds_toArray, List.set_cons_zero, List.set_cons_succ]
  refine wpAnyH_take (i := 12) (v := ?_) rfl (by kernel_rfl) (by kernel_rfl) (by kernel_rfl) (fun _ _ _ h => h) (Or.inl ⟨by rfl, ?_⟩) hHeld ?_
  rotate_left
  · intro w hSw; obtain ⟨xj, xk, hx⟩ := hSw.1; have c0 := (cell_of_row _ _ 0 _ _ _ hx).trans (by rfl : _ = some (.pointer (some ⟨p, 0, none⟩))); have c1 := (cell_of_row _ _ 1 _ _ _ hx).trans (by rfl : _ = some (.pointer (some ⟨q, 0, none⟩))); have a1 := JA.c1 hSw.2; have a2 := JA.c2 hSw.2; have a3 := JA.c3 hSw.2; have a4 := JA.c4 hSw.2; clear hx; clear hSw; go_simp; try rfl
  simp only [List.getElem_toArray, List.getElem_cons_zero, List.getElem_cons_succ, Act.put, List.setIfInBounds_toArray, List.set_cons_zero, List.set_cons_succ]
  refine wpAnyH_ready (rs := [6]) (by kernel_rfl) (by simp) ?_
  refine AllReadyH.cons rfl (fun K hK => ?_) AllReadyH.nil
  rw [if_pos (by rfl)]
  go_simp
  refine (HP.out).mono ?_
  rintro e w2 ⟨F2, rfl, hc2, hs2, ht2, hdf2, hj2⟩
  have hq2 := (hc2.block D hD1.lt hD1.dF).trans hD1.cell
  have ha2 := (hc2.block w.heap.size hHlt hHF).trans hHeld.2
  refine hK.out _ _ ⟨⟨_, _, hq2⟩, ha2⟩ (fun hHeld => ?_)
  clear hK K
  have hr2 := desk_mid hD1 hc2
  refine wpAnyH_ready (rs := [13]) (by kernel_rfl) (by simp) ?_
  refine AllReadyH.cons rfl (fun K hK => ?_) AllReadyH.nil
  rw [if_pos (by rfl)]
  go_simp
  refine (rd_arm a.n ha.n.2 hr2).mono ?_
  rintro e w3 ⟨G3, rfl, hr3, hc3, hs3⟩
  have hq3 := (hc3.block D (Nat.lt_of_lt_of_le hD1.lt hc2.size) hD1.dG).trans hq2
  have ha3 := (hc3.block w.heap.size (Nat.lt_of_lt_of_le hHlt hc2.size) hHG).trans hHeld.2
  refine hK.out _ _ ⟨⟨_, _, hq3⟩, ha3⟩ (fun hHeld => ?_)
  clear hK K
  refine wpAnyH_take (i := 14) (v := ?_) rfl (by kernel_rfl) (by kernel_rfl) (by kernel_rfl) (fun _ _ _ h => h) (Or.inl ⟨by rfl, ?_⟩) hHeld ?_
  rotate_left
  · intro w hSw; obtain ⟨xj, xk, hx⟩ := hSw.1; have c0 := (cell_of_row _ _ 0 _ _ _ hx).trans (by rfl : _ = some (.pointer (some ⟨p, 0, none⟩))); have c1 := (cell_of_row _ _ 1 _ _ _ hx).trans (by rfl : _ = some (.pointer (some ⟨q, 0, none⟩))); have a1 := JA.c1 hSw.2; have a2 := JA.c2 hSw.2; have a3 := JA.c3 hSw.2; have a4 := JA.c4 hSw.2; clear hx; clear hSw; go_simp; try rfl
  simp only [List.getElem_toArray, List.getElem_cons_zero, List.getElem_cons_succ, Act.put, List.setIfInBounds_toArray, List.set_cons_zero, List.set_cons_succ]
  refine wpAnyH_take (i := 15) (v := ?_) rfl (by kernel_rfl) (by kernel_rfl) (by kernel_rfl) (fun _ _ _ h => h) (Or.inl ⟨by rfl, ?_⟩) hHeld ?_
  rotate_left
  · intro w hSw; obtain ⟨xj, xk, hx⟩ := hSw.1; have c0 := (cell_of_row _ _ 0 _ _ _ hx).trans (by rfl : _ = some (.pointer (some ⟨p, 0, none⟩))); have c1 := (cell_of_row _ _ 1 _ _ _ hx).trans (by rfl : _ = some (.pointer (some ⟨q, 0, none⟩))); have a1 := JA.c1 hSw.2; have a2 := JA.c2 hSw.2; have a3 := JA.c3 hSw.2; have a4 := JA.c4 hSw.2; clear hx; clear hSw; go_simp; try rfl
  simp only [List.getElem_toArray, List.getElem_cons_zero, List.getElem_cons_succ, Act.put, List.setIfInBounds_toArray, List.set_cons_zero, List.set_cons_succ]
  refine wpAnyH_done (by kernel_rfl) ?_ _
  have hfin := desk_step (b' := some b) hD1 hc2 hs2 ht2 hdf2 hj2 (.inl rfl) hc3 hs3 hr3
  have HFIN := Lib.hid hfin
  clear hfin hHeld hj2 hdf2 hr3 hr2 hc2 hc3 hs2 hs3 hD1 HP hq2 hq3 ha2 ha3 ht2
  go_wp2_with fail
  go_ret
  exact ⟨F2, G3, rfl, HFIN.out⟩
set_option maxHeartbeats 4000000 in
set_option maxRecDepth 100000 in
theorem desk_act5 (a : JA) (hk : a.kind ≠ 0 ∧ a.kind ≠ 1 ∧ a.kind ≠ 2 ∧ a.kind ≠ 3 ∧ a.kind ≠ 4) (hlen : ¬ 20000 < a.bn) (h : DK w0 w D p q F G jv kv s (some b)) (ht : Tabs w0) :
    Calls Tryz.prog 7 #[.pointer (some ⟨D, 0, none⟩), .agg a.cells.toArray] w fun e w' => ∃ F' G' jv' kv', e = .returned (.bool true) ∧ DK w0 w' D p q F' G' jv' kv' (dk.rot s a.n a.at_ a.x).2 (some (decide (jn.opens (dk.rot s a.n a.at_ a.x).2 = 0))) := by
  have b1 : Below w.heap.size w (w.alloc (.cells a.cells.toArray 39)) := (Below.refl _ _).alloc (Nat.le_refl _) _
  have r1 := heap_alloc_new w (.cells a.cells.toArray 39)
  have z0 := JA.c0 r1
  have z4 := JA.c4 r1
  obtain ⟨n0, n1, n2, n3, n4⟩ := hk
  have m0 : (a.kind == 0) = false := by simpa using n0
  have m1 : (a.kind == 1) = false := by simpa using n1
  have m2 : (a.kind == 2) = false := by simpa using n2
  have m3 : (a.kind == 3) = false := by simpa using n3
  have m4 : (a.kind == 4) = false := by simpa using n4
  have hlen' : (a.bn : Int) ≤ 20000 := by omega
  have hD1 := h.below b1.drew
  have hHlt : w.heap.size < (w.alloc (.cells a.cells.toArray 39)).drew.heap.size := (Array.getElem?_eq_some_iff.1 r1).1
  have hr1d : (w.alloc (.cells a.cells.toArray 39)).drew.heap[w.heap.size]? = some (.cells a.cells.toArray 39 (0, 0)) := r1
  have hHF : w.heap.size ∉ F := fun hm => Nat.lt_irrefl _ (h.thF _ hm)
  have hHG : w.heap.size ∉ G := fun hm => Nat.lt_irrefl _ (h.thG _ hm)
  have HP := Lib.hid (prog_rot hD1 a.n a.at_ a.x)
  clear n0 n1 n2 n3 n4
  go_enter Tryz.func7, Tryz.ntmps7
  go_wp2_with fail
  refine wp_region_held_drew (S := fun W => (∃ xj xk, W.heap[D]? = some (.cells #[.pointer (some ⟨p, 0, none⟩), .pointer (some ⟨q, 0, none⟩), xj, xk] 34 (0, 0))) ∧ W.heap[w.heap.size]? = some (.cells a.cells.toArray 39 (0, 0))) (by kernel_rfl) ⟨⟨_, _, hD1.cell⟩, hr1d⟩ (fun hHeld => ?_)
  refine wpAnyH_take (i := 0) (v := ?_) rfl (by kernel_rfl) (by kernel_rfl) (by kernel_rfl) (fun _ _ _ h => h) (Or.inl ⟨by rfl, ?_⟩) hHeld ?_
  rotate_left
  · intro w hSw; obtain ⟨xj, xk, hx⟩ := hSw.1; have c0 := (cell_of_row _ _ 0 _ _ _ hx).trans (by rfl : _ = some (.pointer (some ⟨p, 0, none⟩))); have c1 := (cell_of_row _ _ 1 _ _ _ hx).trans (by rfl : _ = some (.pointer (some ⟨q, 0, none⟩))); have a1 := JA.c1 hSw.2; have a2 := JA.c2 hSw.2; have a3 := JA.c3 hSw.2; have a4 := JA.c4 hSw.2; clear hx; clear hSw; go_simp; try rfl
  simp only [List.getElem_toArray, List.getElem_cons_zero, Act.put, List.setIfInBounds_toArray, List.set_cons_zero, List.set_cons_succ]
  refine wpAnyH_take (i := 1) (v := ?_) rfl (by kernel_rfl) (by kernel_rfl) (by kernel_rfl) (fun _ _ _ h => h) (Or.inl ⟨by rfl, ?_⟩) hHeld ?_
  rotate_left
  · intro w hSw; obtain ⟨xj, xk, hx⟩ := hSw.1; have c0 := (cell_of_row _ _ 0 _ _ _ hx).trans (by rfl : _ = some (.pointer (some ⟨p, 0, none⟩))); have c1 := (cell_of_row _ _ 1 _ _ _ hx).trans (by rfl : _ = some (.pointer (some ⟨q, 0, none⟩))); have a1 := JA.c1 hSw.2; have a2 := JA.c2 hSw.2; have a3 := JA.c3 hSw.2; have a4 := JA.c4 hSw.2; clear hx; clear hSw; go_simp; try rfl
  simp only [List.getElem_toArray, List.getElem_cons_zero, List.getElem_cons_succ, Act.put, List.setIfInBounds_toArray, List.set_cons_zero, List.set_cons_succ]
  refine wpAnyH_take (i := 2) (v := ?_) rfl (by kernel_rfl) (by kernel_rfl) (by kernel_rfl) (fun _ _ _ h => h) (Or.inl ⟨by rfl, ?_⟩) hHeld ?_
  rotate_left
  · intro w hSw; obtain ⟨xj, xk, hx⟩ := hSw.1; have c0 := (cell_of_row _ _ 0 _ _ _ hx).trans (by rfl : _ = some (.pointer (some ⟨p, 0, none⟩))); have c1 := (cell_of_row _ _ 1 _ _ _ hx).trans (by rfl : _ = some (.pointer (some ⟨q, 0, none⟩))); have a1 := JA.c1 hSw.2; have a2 := JA.c2 hSw.2; have a3 := JA.c3 hSw.2; have a4 := JA.c4 hSw.2; clear hx; clear hSw; go_simp; try rfl
  simp only [List.getElem_toArray, List.getElem_cons_zero, List.getElem_cons_succ, Act.put, List.setIfInBounds_toArray, List.set_cons_zero, List.set_cons_succ]
  refine wpAnyH_take (i := 3) (v := ?_) rfl (by kernel_rfl) (by kernel_rfl) (by kernel_rfl) (fun _ _ _ h => h) (Or.inl ⟨by rfl, ?_⟩) hHeld ?_
  rotate_left
  · intro w hSw; obtain ⟨xj, xk, hx⟩ := hSw.1; have c0 := (cell_of_row _ _ 0 _ _ _ hx).trans (by rfl : _ = some (.pointer (some ⟨p, 0, none⟩))); have c1 := (cell_of_row _ _ 1 _ _ _ hx).trans (by rfl : _ = some (.pointer (some ⟨q, 0, none⟩))); have a1 := JA.c1 hSw.2; have a2 := JA.c2 hSw.2; have a3 := JA.c3 hSw.2; have a4 := JA.c4 hSw.2; clear hx; clear hSw; go_simp; try rfl
  simp only [List.getElem_toArray, List.getElem_cons_zero, List.getElem_cons_succ, Act.put, List.setIfInBounds_toArray, List.set_cons_zero, List.set_cons_succ]
  refine wpAnyH_take (i := 4) (v := ?_) rfl (by kernel_rfl) (by kernel_rfl) (by kernel_rfl) (fun _ _ _ h => h) (Or.inl ⟨by rfl, ?_⟩) hHeld ?_
  rotate_left
  · intro w hSw; obtain ⟨xj, xk, hx⟩ := hSw.1; have c0 := (cell_of_row _ _ 0 _ _ _ hx).trans (by rfl : _ = some (.pointer (some ⟨p, 0, none⟩))); have c1 := (cell_of_row _ _ 1 _ _ _ hx).trans (by rfl : _ = some (.pointer (some ⟨q, 0, none⟩))); have a1 := JA.c1 hSw.2; have a2 := JA.c2 hSw.2; have a3 := JA.c3 hSw.2; have a4 := JA.c4 hSw.2; clear hx; clear hSw; go_simp; try rfl
  simp only [List.getElem_toArray, List.getElem_cons_zero, List.getElem_cons_succ, Act.put, List.setIfInBounds_toArray, List.set_cons_zero, List.set_cons_succ]
  refine wpAnyH_take (i := 5) (v := ?_) rfl (by kernel_rfl) (by kernel_rfl) (by kernel_rfl) (fun _ _ _ h => h) (Or.inl ⟨by rfl, ?_⟩) hHeld ?_
  rotate_left
  · intro w hSw; obtain ⟨xj, xk, hx⟩ := hSw.1; have c0 := (cell_of_row _ _ 0 _ _ _ hx).trans (by rfl : _ = some (.pointer (some ⟨p, 0, none⟩))); have c1 := (cell_of_row _ _ 1 _ _ _ hx).trans (by rfl : _ = some (.pointer (some ⟨q, 0, none⟩))); have a1 := JA.c1 hSw.2; have a2 := JA.c2 hSw.2; have a3 := JA.c3 hSw.2; have a4 := JA.c4 hSw.2; clear hx; clear hSw; go_simp; try rfl
  simp only [List.getElem_toArray, List.getElem_cons_zero, List.getElem_cons_succ, Act.put, List.setIfInBounds_toArray, List.set_cons_zero, List.set_cons_succ]
  refine wpAnyH_take (i := 6) (v := ?_) rfl (by kernel_rfl) (by kernel_rfl) (by kernel_rfl) (fun _ _ _ h => h) (Or.inl ⟨by rfl, ?_⟩) hHeld ?_
  rotate_left
  · intro w hSw; obtain ⟨xj, xk, hx⟩ := hSw.1; have c0 := (cell_of_row _ _ 0 _ _ _ hx).trans (by rfl : _ = some (.pointer (some ⟨p, 0, none⟩))); have c1 := (cell_of_row _ _ 1 _ _ _ hx).trans (by rfl : _ = some (.pointer (some ⟨q, 0, none⟩))); have a1 := JA.c1 hSw.2; have a2 := JA.c2 hSw.2; have a3 := JA.c3 hSw.2; have a4 := JA.c4 hSw.2; clear hx; clear hSw; go_simp; try rfl
  simp only [List.getElem_toArray, List.getElem_cons_zero, List.getElem_cons_succ, Act.put, List.setIfInBounds_toArray, List.set_cons_zero, List.set_cons_succ]
  refine wpAnyH_take (i := 7) (v := ?_) rfl (by kernel_rfl) (by kernel_rfl) (by kernel_rfl) (fun _ _ _ h => h) (Or.inl ⟨by rfl, ?_⟩) hHeld ?_
  rotate_left
  · intro w hSw; obtain ⟨xj, xk, hx⟩ := hSw.1; have c0 := (cell_of_row _ _ 0 _ _ _ hx).trans (by rfl : _ = some (.pointer (some ⟨p, 0, none⟩))); have c1 := (cell_of_row _ _ 1 _ _ _ hx).trans (by rfl : _ = some (.pointer (some ⟨q, 0, none⟩))); have a1 := JA.c1 hSw.2; have a2 := JA.c2 hSw.2; have a3 := JA.c3 hSw.2; have a4 := JA.c4 hSw.2; clear hx; clear hSw; go_simp; try rfl
  simp only [List.getElem_toArray, List.getElem_cons_zero, List.getElem_cons_succ, Act.put, List.setIfInBounds_toArray, List.set_cons_zero, List.set_cons_succ]
  refine wpAnyH_take (i := 8) (v := ?_) rfl (by kernel_rfl) (by kernel_rfl) (by kernel_rfl) (fun _ _ _ h => h) (Or.inl ⟨by rfl, ?_⟩) hHeld ?_
  rotate_left
  · intro w hSw; obtain ⟨xj, xk, hx⟩ := hSw.1; have c0 := (cell_of_row _ _ 0 _ _ _ hx).trans (by rfl : _ = some (.pointer (some ⟨p, 0, none⟩))); have c1 := (cell_of_row _ _ 1 _ _ _ hx).trans (by rfl : _ = some (.pointer (some ⟨q, 0, none⟩))); have a1 := JA.c1 hSw.2; have a2 := JA.c2 hSw.2; have a3 := JA.c3 hSw.2; have a4 := JA.c4 hSw.2; clear hx; clear hSw; go_simp; try rfl
  simp only [List.getElem_toArray, List.getElem_cons_zero, List.getElem_cons_succ, Act.put, List.setIfInBounds_toArray, List.set_cons_zero, List.set_cons_succ]
  refine wpAnyH_take (i := 9) (v := ?_) rfl (by kernel_rfl) (by kernel_rfl) (by kernel_rfl) (fun _ _ _ h => h) (Or.inl ⟨by rfl, ?_⟩) hHeld ?_
  rotate_left
  · intro w hSw; obtain ⟨xj, xk, hx⟩ := hSw.1; have c0 := (cell_of_row _ _ 0 _ _ _ hx).trans (by rfl : _ = some (.pointer (some ⟨p, 0, none⟩))); have c1 := (cell_of_row _ _ 1 _ _ _ hx).trans (by rfl : _ = some (.pointer (some ⟨q, 0, none⟩))); have a1 := JA.c1 hSw.2; have a2 := JA.c2 hSw.2; have a3 := JA.c3 hSw.2; have a4 := JA.c4 hSw.2; clear hx; clear hSw; go_simp; try rfl
  simp only [List.getElem_toArray, List.getElem_cons_zero, List.getElem_cons_succ, Act.put, List.setIfInBounds_toArray, List.set_cons_zero, List.set_cons_succ]
  refine wpAnyH_take (i := 11) (v := ?_) rfl (by kernel_rfl) (by kernel_rfl) (by kernel_rfl) (fun _ _ _ h => h) (Or.inl ⟨by rfl, ?_⟩) hHeld ?_
  rotate_left
  · intro w hSw; obtain ⟨xj, xk, hx⟩ := hSw.1; have c0 := (cell_of_row _ _ 0 _ _ _ hx).trans (by rfl : _ = some (.pointer (some ⟨p, 0, none⟩))); have c1 := (cell_of_row _ _ 1 _ _ _ hx).trans (by rfl : _ = some (.pointer (some ⟨q, 0, none⟩))); have a1 := JA.c1 hSw.2; have a2 := JA.c2 hSw.2; have a3 := JA.c3 hSw.2; have a4 := JA.c4 hSw.2; clear hx; clear hSw; go_simp; try rfl
  simp only [List.getElem_toArray, List.getElem_cons_zero, List.getElem_cons_succ, Act.put, List.setIfInBounds_toArray, List.set_cons_zero, List.set_cons_succ]
  refine wpAnyH_take (i := 12) (v := ?_) rfl (by kernel_rfl) (by kernel_rfl) (by kernel_rfl) (fun _ _ _ h => h) (Or.inl ⟨by rfl, ?_⟩) hHeld ?_
  rotate_left
  · intro w hSw; obtain ⟨xj, xk, hx⟩ := hSw.1; have c0 := (cell_of_row _ _ 0 _ _ _ hx).trans (by rfl : _ = some (.pointer (some ⟨p, 0, none⟩))); have c1 := (cell_of_row _ _ 1 _ _ _ hx).trans (by rfl : _ = some (.pointer (some ⟨q, 0, none⟩))); have a1 := JA.c1 hSw.2; have a2 := JA.c2 hSw.2; have a3 := JA.c3 hSw.2; have a4 := JA.c4 hSw.2; clear hx; clear hSw; go_simp; try rfl
  simp only [List.getElem_toArray, List.getElem_cons_zero, List.getElem_cons_succ, Act.put, List.setIfInBounds_toArray, List.set_cons_zero, List.set_cons_succ]
  refine wpAnyH_take (i := 13) (v := ?_) rfl (by kernel_rfl) (by kernel_rfl) (by kernel_rfl) (fun _ _ _ h => h) (Or.inl ⟨by rfl, ?_⟩) hHeld ?_
  rotate_left
  · intro w hSw; obtain ⟨xj, xk, hx⟩ := hSw.1; have c0 := (cell_of_row _ _ 0 _ _ _ hx).trans (by rfl : _ = some (.pointer (some ⟨p, 0, none⟩))); have c1 := (cell_of_row _ _ 1 _ _ _ hx).trans (by rfl : _ = some (.pointer (some ⟨q, 0, none⟩))); have a1 := JA.c1 hSw.2; have a2 := JA.c2 hSw.2; have a3 := JA.c3 hSw.2; have a4 := JA.c4 hSw.2; clear hx; clear hSw; go_simp; try rfl
  simp only [List.getElem_toArray, List.getElem_cons_zero, List.getElem_cons_succ, Act.put, List.setIfInBounds_toArray, List.set_cons_zero, List.set_cons_succ]
  refine wpAnyH_take (i := 14) (v := ?_) rfl (by kernel_rfl) (by kernel_rfl) (by kernel_rfl) (fun _ _ _ h => h) (Or.inl ⟨by rfl, ?_⟩) hHeld ?_
  rotate_left
  · intro w hSw; obtain ⟨xj, xk, hx⟩ := hSw.1; have c0 := (cell_of_row _ _ 0 _ _ _ hx).trans (by rfl : _ = some (.pointer (some ⟨p, 0, none⟩))); have c1 := (cell_of_row _ _ 1 _ _ _ hx).trans (by rfl : _ = some (.pointer (some ⟨q, 0, none⟩))); have a1 := JA.c1 hSw.2; have a2 := JA.c2 hSw.2; have a3 := JA.c3 hSw.2; have a4 := JA.c4 hSw.2; clear hx; clear hSw; go_simp; try rfl
  simp only [List.getElem_toArray, List.getElem_cons_zero, List.getElem_cons_succ, Act.put, List.setIfInBounds_toArray, List.set_cons_zero, List.set_cons_succ]
  refine wpAnyH_take (i := 15) (v := ?_) rfl (by kernel_rfl) (by kernel_rfl) (by kernel_rfl) (fun _ _ _ h => h) (Or.inl ⟨by rfl, ?_⟩) hHeld ?_
  rotate_left
  · intro w hSw; obtain ⟨xj, xk, hx⟩ := hSw.1; have c0 := (cell_of_row _ _ 0 _ _ _ hx).trans (by rfl : _ = some (.pointer (some ⟨p, 0, none⟩))); have c1 := (cell_of_row _ _ 1 _ _ _ hx).trans (by rfl : _ = some (.pointer (some ⟨q, 0, none⟩))); have a1 := JA.c1 hSw.2; have a2 := JA.c2 hSw.2; have a3 := JA.c3 hSw.2; have a4 := JA.c4 hSw.2; clear hx; clear hSw; go_simp; try rfl
  simp only [List.getElem_toArray, List.getElem_cons_zero, List.getElem_cons_succ, Act.put, List.setIfInBounds_toArray, List.set_cons_zero, List.set_cons_succ]
  refine wpAnyH_take (i := 16) (v := ?_) rfl (by kernel_rfl) (by kernel_rfl) (by kernel_rfl) (fun _ _ _ h => h) (Or.inl ⟨by rfl, ?_⟩) hHeld ?_
  rotate_left
  · intro w hSw; obtain ⟨xj, xk, hx⟩ := hSw.1; have c0 := (cell_of_row _ _ 0 _ _ _ hx).trans (by rfl : _ = some (.pointer (some ⟨p, 0, none⟩))); have c1 := (cell_of_row _ _ 1 _ _ _ hx).trans (by rfl : _ = some (.pointer (some ⟨q, 0, none⟩))); have a1 := JA.c1 hSw.2; have a2 := JA.c2 hSw.2; have a3 := JA.c3 hSw.2; have a4 := JA.c4 hSw.2; clear hx; clear hSw; go_simp; try rfl
  simp only [List.getElem_toArray, List.getElem_cons_zero, List.getElem_cons_succ, Act.put, List.setIfInBounds_toArray, List.set_cons_zero, List.set_cons_succ]
  refine wpAnyH_take (i := 17) (v := ?_) rfl (by kernel_rfl) (by kernel_rfl) (by kernel_rfl) (fun _ _ _ h => h) (Or.inl ⟨by rfl, ?_⟩) hHeld ?_
  rotate_left
  · intro w hSw; obtain ⟨xj, xk, hx⟩ := hSw.1; have c0 := (cell_of_row _ _ 0 _ _ _ hx).trans (by rfl : _ = some (.pointer (some ⟨p, 0, none⟩))); have c1 := (cell_of_row _ _ 1 _ _ _ hx).trans (by rfl : _ = some (.pointer (some ⟨q, 0, none⟩))); have a1 := JA.c1 hSw.2; have a2 := JA.c2 hSw.2; have a3 := JA.c3 hSw.2; have a4 := JA.c4 hSw.2; clear hx; clear hSw; go_simp; try rfl
  simp only [List.getElem_toArray, List.getElem_cons_zero, List.getElem_cons_succ, Act.put, List.setIfInBounds_toArray, List.set_cons_zero, List.set_cons_succ]
  refine wpAnyH_take (i := 18) (v := ?_) rfl (by kernel_rfl) (by kernel_rfl) (by kernel_rfl) (fun _ _ _ h => h) (Or.inl ⟨by rfl, ?_⟩) hHeld ?_
  rotate_left
  · intro w hSw; obtain ⟨xj, xk, hx⟩ := hSw.1; have c0 := (cell_of_row _ _ 0 _ _ _ hx).trans (by rfl : _ = some (.pointer (some ⟨p, 0, none⟩))); have c1 := (cell_of_row _ _ 1 _ _ _ hx).trans (by rfl : _ = some (.pointer (some ⟨q, 0, none⟩))); have a1 := JA.c1 hSw.2; have a2 := JA.c2 hSw.2; have a3 := JA.c3 hSw.2; have a4 := JA.c4 hSw.2; clear hx; clear hSw; go_simp; try rfl
  simp only [List.getElem_toArray, List.getElem_cons_zero, List.getElem_cons_succ, Act.put, List.setIfInBounds_toArray, List.set_cons_zero, List.set_cons_succ]
  refine wpAnyH_take (i := 19) (v := ?_) rfl (by kernel_rfl) (by kernel_rfl) (by kernel_rfl) (fun _ _ _ h => h) (Or.inl ⟨by rfl, ?_⟩) hHeld ?_
  rotate_left
  · intro w hSw; obtain ⟨xj, xk, hx⟩ := hSw.1; have c0 := (cell_of_row _ _ 0 _ _ _ hx).trans (by rfl : _ = some (.pointer (some ⟨p, 0, none⟩))); have c1 := (cell_of_row _ _ 1 _ _ _ hx).trans (by rfl : _ = some (.pointer (some ⟨q, 0, none⟩))); have a1 := JA.c1 hSw.2; have a2 := JA.c2 hSw.2; have a3 := JA.c3 hSw.2; have a4 := JA.c4 hSw.2; clear hx; clear hSw; go_simp; try rfl
  simp only [List.getElem_toArray, List.getElem_cons_zero, List.getElem_cons_succ, Act.put, List.setIfInBounds_toArray, List.set_cons_zero, List.set_cons_succ]
  refine wpAnyH_take (i := 20) (v := ?_) rfl (by kernel_rfl) (by kernel_rfl) (by kernel_rfl) (fun _ _ _ h => h) (Or.inl ⟨by rfl, ?_⟩) hHeld ?_
  rotate_left
  · intro w hSw; obtain ⟨xj, xk, hx⟩ := hSw.1; have c0 := (cell_of_row _ _ 0 _ _ _ hx).trans (by rfl : _ = some (.pointer (some ⟨p, 0, none⟩))); have c1 := (cell_of_row _ _ 1 _ _ _ hx).trans (by rfl : _ = some (.pointer (some ⟨q, 0, none⟩))); have a1 := JA.c1 hSw.2; have a2 := JA.c2 hSw.2; have a3 := JA.c3 hSw.2; have a4 := JA.c4 hSw.2; clear hx; clear hSw; go_simp; try rfl
  simp only [List.getElem_toArray, List.getElem_cons_zero, List.getElem_cons_succ, Act.put, List.setIfInBounds_toArray, List.set_cons_zero, List.set_cons_succ]
  refine wpAnyH_ready (rs := [10]) (by kernel_rfl) (by simp) ?_
  refine AllReadyH.cons rfl (fun K hK => ?_) AllReadyH.nil
  rw [if_pos (by rfl)]
  go_simp
  refine (HP.out).mono ?_
  rintro e w2 ⟨F2, rfl, hc2, hs2, ht2, hdf2⟩
  have hq2 := (hc2.block D hD1.lt hD1.dF).trans hD1.cell
  have ha2 := (hc2.block w.heap.size hHlt hHF).trans hHeld.2
  refine hK.out _ _ ⟨⟨_, _, hq2⟩, ha2⟩ (fun hHeld => ?_)
  clear hK K
  have hr2 := desk_mid hD1 hc2
  refine wpAnyH_ready (rs := [21]) (by kernel_rfl) (by simp) ?_
  refine AllReadyH.cons rfl (fun K hK => ?_) AllReadyH.nil
  rw [if_pos (by rfl)]
  go_simp
  refine (rd_rot a.n a.at_ a.x hr2).mono ?_
  rintro e w3 ⟨G3, rfl, hr3, hc3, hs3⟩
  have hq3 := (hc3.block D (Nat.lt_of_lt_of_le hD1.lt hc2.size) hD1.dG).trans hq2
  have ha3 := (hc3.block w.heap.size (Nat.lt_of_lt_of_le hHlt hc2.size) hHG).trans hHeld.2
  refine hK.out _ _ ⟨⟨_, _, hq3⟩, ha3⟩ (fun hHeld => ?_)
  clear hK K
  refine wpAnyH_take (i := 22) (v := ?_) rfl (by kernel_rfl) (by kernel_rfl) (by kernel_rfl) (fun _ _ _ h => h) (Or.inl ⟨by rfl, ?_⟩) hHeld ?_
  rotate_left
  · intro w hSw; obtain ⟨xj, xk, hx⟩ := hSw.1; have c0 := (cell_of_row _ _ 0 _ _ _ hx).trans (by rfl : _ = some (.pointer (some ⟨p, 0, none⟩))); have c1 := (cell_of_row _ _ 1 _ _ _ hx).trans (by rfl : _ = some (.pointer (some ⟨q, 0, none⟩))); have a1 := JA.c1 hSw.2; have a2 := JA.c2 hSw.2; have a3 := JA.c3 hSw.2; have a4 := JA.c4 hSw.2; clear hx; clear hSw; go_simp; try rfl
  simp only [List.getElem_toArray, List.getElem_cons_zero, List.getElem_cons_succ, Act.put, List.setIfInBounds_toArray, List.set_cons_zero, List.set_cons_succ]
  refine wpAnyH_take (i := 23) (v := ?_) rfl (by kernel_rfl) (by kernel_rfl) (by kernel_rfl) (fun _ _ _ h => h) (Or.inl ⟨by rfl, ?_⟩) hHeld ?_
  rotate_left
  · intro w hSw; obtain ⟨xj, xk, hx⟩ := hSw.1; have c0 := (cell_of_row _ _ 0 _ _ _ hx).trans (by rfl : _ = some (.pointer (some ⟨p, 0, none⟩))); have c1 := (cell_of_row _ _ 1 _ _ _ hx).trans (by rfl : _ = some (.pointer (some ⟨q, 0, none⟩))); have a1 := JA.c1 hSw.2; have a2 := JA.c2 hSw.2; have a3 := JA.c3 hSw.2; have a4 := JA.c4 hSw.2; clear hx; clear hSw; go_simp; try rfl
  simp only [List.getElem_toArray, List.getElem_cons_zero, List.getElem_cons_succ, Act.put, List.setIfInBounds_toArray, List.set_cons_zero, List.set_cons_succ]
  refine wpAnyH_take (i := 24) (v := ?_) rfl (by kernel_rfl) (by kernel_rfl) (by kernel_rfl) (fun _ _ _ h => h) (Or.inl ⟨by rfl, ?_⟩) hHeld ?_
  rotate_left
  · intro w hSw; obtain ⟨xj, xk, hx⟩ := hSw.1; have c0 := (cell_of_row _ _ 0 _ _ _ hx).trans (by rfl : _ = some (.pointer (some ⟨p, 0, none⟩))); have c1 := (cell_of_row _ _ 1 _ _ _ hx).trans (by rfl : _ = some (.pointer (some ⟨q, 0, none⟩))); have a1 := JA.c1 hSw.2; have a2 := JA.c2 hSw.2; have a3 := JA.c3 hSw.2; have a4 := JA.c4 hSw.2; clear hx; clear hSw; go_simp; try rfl
  simp only [List.getElem_toArray, List.getElem_cons_zero, List.getElem_cons_succ, Act.put, List.setIfInBounds_toArray, List.set_cons_zero, List.set_cons_succ]
  have hmid := desk_step (b' := none) hD1 hc2 hs2 ht2 hdf2 (fun e => by cases e) (.inr rfl) hc3 hs3 hr3
  refine wpAnyH_ready (rs := [25]) (by kernel_rfl) (by simp) ?_
  refine AllReadyH.cons rfl (fun K hK => ?_) AllReadyH.nil
  rw [if_pos (by rfl)]
  go_simp
  refine (desk_open hmid ht).mono ?_
  rintro e w4 ⟨F4, jv4, kv4, rfl, h4, c4⟩
  have ha4 := (c4.block w.heap.size (Nat.lt_of_lt_of_le hHlt (Nat.le_trans hc2.size hc3.size)) (fun hm => by have := List.mem_singleton.1 hm; have := h.lt; omega)).trans hHeld.2
  refine hK.out _ _ ⟨⟨_, _, h4.cell⟩, ha4⟩ (fun hHeld => ?_)
  clear hK K
  refine wpAnyH_take (i := 26) (v := ?_) rfl (by kernel_rfl) (by kernel_rfl) (by kernel_rfl) (fun _ _ _ h => h) (Or.inl ⟨by rfl, ?_⟩) hHeld ?_
  rotate_left
  · intro w hSw; obtain ⟨xj, xk, hx⟩ := hSw.1; have c0 := (cell_of_row _ _ 0 _ _ _ hx).trans (by rfl : _ = some (.pointer (some ⟨p, 0, none⟩))); have c1 := (cell_of_row _ _ 1 _ _ _ hx).trans (by rfl : _ = some (.pointer (some ⟨q, 0, none⟩))); have a1 := JA.c1 hSw.2; have a2 := JA.c2 hSw.2; have a3 := JA.c3 hSw.2; have a4 := JA.c4 hSw.2; clear hx; clear hSw; go_simp; try rfl
  simp only [List.getElem_toArray, List.getElem_cons_zero, List.getElem_cons_succ, Act.put, List.setIfInBounds_toArray, List.set_cons_zero, List.set_cons_succ]
  refine wpAnyH_take (i := 27) (v := ?_) rfl (by kernel_rfl) (by kernel_rfl) (by kernel_rfl) (fun _ _ _ h => h) (Or.inl ⟨by rfl, ?_⟩) hHeld ?_
  rotate_left
  · intro w hSw; obtain ⟨xj, xk, hx⟩ := hSw.1; have c0 := (cell_of_row _ _ 0 _ _ _ hx).trans (by rfl : _ = some (.pointer (some ⟨p, 0, none⟩))); have c1 := (cell_of_row _ _ 1 _ _ _ hx).trans (by rfl : _ = some (.pointer (some ⟨q, 0, none⟩))); have a1 := JA.c1 hSw.2; have a2 := JA.c2 hSw.2; have a3 := JA.c3 hSw.2; have a4 := JA.c4 hSw.2; clear hx; clear hSw; go_simp; try rfl
  simp only [List.getElem_toArray, List.getElem_cons_zero, List.getElem_cons_succ, Act.put, List.setIfInBounds_toArray, List.set_cons_zero, List.set_cons_succ]
  refine wpAnyH_done (by kernel_rfl) ?_ _
  clear hHeld hmid hr3 hr2 hc2 hc3 hs2 hs3 hD1 HP hq2 hq3 ha2 ha3 ha4 ht2 c4 hdf2
  go_wp2_with fail
  go_ret
  exact ⟨F4, G3, jv4, kv4, rfl, h4⟩
set_option maxHeartbeats 4000000 in
set_option maxRecDepth 100000 in
theorem desk_act3 {bb : Option Bool} (a : JA) (hk : a.kind = 3) (hlen : ¬ 20000 < a.bn) (hm : s.many + 8400 < 1048576 ∧ s.L.length + 8400 < 1048576) (h : DK w0 w D p q F G jv kv s bb) (ht : Tabs w0) :
    Calls Tryz.prog 7 #[.pointer (some ⟨D, 0, none⟩), .agg a.cells.toArray] w fun e w' => ∃ F' G' jv' kv', e = .returned (.bool true) ∧ DK w0 w' D p q F' G' jv' kv' (jn.make s).2 (some (decide ((jn.make s).1 = 0))) := by
  have b1 : Below w.heap.size w (w.alloc (.cells a.cells.toArray 39)) := (Below.refl _ _).alloc (Nat.le_refl _) _
  have r1 := heap_alloc_new w (.cells a.cells.toArray 39)
  have z0 := JA.c0 r1
  have z4 := JA.c4 r1
  rw [hk] at z0
  have hlen' : (a.bn : Int) ≤ 20000 := by omega
  have hD1 := h.below b1
  obtain ⟨Fd, hdf, hFd⟩ := hD1.df
  have HM := Lib.hid (jf_make hdf ht ⟨by omega, by omega⟩)
  have HK := Lib.hid (fun W (hW : RD W G (.pointer (some ⟨q, 0, none⟩)) s) => rj_make hW ⟨by omega, by omega⟩)
  have k0 := hD1.c0
  have k1 := hD1.c1
  obtain ⟨r, hr⟩ : ∃ r, (jn.make s).1 = r := ⟨_, rfl⟩
  obtain ⟨s1, hs1⟩ : ∃ s1, (jn.make s).2 = s1 := ⟨_, rfl⟩
  rw [hr, hs1] at HM ⊢
  simp only [hr, hs1] at HK
  have hthG1 := hD1.thG
  have hlt1 := hD1.lt
  clear hk hr hs1 b1
  by_cases hr0 : r = 0
  · rw [decide_eq_true hr0]
    rw [hr0] at HM HK
    clear hr0
    go_enter Tryz.func7, Tryz.ntmps7
    go_wp2_with fail
    generalize w.alloc (.cells a.cells.toArray 39) = W1 at *
    refine HM.out.mono ?_
    rintro e w2 ⟨v, F2, rfl, hj, hnj, hc2, hs2⟩
    have hj := hj trivial
    obtain ⟨jq, rfl⟩ := hj.form
    have hth2 := hj.there
    have hdf2 := hj.df
    have hc2' : Chg W1 w2 F := hc2.mono (fun k hk => .inl (hFd k hk))
    have hs2' : Sub W1 F2 F := fun k hk => (hs2 k hk).imp (hFd k) id
    have hr2 := desk_mid hD1 hc2'
    have k1' : w2.cell? ⟨D, 1, none⟩ = some (.pointer (some ⟨q, 0, none⟩)) := by
      have := (hc2'.block D hlt1 hD1.dF).trans hD1.cell
      rw [cell_of_row _ _ 1 _ _ _ this]; rfl
    have HK2 := Lib.hid (HK.out w2 hr2)
    clear hnj
    go_wp2_with fail
    refine HK2.out.mono ?_
    rintro e w3 ⟨v3, G3, rfl, hkj, hkn, hr3, hc3, hs3, hnew⟩
    have hkj := hkj trivial
    have hform : ∃ x, v3 = .pointer (some ⟨x, 0, none⟩) := by obtain ⟨x, _, e, _⟩ := hkj; exact ⟨x, e⟩
    obtain ⟨kq, rfl⟩ := hform
    have hkq := hnew kq rfl
    have h3 := desk_step (b' := none) hD1 hc2' hs2' hth2 hdf2 (fun e => by cases e) (.inr rfl) hc3 hs3 hr3
    have hsm : Same w2 w3 F2 := hc3.same (hD1.apt.step hs2' hthG1).symm hth2
    have e2 := h3.c2
    have e3 := h3.c3
    have f2 : w3.frozen? ⟨D, 2, none⟩ = false := by simp [World.frozen?, h3.cell]
    have f3 : w3.frozen? ⟨D, 3, none⟩ = false := by simp [World.frozen?, h3.cell]
    have hj3 := hj.keep h3.under hc3.size hsm
    have hfin := desk_set (b' := some true) (jv' := .pointer (some ⟨jq, 0, none⟩)) (kv' := .pointer (some ⟨kq, 0, none⟩)) h3.cell h3.dF h3.dG h3.at_ h3.ownF h3.ownG h3.apt h3.thF h3.rd h3.df (fun _ => hj3) (fun _ => RK.of_rj hkj h3.rd (fun x e => by
        injection e with e; injection e with e; injection e with e
        subst e
        exact ⟨fun hm => by have := hth2 _ hm; omega, by have := hD1.under.size; have := hc2'.size; omega⟩)) (fun e => by cases e)
    have HFIN := Lib.hid hfin
    clear hfin h3 hsm hr3 hr2 hD1 h HK2 HK HM k0 k1 k1' hc3 hs3 hc2 hc2' hs2 hs2'
    go_wp2_with fail
    go_ret
    exact ⟨F2, G3, _, _, rfl, HFIN.out⟩
  · rw [decide_eq_false hr0]
    have hne : (r == 0) = false := by simpa using hr0
    have HR0 := Lib.hid hr0
    clear hr0
    go_enter Tryz.func7, Tryz.ntmps7
    go_wp2_with fail
    generalize w.alloc (.cells a.cells.toArray 39) = W1 at *
    refine HM.out.mono ?_
    rintro e w2 ⟨v, F2, rfl, hj, hnj, hc2, hs2⟩
    obtain ⟨rfl, hdf0⟩ := hnj HR0.out
    have hth2 : Ther w2 F2 := hdf0.cd.there
    have hdf2 : ∃ Fd, DF w0 w2 Fd (.pointer (some ⟨p, 0, none⟩)) s1 ∧ ∀ k ∈ Fd, k ∈ F2 := ⟨F2, hdf0, fun _ h => h⟩
    have hc2' : Chg W1 w2 F := hc2.mono (fun k hk => .inl (hFd k hk))
    have hs2' : Sub W1 F2 F := fun k hk => (hs2 k hk).imp (hFd k) id
    have hr2 := desk_mid hD1 hc2'
    have k1' : w2.cell? ⟨D, 1, none⟩ = some (.pointer (some ⟨q, 0, none⟩)) := by
      have := (hc2'.block D hlt1 hD1.dF).trans hD1.cell
      rw [cell_of_row _ _ 1 _ _ _ this]; rfl
    have HK2 := Lib.hid (HK.out w2 hr2)
    clear hnj
    go_wp2_with fail
    refine HK2.out.mono ?_
    rintro e w3 ⟨v3, G3, rfl, hkj, hkn, hr3, hc3, hs3, hnew⟩
    obtain rfl := hkn HR0.out
    have h3 := desk_step (b' := none) hD1 hc2' hs2' hth2 hdf2 (fun e => by cases e) (.inr rfl) hc3 hs3 hr3
    have hsm : Same w2 w3 F2 := hc3.same (hD1.apt.step hs2' hthG1).symm hth2
    have e2 := h3.c2
    have e3 := h3.c3
    have f2 : w3.frozen? ⟨D, 2, none⟩ = false := by simp [World.frozen?, h3.cell]
    have f3 : w3.frozen? ⟨D, 3, none⟩ = false := by simp [World.frozen?, h3.cell]
    have hfin := desk_set (b' := some false) (jv' := .pointer none) (kv' := .pointer none) h3.cell h3.dF h3.dG h3.at_ h3.ownF h3.ownG h3.apt h3.thF h3.rd h3.df (fun e => by cases e) (fun e => by cases e) (fun _ => ⟨rfl, rfl⟩)
    have HFIN := Lib.hid hfin
    clear hfin h3 hsm hr3 hr2 hD1 h HK2 HK HM k0 k1 k1' hc3 hs3 hc2 hc2' hs2 hs2'
    go_wp2_with fail
    go_ret
    exact ⟨F2, G3, _, _, rfl, HFIN.out⟩
end Go.Proofs.YtknndmhkfonfmaaGreatDoor

/-
  what the laws of the journal are given: batches to lay.
-/
namespace Go.Proofs.YtknndmhkfonfmaaGreatDoor
open Go.ChangeShapes Go.WideShapes Go.ChangeAt Go.RowKit
set_option maxRecDepth 100000 in
/-- a slice of bytes by its cell, whatever its bulk -/
theorem open_bytes_cell {H : Type} {enc : TypeId × Value → H} {W : World} {fuel : Nat} {cs : List Value} {d : DataW H} {pl : List MemPlace} (h : DataW.trod enc Tryz.prog W 0 (fun _ => true) true fuel 36 cs = some (d, pl)) (hw : ∀ n ∈ d.weights Tryz.prog 36, n ≤ reachBytes) :
    ∃ A n c l, cs = [.slice A n c] ∧ BS W A n c l ∧ n ≤ 140737488351232 := by
  have hrb : reachBytes = 140737488351232 := by decide
  have b8 : Tryz.prog.bytesOf 5 = 1 := by kernel_rfl
  rcases open_ints Tryz.underlying36 Tryz.underlying5 (by kernel_rfl) h with ⟨hcs, hx⟩ | ⟨a, len, cap, zs, hcs, _, hl, hm, hz, hx, hcell, hwz⟩
  · exact ⟨none, 0, 0, [], hcs, ⟨rfl, Nat.le_refl _, by omega, by omega, fun h => absurd h (by omega)⟩, by omega⟩
  · simp only [if_true] at hz
    simp only [Prod.mk.injEq] at hx
    obtain ⟨rfl, rfl⟩ := hx
    simp only [DataW.weights, Tryz.underlying36, b8] at hw
    have h1 := hw _ (List.mem_cons_self ..)
    simp only [lits, List.length_map, List.length_take, List.length_drop, hz, hrb] at h1
    have hlen : len ≤ 140737488351232 := by omega
    obtain ⟨l, hll, hB⟩ := bs_of_row (A := some a) hl hm hz hwz (fun e => by cases e) (fun a' ha i hi => by
      injection ha with ha
      subst ha
      exact hcell i (by omega)) (by omega)
    exact ⟨some a, len, cap, l, hcs, hB, hlen⟩
end Go.Proofs.YtknndmhkfonfmaaGreatDoor

/-
  what JournalPlays is given: acts.
-/
namespace Go.Proofs.YtknndmhkfonfmaaGreatDoor
open Go.ChangeShapes Go.WideShapes Go.ChangeAt Go.RowKit
set_option maxRecDepth 100000 in
theorem i64_rangeJ {a : Int} (w : (Lit.int .i64 a).wf = true) : -9223372036854775808 ≤ a ∧ a ≤ 9223372036854775807 := by
  simpa [Lit.wf, IntKind.min, IntKind.max, IntKind.signed, IntKind.bits] using w
/-- THE SLICE OF ACTS '.slice A n c' READS AS l IN w. -/
structure JS (w : World) (A : Option Addr) (n c : Nat) (l : List JA) : Prop where
  len : l.length = n
  cap : n ≤ c
  max : c ≤ 9223372036854775807
  ok : ∀ x ∈ l, x.Ok w
  has : 0 < n → ∃ b o, A = some ⟨b, o, none⟩ ∧ b < w.heap.size ∧ ∀ i (h : i < l.length), w.rangeAt b (o + i * 6) l[i].cells
theorem JA.Ok.below {w w' : World} {a : JA} (h : a.Ok w) (hb : Below w.heap.size w w') : a.Ok w' :=
  ⟨h.b.below hb, h.p.chg (Chg.of_below hb []) (by simp), h.n, h.kind⟩
theorem cells_jact : Tryz.prog.cellsOf 39 = 6 := by kernel_rfl
theorem size_jact : (Tryz.prog.info? 39).map (·.size) = some 6 := by kernel_rfl
section
variable {ops : Array Oper} {rest : List Oper} {o : Oper} {a : Act} {w : World} {Q : Exit → Act → World → Prop}
set_option maxRecDepth 100000 in
/-- an act is loaded -/
theorem wp_lda (x : Operand) (y : JA) {b off : Nat} (hr : w.rangeAt b off y.cells) (hgd : o.guard = none) (ho : o.op = .load 39 x) (hx : a.eval x = .pointer (some ⟨b, off, none⟩))
    (hk : wpList Tryz.prog ops Q rest (a.put o.dst (.agg y.cells.toArray)) w) : wpList Tryz.prog ops Q (o :: rest) a w :=
  wpList_load_mid hgd _ x ho b off hx _ _ hr Tryz.underlying39 rfl size_jact hk
end
set_option maxRecDepth 100000 in
theorem open_jact {H : Type} {enc : TypeId × Value → H} {W : World} {fuel : Nat} {cs : List Value} {d : DataW H} {pl : List MemPlace} (h : DataW.trod enc Tryz.prog W 0 (fun _ => true) true fuel 39 cs = some (d, pl)) (hw : ∀ n ∈ d.weights Tryz.prog 39, n ≤ reachBytes) :
    ∃ a : JA, cs = a.cells ∧ a.Ok W := by
  obtain ⟨xs, n', _, hd, hcl, hxl, hfx⟩ := DataW.trod_struct Tryz.underlying39 h
  rw [cells_jact] at hcl
  have hx2 : xs.length = 6 := hxl
  match xs, hx2, cs, hcl with
  | [x0, x1, x2, x3, x4, x5], _, [c0, c1, c2, c3, c4, c5], _ =>
    have f0 : DataW.trod enc Tryz.prog W 0 (fun _ => true) true n' 3 [c0] = some x0 := hfx 0 _ rfl
    have f1 : DataW.trod enc Tryz.prog W 0 (fun _ => true) true n' 3 [c1] = some x1 := hfx 1 _ rfl
    have f2 : DataW.trod enc Tryz.prog W 0 (fun _ => true) true n' 3 [c2] = some x2 := hfx 2 _ rfl
    have f3 : DataW.trod enc Tryz.prog W 0 (fun _ => true) true n' 5 [c3] = some x3 := hfx 3 _ rfl
    have f4 : DataW.trod enc Tryz.prog W 0 (fun _ => true) true n' 36 [c4] = some x4 := hfx 4 _ rfl
    have f5 : DataW.trod enc Tryz.prog W 0 (fun _ => true) true n' 37 [c5] = some x5 := hfx 5 _ rfl
    obtain ⟨z0, h0, _, w0⟩ := DataW.trod_int Tryz.underlying3 f0
    obtain ⟨z1, h1, _, w1⟩ := DataW.trod_int Tryz.underlying3 f1
    obtain ⟨z2, h2, _, w2⟩ := DataW.trod_int Tryz.underlying3 f2
    obtain ⟨z3, h3, _, w3⟩ := DataW.trod_int Tryz.underlying5 f3
    obtain ⟨d4, p4⟩ := x4
    simp only [Prod.mk.injEq, List.map_cons, List.map_nil] at hd
    obtain ⟨hd, _⟩ := hd
    rw [hd] at hw
    obtain ⟨bA, bn, bc, bl, h4, hB, _⟩ := open_bytes_cell f4 (fun n hn => hw n (by
      simp only [DataW.weights, Tryz.underlying39]
      exact List.mem_append_right _ (List.mem_append_right _ (List.mem_append_right _ (List.mem_append_right _ (List.mem_append_left _ hn))))))
    obtain ⟨pA, pn, pc, pl, h5, hI⟩ := open_is f5
    obtain ⟨y, hy⟩ := byte_of_wf' w3
    simp only [List.cons.injEq, and_true] at h0 h1 h2 h3 h4 h5
    refine ⟨⟨z0, z1, z2, y, bA, bn, bc, bl, pA, pn, pc, pl⟩, ?_, hB, hI, i64_rangeJ w1, i64_rangeJ w0⟩
    simp only [JA.cells]
    rw [h0, h1, h2, h3, h4, h5, hy]
theorem JA.length (a : JA) : a.cells.length = 6 := rfl
set_option maxRecDepth 100000 in
theorem open_jacts {H : Type} {enc : TypeId × Value → H} {W : World} {base : Nat} {v : Value} {d : DataW H} {ps : List MemPlace}
    (hval : Value.okWide Tryz.prog W .any base 22 v) (h : DataW.Trod enc Tryz.prog W 0 (fun _ => true) true 22 v d ps) (hw : ∀ n ∈ d.weights Tryz.prog 22, n ≤ reachBytes) :
    ∃ A n c l, v = .slice A n c ∧ JS W A n c l := by
  obtain ⟨a0, len, cap, rfl⟩ := okWide_slice Tryz.underlying22 hval
  obtain ⟨fuel, hf⟩ := h
  rcases Deep.open_slice Tryz.underlying22 hf with ⟨hcs, hx⟩ | ⟨a, len', cap', m, n, D, Pl, hcs, _, hl, hm, hmm, hx, hr⟩
  · simp [Value.cells] at hcs
    obtain ⟨rfl, rfl, rfl⟩ := hcs
    exact ⟨none, 0, 0, [], rfl, rfl, Nat.le_refl _, by omega, by simp, fun h => absurd h (by omega)⟩
  · simp [Value.cells] at hcs
    obtain ⟨rfl, rfl, rfl⟩ := hcs
    simp only [if_true] at hmm
    have hmm' := hmm.symm
    subst hmm'
    simp only [Prod.mk.injEq] at hx
    obtain ⟨rfl, rfl⟩ := hx
    rw [maxLen_eq] at hm
    simp only [DataW.weights, Tryz.underlying22] at hw
    have each : ∀ i, i < len → ∃ y : JA, y.Ok W ∧ W.cells? 0 (a.add (i * 6)) 6 = some y.cells := fun i hi => by
      obtain ⟨cs', h1, h2⟩ := hr i (by omega)
      rw [cells_jact] at h1
      obtain ⟨y, rfl, hy⟩ := open_jact h2 (fun n hn => hw n (List.mem_cons_of_mem _ (List.mem_append_left _ (weightsAll_mem (d := D i) (List.mem_map.2 ⟨i, List.mem_range.2 hi, rfl⟩) hn))))
      exact ⟨y, hy, h1⟩
    obtain ⟨Y, hY⟩ := Deep.choose_lt each
    refine ⟨some a, len, cap, (List.range len).map Y, rfl, by simp, hl, hm, fun x hx => ?_, fun h0 => ?_⟩
    · obtain ⟨i, hi, rfl⟩ := List.mem_map.1 hx
      exact (hY i (List.mem_range.1 hi)).1
    · obtain ⟨b, o, ha, hbl, _, _⟩ := cells_spot (by omega) (hY 0 h0).2
      rw [Nat.zero_mul] at ha
      have ha0 : a = ⟨b, o, none⟩ := by
        have : a.add 0 = a := by simp [Addr.add]
        rw [← this]; exact ha
      subst ha0
      refine ⟨b, o, rfl, hbl, fun i hi => ?_⟩
      have hi' : i < len := by simpa using hi
      obtain ⟨b2, o2, ha2, _, hlen2, hc2⟩ := cells_spot (by omega) (hY i hi').2
      rw [Addr.add_lit] at ha2
      injection ha2 with e1 e2
      subst e1 e2
      simp only [List.getElem_map, List.getElem_range]
      intro j u hj
      have hj' : j < 6 := (List.getElem?_eq_some_iff.1 hj).1
      rw [hc2 j hj']
      exact hj
end Go.Proofs.YtknndmhkfonfmaaGreatDoor

/-
  PURE: what lives does.
-/
namespace Go.Proofs.YtknndmhkfonfmaaGreatDoor
open Go.RowKit
namespace jn
theorem opens_fresh {n : Nat} (h : 64 ≤ n) : opens (fresh n) = 5 := by
  have hr : ∀ k : Nat, k < n → rd (fresh n) (k : Int) = dk.zero := fun k hk => by
    refine (rd_sure rfl rfl (by simpa [fresh] using hk)).trans ?_
    show (List.replicate n dk.zero).getD k dk.zero = dk.zero
    rw [List.getD_eq_getElem?_getD, List.getElem?_replicate, if_pos hk]
    rfl
  have e : jn.newest (fresh n) = (0, hd.zero, 7) := by
    have e0 : rd (fresh n) 0 = dk.zero := hr 0 (by omega)
    have e1 : rd (fresh n) 1 = dk.zero := hr 1 (by omega)
    rw [jn.newest, e0, e1]
    exact newest_zero
  unfold jn.opens
  rw [e, if_neg (show ¬ ((fresh n).black = true) from fun h => Bool.noConfusion h), if_pos (.inl (by simp))]
structure Lived (s1 s2 s3 s4 : St) : Prop where
  e1 : make (fresh 66) = (0, s1)
  g1 : Good s1 0 1 hd.zero []
  m1 : s1.many + 4200 < 1048576
  h1 : half s1 = 32
  e2 : append s1 hd.zero (List.replicate 125 0) = (0, s2)
  g2 : Good s2 1 2 ⟨0, 2, 1⟩ [List.replicate 125 0]
  m2 : s2.many + 4200 < 1048576
  e3 : append s2 ⟨0, 2, 1⟩ [] = (0, s3)
  g3 : Good s3 0 3 ⟨0, 3, 2⟩ [List.replicate 125 0, []]
  m3 : s3.many + 4200 < 1048576
  h3 : half s3 = 32
  e4 : replace s3 ⟨0, 3, 2⟩ [1, 2, 3] = (0, s4)
  g4 : Good s4 1 4 ⟨1, 1, 1⟩ [[1, 2, 3]]
  m4 : s4.many + 4200 < 1048576
  h4 : half s4 = 32
  e5 : append s4 ⟨1, 1, 1⟩ (List.replicate 3968 0) = (10, s4)
theorem blocks_many (b : List UInt8) {k : Nat} (h : count (b.length + 4) = k) : (blocks b).length = k := (blocks_length b).trans h
theorem lived : ∃ s1 s2 s3 s4, Lived s1 s2 s3 s4 := by
  have hf : (fresh 66).S.length = 66 := rfl
  obtain ⟨a1, a2, a3, a4, a5⟩ := make_good (fresh_ok (n := 66) (by omega) (by omega)) rfl ⟨rfl, rfl⟩
  have n0 : (fresh 66).many = 0 := rfl
  rw [n0] at a4
  rw [hf] at a3
  obtain ⟨s1, hs1⟩ : ∃ s1, (make (fresh 66)).2 = s1 := ⟨_, rfl⟩
  rw [hs1] at a2 a3 a4 a5
  have e1 : make (fresh 66) = (0, s1) := Prod.ext a1 hs1
  have h1 : half s1 = 32 := by unfold half; rw [a3]
  have l1 := blocks_many (List.replicate 125 0) (k := 2) (by rw [List.length_replicate]; rfl)
  obtain ⟨b1, b2, b3, b4, b5⟩ := append_calm a2 a5 (by decide) (List.replicate 125 0) (by rw [List.length_replicate]; omega) (by rw [l1, h1]; decide)
  have k1 : appendH hd.zero (List.replicate 125 0) = ⟨0, 2, 1⟩ := by unfold appendH; rw [l1]; rfl
  rw [k1] at b2
  rw [l1, a4] at b4
  rw [a3] at b3
  obtain ⟨s2, hs2⟩ : ∃ s, (append s1 hd.zero (List.replicate 125 0)).2 = s := ⟨_, rfl⟩
  rw [hs2] at b2 b3 b4 b5
  have h2 : half s2 = 32 := by unfold half; rw [b3]
  have l2 := blocks_many [] (k := 1) rfl
  obtain ⟨c1, c2, c3, c4, c5⟩ := append_calm b2 b5 (by decide) [] (by decide) (by rw [l2, h2]; decide)
  have k2 : appendH ⟨0, 2, 1⟩ [] = ⟨0, 3, 2⟩ := by unfold appendH; rw [l2]
  rw [k2] at c2
  rw [l2, b4] at c4
  rw [b3] at c3
  obtain ⟨s3, hs3⟩ : ∃ s, (append s2 ⟨0, 2, 1⟩ []).2 = s := ⟨_, rfl⟩
  rw [hs3] at c2 c3 c4 c5
  have h3 : half s3 = 32 := by unfold half; rw [c3]
  have l3 := blocks_many [1, 2, 3] (k := 1) rfl
  obtain ⟨d1, d2, d3, d4, d5⟩ := replace_calm c2 c5 (by decide) [1, 2, 3] (by decide) (by rw [l3, h3]; decide)
  have k3 : replaceH ⟨0, 3, 2⟩ [1, 2, 3] = ⟨1, 1, 1⟩ := by unfold replaceH; rw [l3]; rfl
  rw [k3] at d2
  rw [l3, c4] at d4
  rw [c3] at d3
  obtain ⟨s4, hs4⟩ : ∃ s, (replace s3 ⟨0, 3, 2⟩ [1, 2, 3]).2 = s := ⟨_, rfl⟩
  rw [hs4] at d2 d3 d4 d5
  have h4 : half s4 = 32 := by unfold half; rw [d3]
  have l4 := blocks_many (List.replicate 3968 0) (k := 32) (by rw [List.length_replicate]; rfl)
  refine ⟨s1, s2, s3, s4, e1, a2, by rw [a4]; decide, h1, Prod.ext b1 hs2, b2, by rw [b4]; decide, Prod.ext c1 hs3, c2, by rw [c4]; decide, h3, Prod.ext d1 hs4, d2, by rw [d4]; decide, h4, ?_⟩
  exact append_full d2 _ (by rw [List.length_replicate]; omega) (by rw [l4, h4]; decide)
end jn
end Go.Proofs.YtknndmhkfonfmaaGreatDoor

/-
  cardexlaw07: lives.
-/
namespace Go.Proofs.YtknndmhkfonfmaaGreatDoor
open Go.RowKit
set_option maxHeartbeats 4000000 in
set_option maxRecDepth 100000 in
theorem lives07_any (w : World) (ht : Tabs w) : Calls Tryz.prog 18 #[] w fun e w' => e = .returned (.bool true) ∧ Below w.heap.size w w' := by
  obtain ⟨i0, hi, hz0, hz1, hz2⟩ := info_parts info_u8
  obtain ⟨s1, s2, s3, s4, L⟩ := jn.lived
  have HOP := Lib.hid (jn.opens_fresh (n := 66) (by omega))
  have HL := Lib.hid L
  have HF := Lib.hid (show (fresh 66).many + 4200 < 1048576 ∧ (fresh 66).L.length + 4200 < 1048576 from ⟨by decide, by decide⟩)
  clear L
  have hmk : ∀ W, (Instr.makeSlice 36 (.int .i64 125) (.int .i64 125)).run Tryz.prog W = .ok (.slice (some ⟨W.heap.size, 0, none⟩) 125 125) (W.alloc (.cells (zeroB 125) 5)) := fun W => run_make_bytes (P := Tryz.prog) 36 5 i0 Tryz.underlying36 hi hz0 hz1 hz2 .i64 .i64 125 (by omega) W
  have hmk2 : ∀ W, (Instr.makeSlice 36 (.int .i64 3968) (.int .i64 3968)).run Tryz.prog W = .ok (.slice (some ⟨W.heap.size, 0, none⟩) 3968 3968) (W.alloc (.cells (zeroB 3968) 5)) := fun W => run_make_bytes (P := Tryz.prog) 36 5 i0 Tryz.underlying36 hi hz0 hz1 hz2 .i64 .i64 3968 (by omega) W
  have hfd : ∀ W, (Instr.field 53 (hd.val ⟨1, 1, 1⟩) 0).run Tryz.prog W = .ok (.int .u8 1) W := fun _ => by kernel_rfl
  go_enter Tryz.func18, Tryz.ntmps18
  go_wp2_with fail
  refine (dw_new 66 (by omega) (by omega) w (Below.refl _ _)).mono ?_
  rintro e w1 ⟨d, rfl, D1⟩
  obtain ⟨p, rfl⟩ := D1.form
  go_wp2_with fail
  refine (jw_open D1 ht).mono ?_
  rintro e w2 ⟨v, rfl, -, hv, D2⟩
  obtain rfl := hv (by rw [HOP.out]; decide)
  rw [HOP.out]
  clear D1 hv
  go_wp2_with fail
  refine (jw_make D2 ht HF.out).mono ?_
  rintro e w3 ⟨j, rfl, hj, -, -⟩
  have J3 := hj (by rw [HL.out.e1])
  rw [HL.out.e1] at J3 ⊢
  obtain ⟨q, rfl⟩ := J3.form
  clear D2 hj
  go_wp2_with fail
  refine (jw_room J3 HL.out.g1.light).mono ?_
  rintro e w4 ⟨rfl, b4⟩
  have J4 := J3.below b4
  rw [HL.out.g1.newest, HL.out.h1, show ((32 : Nat) : Int) - (((0 + 1, hd.zero, (0 : Int)) : Nat × hd.H × Int).2.1.blocks : Int) = 32 from rfl]
  clear J3
  have hB4 : BS (w4.alloc (.cells (zeroB 125) 5)) (some ⟨w4.heap.size, 0, none⟩) 125 125 (List.replicate 125 0) := by
    have h := ((zeroB_row w4 5 125).own_all (base := 0) (Nat.zero_le _) (by simp)).bs
    simpa using h
  have H5 := Lib.hid (jw_append J4 ht HL.out.g1 (by decide) HL.out.m1 ((Below.refl _ _).alloc (Nat.le_refl _) (.cells (zeroB 125) 5)) hB4 (fun _ x o e => by injection e with e; injection e with e _; exact .inr (by omega)))
  clear hB4 J4 b4
  go_wp2_with fail
  refine H5.out.mono ?_
  rintro e w5 ⟨rfl, J5⟩
  rw [HL.out.e2] at J5 ⊢
  clear H5
  go_wp2_with fail
  refine (jw_append J5 ht HL.out.g2 (by decide) HL.out.m2 (Below.refl _ _) (BS.nil_ w5) (fun _ x o e => by cases e)).mono ?_
  rintro e w6 ⟨rfl, J6⟩
  rw [HL.out.e3] at J6 ⊢
  clear J5
  go_wp2_with fail
  refine (jw_room J6 HL.out.g3.light).mono ?_
  rintro e w7 ⟨rfl, b7⟩
  have J7 := J6.below b7
  rw [HL.out.g3.newest, HL.out.h3]
  clear J6
  have hB7 : BS (w7.alloc (.cells #[.int .u8 1, .int .u8 2, .int .u8 3] 5)) (some ⟨w7.heap.size, 0, none⟩) 3 3 [1, 2, 3] := BS.lit w7 5 [1, 2, 3] _ rfl 3 rfl (by omega)
  have H8 := Lib.hid (jw_replace J7 ht HL.out.g3 (by decide) HL.out.m3 ((Below.refl _ _).alloc (Nat.le_refl _) (.cells #[.int .u8 1, .int .u8 2, .int .u8 3] 5)) hB7 (fun _ x o e => by injection e with e; injection e with e _; exact .inr (by omega)))
  clear hB7 J7 b7
  go_wp2_with fail
  refine H8.out.mono ?_
  rintro e w8 ⟨rfl, J8⟩
  rw [HL.out.e4] at J8 ⊢
  clear H8
  go_wp2_with fail
  refine (jw_batches J8 HL.out.g4.light).mono ?_
  rintro e w9 ⟨A, n, c, rfl, hR, b9⟩
  have J9 := J8.below b9
  rw [HL.out.g4.newest] at hR
  simp only at hR
  rw [HL.out.g4.batches] at hR
  have hn := hR.len
  have hc := hR.cap
  simp only [List.length_cons, List.length_nil] at hn
  obtain rfl : n = 1 := by omega
  obtain ⟨xb, xo, rfl, -⟩ := hR.has (by omega)
  obtain ⟨Z, zc, hz, hZ⟩ := rs_at hR (i := 0) (by omega)
  change w9.cell? ⟨xb, xo, none⟩ = some (.slice Z 3 zc) at hz
  change BS w9 Z 3 zc [1, 2, 3] at hZ
  have ba : Below w9.heap.size w9 (w9.alloc (.cells #[.int .u8 1, .int .u8 2, .int .u8 3] 5)) := (Below.refl _ _).alloc (Nat.le_refl _) _
  have J10 := J9.below ba
  have HS := Lib.hid (same_true _ _ _ _ _ _ [1, 2, 3] (w9.alloc (.cells #[.int .u8 1, .int .u8 2, .int .u8 3] 5)) (hZ.below ba) (BS.lit w9 5 [1, 2, 3] _ rfl 3 rfl (by omega)))
  clear J9 b9 hR hn hZ J8
  go_wp2_with fail
  refine HS.out.mono ?_
  rintro e w10 ⟨rfl, rfl⟩
  clear HS
  generalize w9.alloc (.cells #[.int .u8 1, .int .u8 2, .int .u8 3] 5) = W at *
  clear ba hz
  go_wp2_with fail
  refine (jw_room J10 HL.out.g4.light).mono ?_
  rintro e w11 ⟨rfl, b11⟩
  have J11 := J10.below b11
  rw [HL.out.g4.newest, HL.out.h4, show ((32 : Nat) : Int) - (((1 : Nat) : Int)) = 31 from rfl]
  clear J10 b11
  go_wp2_with fail
  refine (jw_head J11 HL.out.g4.light).mono ?_
  rintro e w12 ⟨rfl, b12⟩
  have J12 := J11.below b12
  rw [HL.out.g4.newest]
  clear J11 b12
  have hB13 : BS (w12.alloc (.cells (zeroB 3968) 5)) (some ⟨w12.heap.size, 0, none⟩) 3968 3968 (List.replicate 3968 0) := by
    have h := ((zeroB_row w12 5 3968).own_all (base := 0) (Nat.zero_le _) (by simp)).bs
    simpa using h
  have H13 := Lib.hid (jw_append J12 ht HL.out.g4 (by decide) HL.out.m4 ((Below.refl _ _).alloc (Nat.le_refl _) (.cells (zeroB 3968) 5)) hB13 (fun _ x o e => by injection e with e; injection e with e _; exact .inr (by omega)))
  clear hB13 J12
  generalize zeroB 3968 = zb at *
  go_wp2_with fail
  refine H13.out.mono ?_
  rintro e w14 ⟨rfl, J14⟩
  rw [HL.out.e5] at J14 ⊢
  go_wp2_with fail
  go_ret
  exact ⟨rfl, J14.dw.under⟩
end Go.Proofs.YtknndmhkfonfmaaGreatDoor
