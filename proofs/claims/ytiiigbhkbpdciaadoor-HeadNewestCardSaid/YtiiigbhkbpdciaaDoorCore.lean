/-
  WHAT MANY TEXTS SHARE: endings, the bytes' type, bytes of a call's own, bytes in a new block, integers that came in; cardexref00.Same.
-/
import Derived.Test.YtiiigbhkbpdciaaDoorRows
import Derived.Test.YtiiigbhkbpdciaaDoorWords
import Derived.Deep.QuietTactic
import Derived.BigQuiet
import Derived.WalkSpells
namespace Go.Proofs.YtiiigbhkbpdciaaDoor
open Go.RowKit

theorem ret_bool {a b : Bool} (h : a = b) : Ending.returned (.bool a) = .returned (.bool b) := by rw [h]
theorem ret_slice {A : Option Addr} {n n' c c' : Nat} (h : n = n') (h' : c = c') : Ending.returned (.slice A n c) = .returned (.slice A n' c') := by rw [h, h']
theorem ret_int {k : IntKind} {a b : Int} (h : a = b) : Ending.returned (.int k a) = .returned (.int k b) := by rw [h]

theorem info_u8 : (Tryd.prog.info? 5).map (fun i => (i.zero, i.size, i.bytes)) = some (some (.int .u8 0), 1, 1) := by kernel_rfl
/-- how a call that answers bytes of its own ends -/
def OwnEnd (E : TypeId) (l : List UInt8) (w : World) (e : Ending) (w' : World) : Prop := ∃ v, e = .returned v ∧ OwnB E w' w.heap.size v l ∧ Below w.heap.size w w'

set_option maxRecDepth 100000 in
theorem own_empty (w : World) (e : TypeId) : OwnB e (w.alloc (.cells #[] e)) w.heap.size (.slice (some ⟨w.heap.size, 0, none⟩) 0 0) [] :=
  .inr ⟨w.heap.size, [], rfl, Nat.le_refl _, heap_alloc_new w _, by simp, by simp⟩
set_option maxRecDepth 100000 in
theorem bs_none {w : World} {n c : Nat} {l : List UInt8} (h : BS w none n c l) : n = 0 ∧ l = [] := by
  rcases Nat.eq_zero_or_pos n with h0 | h0
  · exact ⟨h0, List.eq_nil_of_length_eq_zero (h.len.trans h0)⟩
  · obtain ⟨b, o, he, _⟩ := h.has h0
    cases he

set_option maxRecDepth 100000 in
theorem own_lit (w : World) (e : TypeId) (l : List UInt8) (cs : Array Value) (hcs : cs = (l.map bv).toArray) (n : Nat) (hn : n = l.length) (hs : n ≤ 281474976710656) :
    OwnEnd e l w (.returned (.slice (some ⟨w.heap.size, 0, none⟩) n n)) (w.alloc (.cells cs e)) := by
  subst hcs hn
  exact ⟨_, rfl, .inr ⟨w.heap.size, [], by simp, Nat.le_refl _, by rw [List.append_nil]; exact heap_alloc_new w _, by simp; omega, hs⟩, (Below.refl _ _).alloc (Nat.le_refl _) _⟩

set_option maxRecDepth 100000 in
/-- bytes in a new block -/
theorem BS.lit (w : World) (e : TypeId) (l : List UInt8) (cs : Array Value) (hcs : cs = (l.map bv).toArray) (n : Nat) (hn : n = l.length) (hs : n ≤ 281474976710656) : BS (w.alloc (.cells cs e)) (some ⟨w.heap.size, 0, none⟩) n n l := by
  subst hcs hn
  refine ⟨rfl, Nat.le_refl _, by omega, hs, fun _ => ⟨_, _, rfl, by simp, fun i hi => ?_⟩⟩
  rw [Nat.zero_add]
  rw [cell_of_row _ _ i (l.map bv).toArray e (0, 0) (heap_alloc_new w _)]
  simp [hi]

set_option maxRecDepth 100000 in
theorem drop_bs {w : World} {A : Option Addr} {n c : Nat} {l : List UInt8} (h : BS w A n c l) {j : Nat} (hj : j < n) : BS w (A.map fun x => x.add j) (n - j) (c - j) (l.drop j) := by
  have hl := h.len
  have hc := h.cap
  have hm := h.max
  have := h.cut (at_ := j) (k := n - j) (c' := c - j) (by omega) (by omega) (by omega) (by omega)
  rwa [List.take_of_length_le (by simp; omega)] at this

set_option maxRecDepth 100000 in
theorem u32_nat {a : Int} (w : (Lit.int .u32 a).wf = true) : ∃ n : Nat, a = n ∧ n < 4294967296 := by
  have hx : 0 ≤ a ∧ a ≤ 4294967295 := by simpa [Lit.wf, IntKind.min, IntKind.max, IntKind.signed, IntKind.bits] using w
  exact ⟨a.toNat, by omega, by omega⟩
set_option maxRecDepth 100000 in
theorem u64_nat' {a : Int} (w : (Lit.int .u64 a).wf = true) : ∃ n : Nat, a = n ∧ n < 18446744073709551616 := by
  have hx : 0 ≤ a ∧ a ≤ 18446744073709551615 := by simpa [Lit.wf, IntKind.min, IntKind.max, IntKind.signed, IntKind.bits] using w
  exact ⟨a.toNat, by omega, by omega⟩
set_option maxRecDepth 100000 in
theorem i64_range {a : Int} (w : (Lit.int .i64 a).wf = true) : -9223372036854775808 ≤ a ∧ a ≤ 9223372036854775807 := by
  simpa [Lit.wf, IntKind.min, IntKind.max, IntKind.signed, IntKind.bits] using w

set_option maxRecDepth 100000 in
theorem i32_range {a : Int} (w : (Lit.int .i32 a).wf = true) : -2147483648 ≤ a ∧ a ≤ 2147483647 := by
  simpa [Lit.wf, IntKind.min, IntKind.max, IntKind.signed, IntKind.bits] using w



end Go.Proofs.YtiiigbhkbpdciaaDoor
