/-
  WHAT MANY TEXTS SHARE: endings, the bytes' type, bytes of a call's own, bytes in a new block, integers that came in; cardexref00.Same.
-/
import Derived.Test.YtlchfadfbepapaaRows
import Derived.Test.YtlchfadfbepapaaWords
import Derived.Deep.QuietTactic
import Derived.BigQuiet
import Derived.WalkSpells
namespace Go.Proofs.Ytlchfadfbepapaa
open Go.RowKit

theorem ret_bool {a b : Bool} (h : a = b) : Ending.returned (.bool a) = .returned (.bool b) := by rw [h]
theorem ret_slice {A : Option Addr} {n n' c c' : Nat} (h : n = n') (h' : c = c') : Ending.returned (.slice A n c) = .returned (.slice A n' c') := by rw [h, h']
theorem ret_int {k : IntKind} {a b : Int} (h : a = b) : Ending.returned (.int k a) = .returned (.int k b) := by rw [h]

theorem info_u8 : (Try.prog.info? 5).map (fun i => (i.zero, i.size, i.bytes)) = some (some (.int .u8 0), 1, 1) := by kernel_rfl
/-- how a call that answers bytes of its own ends -/
def OwnEnd (E : TypeId) (l : List UInt8) (w : World) (e : Ending) (w' : World) : Prop := ∃ v, e = .returned v ∧ OwnB E w' w.heap.size v l ∧ Below w.heap.size w w'

set_option maxRecDepth 100000 in
theorem own_empty (w : World) (e : TypeId) : OwnB e (w.alloc (.cells #[] e)) w.heap.size (.slice (some ⟨w.heap.size, 0, none⟩) 0 0) [] :=
  .inr ⟨w.heap.size, [], rfl, Nat.le_refl _, heap_alloc_new w _, by simp, by simp⟩
set_option maxRecDepth 100000 in
theorem bs_none {w : World} {n c : Nat} {l : List UInt8} (h : BS w none n c l) : n = 0 ∧ l = [] := by
  rcases Nat.eq_zero_or_pos n with h0 | h0
  · exact ⟨h0, List.eq_nil_of_length_eq_zero (h.len.trans h0)⟩
  · obtain ⟨b, o, he, _⟩ := h.has h0
    cases he

set_option maxRecDepth 100000 in
theorem own_lit (w : World) (e : TypeId) (l : List UInt8) (cs : Array Value) (hcs : cs = (l.map bv).toArray) (n : Nat) (hn : n = l.length) (hs : n ≤ 281474976710656) :
    OwnEnd e l w (.returned (.slice (some ⟨w.heap.size, 0, none⟩) n n)) (w.alloc (.cells cs e)) := by
  subst hcs hn
  exact ⟨_, rfl, .inr ⟨w.heap.size, [], by simp, Nat.le_refl _, by rw [List.append_nil]; exact heap_alloc_new w _, by simp; omega, hs⟩, (Below.refl _ _).alloc (Nat.le_refl _) _⟩

set_option maxRecDepth 100000 in
/-- bytes in a new block -/
theorem BS.lit (w : World) (e : TypeId) (l : List UInt8) (cs : Array Value) (hcs : cs = (l.map bv).toArray) (n : Nat) (hn : n = l.length) (hs : n ≤ 281474976710656) : BS (w.alloc (.cells cs e)) (some ⟨w.heap.size, 0, none⟩) n n l := by
  subst hcs hn
  refine ⟨rfl, Nat.le_refl _, by omega, hs, fun _ => ⟨_, _, rfl, by simp, fun i hi => ?_⟩⟩
  rw [Nat.zero_add]
  rw [cell_of_row _ _ i (l.map bv).toArray e (0, 0) (heap_alloc_new w _)]
  simp [hi]

set_option maxRecDepth 100000 in
theorem drop_bs {w : World} {A : Option Addr} {n c : Nat} {l : List UInt8} (h : BS w A n c l) {j : Nat} (hj : j < n) : BS w (A.map fun x => x.add j) (n - j) (c - j) (l.drop j) := by
  have hl := h.len
  have hc := h.cap
  have hm := h.max
  have := h.cut (at_ := j) (k := n - j) (c' := c - j) (by omega) (by omega) (by omega) (by omega)
  rwa [List.take_of_length_le (by simp; omega)] at this

set_option maxRecDepth 100000 in
theorem u32_nat {a : Int} (w : (Lit.int .u32 a).wf = true) : ∃ n : Nat, a = n ∧ n < 4294967296 := by
  have hx : 0 ≤ a ∧ a ≤ 4294967295 := by simpa [Lit.wf, IntKind.min, IntKind.max, IntKind.signed, IntKind.bits] using w
  exact ⟨a.toNat, by omega, by omega⟩
set_option maxRecDepth 100000 in
theorem u64_nat' {a : Int} (w : (Lit.int .u64 a).wf = true) : ∃ n : Nat, a = n ∧ n < 18446744073709551616 := by
  have hx : 0 ≤ a ∧ a ≤ 18446744073709551615 := by simpa [Lit.wf, IntKind.min, IntKind.max, IntKind.signed, IntKind.bits] using w
  exact ⟨a.toNat, by omega, by omega⟩
set_option maxRecDepth 100000 in
theorem i64_range {a : Int} (w : (Lit.int .i64 a).wf = true) : -9223372036854775808 ≤ a ∧ a ≤ 9223372036854775807 := by
  simpa [Lit.wf, IntKind.min, IntKind.max, IntKind.signed, IntKind.bits] using w

set_option maxRecDepth 100000 in
theorem i32_range {a : Int} (w : (Lit.int .i32 a).wf = true) : -2147483648 ≤ a ∧ a ≤ 2147483647 := by
  simpa [Lit.wf, IntKind.min, IntKind.max, IntKind.signed, IntKind.bits] using w

set_option maxRecDepth 100000 in
theorem same_any (A1 A2 : Option Addr) (n1 c1 n2 c2 : Nat) (l1 l2 : List UInt8) (w : World) (h1 : BS w A1 n1 c1 l1) (h2 : BS w A2 n2 c2 l2) :
    Calls Try.prog 14 #[.slice A1 n1 c1, .slice A2 n2 c2] w fun e w' => e = .returned (.bool (decide (l1 = l2))) ∧ w = w' := by
  have k1 := run_convert_bs (P := Try.prog) h1 24 5 9 Try.underlying24 Try.underlying5 Try.underlying9
  have k2 := run_convert_bs (P := Try.prog) h2 24 5 9 Try.underlying24 Try.underlying5 Try.underlying9
  go_enter Try.func14, Try.ntmps14
  go_wp2
  go_ret
  exact ⟨ret_bool (by by_cases h : l1 = l2 <;> simp [h]), rfl⟩

set_option maxRecDepth 100000 in
theorem same_true (A1 A2 : Option Addr) (n1 c1 n2 c2 : Nat) (l : List UInt8) (w : World) (h1 : BS w A1 n1 c1 l) (h2 : BS w A2 n2 c2 l) :
    Calls Try.prog 14 #[.slice A1 n1 c1, .slice A2 n2 c2] w fun e w' => e = .returned (.bool true) ∧ w = w' :=
  (same_any A1 A2 n1 c1 n2 c2 l l w h1 h2).mono fun _ _ h => by simpa using h
set_option maxRecDepth 100000 in
theorem same_false (A1 A2 : Option Addr) (n1 c1 n2 c2 : Nat) (l1 l2 : List UInt8) (w : World) (h1 : BS w A1 n1 c1 l1) (h2 : BS w A2 n2 c2 l2) (hne : l1 ≠ l2) :
    Calls Try.prog 14 #[.slice A1 n1 c1, .slice A2 n2 c2] w fun e w' => e = .returned (.bool false) ∧ w = w' :=
  (same_any A1 A2 n1 c1 n2 c2 l1 l2 w h1 h2).mono fun _ _ h => by simpa [hne] using h
set_option maxRecDepth 100000 in
theorem same_lit (A : Option Addr) (n c : Nat) (l : List UInt8) (w : World) (cs : Array Value) (hcs : cs = (l.map bv).toArray) (h : BS w A n c l) :
    Calls Try.prog 14 #[.slice A n c, .slice (some ⟨w.heap.size, 0, none⟩) n n] (w.alloc (.cells cs 5)) fun e w' => e = .returned (.bool true) ∧ Below w.heap.size w w' :=
  (same_true _ _ _ _ _ _ l _ (h.alloc _) (BS.lit w _ l cs hcs n h.len.symm h.small)).mono fun _ _ h => ⟨h.1, h.2 ▸ (Below.refl _ _).alloc (Nat.le_refl _) _⟩

end Go.Proofs.Ytlchfadfbepapaa
