/-
  small changes and rows, and their literals in memory.
-/
import Derived.Test.YtlchfadfbepapaaBatchG2
import Derived.Test.YtlchfadfbepapaaBatchH
import Derived.Test.YtlchfadfbepapaaCore
namespace Go.Proofs.Ytlchfadfbepapaa
open Go.RowKit
namespace bt
def ch1 : C := ⟨[97], [7], false⟩
def ro1 : R := ⟨[97], [7]⟩
def ch2 : C := ⟨[97], [], true⟩
def ch3 : C := ⟨[98], [8], false⟩
def ro2 : R := ⟨[98], [8]⟩
def ch4 : C := ⟨[98], [], false⟩
def ch5 : C := ⟨[97], [], false⟩
theorem live1 : mayC [ch1] = true := by decide
theorem live2 : bytes [ch1] = [1, 0, 0, 0, 1, 0, 0, 0, 97, 0, 1, 0, 0, 0, 7] := by decide
theorem live3 : get (bytes [ch1]) = ([ch1], 0) := get_bytes live1 (by decide)
theorem live4 : apply [ro1] [ch2, ch3] = ([ro2], 0) := by decide
theorem live5 : mayC [ch4, ch5] = false := by decide
end bt
theorem CS.lit1 {w : World} {B : Nat} {k v : List UInt8} {A : Option Addr} {c : Nat} {g : Bool} {T : TypeId} (h : w.heap[B]? = some (.cells #[str k, .slice A v.length c, .bool g] T (0, 0))) (hb : BS w A v.length c v) : CS w (some ⟨B, 0, none⟩) 1 1 [⟨k, v, g⟩] :=
  ⟨rfl, Nat.le_refl _, by omega, fun _ => ⟨B, 0, rfl, (Array.getElem?_eq_some_iff.1 h).1, fun i hi => by
    obtain rfl : i = 0 := by simp at hi; omega
    exact ⟨(cell_of_row _ _ 0 _ _ _ h).trans (by rfl), (cell_of_row _ _ 2 _ _ _ h).trans (by rfl), A, c, (cell_of_row _ _ 1 _ _ _ h).trans (by rfl), hb⟩⟩⟩
theorem CS.lit2 {w : World} {B : Nat} {k v : List UInt8} {A : Option Addr} {c : Nat} {g : Bool} {k2 v2 : List UInt8} {A2 : Option Addr} {c2 : Nat} {g2 : Bool} {T : TypeId} (h : w.heap[B]? = some (.cells #[str k, .slice A v.length c, .bool g, str k2, .slice A2 v2.length c2, .bool g2] T (0, 0))) (hb : BS w A v.length c v) (hb2 : BS w A2 v2.length c2 v2) : CS w (some ⟨B, 0, none⟩) 2 2 [⟨k, v, g⟩, ⟨k2, v2, g2⟩] :=
  ⟨rfl, Nat.le_refl _, by omega, fun _ => ⟨B, 0, rfl, (Array.getElem?_eq_some_iff.1 h).1, fun i hi => by
    have hi2 : i = 0 ∨ i = 1 := by simp at hi; omega
    rcases hi2 with rfl | rfl
    · exact ⟨(cell_of_row _ _ 0 _ _ _ h).trans (by rfl), (cell_of_row _ _ 2 _ _ _ h).trans (by rfl), A, c, (cell_of_row _ _ 1 _ _ _ h).trans (by rfl), hb⟩
    · exact ⟨(cell_of_row _ _ 3 _ _ _ h).trans (by rfl), (cell_of_row _ _ 5 _ _ _ h).trans (by rfl), A2, c2, (cell_of_row _ _ 4 _ _ _ h).trans (by rfl), hb2⟩⟩⟩
theorem TS.lit1 {w : World} {B : Nat} {k v : List UInt8} {A : Option Addr} {c : Nat} {T : TypeId} (h : w.heap[B]? = some (.cells #[str k, .slice A v.length c] T (0, 0))) (hb : BS w A v.length c v) : TS w (some ⟨B, 0, none⟩) 1 1 [⟨k, v⟩] :=
  ⟨rfl, Nat.le_refl _, by omega, fun _ => ⟨B, 0, rfl, (Array.getElem?_eq_some_iff.1 h).1, fun i hi => by
    obtain rfl : i = 0 := by simp at hi; omega
    exact ⟨(cell_of_row _ _ 0 _ _ _ h).trans (by rfl), A, c, (cell_of_row _ _ 1 _ _ _ h).trans (by rfl), hb⟩⟩⟩
theorem zero_row : (Try.prog.info? 51).map (fun i => (i.zero, i.size)) = some (some (.agg #[str [], .slice none 0 0]), 2) := by kernel_rfl
end Go.Proofs.Ytlchfadfbepapaa
