/-
  WORDS FOR STRINGS: []byte(s), slices of strings, strings told by lists.
-/
import Derived.Test.YtlchfadfbepapaaRows
import Derived.Test.YtlchfadfbepapaaWords
import Derived.Lib.ConvBytes
namespace Go.Proofs.Ytlchfadfbepapaa
open Go.RowKit

/-- a string, by its bytes -/
abbrev str (l : List UInt8) : Value := .string ⟨l.toArray⟩
theorem str_of (s : ByteArray) : (.string s : Value) = str s.data.toList := rfl

/-- the world behind []byte(s), and the room of what it answers -/
def bytesW (e : TypeId) (w : World) (l : List UInt8) : World := Lib.bytesWorld w e ⟨l.toArray⟩
def bytesC (e : TypeId) (w : World) (l : List UInt8) : Nat := grownCap w l.length 0 e
theorem run_convert_str {P : Program} (w : World) (src dst e : TypeId) (l : List UInt8) (hs : P.underlying src = some .string) (hd : P.underlying dst = some (.slice e)) (he : P.underlying e = some (.int .u8)) :
    (convert src dst (.string ⟨l.toArray⟩)).run P w = .ok (.slice (some ⟨w.heap.size, 0, none⟩) l.length (bytesC e w l)) (bytesW e w l) :=
  Lib.run_convert_string_bytes w src dst e ⟨l.toArray⟩ hs hd he
theorem bytesW_below (e : TypeId) (w : World) (l : List UInt8) (B : Nat) (hB : B ≤ w.heap.size) : Below B w (bytesW e w l) := by
  refine ⟨rfl, rfl, rfl, ?_, fun k hk => Lib.bytesWorld_at_old w e _ k (by omega)⟩
  rw [bytesW, Lib.bytesWorld_size]
  omega
theorem bytesW_bs (e : TypeId) (w : World) (l : List UInt8) (hl : l.length ≤ 281474976710656) : BS (bytesW e w l) (some ⟨w.heap.size, 0, none⟩) l.length (bytesC e w l) l := by
  refine ⟨rfl, grownCap_ge w _ _ _, ?_, hl, fun _ => ⟨_, _, rfl, ?_, fun i hi => ?_⟩⟩
  · have := grownCap_le_maxLen w l.length 0 e (by rw [maxLen_eq]; omega)
    rw [maxLen_eq] at this
    exact this
  · rw [bytesW, Lib.bytesWorld_size]
    omega
  · rw [Nat.zero_add, bytesW, Lib.bytesWorld_cell w e ⟨l.toArray⟩ i hi]
    simp [hi]
end Go.Proofs.Ytlchfadfbepapaa
