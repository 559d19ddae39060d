/-
  WHAT THE SECOND FORM's BOUND GIVES: a byte slice among the arguments has at most so many letters.
-/
import Derived.Test.YtlchfadfbepapaaRows
namespace Go.Proofs.Ytlchfadfbepapaa.bulks

theorem pos {H : Type} (d : DataW H) : 1 ≤ Rows.uptoBulk d := by
  cases d with
  | lit l => cases l <;> simp [Rows.uptoBulk]
  | _ => simp [Rows.uptoBulk]
theorem many {H : Type} : ∀ l : List (DataW H), l.length ≤ Rows.uptoBulkAll l
  | [] => by simp
  | d :: r => by
    have h1 := pos d
    have h2 := many r
    simp only [Rows.uptoBulkAll, List.length_cons]
    omega
theorem one_of {H : Type} : ∀ (l : List (DataW H)) (j : Nat) (d : DataW H), l[j]? = some d → Rows.uptoBulk d ≤ Rows.uptoBulkAll l
  | [], _, _, h => by simp at h
  | x :: r, 0, d, h => by
    simp only [List.getElem?_cons_zero, Option.some.injEq] at h
    subst h
    simp only [Rows.uptoBulkAll]
    omega
  | x :: r, j + 1, d, h => by
    simp only [List.getElem?_cons_succ] at h
    have := one_of r j d h
    simp only [Rows.uptoBulkAll]
    omega
theorem bound {H : Type} {l : List (DataW H)} (hk : Rows.uptoSmall H l = true) : Rows.uptoBulkAll l ≤ 1048576 := of_decide_eq_true hk
theorem bytes_le {H : Type} {l : List (DataW H)} (hk : Rows.uptoSmall H l = true) {j : Nat} {d : DataW H} {A : Option Addr} {n : Nat} (hd : l[j]? = some d)
    (hs : A = none ∧ n = 0 ∨ ∃ elems spare, d = .slice elems spare ∧ elems.length = n) : n ≤ 1048576 := by
  rcases hs with ⟨_, rfl⟩ | ⟨elems, spare, rfl, rfl⟩
  · omega
  · have h1 := one_of l j _ hd
    have h2 := bound hk
    have h3 := many elems
    simp only [Rows.uptoBulk] at h1
    omega
theorem string_le {H : Type} {l : List (DataW H)} (hk : Rows.uptoSmall H l = true) {j : Nat} {x : List UInt8} (hd : l[j]? = some (.lit (.string x))) : x.length ≤ 1048576 := by
  have h1 := one_of l j _ hd
  have h2 := bound hk
  simp only [Rows.uptoBulk] at h1
  omega

end Go.Proofs.Ytlchfadfbepapaa.bulks
