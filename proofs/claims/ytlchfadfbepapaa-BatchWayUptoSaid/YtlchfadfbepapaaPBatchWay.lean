/-
  'cardex/cardexlaw08.BatchWay': THE STATEMENT, out of its walk (walk_BatchWay): for every input that the second form speaks of (of bulk at most as the row says) the law returns true, and each argument reads behind the call as before.
-/
import Derived.Test.YtlchfadfbepapaaRows
import Derived.Test.YtlchfadfbepapaaLaw
import Derived.Test.YtlchfadfbepapaaLaw08e
import Derived.Test.YtlchfadfbepapaaBatchO
import Derived.Test.YtlchfadfbepapaaBulk
namespace Go.Proofs.Ytlchfadfbepapaa.batchWay
open Go.ChangeShapes Go.WideShapes Go.ChangeAt Go.RowKit

set_option maxRecDepth 100000 in
theorem lifted (os : Os) (started : os.Started) (H : Type) (enc : TypeId × Value → H) (F : Stop.Interp) :
    ReturnsInHanded {} Try.checked os 7 .any ((Rows.OpenSpec.upto Rows.batchWaySpec).pre6 enc Try.prog Try.f7 Rows.batchWayUptoRow.domain false) (((Rows.OpenSpec.upto Rows.batchWaySpec).at F).post enc Try.prog Try.f7 false true false false) := by
  refine returnsInHanded_of_cond_sized (C := Try.checked) (s := Rows.OpenSpec.upto Rows.batchWaySpec) (k := Rows.uptoSmall) rfl own_none started (by kernel_rfl) Try.func7
    (OpenSpec.witness (enc := enc) (C := Try.checked) (s := Rows.OpenSpec.upto Rows.batchWaySpec) (k := Rows.uptoSmall) rfl false ⟨#[], #[.slice none 0 0, .slice none 0 0], []⟩ 8 (by kernel_rfl) (by kernel_rfl) (by kernel_rfl)
      (x := ([.nil, .nil], [], [])) (by kernel_rfl) rfl (by kernel_rfl)) ?_
  intro W base args ds gs before hval0 hW hcnd hk hsz _
  have hval : ∀ (j : Nat) t v, Try.f7.params[j]? = some t → args[j]? = some v → Value.okWide Try.prog W .any base t v := hval0
  have hW' := hW
  obtain ⟨p, q, hA0, hV, rfl, hfz, hnd⟩ := hW
  have hA : DataW.TrodAll enc Try.prog W 0 (fun _ => true) true Try.f7.params.toList args.toList ds p := hA0
  rw [Try.params7] at hA hval hsz
  obtain ⟨v0, vs0, d0, ds0, p0, q0, hargs, rfl, rfl, h0, r0⟩ := trodAll_cons hA
  obtain ⟨v1, vs1, d1, ds1, p1, q1, rfl, rfl, rfl, h1, r1⟩ := trodAll_cons r0
  obtain ⟨rfl, rfl, rfl⟩ := trodAll_nil r1
  obtain rfl : args = #[v0, v1] := by cases args; simp_all
  obtain ⟨rfl, rfl⟩ := trodVars_none hV
  have y0 := Nat.le_trans (bulks.one_of _ 0 _ rfl) (bulks.bound hk)
  obtain ⟨A0, n0, c0, l0, rfl, b0, z0, s0⟩ := open_tab (hval 0 22 v0 rfl rfl) h0 y0
  have y1 := Nat.le_trans (bulks.one_of _ 1 _ rfl) (bulks.bound hk)
  obtain ⟨A1, n1, c1, l1, rfl, b1, z1, s1⟩ := open_tab (hval 1 22 v1 rfl rfl) h1 y1
  clear hA0 hval0
  refine (walk_BatchWay A0 n0 c0 l0 A1 n1 c1 l1 W b0 z0 s0 b1 z1 s1).mono fun e W' ⟨he, hb⟩ => ?_
  subst he
  exact ⟨_, rfl, law_post (s := Rows.batchWaySpec) rfl rfl rfl (by intro t ht; rw [Try.params7] at ht; revert t; exact of_decide_eq_true (by kernel_rfl)) hW' hb⟩

theorem over : Rows.batchWayUptoRow.holds Try.pinned (Rows.OpenSpec.upto Rows.batchWaySpec) :=
  OpenClaim.holds_of_cond 7 Try.f7 rfl rfl rfl rfl rfl rfl rfl ⟨rfl, rfl, rfl, rfl, rfl⟩ rfl rfl rfl rfl rfl (by kernel_rfl) Try.func7 (by kernel_rfl)
    (of_decide_eq_true (by kernel_rfl)) (by unfold Func.isWrapper; first | (rw [if_pos (by decide +kernel)]; kernel_rfl) | (rw [if_neg (by decide +kernel)]; exact ⟨rfl, rfl⟩))
    (fun os started H enc _ F => lifted os started H enc F)

theorem proved : Rows.BatchWayUptoSaid :=
  over
end Go.Proofs.Ytlchfadfbepapaa.batchWay
