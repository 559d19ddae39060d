/-
  'cardex/cardexlaw08.BatchApplies': THE STATEMENT, out of its walk (walk_BatchApplies): for every input that the second form speaks of (of bulk at most as the row says) the law returns true, and each argument reads behind the call as before.
-/
import Derived.Test.YtlchfadfbepapaaRows
import Derived.Test.YtlchfadfbepapaaLaw
import Derived.Test.YtlchfadfbepapaaLaw08c
import Derived.Test.YtlchfadfbepapaaBatchO
import Derived.Test.YtlchfadfbepapaaBulk
namespace Go.Proofs.Ytlchfadfbepapaa.batchApplies
open Go.ChangeShapes Go.WideShapes Go.ChangeAt Go.RowKit

set_option maxRecDepth 100000 in
theorem lifted (os : Os) (started : os.Started) (H : Type) (enc : TypeId × Value → H) (F : Stop.Interp) :
    ReturnsInHanded {} Try.checked os 5 .any ((Rows.OpenSpec.upto Rows.batchAppliesSpec).pre6 enc Try.prog Try.f5 Rows.batchAppliesUptoRow.domain false) (((Rows.OpenSpec.upto Rows.batchAppliesSpec).at F).post enc Try.prog Try.f5 false true false false) := by
  refine returnsInHanded_of_cond_sized (C := Try.checked) (s := Rows.OpenSpec.upto Rows.batchAppliesSpec) (k := Rows.uptoSmall) rfl own_none started (by kernel_rfl) Try.func5
    (OpenSpec.witness (enc := enc) (C := Try.checked) (s := Rows.OpenSpec.upto Rows.batchAppliesSpec) (k := Rows.uptoSmall) rfl false ⟨#[], #[.slice none 0 0, .slice none 0 0, .slice none 0 0, .string ByteArray.empty], []⟩ 8 (by kernel_rfl) (by kernel_rfl) (by kernel_rfl)
      (x := ([.nil, .nil, .nil, .lit (.string [])], [], [])) (by kernel_rfl) rfl (by kernel_rfl)) ?_
  intro W base args ds gs before hval0 hW hcnd hk hsz _
  have hval : ∀ (j : Nat) t v, Try.f5.params[j]? = some t → args[j]? = some v → Value.okWide Try.prog W .any base t v := hval0
  have hW' := hW
  obtain ⟨p, q, hA0, hV, rfl, hfz, hnd⟩ := hW
  have hA : DataW.TrodAll enc Try.prog W 0 (fun _ => true) true Try.f5.params.toList args.toList ds p := hA0
  rw [Try.params5] at hA hval hsz
  obtain ⟨v0, vs0, d0, ds0, p0, q0, hargs, rfl, rfl, h0, r0⟩ := trodAll_cons hA
  obtain ⟨v1, vs1, d1, ds1, p1, q1, rfl, rfl, rfl, h1, r1⟩ := trodAll_cons r0
  obtain ⟨v2, vs2, d2, ds2, p2, q2, rfl, rfl, rfl, h2, r2⟩ := trodAll_cons r1
  obtain ⟨v3, vs3, d3, ds3, p3, q3, rfl, rfl, rfl, h3, r3⟩ := trodAll_cons r2
  obtain ⟨rfl, rfl, rfl⟩ := trodAll_nil r3
  obtain rfl : args = #[v0, v1, v2, v3] := by cases args; simp_all
  obtain ⟨rfl, rfl⟩ := trodVars_none hV
  have y0 := Nat.le_trans (bulks.one_of _ 0 _ rfl) (bulks.bound hk)
  obtain ⟨A0, n0, c0, l0, rfl, b0, z0, s0⟩ := open_tab (hval 0 22 v0 rfl rfl) h0 y0
  have y1 := Nat.le_trans (bulks.one_of _ 1 _ rfl) (bulks.bound hk)
  obtain ⟨A1, n1, c1, l1, rfl, b1, z1, s1⟩ := open_tab (hval 1 22 v1 rfl rfl) h1 y1
  have y2 := Nat.le_trans (bulks.one_of _ 2 _ rfl) (bulks.bound hk)
  obtain ⟨A2, n2, c2, l2, rfl, b2, z2, s2⟩ := open_chs (hval 2 23 v2 rfl rfl) h2 y2
  obtain ⟨a3, rfl, rfl, rfl, w3⟩ := ChangeMaps.open_string Try.underlying9 (hval 3 9 v3 rfl rfl) h3
  have z3 := string_small hsz (j := 3) rfl rfl
  have y3 := bulks.string_le hk (j := 3) rfl
  clear hA0 hval0
  refine (walk_BatchApplies A0 n0 c0 l0 A1 n1 c1 l1 A2 n2 c2 l2 a3.data.toList W b0 z0 s0 b1 z1 s1 b2 z2 s2 (by omega)).mono fun e W' ⟨he, hb⟩ => ?_
  subst he
  exact ⟨_, rfl, law_post (s := Rows.batchAppliesSpec) rfl rfl rfl (by intro t ht; rw [Try.params5] at ht; revert t; exact of_decide_eq_true (by kernel_rfl)) hW' hb⟩

theorem over : Rows.batchAppliesUptoRow.holds Try.pinned (Rows.OpenSpec.upto Rows.batchAppliesSpec) :=
  OpenClaim.holds_of_cond 5 Try.f5 rfl rfl rfl rfl rfl rfl rfl ⟨rfl, rfl, rfl, rfl, rfl⟩ rfl rfl rfl rfl rfl (by kernel_rfl) Try.func5 (by kernel_rfl)
    (of_decide_eq_true (by kernel_rfl)) (by unfold Func.isWrapper; first | (rw [if_pos (by decide +kernel)]; kernel_rfl) | (rw [if_neg (by decide +kernel)]; exact ⟨rfl, rfl⟩))
    (fun os started H enc _ F => lifted os started H enc F)

theorem proved : Rows.BatchAppliesUptoSaid :=
  over
end Go.Proofs.Ytlchfadfbepapaa.batchApplies
