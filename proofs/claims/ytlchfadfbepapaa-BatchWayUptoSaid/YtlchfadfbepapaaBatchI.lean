/-
  THE PROGRAM's batch: its contracts, as the laws read them.
-/
import Derived.Test.YtlchfadfbepapaaBatchF
import Derived.Test.YtlchfadfbepapaaBatchW
import Derived.Test.YtlchfadfbepapaaBatchA
import Derived.Test.YtlchfadfbepapaaBatchH
import Derived.Test.YtlchfadfbepapaaBatchP
import Derived.Test.YtlchfadfbepapaaBatchS
import Derived.Test.YtlchfadfbepapaaBatchM3
import Derived.Test.YtlchfadfbepapaaBatchQE
import Derived.Test.YtlchfadfbepapaaBatchQH
import Derived.Test.YtlchfadfbepapaaBatchQP
import Derived.Test.YtlchfadfbepapaaBatchZ
namespace Go.Proofs.Ytlchfadfbepapaa
open Go.RowKit
/-- the values among n changes at block b, from o on, may be spoilt: they lie in blocks of bytes of the call's own -/
def GV (w : World) (base b o n : Nat) : Prop := ∀ i, i < n → ∃ Ai mi ci, w.cell? ⟨b, o + i * 3 + 1, none⟩ = some (.slice Ai mi ci) ∧ mi ≤ ci ∧ ci ≤ 9223372036854775807 ∧ (ci = 0 ∧ Ai = none ∨ ∃ g p s, Ai = some ⟨g, p, none⟩ ∧ base ≤ g ∧ g ≠ b ∧ p + ci ≤ s ∧ BB w g s)
/-- CHANGES THAT WERE READ: their values may be spoilt -/
def GC (w : World) (base : Nat) (v : Value) (l : List bt.C) : Prop := ∃ A c, v = .slice A l.length c ∧ CS w A l.length c l ∧ (∀ b o, A = some ⟨b, o, none⟩ → GV w base b o l.length) ∧ CO (fun k => base ≤ k) w A l.length
theorem CO.all (w : World) (A : Option Addr) (n : Nat) : CO (fun _ => True) w A n := fun _ _ _ _ => ⟨trivial, fun _ _ _ _ _ _ _ _ _ _ => trivial⟩
theorem CO.below {Z : Nat → Prop} {w w' : World} {A : Option Addr} {n c : Nat} {l : List bt.C} (h : CO Z w A n) (t : CS w A n c l) (hb : Below w.heap.size w w') : CO Z w' A n := fun b o e hn => by
  obtain ⟨b', o', e', hbl, _⟩ := t.has hn
  rw [e] at e'
  injection e' with e'
  injection e' with e1 e2
  subst e1 e2
  exact ⟨(h b o e hn).1, fun i hi Ai mi ci hc => (h b o e hn).2 i hi Ai mi ci ((hb.cell (p := ⟨b, o + i * 3 + 1, none⟩) hbl).symm.trans hc)⟩
theorem OC.gc {w : World} {base : Nat} {v : Value} {l : List bt.C} (h : OC w base v l) : GC w base v l := by
  obtain ⟨A, c, rfl, hc⟩ := h.cs
  have hoff : ∀ b o, A = some ⟨b, o, none⟩ → o = 0 ∧ base ≤ b := fun b o hA => by
    obtain ⟨T, h1, _, _⟩ := h
    subst hA
    rcases h1.2 with ⟨e, _⟩ | ⟨g, cap, cur, e, hg, _⟩
    · cases e
    · injection e with e
      injection e with e
      injection e with e1 e2
      exact ⟨e2, by rw [e1]; exact hg⟩
  refine ⟨A, c, rfl, hc, fun b o hA i hi => ?_, fun b o hA hn => ⟨(hoff b o hA).2, fun i hi Ai mi ci hcl h0 g p e => ?_⟩⟩
  rotate_left
  · have e0 := (hoff b o hA).1
    subst e0 hA
    obtain ⟨cs, hcs, ⟨A1, c1, rfl, ho, hne⟩, hcell⟩ := OT.cells h hi
    have hc1 := hcell 1 _ rfl
    rw [Nat.zero_add, hc1] at hcl
    injection hcl with hcl
    injection hcl with q1 q2 q3
    subst q1
    exact (ho.lt g (by rw [e]; rfl)).1
  have hoff0 := (hoff b o hA).1
  subst hA
  subst hoff0
  obtain ⟨cs, hcs, ⟨A1, c1, rfl, ho, hne⟩, hcell⟩ := OT.cells h hi
  have hc1 := hcell 1 _ rfl
  obtain ⟨q1, q2, q3⟩ := ho.bb
  refine ⟨A1, l[i].val.length, c1, by rw [Nat.zero_add]; exact hc1, q1, q2, ?_⟩
  rcases q3 with q3 | ⟨g, p, s, rfl, hg, hps, hB⟩
  · exact .inl q3
  · exact .inr ⟨g, p, s, rfl, hg, fun e => hne g rfl (by rw [e]; rfl), hps, hB⟩
theorem GC.below {w w' : World} {base : Nat} {v : Value} {l : List bt.C} (h : GC w base v l) (hb : Below w.heap.size w w') : GC w' base v l := by
  obtain ⟨A, c, rfl, hc, hg, ho⟩ := h
  refine ⟨A, c, rfl, hc.below hb, fun b o hA i hi => ?_, ho.below hc hb⟩
  obtain ⟨Ai, mi, ci, h1, h2, h3, h4⟩ := hg b o hA i hi
  have hbl := World.block_lt_of_cell? _ _ h1
  refine ⟨Ai, mi, ci, (hb.cell (p := ⟨b, o + i * 3 + 1, none⟩) hbl).trans h1, h2, h3, ?_⟩
  rcases h4 with h4 | ⟨g, p, s, e, k1, k2, k3, k4⟩
  · exact .inl h4
  · exact .inr ⟨g, p, s, e, k1, k2, k3, k4.keep (hb.block g k4.lt)⟩
/-- behind one that was spoilt -/
theorem GV.step {w w' : World} {base b o n : Nat} {F : List Nat} (h : GV w base b o n) (hC : Chg w w' F) (hF : b ∉ F) (hB : ∀ g s, BB w g s → BB w' g s) : GV w' base b o n := fun i hi => by
  obtain ⟨Ai, mi, ci, h1, h2, h3, h4⟩ := h i hi
  have hbl := World.block_lt_of_cell? _ _ h1
  refine ⟨Ai, mi, ci, (Same.cell (F := [b]) (fun k hk => by rw [List.mem_singleton] at hk; rw [hk]; exact hC.block b hbl hF) (p := ⟨b, o + i * 3 + 1, none⟩) (by simp)).trans h1, h2, h3, ?_⟩
  rcases h4 with h4 | ⟨g, p, s, e, k1, k2, k3, k4⟩
  · exact .inl h4
  · exact .inr ⟨g, p, s, e, k1, k2, k3, hB g s k4⟩
variable {A B : Option Addr} {n c m d : Nat} {w : World}
theorem cb_may (t : List bt.R) (h : TS w A n c t) (hk : ∀ r ∈ t, r.key.length ≤ 9223372036854775807) (hn : n ≤ 1099511627776) : Calls Try.prog 10 #[.slice A n c] w fun e w' => e = .returned (.bool (bt.may t)) ∧ Below w.heap.size w w' :=
  mayr_any A n c t w h hk hn
theorem cb_mayC (l : List bt.C) (h : CS w A n c l) (hk : ∀ r ∈ l, r.key.length ≤ 9223372036854775807) (hn : n ≤ 1099511627776) : Calls Try.prog 12 #[.slice A n c] w fun e w' => e = .returned (.bool (bt.mayC l)) ∧ Below w.heap.size w w' :=
  mayq_any A n c l w h hk hn
theorem cb_put (l : List bt.C) (h : CS w A n c l) (hk : ∀ r ∈ l, r.key.length ≤ 9223372036854775807) (hn : n < 4294967296) (hsz : bt.mayC l = true → (bt.bytes l).length ≤ 140737480000000) : Calls Try.prog 8 #[.slice A n c] w fun e w' =>
    (∃ v, e = .returned (.tuple #[v, .int .i64 (if bt.mayC l then 0 else 2)]) ∧ OwnB 5 w' w.heap.size v (if bt.mayC l then bt.bytes l else [])) ∧ Below w.heap.size w w' :=
  putP_any A n c l w h hk hn hsz
theorem cb_get (b : List UInt8) (h : BS w A n c b) (hn : n ≤ 140737488355320) : Calls Try.prog 17 #[.slice A n c] w fun e w' =>
    ∃ v, e = .returned (.tuple #[v, .int .i64 (bt.get b).2]) ∧ GC w' w.heap.size v (bt.get b).1 ∧ Below w.heap.size w w' :=
  (getQ_any A n c b w h hn).mono fun _ _ ⟨v, h1, h2, h3⟩ => ⟨v, h1, h2.gc, h3⟩
theorem cb_apply {Z : Nat → Prop} (t : List bt.R) (l : List bt.C) (h : TS w A n c t) (hl : CS w B m d l) (_hz : TO Z w A n) (_hz2 : CO Z w B m) (hZ : ∀ k, w.heap.size ≤ k → Z k) (hk1 : ∀ r ∈ t, r.key.length ≤ 9223372036854775807) (hk2 : ∀ r ∈ l, r.key.length ≤ 9223372036854775807) (hn : n + m ≤ 1099511627774) : Calls Try.prog 22 #[.slice A n c, .slice B m d] w fun e w' =>
    (∃ A' c', e = .returned (.tuple #[.slice A' (bt.apply t l).1.length c', .int .i64 (bt.apply t l).2]) ∧ TS w' A' (bt.apply t l).1.length c' (bt.apply t l).1 ∧ TO Z w' A' (bt.apply t l).1.length) ∧ Below w.heap.size w w' :=
  applyQ_any t l h hl hZ hk1 hk2 hn
theorem cb_between (a b : List bt.R) (h : TS w A n c a) (hl : TS w B m d b) (hk1 : ∀ r ∈ a, r.key.length ≤ 9223372036854775807) (hk2 : ∀ r ∈ b, r.key.length ≤ 9223372036854775807) (hn : n + m ≤ 1099511627774) : Calls Try.prog 25 #[.slice A n c, .slice B m d] w fun e w' =>
    (∃ A' c', e = .returned (.tuple #[.slice A' (bt.between a b).1.length c', .int .i64 (bt.between a b).2]) ∧ CS w' A' (bt.between a b).1.length c' (bt.between a b).1) ∧ Below w.heap.size w w' :=
  betweenQ_any a b h hl hk1 hk2 hn
theorem cb_whole (b : List bt.R) (hl : TS w B m d b) (hk2 : ∀ r ∈ b, r.key.length ≤ 9223372036854775807) (hn : m ≤ 1099511627774) : Calls Try.prog 27 #[.slice B m d] w fun e w' =>
    (∃ A' c', e = .returned (.tuple #[.slice A' (bt.between [] b).1.length c', .int .i64 (bt.between [] b).2]) ∧ CS w' A' (bt.between [] b).1.length c' (bt.between [] b).1) ∧ Below w.heap.size w w' :=
  wholeQ_any b hl hk2 hn
theorem cb_find (t : List bt.R) (k : List UInt8) (h : TS w A n c t) (hk1 : ∀ r ∈ t, r.key.length ≤ 9223372036854775807) (hn : n ≤ 1099511627776) : Calls Try.prog 29 #[.slice A n c, str k] w fun e w' =>
    (∃ v, e = .returned (.tuple #[v, .bool (bt.findR t k).isSome]) ∧ OwnB 5 w' w.heap.size v ((bt.findR t k).getD [])) ∧ Below w.heap.size w w' :=
  findq_any t k h hk1 hn
theorem cb_same (t u : List bt.R) (h1 : TS w A n c t) (h2 : TS w B m d u) : Calls Try.prog 31 #[.slice A n c, .slice B m d] w fun e w' => e = .returned (.bool (decide (t = u))) ∧ Below w.heap.size w w' :=
  sameq_any t u h1 h2
end Go.Proofs.Ytlchfadfbepapaa
