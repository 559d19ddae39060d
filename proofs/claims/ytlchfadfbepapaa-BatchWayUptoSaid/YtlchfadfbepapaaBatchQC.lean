/-
  THE PROGRAM's batch: what its two loops over pairs need: rows of the call's own, a region that draws its order inside a round, what a round keeps.
-/
import Derived.Test.YtlchfadfbepapaaBatchQB
import Derived.Test.YtlchfadfbepapaaBatchQG
import Derived.RangeFuncFrom
namespace Go.Proofs.Ytlchfadfbepapaa
open Go.RowKit Go.Shelf
attribute [local go_sem] Oper.semAt_some
/-! ### rows of the call's own -/
/-- a row's cells: its bytes are of the call's own, in another block than the row -/
def eltP (w : World) (base : Nat) (v : Value) (cs : List Value) (x : bt.R) : Prop :=
  ∃ A c, cs = [str x.key, .slice A x.val.length c] ∧ OwnB 5 w base (.slice A x.val.length c) x.val ∧ ∀ k, (Value.slice A x.val.length c).ownBlock = some k → v.ownBlock ≠ some k
/-- ROWS OF THE CALL's OWN -/
def OP (w : World) (base : Nat) (v : Value) (l : List bt.R) : Prop := OT 51 2 (eltP w base v) w base v l
namespace OP
variable {w w' : World} {base : Nat} {v : Value} {l : List bt.R}
theorem nil_ (w : World) (base : Nat) : OP w base (.slice none 0 0) [] := OT.nil_ _ _ _ _ _
theorem elt_keep {cs : List Value} {x : bt.R} (h : eltP w base v cs x) (hk : ∀ k, base ≤ k → k < w.heap.size → w'.heap[k]? = w.heap[k]?) : eltP w' base v cs x := by
  obtain ⟨A, c, h1, h2, h3⟩ := h
  refine ⟨A, c, h1, ?_, h3⟩
  rcases h2 with hn | ⟨g, r, a, b, c2, d⟩
  · exact .inl hn
  · exact .inr ⟨g, r, a, b, (hk g b (Array.getElem?_eq_some_iff.1 c2).1).trans c2, d⟩
theorem elt_more {cs : List Value} {x : bt.R} {g n cap : Nat} (h : eltP w base v cs x) (hg : w.grownBy w' v.ownBlock) (hat : v.ownBlock = some g ∨ g = w.heap.size) : eltP w' base (.slice (some ⟨g, 0, none⟩) n cap) cs x := by
  obtain ⟨A, c, h1, h2, h3⟩ := h
  refine ⟨A, c, h1, h2.kept hg ?_, fun k hk e => ?_⟩
  · cases hq : (Value.slice A x.val.length c).ownBlock with
    | none => exact .inl rfl
    | some k => exact .inr (fun e => h3 k hq e.symm)
  · have hgk : g = k := by simpa [Value.ownBlock] using e
    subst hgk
    rcases hat with e1 | e1
    · exact h3 g hk e1
    · have := (h2.lt g hk).2
      omega
theorem lt (h : OP w base v l) : ∀ k, v.ownBlock = some k → base ≤ k ∧ k < w.heap.size := OT.lt h
theorem ts {Z : Nat → Prop} (h : OP w base v l) (hZ : ∀ k, base ≤ k → Z k) : ∃ A c, v = .slice A l.length c ∧ TS w A l.length c l ∧ TO Z w A l.length :=
  OT.ts (w0 := w) (h.imp fun _ _ ⟨A, c, h1, h2, _⟩ => ⟨A, c, h1, h2.bs, fun _ g p e => hZ g (h2.lt g (by rw [e]; rfl)).1⟩) (Below.refl _ _) hZ
end OP
/-- owned from 'base' on: kept where the blocks from 'base' on are kept -/
theorem own_row_keep {w w' : World} {base : Nat} {e : TypeId} {s n : Nat} {v : Value} {xs : List Value} (h : w.ownsRow base e s v n xs) (hk : ∀ k, base ≤ k → k < w.heap.size → w'.heap[k]? = w.heap[k]?) : w'.ownsRow base e s v n xs := by
  refine ⟨h.1, ?_⟩
  rcases h.2 with h0 | ⟨g, cap, cur, e1, hb, hg, rest⟩
  · exact .inl h0
  · exact .inr ⟨g, cap, cur, e1, hb, (hk g hb (Array.getElem?_eq_some_iff.1 hg).1).trans hg, rest⟩
theorem OP.keepB {w w' : World} {base : Nat} {v : Value} {l : List bt.R} (h : OP w base v l) (hk : ∀ k, base ≤ k → k < w.heap.size → w'.heap[k]? = w.heap[k]?) : OP w' base v l := by
  obtain ⟨T, h1, h2, h3⟩ := h
  exact ⟨T, own_row_keep h1 hk, h2, fun i x hx => by
    obtain ⟨cs, a, b, c⟩ := h3 i x hx
    exact ⟨cs, a, b, OP.elt_keep c hk⟩⟩
theorem OC.keepB {w w' : World} {base : Nat} {v : Value} {l : List bt.C} (h : OC w base v l) (hk : ∀ k, base ≤ k → k < w.heap.size → w'.heap[k]? = w.heap[k]?) : OC w' base v l := by
  obtain ⟨T, h1, h2, h3⟩ := h
  refine ⟨T, own_row_keep h1 hk, h2, fun i x hx => ?_⟩
  obtain ⟨cs, a, b, A, c, e1, h4, h5⟩ := h3 i x hx
  exact ⟨cs, a, b, A, c, e1, own_same h4 hk, h5⟩
section
variable {o : Oper} {a : Act} {w : World} {K : Act → World → Prop} {Q : Exit → Act → World → Prop}
/-- one row is appended, at an operation -/
theorem wpo_app (x y : Operand) {v : Value} {l : List bt.R} {r : bt.R} {B base : Nat} {u0 u1 : Value} (hown : OP w base v l) (hbase : base ≤ w.heap.size) (hB : w.heap[B]? = some (.cells #[u0, u1] 51 (0, 0))) (hR : eltP w base v [u0, u1] r) (hn : l.length ≤ 1099511627776)
    (ho : o.op = .call { callee := .builtin .append, args := #[x, y], argTypes := #[22, 22] }) (hx : a.eval x = v) (hy : a.eval y = .slice (some ⟨B, 0, none⟩) 1 1)
    (h : ∀ g cap W', OP W' base (.slice (some ⟨g, 0, none⟩) (l.length + 1) cap) (l ++ [r]) → w.grownBy W' v.ownBlock → (v.ownBlock = some g ∨ g = w.heap.size) → g < W'.heap.size → K (a.put o.dst (.slice (some ⟨g, 0, none⟩) (l.length + 1) cap)) W') : o.wp Try.prog a w K Q := by
  obtain ⟨i0, hi0, hz0, hs0, hb0⟩ := info_parts8 info_row
  obtain ⟨T, h1, h2, h3⟩ := hown
  refine wp_append_lies w x y 22 ho base 51 i0 _ 2 40 Try.underlying22 hi0 hz0 hs0 hb0 rfl (by omega) v l.length _ hx h1 ⟨B, 0, none⟩ 1 1 [u0, u1] hy rfl ?_ ?_ (by omega) (by rw [maxLen_eq]; omega) (by omega) hbase _ rfl ?_
  · have := World.news_of_block hB
    simpa using this
  · obtain ⟨A, c, e, _⟩ := hR
    rw [e]
    intro u hu
    simp only [List.mem_cons, List.not_mem_nil, or_false] at hu
    rcases hu with rfl | rfl <;> rfl
  · intro g cap W' k1 k2 k3 k4
    exact h g cap W' (OT.imp (OT.more h2 h3 rfl hR k1) fun cs x hx => OP.elt_more hx k2 k3) k2 k3 k4
/-- one change is appended, at an operation -/
theorem wpo_apc (x y : Operand) {v : Value} {l : List bt.C} {r : bt.C} {B base : Nat} {u0 u1 u2 : Value} (hown : OC w base v l) (hbase : base ≤ w.heap.size) (hB : w.heap[B]? = some (.cells #[u0, u1, u2] 39 (0, 0))) (hR : eltO w base v [u0, u1, u2] r) (hn : l.length ≤ 1099511627776)
    (ho : o.op = .call { callee := .builtin .append, args := #[x, y], argTypes := #[23, 23] }) (hx : a.eval x = v) (hy : a.eval y = .slice (some ⟨B, 0, none⟩) 1 1)
    (h : ∀ g cap W', OC W' base (.slice (some ⟨g, 0, none⟩) (l.length + 1) cap) (l ++ [r]) → w.grownBy W' v.ownBlock → (v.ownBlock = some g ∨ g = w.heap.size) → g < W'.heap.size → K (a.put o.dst (.slice (some ⟨g, 0, none⟩) (l.length + 1) cap)) W') : o.wp Try.prog a w K Q := by
  obtain ⟨i0, hi0, hz0, hs0, hb0⟩ := info_parts8 info_chg
  obtain ⟨T, h1, h2, h3⟩ := hown
  refine wp_append_lies w x y 23 ho base 39 i0 _ 3 48 Try.underlying23 hi0 hz0 hs0 hb0 rfl (by omega) v l.length _ hx h1 ⟨B, 0, none⟩ 1 1 [u0, u1, u2] hy rfl ?_ ?_ (by omega) (by rw [maxLen_eq]; omega) (by omega) hbase _ rfl ?_
  · have := World.news_of_block hB
    simpa using this
  · obtain ⟨A, c, e, _⟩ := hR
    rw [e]
    intro u hu
    simp only [List.mem_cons, List.not_mem_nil, or_false] at hu
    rcases hu with rfl | rfl | rfl <;> rfl
  · intro g cap W' k1 k2 k3 k4
    exact h g cap W' (OT.imp (OT.more h2 h3 rfl hR k1) fun cs x hx => OC.elt_more hx k2 k3) k2 k3 k4
end
/-! ### a region that draws its order, inside a round -/
def onlyK (K : Act → World → Prop) : Exit → Act → World → Prop
  | .normal, a, w => K a w
  | _, _, _ => False
theorem opIn2 {P : Program} {o : Oper} {a : Act} {w : World} {K K0 : Act → World → Prop} {Q : Exit → Act → World → Prop} (l n : Nat) (hnd : ∀ c, o.op ≠ .defer c) (h : o.wp P a w K (onlyK K0)) : o.wpIn (Fence.wide.inRound l) n P a w K Q := by
  refine ⟨fun _ _ => trivial, ?_⟩
  rw [Oper.semAt_plain _ _ _ hnd]
  unfold Oper.wp at h
  generalize (execOp a.eval o).run P w = r at h
  cases r with
  | ok nx w' =>
    cases nx with
    | value v => exact h
    | skip => exact h
    | defer d => exact h
    | enter f args =>
      refine ⟨fun h => by simp [Fence.wide] at h, ?_⟩
      refine CallsIn.inRound l ((callsIn_wide.2 h).mono fun e w'' he => ?_)
      cases e with
      | returned v => exact he
      | panicked c => exact he.elim
      | outgrown => obtain ⟨_, _, hf⟩ := he; exact hf.elim
    | row row args =>
      refine ⟨fun h => by simp [Fence.wide] at h, fun c cs _ => ?_⟩
      obtain ⟨v, w2, h1, h2⟩ := h c cs
      exact ⟨v, w2, h1, stepsIn_wide.2 h2⟩
    | _ => exact h.elim
  | halt x w' =>
    cases x with
    | panic v => exact (show False from h).elim
    | _ => exact h.elim
theorem anyIn {P : Program} {md : Region.Mode} {ops : Array Oper} {K0 : Act → World → Prop} {Q : Exit → Act → World → Prop} (l n : Nat) (hnd : ∀ (i : Nat) (o : Oper), ops[i]? = some o → ∀ c, o.op ≠ .defer c) (hN : ∀ a w, K0 a w → Q .normal a w) :
    ∀ (fuel : Nat) (listed : Array Bool) (a : Act) (w : World), wpAny P md ops (onlyK K0) fuel listed a w → wpAnyIn (Fence.wide.inRound l) n P md ops Q fuel listed a w
  | 0, _, a, w, h => ⟨h.1, hN a w h.2⟩
  | fuel + 1, listed, a, w, h => ⟨fun h0 => hN a w (h.1 h0), fun i hi => by
    have h1 := h.2 i hi
    unfold wpOp at h1
    unfold wpOpIn
    split
    · rename_i e
      simp only [e] at h1
      exact anyIn l n hnd hN fuel _ a w h1
    · rename_i o e
      simp only [e] at h1
      split
      · rename_i hw
        simp only [hw, if_true] at h1
        rcases h1 with h1 | ⟨_, _, _, hf⟩
        · exact Oper.wpIn_mono (fun a w h => anyIn l n hnd hN fuel _ a w h) (opIn2 l n (hnd i o e) h1)
        · exact hf.elim
      · rename_i hw
        simp only [hw] at h1
        exact ⟨fun _ _ => trivial, anyIn l n hnd hN fuel _ _ w h1⟩⟩
/-- the region: walked as everywhere, under a fact S that is held -/
theorem regionIn {P : Program} {ops : Array Oper} {S : World → Prop} {Q : Exit → Act → World → Prop} {id : Nat} {a : Act} {w : World} (l n : Nat) (hm : P.follows .mixedOrders = true) (hnd : ops.all (fun o => match o.op with | .defer _ => false | _ => true) = true) (hS : S w.drew)
    (h : S w.drew → wpAnyH P .any ops (onlyK (Q .normal)) S ops.size (Array.replicate ops.size false) a w.drew) : (Code.region id ops true).wpIn (Fence.wide.inRound l) n P Q a w := by
  refine wpIn_region_any hm (anyIn l n ?_ (fun _ _ h => h) _ _ _ _ (wpAny_of_held _ _ _ _ (h hS)))
  intro i o ho c hc
  have h1 := Array.all_eq_true_iff_forall_mem.1 hnd o (Array.mem_of_getElem? ho)
  rw [hc] at h1
  cases h1
/-! ### what a round keeps -/
/-- the blocks below n but for X are as they were -/
structure KX (n X : Nat) (w w' : World) : Prop where
  os : w'.os = w.os
  tape : w'.tape = w.tape
  output : w'.output = w.output
  size : w.heap.size ≤ w'.heap.size
  block : ∀ k, k < n → k ≠ X → w'.heap[k]? = w.heap[k]?
theorem KX.refl (n X : Nat) (w : World) : KX n X w w := ⟨rfl, rfl, rfl, Nat.le_refl _, fun _ _ _ => rfl⟩
theorem KX.trans {n X : Nat} {a b c : World} (h : KX n X a b) (k : KX n X b c) : KX n X a c := ⟨k.os.trans h.os, k.tape.trans h.tape, k.output.trans h.output, Nat.le_trans h.size k.size, fun i hi hX => (k.block i hi hX).trans (h.block i hi hX)⟩
theorem KX.of_below {n X : Nat} {w w' : World} (h : Below w.heap.size w w') (hn : n ≤ w.heap.size) : KX n X w w' := ⟨h.os, h.tape, h.output, h.size, fun k hk _ => h.block k (by omega)⟩
theorem KX.putObj {n X : Nat} {w : World} (hn : n ≤ w.heap.size) (W : World) (l : Nat) (o o' : Obj) (hl : w.heap.size ≤ l) (h : W.heap[l]? = some o) : KX n X W (W.putObj l o') :=
  have hg := grownBy_putObj' W l o'
  ⟨hg.os, hg.tape, hg.output, hg.size, fun k hk _ => hg.block k (by have := (Array.getElem?_eq_some_iff.1 h).1; omega) (fun e => by injection e with e; omega)⟩
theorem bothF_any (A B : Option Addr) (n c m d : Nat) (w : World) : Calls Try.prog 48 #[.slice A n c, .slice B m d] w fun e w' =>
    e = .returned (.func (.func 70) #[] #[.pointer (some ⟨w.heap.size, 0, none⟩), .pointer (some ⟨w.heap.size + 1, 0, none⟩)]) ∧
      w' = (w.alloc (.cells #[.slice A n c] 23)).alloc (.cells #[.slice B m d] 23) := by
  go_enter Try.func48, Try.ntmps48
  go_wp2_with fail
  go_ret
  exact ⟨rfl, rfl⟩
/-- the iterator's contract, as a loop reads it -/
theorem both_stops (n X Ba Bb : Nat) (A B : Option Addr) (na ca nb cb : Nat) (a b : List bt.C) (hna : na ≤ 1099511627776) (hnb : nb ≤ 1099511627776) (w : World)
    (hA : ∀ W, KX w.heap.size X w W → CS W A na ca a ∧ W.cell? ⟨Ba, 0, none⟩ = some (.slice A na ca)) (hB : ∀ W, KX w.heap.size X w W → CS W B nb cb b ∧ W.cell? ⟨Bb, 0, none⟩ = some (.slice B nb cb)) :
    SeqStopsK Fence.wide n Try.prog 70 #[.pointer (some ⟨Ba, 0, none⟩), .pointer (some ⟨Bb, 0, none⟩)] (fun x : bt.Spots na nb => #[spotV A x.1.1, spotV B x.1.2]) (KX w.heap.size X) (fun xs => xs.map (bt.Spots.at_ a b) = bt.pairs a b) (fun _ => True) (bt.pairs a b).length w := by
  intro l J Jx W hb hJ hJx hY h0
  exact both1_in n l Ba Bb A B na ca nb cb a b hna hnb w (KX w.heap.size X) (fun h k => h.trans k) (fun P Q h k => KX.of_below k h.size) hA hB J Jx (fun pre V V' h k => hJ pre V V' none h (grown_below k) (fun r e => by cases e)) hY W (KX.of_below hb (Nat.le_refl _)) h0
end Go.Proofs.Ytlchfadfbepapaa
