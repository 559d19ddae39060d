/-
  THE PROGRAM's batch: two sorted lists gone through at once (both), for every loop body that keeps them.
-/
import Derived.Test.YtlchfadfbepapaaBatchQA
import Derived.RangeFuncNested
import Derived.RangeFuncBound
import Derived.RangeFuncCalls
import Derived.RangeFuncLeaves
import Derived.Shelf.RegionOpen
import Derived.WalkKit
import Derived.OwnWalkIn
import Derived.TacticsInMore
import Derived.LoopNIn
import Derived.LoopIn
namespace Go.Proofs.Ytlchfadfbepapaa
open Go.RowKit Go.Shelf
attribute [local go_sem] Oper.semAt_some
namespace bt
/-- what two sorted lists have of one key, pair by pair -/
def pairs : List C → List C → List (Option C × Option C)
  | [], ys => ys.map fun y => (none, some y)
  | x :: xs, [] => (some x, none) :: pairs xs []
  | x :: xs, y :: ys =>
    if cmp x.key y.key < 0 then (some x, none) :: pairs xs (y :: ys)
    else if cmp x.key y.key = 0 then (some x, some y) :: pairs xs ys
    else (none, some y) :: pairs (x :: xs) ys
termination_by a b => a.length + b.length
/-- the pair that comes next -/
def nextP (a b : List C) : Option C × Option C := (if ahead a b ≤ 0 then a.head? else none, if 0 ≤ ahead a b then b.head? else none)
theorem pairs_next : ∀ (a b : List C), a ≠ [] ∨ b ≠ [] → pairs a b = nextP a b :: pairs (if ahead a b ≤ 0 then a.tail else a) (if 0 ≤ ahead a b then b.tail else b)
  | [], [], h => by simp at h
  | [], y :: ys, _ => by
    rw [pairs]
    simp [nextP, ahead, pairs]
  | x :: xs, [], _ => by
    rw [pairs]
    simp [nextP, ahead]
  | x :: xs, y :: ys, _ => by
    rw [pairs]
    obtain ⟨c, hc⟩ : ∃ c, cmp x.key y.key = c := ⟨_, rfl⟩
    simp only [nextP, ahead, hc, List.head?_cons, List.tail_cons]
    by_cases h1 : c < 0
    · rw [if_pos h1, if_pos (by omega), if_neg (by omega), if_pos (by omega), if_neg (by omega)]
    · by_cases h2 : c = 0
      · rw [if_neg h1, if_pos h2, if_pos (by omega), if_pos (by omega), if_pos (by omega), if_pos (by omega)]
      · rw [if_neg h1, if_neg h2, if_neg (by omega), if_pos (by omega), if_neg (by omega), if_pos (by omega)]
/-- the places of a pair: not both none, each in its list -/
def Spots (n m : Nat) : Type := { p : Option Nat × Option Nat // (p.1.isSome ∨ p.2.isSome) ∧ (∀ i, p.1 = some i → i < n) ∧ ∀ j, p.2 = some j → j < m }
/-- what stands at these places -/
def Spots.at_ {n m : Nat} (a b : List C) (p : Spots n m) : Option C × Option C := (p.1.1.bind (a[·]?), p.1.2.bind (b[·]?))
theorem pairs_step {n m : Nat} {a b : List C} {i j i' j' : Nat} {pre : List (Spots n m)} (h : pairs a b = pre.map (Spots.at_ a b) ++ pairs (a.drop i) (b.drop j)) (x : Spots n m) (hx : x.at_ a b = nextP (a.drop i) (b.drop j)) (hne : a.drop i ≠ [] ∨ b.drop j ≠ [])
    (hi : (if ahead (a.drop i) (b.drop j) ≤ 0 then (a.drop i).tail else a.drop i) = a.drop i') (hj : (if 0 ≤ ahead (a.drop i) (b.drop j) then (b.drop j).tail else b.drop j) = b.drop j') :
    pre.length < (pairs a b).length ∧ pairs a b = (pre ++ [x]).map (Spots.at_ a b) ++ pairs (a.drop i') (b.drop j') := by
  have hn := pairs_next (a.drop i) (b.drop j) hne
  rw [hi, hj, ← hx] at hn
  constructor
  · rw [h, hn]
    simp
  · rw [List.map_append, List.append_assoc, h, hn]
    rfl
end bt
/-- a pointer to a change of a row -/
def spotV (A : Option Addr) : Option Nat → Value
  | none => .pointer none
  | some i => .pointer (A.map fun y => ⟨y.block, y.off + i * 3, none⟩)
theorem grown_below {w w' : World} (h : Below w.heap.size w w') : w.grownBy w' none := ⟨h.os, h.tape, h.output, h.size, fun k hk _ => h.block k hk⟩
theorem CS.tail_ {w : World} {A : Option Addr} {n c : Nat} {l : List bt.C} (h : CS w A n c l) (k : Nat) (hk : k < n) : CS w (A.map fun y => ⟨y.block, y.off + k * 3, none⟩) (n - k) (c - k) (l.drop k) := by
  obtain ⟨b, o, rfl, _, _⟩ := h.has (by omega)
  have hl := h.len
  have hc := h.cap
  have hm := h.max
  refine ⟨by rw [List.length_drop, hl], by omega, by omega, fun _ => ?_⟩
  obtain ⟨b', o', e, hb, hr⟩ := h.has (by omega)
  injection e with e
  injection e with e1 e2
  subst e1 e2
  refine ⟨b, o + k * 3, rfl, hb, fun i hi => ?_⟩
  have hi' : k + i < l.length := by rw [List.length_drop] at hi; omega
  obtain ⟨p, r, X, cx, q, B⟩ := hr (k + i) hi'
  have e : (l.drop k)[i] = l[k + i] := List.getElem_drop ..
  rw [e, show o + k * 3 + i * 3 = o + (k + i) * 3 by omega]
  exact ⟨p, r, X, cx, q, B⟩
/-- what is left of a row behind its first k: where it lies -/
def tailA (A : Option Addr) (c k : Nat) : Option Addr := if c = k then A else A.map (·.add (k * 3))
theorem CS.tailA_ {w : World} {A : Option Addr} {n c : Nat} {l : List bt.C} (h : CS w A n c l) (k : Nat) (hk : k ≤ n) : CS w (tailA A c k) (n - k) (c - k) (l.drop k) := by
  have hl := h.len
  have hc := h.cap
  have hm := h.max
  rcases Nat.lt_or_ge k n with h1 | h1
  · have h2 := h.tail_ k h1
    obtain ⟨b, o, rfl, _, _⟩ := h.has (by omega)
    rw [tailA, if_neg (by omega), Option.map_some, Addr.add_mid]
    exact h2
  · exact ⟨by rw [List.length_drop, hl], by omega, by omega, fun h0 => by omega⟩
theorem yields_tail {ops : Array Oper} {S : World → Prop} {op : Oper} {a : Act} (hw : Region.wanted op (yielded ops a.tmps) = true) (x y : Operand) (ho : op.op = .slice 23 x (some y) none none)
    {A : Option Addr} {n c k : Nat} (hx : a.eval x = .slice A n c) (hy : a.eval y = .int .i64 k) (hk : k ≤ n) : YieldsIf Try.prog ops S op (.slice (tailA A c k) (n - k) (c - k)) a := .inl ⟨hw, fun w _ => by
  have hu : Try.prog.underlying 23 = some (.slice (Try.prog.elem 23)) := by kernel_rfl
  have hs : ∀ w, (sizeOf (Try.prog.elem 23)).run Try.prog w = .ok 3 w := fun w => by
    obtain ⟨i0, hi0, hz0, hs0, hb0⟩ := info_parts8 info_chg
    rw [show Try.prog.elem 23 = 39 by kernel_rfl]
    simp [sizeOf, typeInfo, hi0, hs0]
  have hr : (Instr.sliceAt 23 (.slice A n c) (some (.int .i64 k)) none none).run Try.prog w = .ok (.slice (tailA A c k) (n - k) (c - k)) w := by
    rw [run_sliceAt_slice _ _ _ _ _ _ hu, run_slice_l _ _ _ _ _ hu .i64 k (by omega) (by omega), hs, Result.andThen, sliced, Int.toNat_natCast, tailA]
  unfold execOp
  simp only [ho, hx, hy, Option.map_some, Option.map_none, Sem.run_bind, Sem.run_pure, hr, Result.andThen_ok]⟩
set_option maxRecDepth 100000 in
set_option maxHeartbeats 4000000 in
theorem both1_in (n l Ba Bb : Nat) (A B : Option Addr) (na ca nb cb : Nat) (a b : List bt.C) (hna : na ≤ 1099511627776) (hnb : nb ≤ 1099511627776) (w0 : World) (Kp : World → World → Prop)
    (hKt : ∀ {X Y Z : World}, Kp X Y → Kp Y Z → Kp X Z) (hKw : ∀ X Y, Kp w0 X → Below X.heap.size X Y → Kp X Y)
    (hA : ∀ W, Kp w0 W → CS W A na ca a ∧ W.cell? ⟨Ba, 0, none⟩ = some (.slice A na ca)) (hB : ∀ W, Kp w0 W → CS W B nb cb b ∧ W.cell? ⟨Bb, 0, none⟩ = some (.slice B nb cb))
    (J Jx : List (bt.Spots na nb) → World → Prop)
    (hJd : ∀ pre W W', J pre W → Below W.heap.size W W' → J pre W')
    (hY : ∀ pre x W, J pre W → pre.length < (bt.pairs a b).length → YieldAt Fence.wide (n - 1) Try.prog l #[spotV A x.1.1, spotV B x.1.2] W fun e W' =>
      (e = .returned (.bool true) ∧ J (pre ++ [x]) W' ∧ Kp W W') ∨ (e = .returned (.bool false) ∧ Jx (pre ++ [x]) W'))
    (W : World) (hW : Kp w0 W) (h0 : J [] W) :
    CallsIn Fence.wide n Try.prog 70 #[.func (.yield l) #[] #[], .pointer (some ⟨Ba, 0, none⟩), .pointer (some ⟨Bb, 0, none⟩)] W fun e W' => (∃ v, e = .returned v) ∧
      ((∃ ys : List (bt.Spots na nb), ys.map (bt.Spots.at_ a b) = bt.pairs a b ∧ J ys W') ∨ (∃ pre, True ∧ Jx pre W')) := by
  refine callsIn_of_wp Try.func70 rfl trivial ?_ rfl
  simp only [Try.ntmps70, List.size_toArray, List.length_cons, List.length_nil, Nat.reduceAdd, Nat.reduceSub, Array.replicate_succ, Array.replicate_zero, List.push_toArray, List.append_toArray, List.nil_append, List.cons_append]
  gi_wp2
  gi_loopw [4, 5] (fun s t wr => ∃ (i j : Nat) (pre : List (bt.Spots na nb)), s = .int .i64 i ∧ t = .int .i64 j ∧ i ≤ na ∧ j ≤ nb ∧ Hid (bt.pairs a b = pre.map (bt.Spots.at_ a b) ++ bt.pairs (a.drop i) (b.drop j)) ∧ J pre wr ∧ Hid (Kp w0 wr))
    (fun s t _ => na + nb - (intOf s).toNat - (intOf t).toNat)
  case atStart => exact ⟨0, 0, [], rfl, rfl, by omega, by omega, Lib.hid rfl, h0, Lib.hid hW⟩
  case round =>
    obtain ⟨i, j, pre, rfl, rfl, hi, hj, HP, hJ, HK⟩ := hrel
    obtain ⟨cA, xA⟩ := hA _ HK.out
    obtain ⟨cB, xB⟩ := hB _ HK.out
    have hla := cA.len
    have hlb := cB.len
    by_cases hlt : i < na ∨ j < nb
    · have HAH := Lib.hid (fun W (hb : Below wr.heap.size wr W) => ahead_any _ _ _ _ _ _ (a.drop i) (b.drop j) W ((cA.tailA_ i hi).below hb) ((cB.tailA_ j hj).below hb))
      obtain ⟨o, ho⟩ : ∃ o, bt.ahead (a.drop i) (b.drop j) = o := ⟨_, rfl⟩
      rw [ho] at HAH
      have HO := Lib.hid ho
      have lA := World.block_lt_of_cell? _ _ xA
      have lB := World.block_lt_of_cell? _ _ xB
      clear ho cA cB
      by_cases hia0 : i < na
      · have d1 : decide ((i : Int) < (na : Int)) = true := decide_eq_true (by omega)
        have d3 : decide (i < na) = true := decide_eq_true hia0
        gi_wp2
        refine wpIn_wide.2 ?_
        refine wp_region_held_drew (S := fun W => Below wr.heap.size wr W) (by kernel_rfl) (Below.refl _ _).drew (fun hHeld => ?_)
        refine wpAnyH_take (i := 0) (v := ?_) rfl (by kernel_rfl) (by kernel_rfl) (by kernel_rfl) (fun _ _ _ h => h) (Or.inl ⟨by rfl, ?_⟩) hHeld ?_
        rotate_left
        · intro w hSw; have f0 := (hSw.cell (p := ⟨Ba, 0, none⟩) lA).trans xA; have f1 := (hSw.cell (p := ⟨Bb, 0, none⟩) lB).trans xB; clear hSw; go_simp; try rfl
        simp only [List.getElem_toArray, List.getElem_cons_zero, Act.put, List.setIfInBounds_toArray, List.set_cons_zero, List.set_cons_succ]
        refine wpAnyH_take (i := 1) (v := ?_) rfl (by kernel_rfl) (by kernel_rfl) (by kernel_rfl) (fun _ _ _ h => h) (Or.inl ⟨by rfl, ?_⟩) hHeld ?_
        rotate_left
        · intro w hSw; have f0 := (hSw.cell (p := ⟨Ba, 0, none⟩) lA).trans xA; have f1 := (hSw.cell (p := ⟨Bb, 0, none⟩) lB).trans xB; clear hSw; go_simp; try rfl
        simp only [List.getElem_toArray, List.getElem_cons_zero, List.getElem_cons_succ, Act.put, List.setIfInBounds_toArray, List.set_cons_zero, List.set_cons_succ]
        refine wpAnyH_take (i := 2) (v := .slice (tailA A ca i) (na - i) (ca - i)) rfl (by kernel_rfl) (by kernel_rfl) (by kernel_rfl) (fun _ _ _ h => h) (yields_tail (by rfl) (.tmp 19) (.tmp 20) rfl rfl rfl hi) hHeld ?_
        simp only [List.getElem_toArray, List.getElem_cons_zero, List.getElem_cons_succ, Act.put, List.setIfInBounds_toArray, List.set_cons_zero, List.set_cons_succ]
        refine wpAnyH_take (i := 3) (v := ?_) rfl (by kernel_rfl) (by kernel_rfl) (by kernel_rfl) (fun _ _ _ h => h) (Or.inl ⟨by rfl, ?_⟩) hHeld ?_
        rotate_left
        · intro w hSw; have f0 := (hSw.cell (p := ⟨Ba, 0, none⟩) lA).trans xA; have f1 := (hSw.cell (p := ⟨Bb, 0, none⟩) lB).trans xB; clear hSw; go_simp; try rfl
        simp only [List.getElem_toArray, List.getElem_cons_zero, List.getElem_cons_succ, Act.put, List.setIfInBounds_toArray, List.set_cons_zero, List.set_cons_succ]
        refine wpAnyH_take (i := 4) (v := ?_) rfl (by kernel_rfl) (by kernel_rfl) (by kernel_rfl) (fun _ _ _ h => h) (Or.inl ⟨by rfl, ?_⟩) hHeld ?_
        rotate_left
        · intro w hSw; have f0 := (hSw.cell (p := ⟨Ba, 0, none⟩) lA).trans xA; have f1 := (hSw.cell (p := ⟨Bb, 0, none⟩) lB).trans xB; clear hSw; go_simp; try rfl
        simp only [List.getElem_toArray, List.getElem_cons_zero, List.getElem_cons_succ, Act.put, List.setIfInBounds_toArray, List.set_cons_zero, List.set_cons_succ]
        refine wpAnyH_take (i := 5) (v := .slice (tailA B cb j) (nb - j) (cb - j)) rfl (by kernel_rfl) (by kernel_rfl) (by kernel_rfl) (fun _ _ _ h => h) (yields_tail (by rfl) (.tmp 22) (.tmp 23) rfl rfl rfl hj) hHeld ?_
        simp only [List.getElem_toArray, List.getElem_cons_zero, List.getElem_cons_succ, Act.put, List.setIfInBounds_toArray, List.set_cons_zero, List.set_cons_succ]
        refine wpAnyH_ready (rs := [6]) (by kernel_rfl) (by simp) ?_
        refine AllReadyH.cons rfl (fun K hK => ?_) AllReadyH.nil
        rw [if_pos (by rfl)]
        go_simp
        refine (HAH.out _ hHeld).mono ?_
        rintro e w3 ⟨rfl, hb3⟩
        have hb4 := hHeld.trans (hb3.mono hHeld.size)
        refine hK.out _ _ hb4 (fun hHeld => ?_)
        clear hK K
        refine wpAnyH_take (i := 7) (v := ?_) rfl (by kernel_rfl) (by kernel_rfl) (by kernel_rfl) (fun _ _ _ h => h) (Or.inl ⟨by rfl, ?_⟩) hHeld ?_
        rotate_left
        · intro w hSw; clear hSw; go_simp; try rfl
        simp only [List.getElem_toArray, List.getElem_cons_zero, List.getElem_cons_succ, Act.put, List.setIfInBounds_toArray, List.set_cons_zero, List.set_cons_succ]
        refine wpAnyH_done (by kernel_rfl) ?_ _
        have hJ3 := hJd _ _ _ hJ hHeld
        have HK3 := Lib.hid (hKt HK.out (hKw _ _ HK.out hHeld))
        have xA3 := (hA _ HK3.out).2
        have xB3 := (hB _ HK3.out).2
        have hdA : i < na → a.drop i ≠ [] := fun h e => by have := congrArg List.length e; rw [List.length_drop] at this; simp at this; omega
        have hdB : j < nb → b.drop j ≠ [] := fun h e => by have := congrArg List.length e; rw [List.length_drop] at this; simp at this; omega
        have hap : o ≤ 0 → i < na := fun h => by
          rcases Nat.lt_or_ge i na with h1 | h1
          · exact h1
          · have e : a.drop i = [] := List.drop_of_length_le (by omega)
            have hh := HO.out
            rw [e] at hh
            have : o = 1 := hh.symm
            omega
        have hbp : 0 ≤ o → j < nb := fun h => by
          rcases Nat.lt_or_ge j nb with h1 | h1
          · exact h1
          · have e : b.drop j = [] := List.drop_of_length_le (by omega)
            have hia : i < na := by omega
            have hh := HO.out
            rw [e] at hh
            cases hda : a.drop i with
            | nil => exact absurd hda (hdA hia)
            | cons y ys =>
              rw [hda] at hh
              have : o = -1 := hh.symm
              omega
        have hne : a.drop i ≠ [] ∨ b.drop j ≠ [] := by
          rcases hlt with h | h
          · exact .inl (hdA h)
          · exact .inr (hdB h)
        have hstep := fun x i' j' => bt.pairs_step (i' := i') (j' := j') HP.out x
        rw [HO.out] at hstep
        have HST := Lib.hid hstep
        have HNP := Lib.hid (show bt.nextP (a.drop i) (b.drop j) = (if o ≤ 0 then (a.drop i).head? else none, if 0 ≤ o then (b.drop j).head? else none) by unfold bt.nextP; rw [HO.out])
        have HNE := Lib.hid hne
        clear hstep hne hdA hdB xA xB HAH lA lB hb3 hb4 hHeld
        by_cases h1 : o ≤ 0
        · have hia := hap h1
          obtain ⟨ba, oa, rfl, -, -⟩ := (hA _ HK3.out).1.has (by omega)
          by_cases h2 : 0 ≤ o
          · have hjb := hbp h2
            obtain ⟨bb, ob, rfl, -, -⟩ := (hB _ HK3.out).1.has (by omega)
            obtain ⟨x, hx⟩ : ∃ x : bt.Spots na nb, x.1 = (some i, some j) := ⟨⟨(some i, some j), .inl rfl, (fun k e => by injection e with e; omega), (fun k e => by injection e with e; omega)⟩, rfl⟩
            obtain ⟨hlen, hnew⟩ := HST.out x (i + 1) (j + 1) (by rw [HNP.out, if_pos h1, if_pos h2]; unfold bt.Spots.at_; rw [hx]; simp [List.head?_drop]) HNE.out (by rw [if_pos h1, List.tail_drop]) (by rw [if_pos h2, List.tail_drop])
            obtain ⟨fn, tmps, assign, body, hy, hR⟩ := hY pre x w3 hJ3 hlen
            rw [hx] at hy
            simp only [spotV, Option.map_some] at hy
            have HNEW := Lib.hid hnew
            clear hnew hlen HST HNP HNE HP HO hap hbp
            gi_wp2
            refine ⟨fun h => by simp [Fence.wide] at h, hR.mono ?_⟩
            rintro e W4 (⟨rfl, hJ4, hk4⟩ | ⟨rfl, hJx4⟩)
            · have HK4 := Lib.hid (hKt HK3.out hk4)
              gi_wp2
              go_roundw
              case rel => exact ⟨i + 1, j + 1, _, by first | rfl | go_num, by first | rfl | go_num, by omega, by omega, HNEW, hJ4, HK4⟩
              case measure => simp [intOf]; omega
            · gi_wp2
              refine bodyPost_ret (results_none rfl _ _ _) rfl ?_
              exact ⟨⟨_, rfl⟩, .inr ⟨_, trivial, hJx4⟩⟩
          · have h2' : ¬ 0 ≤ o := h2
            obtain ⟨x, hx⟩ : ∃ x : bt.Spots na nb, x.1 = (some i, none) := ⟨⟨(some i, none), .inl rfl, (fun k e => by injection e with e; omega), (fun k e => by cases e)⟩, rfl⟩
            obtain ⟨hlen, hnew⟩ := HST.out x (i + 1) j (by rw [HNP.out, if_pos h1, if_neg h2]; unfold bt.Spots.at_; rw [hx]; simp [List.head?_drop]) HNE.out (by rw [if_pos h1, List.tail_drop]) (by rw [if_neg h2])
            obtain ⟨fn, tmps, assign, body, hy, hR⟩ := hY pre x w3 hJ3 hlen
            rw [hx] at hy
            simp only [spotV, Option.map_some] at hy
            have HNEW := Lib.hid hnew
            clear hnew hlen HST HNP HNE HP HO hap hbp
            gi_wp2
            refine ⟨fun h => by simp [Fence.wide] at h, hR.mono ?_⟩
            rintro e W4 (⟨rfl, hJ4, hk4⟩ | ⟨rfl, hJx4⟩)
            · have HK4 := Lib.hid (hKt HK3.out hk4)
              gi_wp2
              go_roundw
              case rel => exact ⟨i + 1, j, _, by first | rfl | go_num, by first | rfl | go_num, by omega, by omega, HNEW, hJ4, HK4⟩
              case measure => simp [intOf]; omega
            · gi_wp2
              refine bodyPost_ret (results_none rfl _ _ _) rfl ?_
              exact ⟨⟨_, rfl⟩, .inr ⟨_, trivial, hJx4⟩⟩
        · have h2 : 0 ≤ o := by omega
          have hjb := hbp h2
          obtain ⟨bb, ob, rfl, -, -⟩ := (hB _ HK3.out).1.has (by omega)
          obtain ⟨x, hx⟩ : ∃ x : bt.Spots na nb, x.1 = (none, some j) := ⟨⟨(none, some j), .inr rfl, (fun k e => by cases e), (fun k e => by injection e with e; omega)⟩, rfl⟩
          obtain ⟨hlen, hnew⟩ := HST.out x i (j + 1) (by rw [HNP.out, if_neg h1, if_pos h2]; unfold bt.Spots.at_; rw [hx]; simp [List.head?_drop]) HNE.out (by rw [if_neg h1]) (by rw [if_pos h2, List.tail_drop])
          obtain ⟨fn, tmps, assign, body, hy, hR⟩ := hY pre x w3 hJ3 hlen
          rw [hx] at hy
          simp only [spotV, Option.map_some] at hy
          have HNEW := Lib.hid hnew
          clear hnew hlen HST HNP HNE HP HO hap hbp
          gi_wp2
          refine ⟨fun h => by simp [Fence.wide] at h, hR.mono ?_⟩
          rintro e W4 (⟨rfl, hJ4, hk4⟩ | ⟨rfl, hJx4⟩)
          · have HK4 := Lib.hid (hKt HK3.out hk4)
            gi_wp2
            go_roundw
            case rel => exact ⟨i, j + 1, _, by first | rfl | go_num, by first | rfl | go_num, by omega, by omega, HNEW, hJ4, HK4⟩
            case measure => simp [intOf]; omega
          · gi_wp2
            refine bodyPost_ret (results_none rfl _ _ _) rfl ?_
            exact ⟨⟨_, rfl⟩, .inr ⟨_, trivial, hJx4⟩⟩
      · have d1 : decide ((i : Int) < (na : Int)) = false := decide_eq_false (by omega)
        have d3 : decide (i < na) = false := decide_eq_false hia0
        have d2 : decide ((j : Int) < (nb : Int)) = true := decide_eq_true (by omega)
        have d4 : decide (j < nb) = true := decide_eq_true (by omega)
        gi_wp2
        refine wpIn_wide.2 ?_
        refine wp_region_held_drew (S := fun W => Below wr.heap.size wr W) (by kernel_rfl) (Below.refl _ _).drew (fun hHeld => ?_)
        refine wpAnyH_take (i := 0) (v := ?_) rfl (by kernel_rfl) (by kernel_rfl) (by kernel_rfl) (fun _ _ _ h => h) (Or.inl ⟨by rfl, ?_⟩) hHeld ?_
        rotate_left
        · intro w hSw; have f0 := (hSw.cell (p := ⟨Ba, 0, none⟩) lA).trans xA; have f1 := (hSw.cell (p := ⟨Bb, 0, none⟩) lB).trans xB; clear hSw; go_simp; try rfl
        simp only [List.getElem_toArray, List.getElem_cons_zero, Act.put, List.setIfInBounds_toArray, List.set_cons_zero, List.set_cons_succ]
        refine wpAnyH_take (i := 1) (v := ?_) rfl (by kernel_rfl) (by kernel_rfl) (by kernel_rfl) (fun _ _ _ h => h) (Or.inl ⟨by rfl, ?_⟩) hHeld ?_
        rotate_left
        · intro w hSw; have f0 := (hSw.cell (p := ⟨Ba, 0, none⟩) lA).trans xA; have f1 := (hSw.cell (p := ⟨Bb, 0, none⟩) lB).trans xB; clear hSw; go_simp; try rfl
        simp only [List.getElem_toArray, List.getElem_cons_zero, List.getElem_cons_succ, Act.put, List.setIfInBounds_toArray, List.set_cons_zero, List.set_cons_succ]
        refine wpAnyH_take (i := 2) (v := .slice (tailA A ca i) (na - i) (ca - i)) rfl (by kernel_rfl) (by kernel_rfl) (by kernel_rfl) (fun _ _ _ h => h) (yields_tail (by rfl) (.tmp 19) (.tmp 20) rfl rfl rfl hi) hHeld ?_
        simp only [List.getElem_toArray, List.getElem_cons_zero, List.getElem_cons_succ, Act.put, List.setIfInBounds_toArray, List.set_cons_zero, List.set_cons_succ]
        refine wpAnyH_take (i := 3) (v := ?_) rfl (by kernel_rfl) (by kernel_rfl) (by kernel_rfl) (fun _ _ _ h => h) (Or.inl ⟨by rfl, ?_⟩) hHeld ?_
        rotate_left
        · intro w hSw; have f0 := (hSw.cell (p := ⟨Ba, 0, none⟩) lA).trans xA; have f1 := (hSw.cell (p := ⟨Bb, 0, none⟩) lB).trans xB; clear hSw; go_simp; try rfl
        simp only [List.getElem_toArray, List.getElem_cons_zero, List.getElem_cons_succ, Act.put, List.setIfInBounds_toArray, List.set_cons_zero, List.set_cons_succ]
        refine wpAnyH_take (i := 4) (v := ?_) rfl (by kernel_rfl) (by kernel_rfl) (by kernel_rfl) (fun _ _ _ h => h) (Or.inl ⟨by rfl, ?_⟩) hHeld ?_
        rotate_left
        · intro w hSw; have f0 := (hSw.cell (p := ⟨Ba, 0, none⟩) lA).trans xA; have f1 := (hSw.cell (p := ⟨Bb, 0, none⟩) lB).trans xB; clear hSw; go_simp; try rfl
        simp only [List.getElem_toArray, List.getElem_cons_zero, List.getElem_cons_succ, Act.put, List.setIfInBounds_toArray, List.set_cons_zero, List.set_cons_succ]
        refine wpAnyH_take (i := 5) (v := .slice (tailA B cb j) (nb - j) (cb - j)) rfl (by kernel_rfl) (by kernel_rfl) (by kernel_rfl) (fun _ _ _ h => h) (yields_tail (by rfl) (.tmp 22) (.tmp 23) rfl rfl rfl hj) hHeld ?_
        simp only [List.getElem_toArray, List.getElem_cons_zero, List.getElem_cons_succ, Act.put, List.setIfInBounds_toArray, List.set_cons_zero, List.set_cons_succ]
        refine wpAnyH_ready (rs := [6]) (by kernel_rfl) (by simp) ?_
        refine AllReadyH.cons rfl (fun K hK => ?_) AllReadyH.nil
        rw [if_pos (by rfl)]
        go_simp
        refine (HAH.out _ hHeld).mono ?_
        rintro e w3 ⟨rfl, hb3⟩
        have hb4 := hHeld.trans (hb3.mono hHeld.size)
        refine hK.out _ _ hb4 (fun hHeld => ?_)
        clear hK K
        refine wpAnyH_take (i := 7) (v := ?_) rfl (by kernel_rfl) (by kernel_rfl) (by kernel_rfl) (fun _ _ _ h => h) (Or.inl ⟨by rfl, ?_⟩) hHeld ?_
        rotate_left
        · intro w hSw; clear hSw; go_simp; try rfl
        simp only [List.getElem_toArray, List.getElem_cons_zero, List.getElem_cons_succ, Act.put, List.setIfInBounds_toArray, List.set_cons_zero, List.set_cons_succ]
        refine wpAnyH_done (by kernel_rfl) ?_ _
        have hJ3 := hJd _ _ _ hJ hHeld
        have HK3 := Lib.hid (hKt HK.out (hKw _ _ HK.out hHeld))
        have xA3 := (hA _ HK3.out).2
        have xB3 := (hB _ HK3.out).2
        have hdA : i < na → a.drop i ≠ [] := fun h e => by have := congrArg List.length e; rw [List.length_drop] at this; simp at this; omega
        have hdB : j < nb → b.drop j ≠ [] := fun h e => by have := congrArg List.length e; rw [List.length_drop] at this; simp at this; omega
        have hap : o ≤ 0 → i < na := fun h => by
          rcases Nat.lt_or_ge i na with h1 | h1
          · exact h1
          · have e : a.drop i = [] := List.drop_of_length_le (by omega)
            have hh := HO.out
            rw [e] at hh
            have : o = 1 := hh.symm
            omega
        have hbp : 0 ≤ o → j < nb := fun h => by
          rcases Nat.lt_or_ge j nb with h1 | h1
          · exact h1
          · have e : b.drop j = [] := List.drop_of_length_le (by omega)
            have hia : i < na := by omega
            have hh := HO.out
            rw [e] at hh
            cases hda : a.drop i with
            | nil => exact absurd hda (hdA hia)
            | cons y ys =>
              rw [hda] at hh
              have : o = -1 := hh.symm
              omega
        have hne : a.drop i ≠ [] ∨ b.drop j ≠ [] := by
          rcases hlt with h | h
          · exact .inl (hdA h)
          · exact .inr (hdB h)
        have hstep := fun x i' j' => bt.pairs_step (i' := i') (j' := j') HP.out x
        rw [HO.out] at hstep
        have HST := Lib.hid hstep
        have HNP := Lib.hid (show bt.nextP (a.drop i) (b.drop j) = (if o ≤ 0 then (a.drop i).head? else none, if 0 ≤ o then (b.drop j).head? else none) by unfold bt.nextP; rw [HO.out])
        have HNE := Lib.hid hne
        clear hstep hne hdA hdB xA xB HAH lA lB hb3 hb4 hHeld
        by_cases h1 : o ≤ 0
        · exact absurd (hap h1) hia0
        · have h2 : 0 ≤ o := by omega
          have hjb := hbp h2
          obtain ⟨bb, ob, rfl, -, -⟩ := (hB _ HK3.out).1.has (by omega)
          obtain ⟨x, hx⟩ : ∃ x : bt.Spots na nb, x.1 = (none, some j) := ⟨⟨(none, some j), .inr rfl, (fun k e => by cases e), (fun k e => by injection e with e; omega)⟩, rfl⟩
          obtain ⟨hlen, hnew⟩ := HST.out x i (j + 1) (by rw [HNP.out, if_neg h1, if_pos h2]; unfold bt.Spots.at_; rw [hx]; simp [List.head?_drop]) HNE.out (by rw [if_neg h1]) (by rw [if_pos h2, List.tail_drop])
          obtain ⟨fn, tmps, assign, body, hy, hR⟩ := hY pre x w3 hJ3 hlen
          rw [hx] at hy
          simp only [spotV, Option.map_some] at hy
          have HNEW := Lib.hid hnew
          clear hnew hlen HST HNP HNE HP HO hap hbp
          gi_wp2
          refine ⟨fun h => by simp [Fence.wide] at h, hR.mono ?_⟩
          rintro e W4 (⟨rfl, hJ4, hk4⟩ | ⟨rfl, hJx4⟩)
          · have HK4 := Lib.hid (hKt HK3.out hk4)
            gi_wp2
            go_roundw
            case rel => exact ⟨i, j + 1, _, by first | rfl | go_num, by first | rfl | go_num, by omega, by omega, HNEW, hJ4, HK4⟩
            case measure => simp [intOf]; omega
          · gi_wp2
            refine bodyPost_ret (results_none rfl _ _ _) rfl ?_
            exact ⟨⟨_, rfl⟩, .inr ⟨_, trivial, hJx4⟩⟩
    · have hi2 : i = na := by omega
      have hj2 : j = nb := by omega
      have hfin : pre.map (bt.Spots.at_ a b) = bt.pairs a b := by
        rw [HP.out, List.drop_of_length_le (by omega), List.drop_of_length_le (by omega), bt.pairs]
        simp
      have HF := Lib.hid hfin
      have d1 : decide ((i : Int) < (na : Int)) = false := decide_eq_false (by omega)
      have d2 : decide ((j : Int) < (nb : Int)) = false := decide_eq_false (by omega)
      have d3 : decide (i < na) = false := decide_eq_false (by omega)
      have d4 : decide (j < nb) = false := decide_eq_false (by omega)
      clear hfin HP cA cB
      gi_wp2
      go_end0
      exact ⟨⟨_, rfl⟩, .inl ⟨_, HF.out, hJ⟩⟩
end Go.Proofs.Ytlchfadfbepapaa
