/-
  THE PROGRAM's batch: Apply.
-/
import Derived.Test.YtlchfadfbepapaaBatchQC
import Derived.Test.YtlchfadfbepapaaBatchQN
namespace Go.Proofs.Ytlchfadfbepapaa
open Go.RowKit Go.Shelf
attribute [local go_sem] Oper.semAt_some
theorem own_keepC {w w' : World} {base : Nat} {e : TypeId} {v : Value} {l : List UInt8} (h : OwnB e w base v l) (hk : ∀ k o, base ≤ k → w.heap[k]? = some o → o.isCells = true → w'.heap[k]? = w.heap[k]?) : OwnB e w' base v l := by
  rcases h with hn | ⟨g, r, a, b, c2, d⟩
  · exact .inl hn
  · exact .inr ⟨g, r, a, b, (hk g _ b c2 rfl).trans c2, d⟩
theorem own_row_keepC {w w' : World} {base : Nat} {e : TypeId} {s n : Nat} {v : Value} {xs : List Value} (h : w.ownsRow base e s v n xs) (hk : ∀ k o, base ≤ k → w.heap[k]? = some o → o.isCells = true → w'.heap[k]? = w.heap[k]?) : w'.ownsRow base e s v n xs := by
  refine ⟨h.1, ?_⟩
  rcases h.2 with h0 | ⟨g, cap, cur, e1, hb, hg, rest⟩
  · exact .inl h0
  · exact .inr ⟨g, cap, cur, e1, hb, (hk g _ hb hg rfl).trans hg, rest⟩
theorem OP.keepC {w w' : World} {base : Nat} {v : Value} {l : List bt.R} (h : OP w base v l) (hk : ∀ k o, base ≤ k → w.heap[k]? = some o → o.isCells = true → w'.heap[k]? = w.heap[k]?) : OP w' base v l := by
  obtain ⟨T, h1, h2, h3⟩ := h
  refine ⟨T, own_row_keepC h1 hk, h2, fun i x hx => ?_⟩
  obtain ⟨cs, a, b, A, c, e1, h4, h5⟩ := h3 i x hx
  exact ⟨cs, a, b, A, c, e1, own_keepC h4 hk, h5⟩
theorem OC.keepC {w w' : World} {base : Nat} {v : Value} {l : List bt.C} (h : OC w base v l) (hk : ∀ k o, base ≤ k → w.heap[k]? = some o → o.isCells = true → w'.heap[k]? = w.heap[k]?) : OC w' base v l := by
  obtain ⟨T, h1, h2, h3⟩ := h
  refine ⟨T, own_row_keepC h1 hk, h2, fun i x hx => ?_⟩
  obtain ⟨cs, a, b, A, c, e1, h4, h5⟩ := h3 i x hx
  exact ⟨cs, a, b, A, c, e1, own_keepC h4 hk, h5⟩
theorem KX.grown {n X : Nat} {a w w' : World} {row : Option Nat} (h : KX n X a w) (hg : w.grownBy w' row) (hn : n ≤ w.heap.size) (hr : ∀ k, row = some k → n ≤ k) : KX n X a w' :=
  h.trans ⟨hg.os, hg.tape, hg.output, hg.size, fun k hk _ => hg.block k (by omega) (fun e => by have := hr k e.symm; omega)⟩
theorem OT.own_cells {α : Type} {e : TypeId} {s : Nat} {R : List Value → α → Prop} {w : World} {base : Nat} {v : Value} {l : List α} (h : OT e s R w base v l) : ∀ k, v.ownBlock = some k → base ≤ k ∧ ∃ o, w.heap[k]? = some o ∧ o.isCells = true := fun k hk => by
  obtain ⟨T, h1, _, _⟩ := h
  rcases h1.2 with ⟨rfl, _⟩ | ⟨g, cap, cur, rfl, hb, hg, _⟩
  · simp [Value.ownBlock] at hk
  · simp only [Value.ownBlock, Option.some.injEq] at hk
    subst hk
    exact ⟨hb, _, hg, rfl⟩
/-- what a round keeps that appends to a row whose box is X -/
theorem round_kept {n0 X : Nat} {W V W7 : World} {v u : Value} {cs : Array Value} {T : TypeId} (hX : W.heap[X]? = some (.cells cs T (0, 0))) (hn0 : n0 ≤ W.heap.size) (hv : ∀ k, v.ownBlock = some k → n0 ≤ k ∧ ∃ o, W.heap[k]? = some o ∧ o.isCells = true) (hb : Below W.heap.size W V) (hg : V.grownBy W7 v.ownBlock) :
    KeepsOthers W (W7.setCell ⟨X, 0, none⟩ u) ∧ KX n0 X W (W7.setCell ⟨X, 0, none⟩ u) := by
  have hsz : (W7.setCell ⟨X, 0, none⟩ u).heap.size = W7.heap.size := by simp [World.setCell]
  have hkeep : ∀ k, k < W.heap.size → k ≠ X → v.ownBlock ≠ some k → (W7.setCell ⟨X, 0, none⟩ u).heap[k]? = W.heap[k]? := fun k h1 h2 h3 =>
    ((Below.heap_setCell W7 ⟨X, 0, none⟩ u k h2).trans (hg.block k (Nat.lt_of_lt_of_le h1 hb.size) (fun e => h3 e.symm))).trans (hb.block k h1)
  have h0 := hb.size
  have h1 := hg.size
  refine ⟨⟨by omega, fun k o hk ho => ?_⟩, ⟨?_, ?_, ?_, by omega, fun k hk hX' => hkeep k (by omega) hX' fun e => ?_⟩⟩
  · refine (hkeep k (Array.getElem?_eq_some_iff.1 hk).1 (fun e => ?_) (fun e => ?_)).trans hk
    · rw [e, hX] at hk
      injection hk with hk
      rw [← hk] at ho
      cases ho
    · obtain ⟨_, o', h1, h2⟩ := hv k e
      rw [hk] at h1
      injection h1 with h1
      rw [h1, h2] at ho
      cases ho
  · exact (show (W7.setCell ⟨X, 0, none⟩ u).os = W7.os from rfl).trans (hg.os.trans hb.os)
  · exact (show (W7.setCell ⟨X, 0, none⟩ u).tape = W7.tape from rfl).trans (hg.tape.trans hb.tape)
  · exact (show (W7.setCell ⟨X, 0, none⟩ u).output = W7.output from rfl).trans (hg.output.trans hb.output)
  · have := (hv k e).1
    omega
theorem bt.pairs_length : ∀ (a b : List bt.C), (bt.pairs a b).length ≤ a.length + b.length
  | [], ys => by rw [bt.pairs]; simp
  | x :: xs, [] => by
    have := bt.pairs_length xs []
    rw [bt.pairs]
    simp at this ⊢
    omega
  | x :: xs, y :: ys => by
    have h1 := bt.pairs_length xs (y :: ys)
    have h2 := bt.pairs_length xs ys
    have h3 := bt.pairs_length (x :: xs) ys
    rw [bt.pairs]
    simp only [List.length_cons] at h1 h2 h3 ⊢
    split
    · simp; omega
    · split
      · simp; omega
      · simp; omega
termination_by a b => a.length + b.length
theorem outA_le : ∀ (L : List (Option bt.C × Option bt.C)), (L.flatMap bt.outA).length ≤ L.length
  | [] => Nat.le_refl _
  | x :: L => by
    have := outA_le L
    have h1 : (bt.outA x).length ≤ 1 := by
      unfold bt.outA
      split
      · split <;> simp
      · split <;> simp
      · simp
    rw [List.flatMap_cons, List.length_append, List.length_cons]
    omega
theorem frozen_of_rowX {w : World} {b : Nat} {cs : Array Value} {t : TypeId} (h : w.heap[b]? = some (.cells cs t (0, 0))) (i : Nat) : w.frozen? ⟨b, i, none⟩ = false := by simp [World.frozen?, h]
theorem grown_cell {w w' : World} {row : Option Nat} (h : w.grownBy w' row) {b o : Nat} (hb : b < w.heap.size) (hr : row ≠ some b) : w'.cell? ⟨b, o, none⟩ = w.cell? ⟨b, o, none⟩ :=
  World.cell?_of_block (w := w) (h.block b hb (fun e => hr e.symm))
set_option maxHeartbeats 8000000 in
set_option maxRecDepth 100000 in
theorem applyQ_any {A B : Option Addr} {n c m d : Nat} {w : World} {Z : Nat → Prop} (t : List bt.R) (l : List bt.C) (h : TS w A n c t) (hl : CS w B m d l) (hZ : ∀ k, w.heap.size ≤ k → Z k) (hk1 : ∀ r ∈ t, r.key.length ≤ 9223372036854775807) (hk2 : ∀ r ∈ l, r.key.length ≤ 9223372036854775807) (hn : n + m ≤ 1099511627774) :
    Calls Try.prog 22 #[.slice A n c, .slice B m d] w fun e w' => (∃ A' c', e = .returned (.tuple #[.slice A' (bt.apply t l).1.length c', .int .i64 (bt.apply t l).2]) ∧ TS w' A' (bt.apply t l).1.length c' (bt.apply t l).1 ∧ TO Z w' A' (bt.apply t l).1.length) ∧ Below w.heap.size w w' := by
  have HM1 := Lib.hid (mayr_any A n c t w h hk1 (by omega))
  have HM2 := Lib.hid (fun W (hb : Below w.heap.size w W) => mayq_any B m d l W (hl.below hb) hk2 (by omega))
  have hlen := h.len
  have hlenl := hl.len
  by_cases c1 : bt.may t = true
  · rw [c1] at HM1
    by_cases c2 : bt.mayC l = true
    · rw [c2] at HM2
      have hres : bt.apply t l = (bt.applyL t l, 0) := by unfold bt.apply; rw [c1, c2]; rfl
      rw [hres]
      have happ : bt.applyL t l = (bt.pairs (t.map bt.laid) l).flatMap bt.outA := by
        have := bt.apply_pairs t l [] (by simpa using bt.may_sorted c1) (bt.mayCFrom_sorted l none c2).1 (by simp)
        simpa using this
      have HAPP := Lib.hid happ
      have hsl : ∀ x ∈ l, x.val.length ≤ 1048576 := fun x hx => (bt.mayC_all l none c2 x hx).2
      have hst : ∀ r ∈ t, r.val.length ≤ 1048576 := fun r hr => ((bt.mayFrom_sorted t none c1).2.2 r hr).2
      have HPU := Lib.hid (fun W (hb : Below w.heap.size w W) => puts_pq A n c t w W h hb (by omega))
      clear hres happ c1 c2
      refine (callsIn_wide (n := 5)).1 ?_
      refine callsIn_of_wp_marks Try.func22 rfl trivial ?_ rfl
      simp only [Try.ntmps22, List.size_toArray, List.length_cons, List.length_nil, Nat.reduceAdd, Nat.reduceSub, Array.replicate_succ, Array.replicate_zero, List.push_toArray, List.append_toArray, List.nil_append, List.cons_append]
      gi_wp2
      refine ⟨trivial, (callsIn_wide.2 HM1.out).mono ?_⟩
      rintro e w1 ⟨rfl, hb1⟩
      gi_wp2
      refine ⟨trivial, (callsIn_wide.2 (HM2.out _ hb1)).mono ?_⟩
      rintro e w2 ⟨rfl, hb2⟩
      have hb12 := hb1.trans (hb2.mono hb1.size)
      have nX := heap_alloc_new w2 (.cells #[.slice none 0 0] 22)
      have b3 : Below w2.heap.size w2 (w2.alloc (.cells #[.slice none 0 0] 22)) := (Below.refl _ _).alloc (Nat.le_refl _) _
      have s3 : (w2.alloc (.cells #[.slice none 0 0] 22)).heap.size = w2.heap.size + 1 := by simp
      have hb13 := hb12.trans (b3.mono hb12.size)
      gi_wp2
      refine ⟨trivial, (callsIn_wide.2 (HPU.out _ hb13)).mono ?_⟩
      rintro e w4 ⟨g, rfl, hpq, hg3, hg4, hb4⟩
      obtain ⟨X, hX⟩ : ∃ X, w2.heap.size = X := ⟨_, rfl⟩
      rw [hX] at nX s3
      rw [s3] at hg3
      have hX12 : w.heap.size ≤ X := hX ▸ hb12.size
      have nX4 := (hb4.block X (by omega)).trans nX
      have hb14 := hb13.trans (hb4.mono hb13.size)
      clear hb4 b3 HPU nX
      gi_wp2
      refine ⟨trivial, (callsIn_wide.2 (bothF_any _ _ _ _ _ _ _)).mono ?_⟩
      rintro e w5 ⟨rfl, hw5⟩
      have e1 := heap_alloc_new w4 (.cells #[.slice (some ⟨g, 0, none⟩) n n] 23)
      have e2 := heap_alloc_new (w4.alloc (.cells #[.slice (some ⟨g, 0, none⟩) n n] 23)) (.cells #[.slice B m d] 23)
      have s4 : (w4.alloc (.cells #[.slice (some ⟨g, 0, none⟩) n n] 23)).heap.size = w4.heap.size + 1 := by simp
      have b45 : Below w4.heap.size w4 w5 := by rw [hw5]; exact ((Below.refl _ _).alloc (Nat.le_refl _) _).alloc (by simp) _
      have s5 : w5.heap.size = w4.heap.size + 2 := by rw [hw5]; simp
      have f1 := (Below.heap_alloc (w4.alloc (.cells #[.slice (some ⟨g, 0, none⟩) n n] 23)) (.cells #[.slice B m d] 23) w4.heap.size (by omega)).trans e1
      rw [s4] at e2
      rw [← hw5] at e2 f1
      have hb15 := hb14.trans (b45.mono hb14.size)
      have nX5 := (b45.block X (by omega)).trans nX4
      have nG5 := b45.block g hg4
      obtain ⟨Ba, hBa⟩ : ∃ Ba, w4.heap.size = Ba := ⟨_, rfl⟩
      rw [hBa] at e2 f1 s5 hg4 ⊢
      have hKB : ∀ W, KX w5.heap.size X w5 W → Below w.heap.size w W := fun W k => hb15.trans ⟨k.os, k.tape, k.output, k.size, fun i hi => k.block i (by omega) (by omega)⟩
      have hA5 : ∀ W, KX w5.heap.size X w5 W → CS W (some ⟨g, 0, none⟩) n n (t.map bt.laid) ∧ W.cell? ⟨Ba, 0, none⟩ = some (.slice (some ⟨g, 0, none⟩) n n) := fun W k => by
        refine ⟨hpq.far hlen ((k.block g (by omega) (by omega)).trans nG5) (hKB W k) (by omega) (by omega), ?_⟩
        rw [cell_of_row _ _ 0 _ _ _ ((k.block Ba (by omega) (by omega)).trans f1)]
        rfl
      have hB5 : ∀ W, KX w5.heap.size X w5 W → CS W B m d l ∧ W.cell? ⟨Ba + 1, 0, none⟩ = some (.slice B m d) := fun W k => by
        refine ⟨hl.below (hKB W k), ?_⟩
        rw [cell_of_row _ _ 0 _ _ _ ((k.block (Ba + 1) (by omega) (by omega)).trans e2)]
        rfl
      clear hw5 s4 e1 b45 nX4 hb14
      gi_wp2
      refine wpIn_rangeFunc_ownF (α := bt.Spots n m) rfl (by omega) (gf := 70) (lb := #[.pointer (some ⟨Ba, 0, none⟩), .pointer (some ⟨Ba + 1, 0, none⟩)]) rfl trivial (enters_of Try.func70 (by kernel_rfl) rfl)
        (both_stops 4 X Ba (Ba + 1) (some ⟨g, 0, none⟩) B n n m d (t.map bt.laid) l (by omega) (by omega) w5 hA5 hB5)
        (fun h k => h.trans k) (fun W l o o' hl ho _ _ => KX.putObj (Nat.le_refl _) W l o o' hl ho) (Below.refl _ _) (fun _ => rfl)
        (fun pre W => ∃ v, W.heap[X]? = some (.cells #[v] 22 (0, 0)) ∧ OP W w5.heap.size v ((pre.map (bt.Spots.at_ (t.map bt.laid) l)).flatMap bt.outA) ∧ KX w5.heap.size X w5 W)
        (fun _ _ _ => False) ?hI (fun _ _ _ _ _ h _ _ => h) ⟨_, nX5, OP.nil_ _ _, KX.refl _ _ _⟩
        (fun x => { tmps := #[.slice A n c, .slice B m d, undef, undef, .slice none 0 0, .int .i64 0, .pointer (some ⟨X, 0, none⟩), spotV (some ⟨g, 0, none⟩) x.1.1, spotV B x.1.2, .slice A n c, .bool true, .bool false, .bool false, .slice B m d, .bool true, .bool false, .bool false, .slice A n c, .slice (some ⟨g, 0, none⟩) n n, .slice B m d, .func (.func 70) #[] #[.pointer (some ⟨Ba, 0, none⟩), .pointer (some ⟨Ba + 1, 0, none⟩)], spotV (some ⟨g, 0, none⟩) x.1.1, spotV B x.1.2, undef, undef, undef, undef, undef, undef, undef, undef, undef, undef, undef, undef, undef, undef, undef, undef, undef, undef, undef, undef, undef, undef], defers := [] }) ?assign ?body ?done ?stop
      case assign =>
        intro l x W K hK
        gi_wp2
        exact hK
      case hI =>
        rintro pre W W' row' ⟨v, h1, h2, h3⟩ hg hr
        have hs := h3.size
        have hne : ∀ (k : Nat) (o : Obj), W.heap[k]? = some o → o.isCells = true → some k ≠ row' := fun k o hk hc e => by
          obtain ⟨_, o', ho, hc'⟩ := hr k e.symm
          rw [hk] at ho
          injection ho with ho
          rw [ho, hc'] at hc
          cases hc
        exact ⟨v, (hg.block X (Array.getElem?_eq_some_iff.1 h1).1 (hne X _ h1 rfl)).trans h1, h2.keepC fun k o hb hk hc => hg.block k (Array.getElem?_eq_some_iff.1 hk).1 (hne k o hk hc), h3.grown hg hs (fun k e => (hr k e).1)⟩
      case body =>
        rintro ll pre x W ⟨v, h1, h2, h3⟩ hlen
        have c0 : W.cell? ⟨X, 0, none⟩ = some v := by rw [cell_of_row _ _ 0 _ _ _ h1]; rfl
        have hs := h3.size
        have hXW : X < W.heap.size := by omega
        have hpl0 := bt.pairs_length (t.map bt.laid) l
        rw [List.length_map] at hpl0
        have hLl := outA_le (pre.map (bt.Spots.at_ (t.map bt.laid) l))
        rw [List.length_map] at hLl
        have hout : ((pre ++ [x]).map (bt.Spots.at_ (t.map bt.laid) l)).flatMap bt.outA = (pre.map (bt.Spots.at_ (t.map bt.laid) l)).flatMap bt.outA ++ bt.outA (x.at_ (t.map bt.laid) l) := by simp
        obtain ⟨ys, hys⟩ : ∃ ys, pre ++ [x] = ys := ⟨_, rfl⟩
        rw [hys] at hout ⊢
        obtain ⟨L, hL⟩ : ∃ L, (pre.map (bt.Spots.at_ (t.map bt.laid) l)).flatMap bt.outA = L := ⟨_, rfl⟩
        rw [hL] at h2 hLl hout
        obtain ⟨cA, -⟩ := hA5 W h3
        obtain ⟨cB, -⟩ := hB5 W h3
        clear hys
        obtain ⟨x, hx, hxa, hxb⟩ := x
        obtain ⟨fi, se⟩ := x
        simp only at hx hxa hxb hout
        cases se with
        | some j =>
          have hj := hxb j rfl
          obtain ⟨pb, o2, rfl, hpl, hr⟩ := cB.has (by omega)
          obtain ⟨x0, x2, X1, c1, x1, gB⟩ := hr j (by omega)
          have hat : bt.outA (bt.Spots.at_ (t.map bt.laid) l ⟨(fi, some j), hx, hxa, hxb⟩) = if l[j].gone then [] else [⟨l[j].key, l[j].val⟩] := by
            unfold bt.Spots.at_ bt.outA
            simp [List.getElem?_eq_getElem (show j < l.length by omega)]
          have hpb : pb < w.heap.size := by
            obtain ⟨b', o', e, hb', _⟩ := hl.has (by omega)
            injection e with e
            injection e with e3 e4
            rw [e3]; exact hb'
          have hsm : l[j].val.length ≤ 1048576 := hsl _ (List.getElem_mem (by omega))
          rw [hat] at hout
          clear hat hr
          obtain ⟨⟨kk, vv, gn⟩, hxx⟩ : ∃ y, l[j] = y := ⟨_, rfl⟩
          rw [hxx] at x0 x1 x2 gB hsm hout
          simp only at x0 x1 x2 gB hsm hout
          obtain ⟨po, hpo⟩ : ∃ q, o2 + j * 3 = q := ⟨_, rfl⟩
          rw [hpo] at x0 x1 x2
          have hpX : pb ≠ X := by omega
          have hpn : pb < w5.heap.size := by have := hb15.size; omega
          have hsv : spotV (some ⟨pb, o2, none⟩) (some j) = .pointer (some ⟨pb, po, none⟩) := by rw [← hpo]; rfl
          simp only [hsv]
          clear hxx hpo hsv hx hxa hxb cA cB
          have HCL := Lib.hid (fun V (hb : Below W.heap.size W V) => clone_any X1 vv.length c1 vv V (gB.below hb) (by omega))
          obtain ⟨mv, hmv⟩ : ∃ m, vv.length = m := ⟨_, rfl⟩
          rw [hmv] at x1 HCL
          have hnext := hout
          cases gn with
          | true =>
            rw [if_pos rfl, List.append_nil] at hnext
            clear hout
            gi_wp2
            exact ⟨KeepsOthers.refl _, KX.refl _ _ _, v, h1, by rw [hnext]; exact h2, h3⟩
          | false =>
            rw [if_neg (by decide)] at hnext
            clear hout
            gi_wp2
            refine regionIn (S := fun V => V.cell? ⟨pb, po, none⟩ = some (str kk) ∧ V.cell? ⟨pb, po + 1, none⟩ = some (.slice X1 mv c1)) ll 3 (by kernel_rfl) (by kernel_rfl) ⟨x0, x1⟩ (fun hHeld => ?_)
            refine wpAnyH_take (i := 1) (v := ?_) rfl (by kernel_rfl) (by kernel_rfl) (by kernel_rfl) (fun _ _ _ h => h) (Or.inl ⟨by rfl, ?_⟩) hHeld ?_
            rotate_left
            · intro w hSw; have f0 := hSw.1; have f1 := hSw.2; clear hSw; go_simp; try rfl
            simp only [List.getElem_toArray, List.getElem_cons_zero, List.getElem_cons_succ, Act.put, List.setIfInBounds_toArray, List.set_cons_zero, List.set_cons_succ]
            refine wpAnyH_take (i := 2) (v := ?_) rfl (by kernel_rfl) (by kernel_rfl) (by kernel_rfl) (fun _ _ _ h => h) (Or.inl ⟨by rfl, ?_⟩) hHeld ?_
            rotate_left
            · intro w hSw; have f0 := hSw.1; have f1 := hSw.2; clear hSw; go_simp; try rfl
            simp only [List.getElem_toArray, List.getElem_cons_zero, List.getElem_cons_succ, Act.put, List.setIfInBounds_toArray, List.set_cons_zero, List.set_cons_succ]
            refine wpAnyH_take (i := 3) (v := ?_) rfl (by kernel_rfl) (by kernel_rfl) (by kernel_rfl) (fun _ _ _ h => h) (Or.inl ⟨by rfl, ?_⟩) hHeld ?_
            rotate_left
            · intro w hSw; have f0 := hSw.1; have f1 := hSw.2; clear hSw; go_simp; try rfl
            simp only [List.getElem_toArray, List.getElem_cons_zero, List.getElem_cons_succ, Act.put, List.setIfInBounds_toArray, List.set_cons_zero, List.set_cons_succ]
            refine wpAnyH_take (i := 4) (v := ?_) rfl (by kernel_rfl) (by kernel_rfl) (by kernel_rfl) (fun _ _ _ h => h) (Or.inl ⟨by rfl, ?_⟩) hHeld ?_
            rotate_left
            · intro w hSw; have f0 := hSw.1; have f1 := hSw.2; clear hSw; go_simp; try rfl
            simp only [List.getElem_toArray, List.getElem_cons_zero, List.getElem_cons_succ, Act.put, List.setIfInBounds_toArray, List.set_cons_zero, List.set_cons_succ]
            refine wpAnyH_take (i := 5) (v := ?_) rfl (by kernel_rfl) (by kernel_rfl) (by kernel_rfl) (fun _ _ _ h => h) (Or.inl ⟨by rfl, ?_⟩) hHeld ?_
            rotate_left
            · intro w hSw; have f0 := hSw.1; have f1 := hSw.2; clear hSw; go_simp; try rfl
            simp only [List.getElem_toArray, List.getElem_cons_zero, List.getElem_cons_succ, Act.put, List.setIfInBounds_toArray, List.set_cons_zero, List.set_cons_succ]
            refine wpAnyH_take (i := 6) (v := ?_) rfl (by kernel_rfl) (by kernel_rfl) (by kernel_rfl) (fun _ _ _ h => h) (Or.inl ⟨by rfl, ?_⟩) hHeld ?_
            rotate_left
            · intro w hSw; have f0 := hSw.1; have f1 := hSw.2; clear hSw; go_simp; try rfl
            simp only [List.getElem_toArray, List.getElem_cons_zero, List.getElem_cons_succ, Act.put, List.setIfInBounds_toArray, List.set_cons_zero, List.set_cons_succ]
            refine wpAnyH_take (i := 7) (v := ?_) rfl (by kernel_rfl) (by kernel_rfl) (by kernel_rfl) (fun _ _ _ h => h) (Or.inl ⟨by rfl, ?_⟩) hHeld ?_
            rotate_left
            · intro w hSw; have f0 := hSw.1; have f1 := hSw.2; clear hSw; go_simp; try rfl
            simp only [List.getElem_toArray, List.getElem_cons_zero, List.getElem_cons_succ, Act.put, List.setIfInBounds_toArray, List.set_cons_zero, List.set_cons_succ]
            refine wpAnyH_take (i := 8) (v := ?_) rfl (by kernel_rfl) (by kernel_rfl) (by kernel_rfl) (fun _ _ _ h => h) (Or.inl ⟨by rfl, ?_⟩) hHeld ?_
            rotate_left
            · intro w hSw; have f0 := hSw.1; have f1 := hSw.2; clear hSw; go_simp; try rfl
            simp only [List.getElem_toArray, List.getElem_cons_zero, List.getElem_cons_succ, Act.put, List.setIfInBounds_toArray, List.set_cons_zero, List.set_cons_succ]
            refine wpAnyH_ready (rs := [0, 9]) (by kernel_rfl) (by simp) ?_
            refine AllReadyH.cons rfl (fun K hK => ?_) (AllReadyH.cons rfl (fun K hK => ?_) AllReadyH.nil)
            · rw [if_pos (by rfl)]
              have xb : W.drew.cell? ⟨X, 0, none⟩ = some v := c0
              go_simp
              refine hK.out _ _ hHeld (fun hHeld => ?_)
              clear hK K
              refine wpAnyH_ready (rs := [9]) (by kernel_rfl) (by simp) ?_
              refine AllReadyH.cons rfl (fun K hK => ?_) AllReadyH.nil
              rw [if_pos (by rfl)]
              go_simp
              refine (HCL.out _ (Below.refl _ _).drew).mono ?_
              rintro e V ⟨v2, rfl, ho2, hbV⟩
              obtain ⟨A2, c2, rfl, -⟩ := ho2.form
              rw [hmv] at ho2 ⊢
              have hG : Below W.heap.size W V := (Below.refl _ _).drew.trans hbV
              have hbase : w5.heap.size ≤ W.drew.heap.size := hs
              have hWd : W.drew.heap.size = W.heap.size := rfl
              rw [hWd] at ho2 hbase
              refine hK.out _ _ ⟨(hG.cell (p := ⟨pb, po, none⟩) hpl).trans x0, (hG.cell (p := ⟨pb, po + 1, none⟩) hpl).trans x1⟩ (fun hHeld => ?_)
              clear hK K
              have hOV := h2.keepB (w' := V) (fun k _ hk => hG.block k hk)
              have hR0 : eltP V w5.heap.size v [str kk, .slice A2 mv c2] ⟨kk, vv⟩ := ⟨A2, c2, by rw [← hmv], by rw [← hmv] at ho2; exact ho2.mono hbase, fun k hk e => by
                rw [hmv] at hk
                have q1 := (ho2.lt k hk).1
                have q2 := (h2.lt k e).2
                omega⟩
              have nN := heap_alloc_new V (.cells #[str kk, .slice A2 mv c2] 51)
              have hON := hOV.keepB (w' := V.alloc (.cells #[str kk, .slice A2 mv c2] 51)) (fun k _ hk => Below.heap_alloc V _ k hk)
              have hRN := OP.elt_keep (w' := V.alloc (.cells #[str kk, .slice A2 mv c2] 51)) hR0 (fun k _ hk => Below.heap_alloc V _ k hk)
              have hGN := hG.alloc hG.size (.cells #[str kk, .slice A2 mv c2] 51)
              have sN : (V.alloc (.cells #[str kk, .slice A2 mv c2] 51)).heap.size = V.heap.size + 1 := by simp
              refine wpAnyH_take (i := 10) (v := ?_) rfl (by kernel_rfl) (by kernel_rfl) (by kernel_rfl) (fun _ _ _ h => h) (Or.inl ⟨by rfl, ?_⟩) hHeld ?_
              rotate_left
              · intro w hSw; clear hSw; go_simp; try rfl
              simp only [List.getElem_toArray, List.getElem_cons_zero, List.getElem_cons_succ, Act.put, List.setIfInBounds_toArray, List.set_cons_zero, List.set_cons_succ]
              refine wpAnyH_ready (rs := [11]) (by kernel_rfl) (by simp) ?_
              refine AllReadyH.cons rfl (fun K hK => ?_) AllReadyH.nil
              rw [if_pos (by rfl)]
              go_simp
              refine hK.out _ _ ⟨(hGN.cell (p := ⟨pb, po, none⟩) hpl).trans x0, (hGN.cell (p := ⟨pb, po + 1, none⟩) hpl).trans x1⟩ (fun hHeld => ?_)
              clear hK K
              generalize V.alloc (.cells #[str kk, .slice A2 mv c2] 51) = VN at *
              have hNl := hGN.size
              refine wpAnyH_ready (rs := [12]) (by kernel_rfl) (by simp) ?_
              refine AllReadyH.cons rfl (fun K hK => ?_) AllReadyH.nil
              rw [if_pos (by rfl)]
              refine wpo_app (.tmp 31) (.tmp 42) hON (by omega) nN hRN (by omega) rfl rfl rfl ?_
              intro gg cp W7 ho7 hg7 hat7 hlt7
              have hne7 : v.ownBlock ≠ some pb := fun e => by have := (h2.lt pb e).1; omega
              have hneX : v.ownBlock ≠ some X := fun e => by have := (h2.lt X e).1; omega
              refine hK.out _ _ ⟨(grown_cell hg7 (by omega) hne7).trans hHeld.1, (grown_cell hg7 (by omega) hne7).trans hHeld.2⟩ (fun hHeld => ?_)
              clear hK K
              simp only [List.getElem_toArray, List.getElem_cons_zero, List.getElem_cons_succ, Act.put, List.setIfInBounds_toArray, List.set_cons_zero, List.set_cons_succ]
              have hX7 := ((hg7.block X (by omega) (fun e => hneX e.symm)).trans (hGN.block X hXW)).trans h1
              have xc : W7.cell? ⟨X, 0, none⟩ = some v := by rw [cell_of_row _ _ 0 _ _ _ hX7]; rfl
              have xf : W7.frozen? ⟨X, 0, none⟩ = false := frozen_of_rowX hX7 0
              obtain ⟨k1, k2⟩ := round_kept (u := .slice (some ⟨gg, 0, none⟩) (L.length + 1) cp) h1 hs (fun k e => OT.own_cells h2 k e) hGN hg7
              have hX8 := block_set (i := 0) hX7 (.slice (some ⟨gg, 0, none⟩) (L.length + 1) cp)
              have hO8 := ho7.keepB (w' := W7.setCell ⟨X, 0, none⟩ (.slice (some ⟨gg, 0, none⟩) (L.length + 1) cp)) (fun k hk _ => Below.heap_setCell W7 ⟨X, 0, none⟩ _ k (by show k ≠ X; omega))
              refine wpAnyH_ready (rs := [13]) (by kernel_rfl) (by simp) ?_
              refine AllReadyH.cons rfl (fun K hK => ?_) AllReadyH.nil
              rw [if_pos (by rfl)]
              go_simp
              refine hK.out _ _ ⟨(World.cell?_setCell_far W7 ⟨X, 0, none⟩ ⟨pb, po, none⟩ _ (fun e => hpX e.symm)).trans hHeld.1, (World.cell?_setCell_far W7 ⟨X, 0, none⟩ ⟨pb, po + 1, none⟩ _ (fun e => hpX e.symm)).trans hHeld.2⟩ (fun hHeld => ?_)
              clear hK K
              refine wpAnyH_done (by kernel_rfl) ?_ _
              exact ⟨k1, k2, _, hX8, by rw [hnext]; exact hO8, h3.trans k2⟩
            · rw [if_pos (by rfl)]
              go_simp
              refine (HCL.out _ (Below.refl _ _).drew).mono ?_
              rintro e V ⟨v2, rfl, ho2, hbV⟩
              obtain ⟨A2, c2, rfl, -⟩ := ho2.form
              rw [hmv] at ho2 ⊢
              have hG : Below W.heap.size W V := (Below.refl _ _).drew.trans hbV
              have hbase : w5.heap.size ≤ W.drew.heap.size := hs
              have hWd : W.drew.heap.size = W.heap.size := rfl
              rw [hWd] at ho2 hbase
              refine hK.out _ _ ⟨(hG.cell (p := ⟨pb, po, none⟩) hpl).trans x0, (hG.cell (p := ⟨pb, po + 1, none⟩) hpl).trans x1⟩ (fun hHeld => ?_)
              clear hK K
              have hOV := h2.keepB (w' := V) (fun k _ hk => hG.block k hk)
              have hR0 : eltP V w5.heap.size v [str kk, .slice A2 mv c2] ⟨kk, vv⟩ := ⟨A2, c2, by rw [← hmv], by rw [← hmv] at ho2; exact ho2.mono hbase, fun k hk e => by
                rw [hmv] at hk
                have q1 := (ho2.lt k hk).1
                have q2 := (h2.lt k e).2
                omega⟩
              have nN := heap_alloc_new V (.cells #[str kk, .slice A2 mv c2] 51)
              have hON := hOV.keepB (w' := V.alloc (.cells #[str kk, .slice A2 mv c2] 51)) (fun k _ hk => Below.heap_alloc V _ k hk)
              have hRN := OP.elt_keep (w' := V.alloc (.cells #[str kk, .slice A2 mv c2] 51)) hR0 (fun k _ hk => Below.heap_alloc V _ k hk)
              have hGN := hG.alloc hG.size (.cells #[str kk, .slice A2 mv c2] 51)
              have sN : (V.alloc (.cells #[str kk, .slice A2 mv c2] 51)).heap.size = V.heap.size + 1 := by simp
              have xb : V.cell? ⟨X, 0, none⟩ = some v := (hG.cell (p := ⟨X, 0, none⟩) hXW).trans c0
              refine wpAnyH_take (i := 10) (v := ?_) rfl (by kernel_rfl) (by kernel_rfl) (by kernel_rfl) (fun _ _ _ h => h) (Or.inl ⟨by rfl, ?_⟩) hHeld ?_
              rotate_left
              · intro w hSw; clear hSw; go_simp; try rfl
              simp only [List.getElem_toArray, List.getElem_cons_zero, List.getElem_cons_succ, Act.put, List.setIfInBounds_toArray, List.set_cons_zero, List.set_cons_succ]
              refine wpAnyH_ready (rs := [0, 11]) (by kernel_rfl) (by simp) ?_
              refine AllReadyH.cons rfl (fun K hK => ?_) (AllReadyH.cons rfl (fun K hK => ?_) AllReadyH.nil)
              · rw [if_pos (by rfl)]
                go_simp
                refine hK.out _ _ hHeld (fun hHeld => ?_)
                clear hK K
                refine wpAnyH_ready (rs := [11]) (by kernel_rfl) (by simp) ?_
                refine AllReadyH.cons rfl (fun K hK => ?_) AllReadyH.nil
                rw [if_pos (by rfl)]
                go_simp
                refine hK.out _ _ ⟨(hGN.cell (p := ⟨pb, po, none⟩) hpl).trans x0, (hGN.cell (p := ⟨pb, po + 1, none⟩) hpl).trans x1⟩ (fun hHeld => ?_)
                clear hK K
                generalize V.alloc (.cells #[str kk, .slice A2 mv c2] 51) = VN at *
                have hNl := hGN.size
                refine wpAnyH_ready (rs := [12]) (by kernel_rfl) (by simp) ?_
                refine AllReadyH.cons rfl (fun K hK => ?_) AllReadyH.nil
                rw [if_pos (by rfl)]
                refine wpo_app (.tmp 31) (.tmp 42) hON (by omega) nN hRN (by omega) rfl rfl rfl ?_
                intro gg cp W7 ho7 hg7 hat7 hlt7
                have hne7 : v.ownBlock ≠ some pb := fun e => by have := (h2.lt pb e).1; omega
                have hneX : v.ownBlock ≠ some X := fun e => by have := (h2.lt X e).1; omega
                refine hK.out _ _ ⟨(grown_cell hg7 (by omega) hne7).trans hHeld.1, (grown_cell hg7 (by omega) hne7).trans hHeld.2⟩ (fun hHeld => ?_)
                clear hK K
                simp only [List.getElem_toArray, List.getElem_cons_zero, List.getElem_cons_succ, Act.put, List.setIfInBounds_toArray, List.set_cons_zero, List.set_cons_succ]
                have hX7 := ((hg7.block X (by omega) (fun e => hneX e.symm)).trans (hGN.block X hXW)).trans h1
                have xc : W7.cell? ⟨X, 0, none⟩ = some v := by rw [cell_of_row _ _ 0 _ _ _ hX7]; rfl
                have xf : W7.frozen? ⟨X, 0, none⟩ = false := frozen_of_rowX hX7 0
                obtain ⟨k1, k2⟩ := round_kept (u := .slice (some ⟨gg, 0, none⟩) (L.length + 1) cp) h1 hs (fun k e => OT.own_cells h2 k e) hGN hg7
                have hX8 := block_set (i := 0) hX7 (.slice (some ⟨gg, 0, none⟩) (L.length + 1) cp)
                have hO8 := ho7.keepB (w' := W7.setCell ⟨X, 0, none⟩ (.slice (some ⟨gg, 0, none⟩) (L.length + 1) cp)) (fun k hk _ => Below.heap_setCell W7 ⟨X, 0, none⟩ _ k (by show k ≠ X; omega))
                refine wpAnyH_ready (rs := [13]) (by kernel_rfl) (by simp) ?_
                refine AllReadyH.cons rfl (fun K hK => ?_) AllReadyH.nil
                rw [if_pos (by rfl)]
                go_simp
                refine hK.out _ _ ⟨(World.cell?_setCell_far W7 ⟨X, 0, none⟩ ⟨pb, po, none⟩ _ (fun e => hpX e.symm)).trans hHeld.1, (World.cell?_setCell_far W7 ⟨X, 0, none⟩ ⟨pb, po + 1, none⟩ _ (fun e => hpX e.symm)).trans hHeld.2⟩ (fun hHeld => ?_)
                clear hK K
                refine wpAnyH_done (by kernel_rfl) ?_ _
                exact ⟨k1, k2, _, hX8, by rw [hnext]; exact hO8, h3.trans k2⟩
              · rw [if_pos (by rfl)]
                go_simp
                refine hK.out _ _ ⟨(hGN.cell (p := ⟨pb, po, none⟩) hpl).trans x0, (hGN.cell (p := ⟨pb, po + 1, none⟩) hpl).trans x1⟩ (fun hHeld => ?_)
                clear hK K
                generalize V.alloc (.cells #[str kk, .slice A2 mv c2] 51) = VN at *
                have xb2 : VN.cell? ⟨X, 0, none⟩ = some v := (hGN.cell (p := ⟨X, 0, none⟩) hXW).trans c0
                refine wpAnyH_ready (rs := [0]) (by kernel_rfl) (by simp) ?_
                refine AllReadyH.cons rfl (fun K hK => ?_) AllReadyH.nil
                rw [if_pos (by rfl)]
                go_simp
                refine hK.out _ _ hHeld (fun hHeld => ?_)
                clear hK K
                have hNl := hGN.size
                refine wpAnyH_ready (rs := [12]) (by kernel_rfl) (by simp) ?_
                refine AllReadyH.cons rfl (fun K hK => ?_) AllReadyH.nil
                rw [if_pos (by rfl)]
                refine wpo_app (.tmp 31) (.tmp 42) hON (by omega) nN hRN (by omega) rfl rfl rfl ?_
                intro gg cp W7 ho7 hg7 hat7 hlt7
                have hne7 : v.ownBlock ≠ some pb := fun e => by have := (h2.lt pb e).1; omega
                have hneX : v.ownBlock ≠ some X := fun e => by have := (h2.lt X e).1; omega
                refine hK.out _ _ ⟨(grown_cell hg7 (by omega) hne7).trans hHeld.1, (grown_cell hg7 (by omega) hne7).trans hHeld.2⟩ (fun hHeld => ?_)
                clear hK K
                simp only [List.getElem_toArray, List.getElem_cons_zero, List.getElem_cons_succ, Act.put, List.setIfInBounds_toArray, List.set_cons_zero, List.set_cons_succ]
                have hX7 := ((hg7.block X (by omega) (fun e => hneX e.symm)).trans (hGN.block X hXW)).trans h1
                have xc : W7.cell? ⟨X, 0, none⟩ = some v := by rw [cell_of_row _ _ 0 _ _ _ hX7]; rfl
                have xf : W7.frozen? ⟨X, 0, none⟩ = false := frozen_of_rowX hX7 0
                obtain ⟨k1, k2⟩ := round_kept (u := .slice (some ⟨gg, 0, none⟩) (L.length + 1) cp) h1 hs (fun k e => OT.own_cells h2 k e) hGN hg7
                have hX8 := block_set (i := 0) hX7 (.slice (some ⟨gg, 0, none⟩) (L.length + 1) cp)
                have hO8 := ho7.keepB (w' := W7.setCell ⟨X, 0, none⟩ (.slice (some ⟨gg, 0, none⟩) (L.length + 1) cp)) (fun k hk _ => Below.heap_setCell W7 ⟨X, 0, none⟩ _ k (by show k ≠ X; omega))
                refine wpAnyH_ready (rs := [13]) (by kernel_rfl) (by simp) ?_
                refine AllReadyH.cons rfl (fun K hK => ?_) AllReadyH.nil
                rw [if_pos (by rfl)]
                go_simp
                refine hK.out _ _ ⟨(World.cell?_setCell_far W7 ⟨X, 0, none⟩ ⟨pb, po, none⟩ _ (fun e => hpX e.symm)).trans hHeld.1, (World.cell?_setCell_far W7 ⟨X, 0, none⟩ ⟨pb, po + 1, none⟩ _ (fun e => hpX e.symm)).trans hHeld.2⟩ (fun hHeld => ?_)
                clear hK K
                refine wpAnyH_done (by kernel_rfl) ?_ _
                exact ⟨k1, k2, _, hX8, by rw [hnext]; exact hO8, h3.trans k2⟩
        | none =>
          cases fi with
          | none => simp at hx
          | some i =>
            have hi := hxa i rfl
            obtain ⟨g', o', eg, hpl, hr⟩ := cA.has (by omega)
            injection eg with eg
            injection eg with eg1 eg2
            subst eg1 eg2
            have hil : i < (t.map bt.laid).length := by rw [List.length_map]; omega
            obtain ⟨x0, x2, X1, c1, x1, gB⟩ := hr i hil
            have hei : (t.map bt.laid)[i] = bt.laid t[i] := List.getElem_map ..
            have hat : bt.outA (bt.Spots.at_ (t.map bt.laid) l ⟨(some i, none), hx, hxa, hxb⟩) = [⟨t[i].key, t[i].val⟩] := by
              unfold bt.Spots.at_ bt.outA
              simp [List.getElem?_eq_getElem (show i < t.length by omega), bt.laid]
            have hsm : t[i].val.length ≤ 1048576 := hst _ (List.getElem_mem (by omega))
            rw [hat] at hout
            rw [hei] at x0 x1 x2 gB
            clear hat hr
            obtain ⟨⟨kk, vv⟩, hxx⟩ : ∃ y, t[i] = y := ⟨_, rfl⟩
            rw [hxx] at x0 x1 x2 gB hsm hout
            simp only [bt.laid] at x0 x1 x2 gB hsm hout
            obtain ⟨pb, hpbe⟩ : ∃ q, g = q := ⟨_, rfl⟩
            obtain ⟨po, hpo⟩ : ∃ q, 0 + i * 3 = q := ⟨_, rfl⟩
            rw [hpo] at x0 x1 x2
            have hpX : pb ≠ X := by omega
            have hpn : pb < w5.heap.size := by omega
            have hsv : spotV (some ⟨g, 0, none⟩) (some i) = .pointer (some ⟨pb, po, none⟩) := by rw [← hpo, ← hpbe]; rfl
            have hsn : spotV B none = .pointer none := rfl
            simp only [hsv, hsn]
            rw [hpbe] at x0 x1 x2 hpl
            clear hxx hpo hsv hx hxa hxb cA cB hei hil
            have HCL := Lib.hid (fun V (hb : Below W.heap.size W V) => clone_any X1 vv.length c1 vv V (gB.below hb) (by omega))
            obtain ⟨mv, hmv⟩ : ∃ m, vv.length = m := ⟨_, rfl⟩
            rw [hmv] at x1 HCL
            have hnext := hout
            clear hout
            gi_wp2
            refine regionIn (S := fun V => V.cell? ⟨pb, po, none⟩ = some (str kk) ∧ V.cell? ⟨pb, po + 1, none⟩ = some (.slice X1 mv c1)) ll 3 (by kernel_rfl) (by kernel_rfl) ⟨x0, x1⟩ (fun hHeld => ?_)
            refine wpAnyH_take (i := 1) (v := ?_) rfl (by kernel_rfl) (by kernel_rfl) (by kernel_rfl) (fun _ _ _ h => h) (Or.inl ⟨by rfl, ?_⟩) hHeld ?_
            rotate_left
            · intro w hSw; have f0 := hSw.1; have f1 := hSw.2; clear hSw; go_simp; try rfl
            simp only [List.getElem_toArray, List.getElem_cons_zero, List.getElem_cons_succ, Act.put, List.setIfInBounds_toArray, List.set_cons_zero, List.set_cons_succ]
            refine wpAnyH_take (i := 2) (v := ?_) rfl (by kernel_rfl) (by kernel_rfl) (by kernel_rfl) (fun _ _ _ h => h) (Or.inl ⟨by rfl, ?_⟩) hHeld ?_
            rotate_left
            · intro w hSw; have f0 := hSw.1; have f1 := hSw.2; clear hSw; go_simp; try rfl
            simp only [List.getElem_toArray, List.getElem_cons_zero, List.getElem_cons_succ, Act.put, List.setIfInBounds_toArray, List.set_cons_zero, List.set_cons_succ]
            refine wpAnyH_take (i := 3) (v := ?_) rfl (by kernel_rfl) (by kernel_rfl) (by kernel_rfl) (fun _ _ _ h => h) (Or.inl ⟨by rfl, ?_⟩) hHeld ?_
            rotate_left
            · intro w hSw; have f0 := hSw.1; have f1 := hSw.2; clear hSw; go_simp; try rfl
            simp only [List.getElem_toArray, List.getElem_cons_zero, List.getElem_cons_succ, Act.put, List.setIfInBounds_toArray, List.set_cons_zero, List.set_cons_succ]
            refine wpAnyH_take (i := 4) (v := ?_) rfl (by kernel_rfl) (by kernel_rfl) (by kernel_rfl) (fun _ _ _ h => h) (Or.inl ⟨by rfl, ?_⟩) hHeld ?_
            rotate_left
            · intro w hSw; have f0 := hSw.1; have f1 := hSw.2; clear hSw; go_simp; try rfl
            simp only [List.getElem_toArray, List.getElem_cons_zero, List.getElem_cons_succ, Act.put, List.setIfInBounds_toArray, List.set_cons_zero, List.set_cons_succ]
            refine wpAnyH_take (i := 5) (v := ?_) rfl (by kernel_rfl) (by kernel_rfl) (by kernel_rfl) (fun _ _ _ h => h) (Or.inl ⟨by rfl, ?_⟩) hHeld ?_
            rotate_left
            · intro w hSw; have f0 := hSw.1; have f1 := hSw.2; clear hSw; go_simp; try rfl
            simp only [List.getElem_toArray, List.getElem_cons_zero, List.getElem_cons_succ, Act.put, List.setIfInBounds_toArray, List.set_cons_zero, List.set_cons_succ]
            refine wpAnyH_take (i := 6) (v := ?_) rfl (by kernel_rfl) (by kernel_rfl) (by kernel_rfl) (fun _ _ _ h => h) (Or.inl ⟨by rfl, ?_⟩) hHeld ?_
            rotate_left
            · intro w hSw; have f0 := hSw.1; have f1 := hSw.2; clear hSw; go_simp; try rfl
            simp only [List.getElem_toArray, List.getElem_cons_zero, List.getElem_cons_succ, Act.put, List.setIfInBounds_toArray, List.set_cons_zero, List.set_cons_succ]
            refine wpAnyH_take (i := 7) (v := ?_) rfl (by kernel_rfl) (by kernel_rfl) (by kernel_rfl) (fun _ _ _ h => h) (Or.inl ⟨by rfl, ?_⟩) hHeld ?_
            rotate_left
            · intro w hSw; have f0 := hSw.1; have f1 := hSw.2; clear hSw; go_simp; try rfl
            simp only [List.getElem_toArray, List.getElem_cons_zero, List.getElem_cons_succ, Act.put, List.setIfInBounds_toArray, List.set_cons_zero, List.set_cons_succ]
            refine wpAnyH_take (i := 8) (v := ?_) rfl (by kernel_rfl) (by kernel_rfl) (by kernel_rfl) (fun _ _ _ h => h) (Or.inl ⟨by rfl, ?_⟩) hHeld ?_
            rotate_left
            · intro w hSw; have f0 := hSw.1; have f1 := hSw.2; clear hSw; go_simp; try rfl
            simp only [List.getElem_toArray, List.getElem_cons_zero, List.getElem_cons_succ, Act.put, List.setIfInBounds_toArray, List.set_cons_zero, List.set_cons_succ]
            refine wpAnyH_ready (rs := [0, 9]) (by kernel_rfl) (by simp) ?_
            refine AllReadyH.cons rfl (fun K hK => ?_) (AllReadyH.cons rfl (fun K hK => ?_) AllReadyH.nil)
            · rw [if_pos (by rfl)]
              have xb : W.drew.cell? ⟨X, 0, none⟩ = some v := c0
              go_simp
              refine hK.out _ _ hHeld (fun hHeld => ?_)
              clear hK K
              refine wpAnyH_ready (rs := [9]) (by kernel_rfl) (by simp) ?_
              refine AllReadyH.cons rfl (fun K hK => ?_) AllReadyH.nil
              rw [if_pos (by rfl)]
              go_simp
              refine (HCL.out _ (Below.refl _ _).drew).mono ?_
              rintro e V ⟨v2, rfl, ho2, hbV⟩
              obtain ⟨A2, c2, rfl, -⟩ := ho2.form
              rw [hmv] at ho2 ⊢
              have hG : Below W.heap.size W V := (Below.refl _ _).drew.trans hbV
              have hbase : w5.heap.size ≤ W.drew.heap.size := hs
              have hWd : W.drew.heap.size = W.heap.size := rfl
              rw [hWd] at ho2 hbase
              refine hK.out _ _ ⟨(hG.cell (p := ⟨pb, po, none⟩) hpl).trans x0, (hG.cell (p := ⟨pb, po + 1, none⟩) hpl).trans x1⟩ (fun hHeld => ?_)
              clear hK K
              have hOV := h2.keepB (w' := V) (fun k _ hk => hG.block k hk)
              have hR0 : eltP V w5.heap.size v [str kk, .slice A2 mv c2] ⟨kk, vv⟩ := ⟨A2, c2, by rw [← hmv], by rw [← hmv] at ho2; exact ho2.mono hbase, fun k hk e => by
                rw [hmv] at hk
                have q1 := (ho2.lt k hk).1
                have q2 := (h2.lt k e).2
                omega⟩
              have nN := heap_alloc_new V (.cells #[str kk, .slice A2 mv c2] 51)
              have hON := hOV.keepB (w' := V.alloc (.cells #[str kk, .slice A2 mv c2] 51)) (fun k _ hk => Below.heap_alloc V _ k hk)
              have hRN := OP.elt_keep (w' := V.alloc (.cells #[str kk, .slice A2 mv c2] 51)) hR0 (fun k _ hk => Below.heap_alloc V _ k hk)
              have hGN := hG.alloc hG.size (.cells #[str kk, .slice A2 mv c2] 51)
              have sN : (V.alloc (.cells #[str kk, .slice A2 mv c2] 51)).heap.size = V.heap.size + 1 := by simp
              refine wpAnyH_take (i := 10) (v := ?_) rfl (by kernel_rfl) (by kernel_rfl) (by kernel_rfl) (fun _ _ _ h => h) (Or.inl ⟨by rfl, ?_⟩) hHeld ?_
              rotate_left
              · intro w hSw; clear hSw; go_simp; try rfl
              simp only [List.getElem_toArray, List.getElem_cons_zero, List.getElem_cons_succ, Act.put, List.setIfInBounds_toArray, List.set_cons_zero, List.set_cons_succ]
              refine wpAnyH_ready (rs := [11]) (by kernel_rfl) (by simp) ?_
              refine AllReadyH.cons rfl (fun K hK => ?_) AllReadyH.nil
              rw [if_pos (by rfl)]
              go_simp
              refine hK.out _ _ ⟨(hGN.cell (p := ⟨pb, po, none⟩) hpl).trans x0, (hGN.cell (p := ⟨pb, po + 1, none⟩) hpl).trans x1⟩ (fun hHeld => ?_)
              clear hK K
              generalize V.alloc (.cells #[str kk, .slice A2 mv c2] 51) = VN at *
              have hNl := hGN.size
              refine wpAnyH_ready (rs := [12]) (by kernel_rfl) (by simp) ?_
              refine AllReadyH.cons rfl (fun K hK => ?_) AllReadyH.nil
              rw [if_pos (by rfl)]
              refine wpo_app (.tmp 31) (.tmp 42) hON (by omega) nN hRN (by omega) rfl rfl rfl ?_
              intro gg cp W7 ho7 hg7 hat7 hlt7
              have hne7 : v.ownBlock ≠ some pb := fun e => by have := (h2.lt pb e).1; omega
              have hneX : v.ownBlock ≠ some X := fun e => by have := (h2.lt X e).1; omega
              refine hK.out _ _ ⟨(grown_cell hg7 (by omega) hne7).trans hHeld.1, (grown_cell hg7 (by omega) hne7).trans hHeld.2⟩ (fun hHeld => ?_)
              clear hK K
              simp only [List.getElem_toArray, List.getElem_cons_zero, List.getElem_cons_succ, Act.put, List.setIfInBounds_toArray, List.set_cons_zero, List.set_cons_succ]
              have hX7 := ((hg7.block X (by omega) (fun e => hneX e.symm)).trans (hGN.block X hXW)).trans h1
              have xc : W7.cell? ⟨X, 0, none⟩ = some v := by rw [cell_of_row _ _ 0 _ _ _ hX7]; rfl
              have xf : W7.frozen? ⟨X, 0, none⟩ = false := frozen_of_rowX hX7 0
              obtain ⟨k1, k2⟩ := round_kept (u := .slice (some ⟨gg, 0, none⟩) (L.length + 1) cp) h1 hs (fun k e => OT.own_cells h2 k e) hGN hg7
              have hX8 := block_set (i := 0) hX7 (.slice (some ⟨gg, 0, none⟩) (L.length + 1) cp)
              have hO8 := ho7.keepB (w' := W7.setCell ⟨X, 0, none⟩ (.slice (some ⟨gg, 0, none⟩) (L.length + 1) cp)) (fun k hk _ => Below.heap_setCell W7 ⟨X, 0, none⟩ _ k (by show k ≠ X; omega))
              refine wpAnyH_ready (rs := [13]) (by kernel_rfl) (by simp) ?_
              refine AllReadyH.cons rfl (fun K hK => ?_) AllReadyH.nil
              rw [if_pos (by rfl)]
              go_simp
              refine hK.out _ _ ⟨(World.cell?_setCell_far W7 ⟨X, 0, none⟩ ⟨pb, po, none⟩ _ (fun e => hpX e.symm)).trans hHeld.1, (World.cell?_setCell_far W7 ⟨X, 0, none⟩ ⟨pb, po + 1, none⟩ _ (fun e => hpX e.symm)).trans hHeld.2⟩ (fun hHeld => ?_)
              clear hK K
              refine wpAnyH_done (by kernel_rfl) ?_ _
              exact ⟨k1, k2, _, hX8, by rw [hnext]; exact hO8, h3.trans k2⟩
            · rw [if_pos (by rfl)]
              go_simp
              refine (HCL.out _ (Below.refl _ _).drew).mono ?_
              rintro e V ⟨v2, rfl, ho2, hbV⟩
              obtain ⟨A2, c2, rfl, -⟩ := ho2.form
              rw [hmv] at ho2 ⊢
              have hG : Below W.heap.size W V := (Below.refl _ _).drew.trans hbV
              have hbase : w5.heap.size ≤ W.drew.heap.size := hs
              have hWd : W.drew.heap.size = W.heap.size := rfl
              rw [hWd] at ho2 hbase
              refine hK.out _ _ ⟨(hG.cell (p := ⟨pb, po, none⟩) hpl).trans x0, (hG.cell (p := ⟨pb, po + 1, none⟩) hpl).trans x1⟩ (fun hHeld => ?_)
              clear hK K
              have hOV := h2.keepB (w' := V) (fun k _ hk => hG.block k hk)
              have hR0 : eltP V w5.heap.size v [str kk, .slice A2 mv c2] ⟨kk, vv⟩ := ⟨A2, c2, by rw [← hmv], by rw [← hmv] at ho2; exact ho2.mono hbase, fun k hk e => by
                rw [hmv] at hk
                have q1 := (ho2.lt k hk).1
                have q2 := (h2.lt k e).2
                omega⟩
              have nN := heap_alloc_new V (.cells #[str kk, .slice A2 mv c2] 51)
              have hON := hOV.keepB (w' := V.alloc (.cells #[str kk, .slice A2 mv c2] 51)) (fun k _ hk => Below.heap_alloc V _ k hk)
              have hRN := OP.elt_keep (w' := V.alloc (.cells #[str kk, .slice A2 mv c2] 51)) hR0 (fun k _ hk => Below.heap_alloc V _ k hk)
              have hGN := hG.alloc hG.size (.cells #[str kk, .slice A2 mv c2] 51)
              have sN : (V.alloc (.cells #[str kk, .slice A2 mv c2] 51)).heap.size = V.heap.size + 1 := by simp
              have xb : V.cell? ⟨X, 0, none⟩ = some v := (hG.cell (p := ⟨X, 0, none⟩) hXW).trans c0
              refine wpAnyH_take (i := 10) (v := ?_) rfl (by kernel_rfl) (by kernel_rfl) (by kernel_rfl) (fun _ _ _ h => h) (Or.inl ⟨by rfl, ?_⟩) hHeld ?_
              rotate_left
              · intro w hSw; clear hSw; go_simp; try rfl
              simp only [List.getElem_toArray, List.getElem_cons_zero, List.getElem_cons_succ, Act.put, List.setIfInBounds_toArray, List.set_cons_zero, List.set_cons_succ]
              refine wpAnyH_ready (rs := [0, 11]) (by kernel_rfl) (by simp) ?_
              refine AllReadyH.cons rfl (fun K hK => ?_) (AllReadyH.cons rfl (fun K hK => ?_) AllReadyH.nil)
              · rw [if_pos (by rfl)]
                go_simp
                refine hK.out _ _ hHeld (fun hHeld => ?_)
                clear hK K
                refine wpAnyH_ready (rs := [11]) (by kernel_rfl) (by simp) ?_
                refine AllReadyH.cons rfl (fun K hK => ?_) AllReadyH.nil
                rw [if_pos (by rfl)]
                go_simp
                refine hK.out _ _ ⟨(hGN.cell (p := ⟨pb, po, none⟩) hpl).trans x0, (hGN.cell (p := ⟨pb, po + 1, none⟩) hpl).trans x1⟩ (fun hHeld => ?_)
                clear hK K
                generalize V.alloc (.cells #[str kk, .slice A2 mv c2] 51) = VN at *
                have hNl := hGN.size
                refine wpAnyH_ready (rs := [12]) (by kernel_rfl) (by simp) ?_
                refine AllReadyH.cons rfl (fun K hK => ?_) AllReadyH.nil
                rw [if_pos (by rfl)]
                refine wpo_app (.tmp 31) (.tmp 42) hON (by omega) nN hRN (by omega) rfl rfl rfl ?_
                intro gg cp W7 ho7 hg7 hat7 hlt7
                have hne7 : v.ownBlock ≠ some pb := fun e => by have := (h2.lt pb e).1; omega
                have hneX : v.ownBlock ≠ some X := fun e => by have := (h2.lt X e).1; omega
                refine hK.out _ _ ⟨(grown_cell hg7 (by omega) hne7).trans hHeld.1, (grown_cell hg7 (by omega) hne7).trans hHeld.2⟩ (fun hHeld => ?_)
                clear hK K
                simp only [List.getElem_toArray, List.getElem_cons_zero, List.getElem_cons_succ, Act.put, List.setIfInBounds_toArray, List.set_cons_zero, List.set_cons_succ]
                have hX7 := ((hg7.block X (by omega) (fun e => hneX e.symm)).trans (hGN.block X hXW)).trans h1
                have xc : W7.cell? ⟨X, 0, none⟩ = some v := by rw [cell_of_row _ _ 0 _ _ _ hX7]; rfl
                have xf : W7.frozen? ⟨X, 0, none⟩ = false := frozen_of_rowX hX7 0
                obtain ⟨k1, k2⟩ := round_kept (u := .slice (some ⟨gg, 0, none⟩) (L.length + 1) cp) h1 hs (fun k e => OT.own_cells h2 k e) hGN hg7
                have hX8 := block_set (i := 0) hX7 (.slice (some ⟨gg, 0, none⟩) (L.length + 1) cp)
                have hO8 := ho7.keepB (w' := W7.setCell ⟨X, 0, none⟩ (.slice (some ⟨gg, 0, none⟩) (L.length + 1) cp)) (fun k hk _ => Below.heap_setCell W7 ⟨X, 0, none⟩ _ k (by show k ≠ X; omega))
                refine wpAnyH_ready (rs := [13]) (by kernel_rfl) (by simp) ?_
                refine AllReadyH.cons rfl (fun K hK => ?_) AllReadyH.nil
                rw [if_pos (by rfl)]
                go_simp
                refine hK.out _ _ ⟨(World.cell?_setCell_far W7 ⟨X, 0, none⟩ ⟨pb, po, none⟩ _ (fun e => hpX e.symm)).trans hHeld.1, (World.cell?_setCell_far W7 ⟨X, 0, none⟩ ⟨pb, po + 1, none⟩ _ (fun e => hpX e.symm)).trans hHeld.2⟩ (fun hHeld => ?_)
                clear hK K
                refine wpAnyH_done (by kernel_rfl) ?_ _
                exact ⟨k1, k2, _, hX8, by rw [hnext]; exact hO8, h3.trans k2⟩
              · rw [if_pos (by rfl)]
                go_simp
                refine hK.out _ _ ⟨(hGN.cell (p := ⟨pb, po, none⟩) hpl).trans x0, (hGN.cell (p := ⟨pb, po + 1, none⟩) hpl).trans x1⟩ (fun hHeld => ?_)
                clear hK K
                generalize V.alloc (.cells #[str kk, .slice A2 mv c2] 51) = VN at *
                have xb2 : VN.cell? ⟨X, 0, none⟩ = some v := (hGN.cell (p := ⟨X, 0, none⟩) hXW).trans c0
                refine wpAnyH_ready (rs := [0]) (by kernel_rfl) (by simp) ?_
                refine AllReadyH.cons rfl (fun K hK => ?_) AllReadyH.nil
                rw [if_pos (by rfl)]
                go_simp
                refine hK.out _ _ hHeld (fun hHeld => ?_)
                clear hK K
                have hNl := hGN.size
                refine wpAnyH_ready (rs := [12]) (by kernel_rfl) (by simp) ?_
                refine AllReadyH.cons rfl (fun K hK => ?_) AllReadyH.nil
                rw [if_pos (by rfl)]
                refine wpo_app (.tmp 31) (.tmp 42) hON (by omega) nN hRN (by omega) rfl rfl rfl ?_
                intro gg cp W7 ho7 hg7 hat7 hlt7
                have hne7 : v.ownBlock ≠ some pb := fun e => by have := (h2.lt pb e).1; omega
                have hneX : v.ownBlock ≠ some X := fun e => by have := (h2.lt X e).1; omega
                refine hK.out _ _ ⟨(grown_cell hg7 (by omega) hne7).trans hHeld.1, (grown_cell hg7 (by omega) hne7).trans hHeld.2⟩ (fun hHeld => ?_)
                clear hK K
                simp only [List.getElem_toArray, List.getElem_cons_zero, List.getElem_cons_succ, Act.put, List.setIfInBounds_toArray, List.set_cons_zero, List.set_cons_succ]
                have hX7 := ((hg7.block X (by omega) (fun e => hneX e.symm)).trans (hGN.block X hXW)).trans h1
                have xc : W7.cell? ⟨X, 0, none⟩ = some v := by rw [cell_of_row _ _ 0 _ _ _ hX7]; rfl
                have xf : W7.frozen? ⟨X, 0, none⟩ = false := frozen_of_rowX hX7 0
                obtain ⟨k1, k2⟩ := round_kept (u := .slice (some ⟨gg, 0, none⟩) (L.length + 1) cp) h1 hs (fun k e => OT.own_cells h2 k e) hGN hg7
                have hX8 := block_set (i := 0) hX7 (.slice (some ⟨gg, 0, none⟩) (L.length + 1) cp)
                have hO8 := ho7.keepB (w' := W7.setCell ⟨X, 0, none⟩ (.slice (some ⟨gg, 0, none⟩) (L.length + 1) cp)) (fun k hk _ => Below.heap_setCell W7 ⟨X, 0, none⟩ _ k (by show k ≠ X; omega))
                refine wpAnyH_ready (rs := [13]) (by kernel_rfl) (by simp) ?_
                refine AllReadyH.cons rfl (fun K hK => ?_) AllReadyH.nil
                rw [if_pos (by rfl)]
                go_simp
                refine hK.out _ _ ⟨(World.cell?_setCell_far W7 ⟨X, 0, none⟩ ⟨pb, po, none⟩ _ (fun e => hpX e.symm)).trans hHeld.1, (World.cell?_setCell_far W7 ⟨X, 0, none⟩ ⟨pb, po + 1, none⟩ _ (fun e => hpX e.symm)).trans hHeld.2⟩ (fun hHeld => ?_)
                clear hK K
                refine wpAnyH_done (by kernel_rfl) ?_ _
                exact ⟨k1, k2, _, hX8, by rw [hnext]; exact hO8, h3.trans k2⟩
      case done =>
        rintro D xs W hD hxs ⟨v, h1, h2, h3⟩ hK
        have c0 : W.cell? ⟨X, 0, none⟩ = some v := by rw [cell_of_row _ _ 0 _ _ _ h1]; rfl
        rw [hxs, ← HAPP.out] at h2
        have h2' := OP.keepC (w' := W.putObj D (.deferred none)) h2 (fun k o hb hk hc => World.putObj_heap_other (fun e => by rw [e, hK] at hk; injection hk with hk; rw [← hk] at hc; cases hc))
        obtain ⟨A', c', rfl, hts, hto⟩ := h2'.ts (Z := Z) (fun k hk => hZ k (by have := hb15.size; omega))
        have hbD := (hKB W h3).trans ((belowK_b (w := w5) (n₀ := w5.heap.size) (Nat.le_refl _) W D _ (.deferred none) hD hK rfl rfl).mono hb15.size)
        gi_wp2
        refine ⟨by simp, .inl ⟨_, _, rfl, run_takeDeferred hK, ?_⟩⟩
        exact ⟨_, results_tmp2 rfl _ _ _, ⟨A', c', rfl, hts, hto⟩, hbD⟩
      case stop =>
        rintro D c pre W _ _ h _
        exact h.elim
    · have c2' : bt.mayC l = false := by simpa using c2
      rw [c2'] at HM2
      have hres : bt.apply t l = ([], 2) := by unfold bt.apply; rw [c1, c2']; rfl
      rw [hres]
      clear hres c1 c2 c2' h hl hk1 hk2
      go_enter Try.func22, Try.ntmps22
      go_wp2_with fail
      refine HM1.out.mono ?_
      rintro e w1 ⟨rfl, hb1⟩
      go_wp2_with fail
      refine (HM2.out _ hb1).mono ?_
      rintro e w2 ⟨rfl, hb2⟩
      have hb12 := hb1.trans (hb2.mono hb1.size)
      go_wp2_with fail
      go_ret2
      exact ⟨⟨none, 0, rfl, ⟨rfl, by omega, by omega, fun h => by omega⟩, TO.nil_ _ _ _⟩, hb12⟩
  · have c1' : bt.may t = false := by simpa using c1
    rw [c1'] at HM1
    have hres : bt.apply t l = ([], 2) := by unfold bt.apply; rw [c1']; rfl
    rw [hres]
    clear hres c1 c1' h hl hk1 hk2 HM2
    go_enter Try.func22, Try.ntmps22
    go_wp2_with fail
    refine HM1.out.mono ?_
    rintro e w1 ⟨rfl, hb1⟩
    go_wp2_with fail
    go_ret2
    exact ⟨⟨none, 0, rfl, ⟨rfl, by omega, by omega, fun h => by omega⟩, TO.nil_ _ _ _⟩, hb1⟩
end Go.Proofs.Ytlchfadfbepapaa
