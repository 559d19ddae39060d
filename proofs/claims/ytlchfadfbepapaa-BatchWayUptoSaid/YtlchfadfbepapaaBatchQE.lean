/-
  THE PROGRAM's batch: Between, Whole.
-/
import Derived.Test.YtlchfadfbepapaaBatchQD
import Derived.Test.YtlchfadfbepapaaBatchY
namespace Go.Proofs.Ytlchfadfbepapaa
open Go.RowKit Go.Shelf
attribute [local go_sem] Oper.semAt_some
theorem outB_le : ∀ (L : List (Option bt.C × Option bt.C)), (L.flatMap bt.outB).length ≤ L.length
  | [] => Nat.le_refl _
  | x :: L => by
    have := outB_le L
    have h1 : (bt.outB x).length ≤ 1 := by
      unfold bt.outB
      split
      · simp
      · simp
      · split <;> simp
      · simp
    rw [List.flatMap_cons, List.length_append, List.length_cons]
    omega
theorem OC.elt_keepB {w w' : World} {base : Nat} {v : Value} {cs : List Value} {x : bt.C} (h : eltO w base v cs x) (hk : ∀ k, base ≤ k → k < w.heap.size → w'.heap[k]? = w.heap[k]?) : eltO w' base v cs x := by
  obtain ⟨A, c, h1, h2, h3⟩ := h
  exact ⟨A, c, h1, own_same h2 hk, h3⟩
set_option maxHeartbeats 8000000 in
set_option maxRecDepth 100000 in
theorem betweenQ_any {A B : Option Addr} {n c m d : Nat} {w : World} (a b : List bt.R) (h : TS w A n c a) (hl : TS w B m d b) (hk1 : ∀ r ∈ a, r.key.length ≤ 9223372036854775807) (hk2 : ∀ r ∈ b, r.key.length ≤ 9223372036854775807) (hn : n + m ≤ 1099511627774) :
    Calls Try.prog 25 #[.slice A n c, .slice B m d] w fun e w' => (∃ A' c', e = .returned (.tuple #[.slice A' (bt.between a b).1.length c', .int .i64 (bt.between a b).2]) ∧ CS w' A' (bt.between a b).1.length c' (bt.between a b).1) ∧ Below w.heap.size w w' := by
  obtain ⟨hzc, -⟩ := zero_of_info zero_chg
  have HM1 := Lib.hid (mayr_any A n c a w h hk1 (by omega))
  have HM2 := Lib.hid (fun W (hb : Below w.heap.size w W) => mayr_any B m d b W (hl.below hb) hk2 (by omega))
  have hlen := h.len
  have hlenl := hl.len
  by_cases c1 : bt.may a = true
  · rw [c1] at HM1
    by_cases c2 : bt.may b = true
    · rw [c2] at HM2
      have hres : bt.between a b = (bt.betweenL a b, 0) := by unfold bt.between; rw [c1, c2]; rfl
      rw [hres]
      have HAPP := Lib.hid (bt.between_pairs a b).symm
      have hsa : ∀ r ∈ a, r.val.length ≤ 1048576 := fun r hr => ((bt.mayFrom_sorted a none c1).2.2 r hr).2
      have hsb : ∀ r ∈ b, r.val.length ≤ 1048576 := fun r hr => ((bt.mayFrom_sorted b none c2).2.2 r hr).2
      have HPU := Lib.hid (fun W (hb : Below w.heap.size w W) => puts_pq A n c a w W h hb (by omega))
      have HPV := Lib.hid (fun W (hb : Below w.heap.size w W) => puts_pq B m d b w W hl hb (by omega))
      clear hres c1 c2
      refine (callsIn_wide (n := 5)).1 ?_
      refine callsIn_of_wp_marks Try.func25 rfl trivial ?_ rfl
      simp only [Try.ntmps25, List.size_toArray, List.length_cons, List.length_nil, Nat.reduceAdd, Nat.reduceSub, Array.replicate_succ, Array.replicate_zero, List.push_toArray, List.append_toArray, List.nil_append, List.cons_append]
      gi_wp2
      refine ⟨trivial, (callsIn_wide.2 HM1.out).mono ?_⟩
      rintro e w1 ⟨rfl, hb1⟩
      gi_wp2
      refine ⟨trivial, (callsIn_wide.2 (HM2.out _ hb1)).mono ?_⟩
      rintro e w2 ⟨rfl, hb2⟩
      have hb12 := hb1.trans (hb2.mono hb1.size)
      have nX := heap_alloc_new w2 (.cells #[.slice none 0 0] 23)
      have b3 : Below w2.heap.size w2 (w2.alloc (.cells #[.slice none 0 0] 23)) := (Below.refl _ _).alloc (Nat.le_refl _) _
      have s3 : (w2.alloc (.cells #[.slice none 0 0] 23)).heap.size = w2.heap.size + 1 := by simp
      have hb13 := hb12.trans (b3.mono hb12.size)
      gi_wp2
      refine ⟨trivial, (callsIn_wide.2 (HPU.out _ hb13)).mono ?_⟩
      rintro e w3 ⟨g, rfl, hpq, hg3, hg4, hb3⟩
      have hb14 := hb13.trans (hb3.mono hb13.size)
      gi_wp2
      refine ⟨trivial, (callsIn_wide.2 (HPV.out _ hb14)).mono ?_⟩
      rintro e w4 ⟨h', rfl, hpr, hh3, hh4, hb4⟩
      obtain ⟨X, hX⟩ : ∃ X, w2.heap.size = X := ⟨_, rfl⟩
      rw [hX] at nX s3
      rw [s3] at hg3
      have hX12 : w.heap.size ≤ X := hX ▸ hb12.size
      have nX4 := (hb4.block X (by omega)).trans ((hb3.block X (by omega)).trans nX)
      have nG4 := hb4.block g hg4
      have hb15 := hb14.trans (hb4.mono hb14.size)
      have hsz34 := hb4.size
      clear hb4 hb3 b3 HPU HPV nX hb14
      gi_wp2
      refine ⟨trivial, (callsIn_wide.2 (bothF_any _ _ _ _ _ _ _)).mono ?_⟩
      rintro e w5 ⟨rfl, hw5⟩
      have e1 := heap_alloc_new w4 (.cells #[.slice (some ⟨g, 0, none⟩) n n] 23)
      have e2 := heap_alloc_new (w4.alloc (.cells #[.slice (some ⟨g, 0, none⟩) n n] 23)) (.cells #[.slice (some ⟨h', 0, none⟩) m m] 23)
      have s4 : (w4.alloc (.cells #[.slice (some ⟨g, 0, none⟩) n n] 23)).heap.size = w4.heap.size + 1 := by simp
      have b45 : Below w4.heap.size w4 w5 := by rw [hw5]; exact ((Below.refl _ _).alloc (Nat.le_refl _) _).alloc (by simp) _
      have s5 : w5.heap.size = w4.heap.size + 2 := by rw [hw5]; simp
      have f1 := (Below.heap_alloc (w4.alloc (.cells #[.slice (some ⟨g, 0, none⟩) n n] 23)) (.cells #[.slice (some ⟨h', 0, none⟩) m m] 23) w4.heap.size (by omega)).trans e1
      rw [s4] at e2
      rw [← hw5] at e2 f1
      have hb15 := hb15.trans (b45.mono hb15.size)
      have nX5 := (b45.block X (by omega)).trans nX4
      have nG5 := (b45.block g (by omega)).trans nG4
      have nH5 := b45.block h' hh4
      obtain ⟨Ba, hBa⟩ : ∃ Ba, w4.heap.size = Ba := ⟨_, rfl⟩
      rw [hBa] at e2 f1 s5 hh4 hsz34 ⊢
      have hKB : ∀ W, KX w5.heap.size X w5 W → Below w.heap.size w W := fun W k => hb15.trans ⟨k.os, k.tape, k.output, k.size, fun i hi => k.block i (by omega) (by omega)⟩
      have hA5 : ∀ W, KX w5.heap.size X w5 W → CS W (some ⟨g, 0, none⟩) n n (a.map bt.laid) ∧ W.cell? ⟨Ba, 0, none⟩ = some (.slice (some ⟨g, 0, none⟩) n n) := fun W k => by
        refine ⟨hpq.far hlen ((k.block g (by omega) (by omega)).trans nG5) (hKB W k) (by omega) (by omega), ?_⟩
        rw [cell_of_row _ _ 0 _ _ _ ((k.block Ba (by omega) (by omega)).trans f1)]
        rfl
      have hB5 : ∀ W, KX w5.heap.size X w5 W → CS W (some ⟨h', 0, none⟩) m m (b.map bt.laid) ∧ W.cell? ⟨Ba + 1, 0, none⟩ = some (.slice (some ⟨h', 0, none⟩) m m) := fun W k => by
        refine ⟨hpr.far hlenl ((k.block h' (by omega) (by omega)).trans nH5) (hKB W k) (by omega) (by omega), ?_⟩
        rw [cell_of_row _ _ 0 _ _ _ ((k.block (Ba + 1) (by omega) (by omega)).trans e2)]
        rfl
      clear hw5 s4 e1 b45 nX4 nG4
      gi_wp2
      refine wpIn_rangeFunc_ownF (α := bt.Spots n m) rfl (by omega) (gf := 70) (lb := #[.pointer (some ⟨Ba, 0, none⟩), .pointer (some ⟨Ba + 1, 0, none⟩)]) rfl trivial (enters_of Try.func70 (by kernel_rfl) rfl)
        (both_stops 4 X Ba (Ba + 1) (some ⟨g, 0, none⟩) (some ⟨h', 0, none⟩) n n m m (a.map bt.laid) (b.map bt.laid) (by omega) (by omega) w5 hA5 hB5)
        (fun h k => h.trans k) (fun W l o o' hl ho _ _ => KX.putObj (Nat.le_refl _) W l o o' hl ho) (Below.refl _ _) (fun _ => rfl)
        (fun pre W => ∃ v, W.heap[X]? = some (.cells #[v] 23 (0, 0)) ∧ OC W w5.heap.size v ((pre.map (bt.Spots.at_ (a.map bt.laid) (b.map bt.laid))).flatMap bt.outB) ∧ KX w5.heap.size X w5 W)
        (fun _ _ _ => False) ?hI (fun _ _ _ _ _ h _ _ => h) ⟨_, nX5, OC.nil_ _ _, KX.refl _ _ _⟩
        (fun x => { tmps := #[.slice A n c, .slice B m d, undef, undef, .slice none 0 0, .int .i64 0, .pointer (some ⟨X, 0, none⟩), spotV (some ⟨g, 0, none⟩) x.1.1, spotV (some ⟨h', 0, none⟩) x.1.2, .slice A n c, .bool true, .bool false, .bool false, .slice B m d, .bool true, .bool false, .bool false, .slice A n c, .slice (some ⟨g, 0, none⟩) n n, .slice B m d, .slice (some ⟨h', 0, none⟩) m m, .func (.func 70) #[] #[.pointer (some ⟨Ba, 0, none⟩), .pointer (some ⟨Ba + 1, 0, none⟩)], spotV (some ⟨g, 0, none⟩) x.1.1, spotV (some ⟨h', 0, none⟩) x.1.2, undef, undef, undef, undef, undef, undef, undef, undef, undef, undef, undef, undef, undef, undef, undef, undef, undef, undef, undef, undef, undef, undef, undef, undef, undef, undef, undef, undef, undef, undef, undef, undef, undef, undef, undef, undef, undef, undef, undef, undef], defers := [] }) ?assign ?body ?done ?stop
      case assign =>
        intro l x W K hK
        gi_wp2
        exact hK
      case hI =>
        rintro pre W W' row' ⟨v, h1, h2, h3⟩ hg hr
        have hs := h3.size
        have hne : ∀ (k : Nat) (o : Obj), W.heap[k]? = some o → o.isCells = true → some k ≠ row' := fun k o hk hc e => by
          obtain ⟨_, o', ho, hc'⟩ := hr k e.symm
          rw [hk] at ho
          injection ho with ho
          rw [ho, hc'] at hc
          cases hc
        exact ⟨v, (hg.block X (Array.getElem?_eq_some_iff.1 h1).1 (hne X _ h1 rfl)).trans h1, h2.keepC fun k o hb hk hc => hg.block k (Array.getElem?_eq_some_iff.1 hk).1 (hne k o hk hc), h3.grown hg hs (fun k e => (hr k e).1)⟩
      case body =>
        rintro ll pre x W ⟨v, h1, h2, h3⟩ hlen
        have c0 : W.cell? ⟨X, 0, none⟩ = some v := by rw [cell_of_row _ _ 0 _ _ _ h1]; rfl
        have hs := h3.size
        have hXW : X < W.heap.size := by omega
        have hpl0 := bt.pairs_length (a.map bt.laid) (b.map bt.laid)
        rw [List.length_map, List.length_map] at hpl0
        have hLl := outB_le (pre.map (bt.Spots.at_ (a.map bt.laid) (b.map bt.laid)))
        rw [List.length_map] at hLl
        have hout : ((pre ++ [x]).map (bt.Spots.at_ (a.map bt.laid) (b.map bt.laid))).flatMap bt.outB = (pre.map (bt.Spots.at_ (a.map bt.laid) (b.map bt.laid))).flatMap bt.outB ++ bt.outB (x.at_ (a.map bt.laid) (b.map bt.laid)) := by simp
        obtain ⟨ys, hys⟩ : ∃ ys, pre ++ [x] = ys := ⟨_, rfl⟩
        rw [hys] at hout ⊢
        obtain ⟨L, hL⟩ : ∃ L, (pre.map (bt.Spots.at_ (a.map bt.laid) (b.map bt.laid))).flatMap bt.outB = L := ⟨_, rfl⟩
        rw [hL] at h2 hLl hout
        obtain ⟨cA, -⟩ := hA5 W h3
        obtain ⟨cB, -⟩ := hB5 W h3
        clear hys
        obtain ⟨x, hx, hxa, hxb⟩ := x
        obtain ⟨fi, se⟩ := x
        simp only at hx hxa hxb hout
        cases se with
        | none =>
          cases fi with
          | none => simp at hx
          | some i =>
            have hip := hxa i rfl
            obtain ⟨gp, op, eg, hplp, hr⟩ := cA.has (by omega)
            injection eg with eg
            injection eg with eg1 eg2
            rw [← eg1] at hplp hr
            rw [← eg2] at hr
            clear eg1 eg2 gp op
            have hil : i < (a.map bt.laid).length := by rw [List.length_map]; omega
            obtain ⟨p0, p2, Xp, cp, p1, gBp⟩ := hr i hil
            have hei : (a.map bt.laid)[i] = bt.laid a[i] := List.getElem_map ..
            have smp : a[i].val.length ≤ 1048576 := hsa _ (List.getElem_mem (by omega))
            rw [hei] at p0 p1 p2 gBp
            clear hr hei hil

            have hat : bt.outB (bt.Spots.at_ (a.map bt.laid) (b.map bt.laid) ⟨(some i, none), hx, hxa, hxb⟩) = [⟨a[i].key, [], true⟩] := by
              unfold bt.Spots.at_ bt.outB
              simp [List.getElem?_eq_getElem (show i < a.length by omega), bt.laid]
            rw [hat] at hout
            obtain ⟨⟨kp, vp⟩, hxx⟩ : ∃ y, a[i] = y := ⟨_, rfl⟩
            rw [hxx] at p0 p1 p2 gBp smp hout
            simp only [bt.laid] at p0 p1 p2 gBp smp hout
            obtain ⟨Pp, hPp⟩ : ∃ q, g = q := ⟨_, rfl⟩
            obtain ⟨Qp, hQp⟩ : ∃ q, 0 + i * 3 = q := ⟨_, rfl⟩
            rw [hQp] at p0 p1 p2
            have hXp : Pp ≠ X := by omega
            have hnp : Pp < w5.heap.size := by omega
            have hsvp : spotV (some ⟨g, 0, none⟩) (some i) = .pointer (some ⟨Pp, Qp, none⟩) := by rw [← hQp, ← hPp]; rfl
            rw [hPp] at p0 p1 p2 hplp
            clear hxx hQp

            have hsn : spotV (some ⟨h', 0, none⟩) none = .pointer none := rfl
            simp only [hsvp, hsn]
            have hnext := hout
            clear hat hout hsvp hx hxa hxb cA cB
            have hKO := KeepsOthers.refl W
            have hKX := KX.refl w5.heap.size X W
            gi_wp2
            refine regionIn (S := fun V => V.cell? ⟨Pp, Qp, none⟩ = some (str kp)) ll 3 (by kernel_rfl) (by kernel_rfl) p0 (fun hHeld => ?_)
            refine wpAnyH_take (i := 1) (v := ?_) rfl (by kernel_rfl) (by kernel_rfl) (by kernel_rfl) (fun _ _ _ h => h) (Or.inl ⟨by rfl, ?_⟩) hHeld ?_
            rotate_left
            · intro w hSw; have f0 := hSw; clear hSw; go_simp; try rfl
            simp only [List.getElem_toArray, List.getElem_cons_zero, List.getElem_cons_succ, Act.put, List.setIfInBounds_toArray, List.set_cons_zero, List.set_cons_succ]
            refine wpAnyH_take (i := 2) (v := ?_) rfl (by kernel_rfl) (by kernel_rfl) (by kernel_rfl) (fun _ _ _ h => h) (Or.inl ⟨by rfl, ?_⟩) hHeld ?_
            rotate_left
            · intro w hSw; have f0 := hSw; clear hSw; go_simp; try rfl
            simp only [List.getElem_toArray, List.getElem_cons_zero, List.getElem_cons_succ, Act.put, List.setIfInBounds_toArray, List.set_cons_zero, List.set_cons_succ]
            refine wpAnyH_take (i := 3) (v := ?_) rfl (by kernel_rfl) (by kernel_rfl) (by kernel_rfl) (fun _ _ _ h => h) (Or.inl ⟨by rfl, ?_⟩) hHeld ?_
            rotate_left
            · intro w hSw; have f0 := hSw; clear hSw; go_simp; try rfl
            simp only [List.getElem_toArray, List.getElem_cons_zero, List.getElem_cons_succ, Act.put, List.setIfInBounds_toArray, List.set_cons_zero, List.set_cons_succ]
            refine wpAnyH_take (i := 4) (v := ?_) rfl (by kernel_rfl) (by kernel_rfl) (by kernel_rfl) (fun _ _ _ h => h) (Or.inl ⟨by rfl, ?_⟩) hHeld ?_
            rotate_left
            · intro w hSw; have f0 := hSw; clear hSw; go_simp; try rfl
            simp only [List.getElem_toArray, List.getElem_cons_zero, List.getElem_cons_succ, Act.put, List.setIfInBounds_toArray, List.set_cons_zero, List.set_cons_succ]
            refine wpAnyH_take (i := 5) (v := ?_) rfl (by kernel_rfl) (by kernel_rfl) (by kernel_rfl) (fun _ _ _ h => h) (Or.inl ⟨by rfl, ?_⟩) hHeld ?_
            rotate_left
            · intro w hSw; have f0 := hSw; clear hSw; go_simp; try rfl
            simp only [List.getElem_toArray, List.getElem_cons_zero, List.getElem_cons_succ, Act.put, List.setIfInBounds_toArray, List.set_cons_zero, List.set_cons_succ]
            obtain ⟨V, hV⟩ : ∃ V, W.drew = V := ⟨_, rfl⟩
            have hG : Below W.heap.size W V := hV ▸ (Below.refl _ _).drew
            rw [hV] at hHeld ⊢
            have xb : V.cell? ⟨X, 0, none⟩ = some v := hV ▸ c0
            have hOV := h2.keepB (w' := V) (fun k _ hk => hG.block k hk)
            have hR0 : eltO V w5.heap.size v [str kp, .slice none 0 0, .bool true] ⟨kp, [], true⟩ := ⟨none, 0, rfl, OwnB.nil_ _ _ _, fun k hk => by simp [Value.ownBlock] at hk⟩
            have nN := heap_alloc_new V (.cells #[str kp, .slice none 0 0, .bool true] 39)
            have hON := hOV.keepB (w' := V.alloc (.cells #[str kp, .slice none 0 0, .bool true] 39)) (fun k _ hk => Below.heap_alloc V _ k hk)
            have hRN := OC.elt_keepB (w' := V.alloc (.cells #[str kp, .slice none 0 0, .bool true] 39)) hR0 (fun k _ hk => Below.heap_alloc V _ k hk)
            have hGN := hG.alloc hG.size (.cells #[str kp, .slice none 0 0, .bool true] 39)
            have sN : (V.alloc (.cells #[str kp, .slice none 0 0, .bool true] 39)).heap.size = V.heap.size + 1 := by simp
            refine wpAnyH_ready (rs := [0, 6]) (by kernel_rfl) (by simp) ?_
            refine AllReadyH.cons rfl (fun K hK => ?_) (AllReadyH.cons rfl (fun K hK => ?_) AllReadyH.nil)
            · rw [if_pos (by rfl)]
              go_simp
              refine hK.out _ _ hHeld (fun hHeld => ?_)
              clear hK K

              refine wpAnyH_ready (rs := [6]) (by kernel_rfl) (by simp) ?_
              refine AllReadyH.cons rfl (fun K hK => ?_) AllReadyH.nil
              rw [if_pos (by rfl)]
              go_simp
              refine hK.out _ _ ((hGN.cell (p := ⟨Pp, Qp, none⟩) hplp).trans p0) (fun hHeld => ?_)
              clear hK K
              generalize V.alloc (.cells #[str kp, .slice none 0 0, .bool true] 39) = VN at *
              have hNl := hGN.size
              refine wpAnyH_ready (rs := [7]) (by kernel_rfl) (by simp) ?_
              refine AllReadyH.cons rfl (fun K hK => ?_) AllReadyH.nil
              rw [if_pos (by rfl)]
              refine wpo_apc (.tmp 27) (.tmp 33) hON (by omega) nN hRN (by omega) rfl rfl rfl ?_
              intro gg cp W7 ho7 hg7 hat7 hlt7
              have hne7 : v.ownBlock ≠ some Pp := fun e => by have := (h2.lt Pp e).1; omega
              have hneX : v.ownBlock ≠ some X := fun e => by have := (h2.lt X e).1; omega
              refine hK.out _ _ ((grown_cell hg7 (by omega) hne7).trans hHeld) (fun hHeld => ?_)
              clear hK K
              simp only [List.getElem_toArray, List.getElem_cons_zero, List.getElem_cons_succ, Act.put, List.setIfInBounds_toArray, List.set_cons_zero, List.set_cons_succ]
              have hX7 := ((hg7.block X (by omega) (fun e => hneX e.symm)).trans (hGN.block X hXW)).trans h1
              have xc : W7.cell? ⟨X, 0, none⟩ = some v := by rw [cell_of_row _ _ 0 _ _ _ hX7]; rfl
              have xf : W7.frozen? ⟨X, 0, none⟩ = false := frozen_of_rowX hX7 0
              obtain ⟨k1, k2⟩ := round_kept (u := .slice (some ⟨gg, 0, none⟩) (L.length + 1) cp) h1 hs (fun k e => OT.own_cells h2 k e) hGN hg7
              have hX8 := block_set (i := 0) hX7 (.slice (some ⟨gg, 0, none⟩) (L.length + 1) cp)
              have hO8 := ho7.keepB (w' := W7.setCell ⟨X, 0, none⟩ (.slice (some ⟨gg, 0, none⟩) (L.length + 1) cp)) (fun k hk _ => Below.heap_setCell W7 ⟨X, 0, none⟩ _ k (by show k ≠ X; omega))
              refine wpAnyH_ready (rs := [8]) (by kernel_rfl) (by simp) ?_
              refine AllReadyH.cons rfl (fun K hK => ?_) AllReadyH.nil
              rw [if_pos (by rfl)]
              go_simp
              refine hK.out _ _ ((World.cell?_setCell_far W7 ⟨X, 0, none⟩ ⟨Pp, Qp, none⟩ _ (fun e => hXp e.symm)).trans hHeld) (fun hHeld => ?_)
              clear hK K
              refine wpAnyH_done (by kernel_rfl) ?_ _
              exact ⟨hKO.trans k1, hKX.trans k2, _, hX8, by rw [hnext]; exact hO8, h3.trans k2⟩

            · rw [if_pos (by rfl)]
              go_simp
              refine hK.out _ _ ((hGN.cell (p := ⟨Pp, Qp, none⟩) hplp).trans p0) (fun hHeld => ?_)
              clear hK K
              generalize V.alloc (.cells #[str kp, .slice none 0 0, .bool true] 39) = VN at *

              have xb2 : VN.cell? ⟨X, 0, none⟩ = some v := (hGN.cell (p := ⟨X, 0, none⟩) hXW).trans c0
              refine wpAnyH_ready (rs := [0]) (by kernel_rfl) (by simp) ?_
              refine AllReadyH.cons rfl (fun K hK => ?_) AllReadyH.nil
              rw [if_pos (by rfl)]
              go_simp
              refine hK.out _ _ hHeld (fun hHeld => ?_)
              clear hK K
              have hNl := hGN.size
              refine wpAnyH_ready (rs := [7]) (by kernel_rfl) (by simp) ?_
              refine AllReadyH.cons rfl (fun K hK => ?_) AllReadyH.nil
              rw [if_pos (by rfl)]
              refine wpo_apc (.tmp 27) (.tmp 33) hON (by omega) nN hRN (by omega) rfl rfl rfl ?_
              intro gg cp W7 ho7 hg7 hat7 hlt7
              have hne7 : v.ownBlock ≠ some Pp := fun e => by have := (h2.lt Pp e).1; omega
              have hneX : v.ownBlock ≠ some X := fun e => by have := (h2.lt X e).1; omega
              refine hK.out _ _ ((grown_cell hg7 (by omega) hne7).trans hHeld) (fun hHeld => ?_)
              clear hK K
              simp only [List.getElem_toArray, List.getElem_cons_zero, List.getElem_cons_succ, Act.put, List.setIfInBounds_toArray, List.set_cons_zero, List.set_cons_succ]
              have hX7 := ((hg7.block X (by omega) (fun e => hneX e.symm)).trans (hGN.block X hXW)).trans h1
              have xc : W7.cell? ⟨X, 0, none⟩ = some v := by rw [cell_of_row _ _ 0 _ _ _ hX7]; rfl
              have xf : W7.frozen? ⟨X, 0, none⟩ = false := frozen_of_rowX hX7 0
              obtain ⟨k1, k2⟩ := round_kept (u := .slice (some ⟨gg, 0, none⟩) (L.length + 1) cp) h1 hs (fun k e => OT.own_cells h2 k e) hGN hg7
              have hX8 := block_set (i := 0) hX7 (.slice (some ⟨gg, 0, none⟩) (L.length + 1) cp)
              have hO8 := ho7.keepB (w' := W7.setCell ⟨X, 0, none⟩ (.slice (some ⟨gg, 0, none⟩) (L.length + 1) cp)) (fun k hk _ => Below.heap_setCell W7 ⟨X, 0, none⟩ _ k (by show k ≠ X; omega))
              refine wpAnyH_ready (rs := [8]) (by kernel_rfl) (by simp) ?_
              refine AllReadyH.cons rfl (fun K hK => ?_) AllReadyH.nil
              rw [if_pos (by rfl)]
              go_simp
              refine hK.out _ _ ((World.cell?_setCell_far W7 ⟨X, 0, none⟩ ⟨Pp, Qp, none⟩ _ (fun e => hXp e.symm)).trans hHeld) (fun hHeld => ?_)
              clear hK K
              refine wpAnyH_done (by kernel_rfl) ?_ _
              exact ⟨hKO.trans k1, hKX.trans k2, _, hX8, by rw [hnext]; exact hO8, h3.trans k2⟩

        | some j =>
          have hiq := hxb j rfl
          obtain ⟨gq, oq, eg, hplq, hr⟩ := cB.has (by omega)
          injection eg with eg
          injection eg with eg1 eg2
          rw [← eg1] at hplq hr
          rw [← eg2] at hr
          clear eg1 eg2 gq oq
          have hil : j < (b.map bt.laid).length := by rw [List.length_map]; omega
          obtain ⟨q0, q2, Xq, cq, q1, gBq⟩ := hr j hil
          have hei : (b.map bt.laid)[j] = bt.laid b[j] := List.getElem_map ..
          have smq : b[j].val.length ≤ 1048576 := hsb _ (List.getElem_mem (by omega))
          rw [hei] at q0 q1 q2 gBq
          clear hr hei hil

          cases fi with
          | none =>
            have hat : bt.outB (bt.Spots.at_ (a.map bt.laid) (b.map bt.laid) ⟨(none, some j), hx, hxa, hxb⟩) = [⟨b[j].key, b[j].val, false⟩] := by
              unfold bt.Spots.at_ bt.outB
              simp [List.getElem?_eq_getElem (show j < b.length by omega), bt.laid]
            rw [hat] at hout
            obtain ⟨⟨kq, vq⟩, hxx⟩ : ∃ y, b[j] = y := ⟨_, rfl⟩
            rw [hxx] at q0 q1 q2 gBq smq hout
            simp only [bt.laid] at q0 q1 q2 gBq smq hout
            obtain ⟨Pq, hPq⟩ : ∃ q, h' = q := ⟨_, rfl⟩
            obtain ⟨Qq, hQq⟩ : ∃ q, 0 + j * 3 = q := ⟨_, rfl⟩
            rw [hQq] at q0 q1 q2
            have hXq : Pq ≠ X := by omega
            have hnq : Pq < w5.heap.size := by omega
            have hsvq : spotV (some ⟨h', 0, none⟩) (some j) = .pointer (some ⟨Pq, Qq, none⟩) := by rw [← hQq, ← hPq]; rfl
            rw [hPq] at q0 q1 q2 hplq
            clear hxx hQq

            have hsn : spotV (some ⟨g, 0, none⟩) none = .pointer none := rfl
            simp only [hsvq, hsn]
            have HCL := Lib.hid (fun V (hb : Below W.heap.size W V) => clone_any Xq vq.length cq vq V (gBq.below hb) (by omega))
            obtain ⟨mq, hmq⟩ : ∃ m, vq.length = m := ⟨_, rfl⟩
            rw [hmq] at q1 HCL
            have HPT := Lib.hid (fun V A2 c2 => putq_any kq A2 mq c2 V)

            have hnext := hout
            clear hat hout hsvq hx hxa hxb cA cB
            gi_wp2
            refine regionIn (S := fun V => True) ll 3 (by kernel_rfl) (by kernel_rfl) trivial (fun hHeld => ?_)
            refine wpAnyH_take (i := 0) (v := ?_) rfl (by kernel_rfl) (by kernel_rfl) (by kernel_rfl) (fun _ _ _ h => h) (Or.inl ⟨by rfl, ?_⟩) hHeld ?_
            rotate_left
            · intro w hSw; clear hSw; go_simp; try rfl
            simp only [List.getElem_toArray, List.getElem_cons_zero, Act.put, List.setIfInBounds_toArray, List.set_cons_zero, List.set_cons_succ]
            refine wpAnyH_take (i := 1) (v := ?_) rfl (by kernel_rfl) (by kernel_rfl) (by kernel_rfl) (fun _ _ _ h => h) (Or.inl ⟨by rfl, ?_⟩) hHeld ?_
            rotate_left
            · intro w hSw; clear hSw; go_simp; try rfl
            simp only [List.getElem_toArray, List.getElem_cons_zero, List.getElem_cons_succ, Act.put, List.setIfInBounds_toArray, List.set_cons_zero, List.set_cons_succ]
            refine wpAnyH_take (i := 2) (v := ?_) rfl (by kernel_rfl) (by kernel_rfl) (by kernel_rfl) (fun _ _ _ h => h) (Or.inl ⟨by rfl, ?_⟩) hHeld ?_
            rotate_left
            · intro w hSw; clear hSw; go_simp; try rfl
            simp only [List.getElem_toArray, List.getElem_cons_zero, List.getElem_cons_succ, Act.put, List.setIfInBounds_toArray, List.set_cons_zero, List.set_cons_succ]
            refine wpAnyH_take (i := 3) (v := undef) rfl (by kernel_rfl) (by kernel_rfl) (by kernel_rfl) (fun _ _ _ h => h) (Or.inr ⟨by rfl, rfl⟩) hHeld ?_
            simp only [List.getElem_toArray, List.getElem_cons_zero, List.getElem_cons_succ, Act.put, List.setIfInBounds_toArray, List.set_cons_zero, List.set_cons_succ]
            refine wpAnyH_take (i := 4) (v := undef) rfl (by kernel_rfl) (by kernel_rfl) (by kernel_rfl) (fun _ _ _ h => h) (Or.inr ⟨by rfl, rfl⟩) hHeld ?_
            simp only [List.getElem_toArray, List.getElem_cons_zero, List.getElem_cons_succ, Act.put, List.setIfInBounds_toArray, List.set_cons_zero, List.set_cons_succ]
            refine wpAnyH_take (i := 5) (v := undef) rfl (by kernel_rfl) (by kernel_rfl) (by kernel_rfl) (fun _ _ _ h => h) (Or.inr ⟨by rfl, rfl⟩) hHeld ?_
            simp only [List.getElem_toArray, List.getElem_cons_zero, List.getElem_cons_succ, Act.put, List.setIfInBounds_toArray, List.set_cons_zero, List.set_cons_succ]
            refine wpAnyH_take (i := 6) (v := undef) rfl (by kernel_rfl) (by kernel_rfl) (by kernel_rfl) (fun _ _ _ h => h) (Or.inr ⟨by rfl, rfl⟩) hHeld ?_
            simp only [List.getElem_toArray, List.getElem_cons_zero, List.getElem_cons_succ, Act.put, List.setIfInBounds_toArray, List.set_cons_zero, List.set_cons_succ]
            refine wpAnyH_take (i := 7) (v := undef) rfl (by kernel_rfl) (by kernel_rfl) (by kernel_rfl) (fun _ _ _ h => h) (Or.inr ⟨by rfl, rfl⟩) hHeld ?_
            simp only [List.getElem_toArray, List.getElem_cons_zero, List.getElem_cons_succ, Act.put, List.setIfInBounds_toArray, List.set_cons_zero, List.set_cons_succ]
            refine wpAnyH_take (i := 8) (v := undef) rfl (by kernel_rfl) (by kernel_rfl) (by kernel_rfl) (fun _ _ _ h => h) (Or.inr ⟨by rfl, rfl⟩) hHeld ?_
            simp only [List.getElem_toArray, List.getElem_cons_zero, List.getElem_cons_succ, Act.put, List.setIfInBounds_toArray, List.set_cons_zero, List.set_cons_succ]
            refine wpAnyH_take (i := 9) (v := undef) rfl (by kernel_rfl) (by kernel_rfl) (by kernel_rfl) (fun _ _ _ h => h) (Or.inr ⟨by rfl, rfl⟩) hHeld ?_
            simp only [List.getElem_toArray, List.getElem_cons_zero, List.getElem_cons_succ, Act.put, List.setIfInBounds_toArray, List.set_cons_zero, List.set_cons_succ]
            refine wpAnyH_take (i := 10) (v := undef) rfl (by kernel_rfl) (by kernel_rfl) (by kernel_rfl) (fun _ _ _ h => h) (Or.inr ⟨by rfl, rfl⟩) hHeld ?_
            simp only [List.getElem_toArray, List.getElem_cons_zero, List.getElem_cons_succ, Act.put, List.setIfInBounds_toArray, List.set_cons_zero, List.set_cons_succ]
            refine wpAnyH_take (i := 11) (v := undef) rfl (by kernel_rfl) (by kernel_rfl) (by kernel_rfl) (fun _ _ _ h => h) (Or.inr ⟨by rfl, rfl⟩) hHeld ?_
            simp only [List.getElem_toArray, List.getElem_cons_zero, List.getElem_cons_succ, Act.put, List.setIfInBounds_toArray, List.set_cons_zero, List.set_cons_succ]
            refine wpAnyH_take (i := 12) (v := undef) rfl (by kernel_rfl) (by kernel_rfl) (by kernel_rfl) (fun _ _ _ h => h) (Or.inr ⟨by rfl, rfl⟩) hHeld ?_
            simp only [List.getElem_toArray, List.getElem_cons_zero, List.getElem_cons_succ, Act.put, List.setIfInBounds_toArray, List.set_cons_zero, List.set_cons_succ]
            refine wpAnyH_take (i := 13) (v := ?_) rfl (by kernel_rfl) (by kernel_rfl) (by kernel_rfl) (fun _ _ _ h => h) (Or.inl ⟨by rfl, ?_⟩) hHeld ?_
            rotate_left
            · intro w hSw; clear hSw; go_simp; try rfl
            simp only [List.getElem_toArray, List.getElem_cons_zero, List.getElem_cons_succ, Act.put, List.setIfInBounds_toArray, List.set_cons_zero, List.set_cons_succ]
            refine wpAnyH_take (i := 14) (v := ?_) rfl (by kernel_rfl) (by kernel_rfl) (by kernel_rfl) (fun _ _ _ h => h) (Or.inl ⟨by rfl, ?_⟩) hHeld ?_
            rotate_left
            · intro w hSw; clear hSw; go_simp; try rfl
            simp only [List.getElem_toArray, List.getElem_cons_zero, List.getElem_cons_succ, Act.put, List.setIfInBounds_toArray, List.set_cons_zero, List.set_cons_succ]
            obtain ⟨W9, hW9⟩ : ∃ W9, W.drew = W9 := ⟨_, rfl⟩
            have hb9 : Below W.heap.size W W9 := hW9 ▸ (Below.refl _ _).drew
            have hs9 : W9.heap.size = W.heap.size := by rw [← hW9]; rfl
            have hKO : KeepsOthers W W9 := by rw [← hW9]; exact ⟨Nat.le_refl _, fun _ _ h _ => h⟩
            have hKX : KX w5.heap.size X W W9 := KX.of_below hb9 hs
            have h1 : W9.heap[X]? = _ := (hb9.block X hXW).trans h1
            have h2 : OC W9 w5.heap.size v L := h2.keepB (fun k _ hk => hb9.block k hk)
            have h3 := h3.trans hKX
            have hs : w5.heap.size ≤ W9.heap.size := by omega
            have hXW : X < W9.heap.size := by omega
            have c0 : W9.cell? ⟨X, 0, none⟩ = some v := (hb9.cell (p := ⟨X, 0, none⟩) (by show X < _; omega)).trans c0
            have q0 := (hb9.cell (p := ⟨Pq, Qq, none⟩) hplq).trans q0
            have q1 := (hb9.cell (p := ⟨Pq, Qq + 1, none⟩) hplq).trans q1
            have hplq : Pq < W9.heap.size := by omega
            have HCL := Lib.hid (fun V (hb : Below W9.heap.size W9 V) => HCL.out V (hb9.trans (hb.mono hb9.size)))
            refine wpAnyH_done (by kernel_rfl) ?_ _
            rw [hW9]
            simp only [onlyK]
            gi_wp2
            refine regionIn (S := fun V => V.cell? ⟨Pq, Qq, none⟩ = some (str kq) ∧ V.cell? ⟨Pq, Qq + 1, none⟩ = some (.slice Xq mq cq)) ll 3 (by kernel_rfl) (by kernel_rfl) ⟨q0, q1⟩ (fun hHeld => ?_)
            refine wpAnyH_take (i := 1) (v := ?_) rfl (by kernel_rfl) (by kernel_rfl) (by kernel_rfl) (fun _ _ _ h => h) (Or.inl ⟨by rfl, ?_⟩) hHeld ?_
            rotate_left
            · intro w hSw; have f0 := hSw.1; have f1 := hSw.2; clear hSw; go_simp; try rfl
            simp only [List.getElem_toArray, List.getElem_cons_zero, List.getElem_cons_succ, Act.put, List.setIfInBounds_toArray, List.set_cons_zero, List.set_cons_succ]
            refine wpAnyH_take (i := 2) (v := ?_) rfl (by kernel_rfl) (by kernel_rfl) (by kernel_rfl) (fun _ _ _ h => h) (Or.inl ⟨by rfl, ?_⟩) hHeld ?_
            rotate_left
            · intro w hSw; have f0 := hSw.1; have f1 := hSw.2; clear hSw; go_simp; try rfl
            simp only [List.getElem_toArray, List.getElem_cons_zero, List.getElem_cons_succ, Act.put, List.setIfInBounds_toArray, List.set_cons_zero, List.set_cons_succ]
            refine wpAnyH_take (i := 3) (v := ?_) rfl (by kernel_rfl) (by kernel_rfl) (by kernel_rfl) (fun _ _ _ h => h) (Or.inl ⟨by rfl, ?_⟩) hHeld ?_
            rotate_left
            · intro w hSw; have f0 := hSw.1; have f1 := hSw.2; clear hSw; go_simp; try rfl
            simp only [List.getElem_toArray, List.getElem_cons_zero, List.getElem_cons_succ, Act.put, List.setIfInBounds_toArray, List.set_cons_zero, List.set_cons_succ]
            refine wpAnyH_take (i := 4) (v := ?_) rfl (by kernel_rfl) (by kernel_rfl) (by kernel_rfl) (fun _ _ _ h => h) (Or.inl ⟨by rfl, ?_⟩) hHeld ?_
            rotate_left
            · intro w hSw; have f0 := hSw.1; have f1 := hSw.2; clear hSw; go_simp; try rfl
            simp only [List.getElem_toArray, List.getElem_cons_zero, List.getElem_cons_succ, Act.put, List.setIfInBounds_toArray, List.set_cons_zero, List.set_cons_succ]
            refine wpAnyH_take (i := 5) (v := ?_) rfl (by kernel_rfl) (by kernel_rfl) (by kernel_rfl) (fun _ _ _ h => h) (Or.inl ⟨by rfl, ?_⟩) hHeld ?_
            rotate_left
            · intro w hSw; have f0 := hSw.1; have f1 := hSw.2; clear hSw; go_simp; try rfl
            simp only [List.getElem_toArray, List.getElem_cons_zero, List.getElem_cons_succ, Act.put, List.setIfInBounds_toArray, List.set_cons_zero, List.set_cons_succ]
            refine wpAnyH_take (i := 6) (v := ?_) rfl (by kernel_rfl) (by kernel_rfl) (by kernel_rfl) (fun _ _ _ h => h) (Or.inl ⟨by rfl, ?_⟩) hHeld ?_
            rotate_left
            · intro w hSw; have f0 := hSw.1; have f1 := hSw.2; clear hSw; go_simp; try rfl
            simp only [List.getElem_toArray, List.getElem_cons_zero, List.getElem_cons_succ, Act.put, List.setIfInBounds_toArray, List.set_cons_zero, List.set_cons_succ]
            refine wpAnyH_take (i := 7) (v := ?_) rfl (by kernel_rfl) (by kernel_rfl) (by kernel_rfl) (fun _ _ _ h => h) (Or.inl ⟨by rfl, ?_⟩) hHeld ?_
            rotate_left
            · intro w hSw; have f0 := hSw.1; have f1 := hSw.2; clear hSw; go_simp; try rfl
            simp only [List.getElem_toArray, List.getElem_cons_zero, List.getElem_cons_succ, Act.put, List.setIfInBounds_toArray, List.set_cons_zero, List.set_cons_succ]
            refine wpAnyH_take (i := 8) (v := ?_) rfl (by kernel_rfl) (by kernel_rfl) (by kernel_rfl) (fun _ _ _ h => h) (Or.inl ⟨by rfl, ?_⟩) hHeld ?_
            rotate_left
            · intro w hSw; have f0 := hSw.1; have f1 := hSw.2; clear hSw; go_simp; try rfl
            simp only [List.getElem_toArray, List.getElem_cons_zero, List.getElem_cons_succ, Act.put, List.setIfInBounds_toArray, List.set_cons_zero, List.set_cons_succ]
            refine wpAnyH_ready (rs := [0, 9]) (by kernel_rfl) (by simp) ?_
            refine AllReadyH.cons rfl (fun K hK => ?_) (AllReadyH.cons rfl (fun K hK => ?_) AllReadyH.nil)
            · rw [if_pos (by rfl)]
              have xb : W9.drew.cell? ⟨X, 0, none⟩ = some v := c0
              go_simp
              refine hK.out _ _ hHeld (fun hHeld => ?_)
              clear hK K
              refine wpAnyH_ready (rs := [9]) (by kernel_rfl) (by simp) ?_
              refine AllReadyH.cons rfl (fun K hK => ?_) AllReadyH.nil
              rw [if_pos (by rfl)]
              go_simp
              refine (HCL.out _ (Below.refl _ _).drew).mono ?_
              rintro e V9 ⟨v2, rfl, ho2, hbV⟩
              obtain ⟨A2, c2, rfl, -⟩ := ho2.form
              rw [hmq] at ho2 ⊢
              have hG9 : Below W9.heap.size W9 V9 := (Below.refl _ _).drew.trans hbV
              have hbase : w5.heap.size ≤ W9.drew.heap.size := hs
              have hWd : W9.drew.heap.size = W9.heap.size := rfl
              rw [hWd] at ho2 hbase
              refine hK.out _ _ ⟨(hG9.cell (p := ⟨Pq, Qq, none⟩) hplq).trans q0, (hG9.cell (p := ⟨Pq, Qq + 1, none⟩) hplq).trans q1⟩ (fun hHeld => ?_)
              clear hK K

              refine wpAnyH_ready (rs := [10]) (by kernel_rfl) (by simp) ?_
              refine AllReadyH.cons rfl (fun K hK => ?_) AllReadyH.nil
              rw [if_pos (by rfl)]
              go_simp
              refine (HPT.out V9 A2 c2).mono ?_
              rintro e V ⟨rfl, hb10⟩
              have hG : Below W9.heap.size W9 V := hG9.trans (hb10.mono hG9.size)
              have ho10 := ho2.below hb10 (Nat.le_refl _)
              refine hK.out _ _ ⟨(hG.cell (p := ⟨Pq, Qq, none⟩) hplq).trans q0, (hG.cell (p := ⟨Pq, Qq + 1, none⟩) hplq).trans q1⟩ (fun hHeld => ?_)
              clear hK K
              have hOV := h2.keepB (w' := V) (fun k _ hk => hG.block k hk)
              have hR0 : eltO V w5.heap.size v [str kq, .slice A2 mq c2, .bool false] ⟨kq, vq, false⟩ := ⟨A2, c2, by rw [← hmq], by rw [← hmq] at ho10; exact ho10.mono hbase, fun k hk e => by
                rw [hmq] at hk
                have q1 := (ho2.lt k hk).1
                have q2 := (h2.lt k e).2
                omega⟩
              have nN := heap_alloc_new V (.cells #[str kq, .slice A2 mq c2, .bool false] 39)
              have hON := hOV.keepB (w' := V.alloc (.cells #[str kq, .slice A2 mq c2, .bool false] 39)) (fun k _ hk => Below.heap_alloc V _ k hk)
              have hRN := OC.elt_keepB (w' := V.alloc (.cells #[str kq, .slice A2 mq c2, .bool false] 39)) hR0 (fun k _ hk => Below.heap_alloc V _ k hk)
              have hGN := hG.alloc hG.size (.cells #[str kq, .slice A2 mq c2, .bool false] 39)
              have sN : (V.alloc (.cells #[str kq, .slice A2 mq c2, .bool false] 39)).heap.size = V.heap.size + 1 := by simp

              refine wpAnyH_ready (rs := [11]) (by kernel_rfl) (by simp) ?_
              refine AllReadyH.cons rfl (fun K hK => ?_) AllReadyH.nil
              rw [if_pos (by rfl)]
              go_simp
              refine hK.out _ _ ⟨(hGN.cell (p := ⟨Pq, Qq, none⟩) hplq).trans q0, (hGN.cell (p := ⟨Pq, Qq + 1, none⟩) hplq).trans q1⟩ (fun hHeld => ?_)
              clear hK K
              generalize V.alloc (.cells #[str kq, .slice A2 mq c2, .bool false] 39) = VN at *
              have hNl := hGN.size
              refine wpAnyH_ready (rs := [12]) (by kernel_rfl) (by simp) ?_
              refine AllReadyH.cons rfl (fun K hK => ?_) AllReadyH.nil
              rw [if_pos (by rfl)]
              refine wpo_apc (.tmp 50) (.tmp 61) hON (by omega) nN hRN (by omega) rfl rfl rfl ?_
              intro gg cp W7 ho7 hg7 hat7 hlt7
              have hne7 : v.ownBlock ≠ some Pq := fun e => by have := (h2.lt Pq e).1; omega
              have hneX : v.ownBlock ≠ some X := fun e => by have := (h2.lt X e).1; omega
              refine hK.out _ _ ⟨(grown_cell hg7 (by omega) hne7).trans hHeld.1, (grown_cell hg7 (by omega) hne7).trans hHeld.2⟩ (fun hHeld => ?_)
              clear hK K
              simp only [List.getElem_toArray, List.getElem_cons_zero, List.getElem_cons_succ, Act.put, List.setIfInBounds_toArray, List.set_cons_zero, List.set_cons_succ]
              have hX7 := ((hg7.block X (by omega) (fun e => hneX e.symm)).trans (hGN.block X hXW)).trans h1
              have xc : W7.cell? ⟨X, 0, none⟩ = some v := by rw [cell_of_row _ _ 0 _ _ _ hX7]; rfl
              have xf : W7.frozen? ⟨X, 0, none⟩ = false := frozen_of_rowX hX7 0
              obtain ⟨k1, k2⟩ := round_kept (u := .slice (some ⟨gg, 0, none⟩) (L.length + 1) cp) h1 hs (fun k e => OT.own_cells h2 k e) hGN hg7
              have hX8 := block_set (i := 0) hX7 (.slice (some ⟨gg, 0, none⟩) (L.length + 1) cp)
              have hO8 := ho7.keepB (w' := W7.setCell ⟨X, 0, none⟩ (.slice (some ⟨gg, 0, none⟩) (L.length + 1) cp)) (fun k hk _ => Below.heap_setCell W7 ⟨X, 0, none⟩ _ k (by show k ≠ X; omega))
              refine wpAnyH_ready (rs := [13]) (by kernel_rfl) (by simp) ?_
              refine AllReadyH.cons rfl (fun K hK => ?_) AllReadyH.nil
              rw [if_pos (by rfl)]
              go_simp
              refine hK.out _ _ ⟨(World.cell?_setCell_far W7 ⟨X, 0, none⟩ ⟨Pq, Qq, none⟩ _ (fun e => hXq e.symm)).trans hHeld.1, (World.cell?_setCell_far W7 ⟨X, 0, none⟩ ⟨Pq, Qq + 1, none⟩ _ (fun e => hXq e.symm)).trans hHeld.2⟩ (fun hHeld => ?_)
              clear hK K
              refine wpAnyH_done (by kernel_rfl) ?_ _
              exact ⟨hKO.trans k1, hKX.trans k2, _, hX8, by rw [hnext]; exact hO8, h3.trans k2⟩

            · rw [if_pos (by rfl)]
              go_simp
              refine (HCL.out _ (Below.refl _ _).drew).mono ?_
              rintro e V9 ⟨v2, rfl, ho2, hbV⟩
              obtain ⟨A2, c2, rfl, -⟩ := ho2.form
              rw [hmq] at ho2 ⊢
              have hG9 : Below W9.heap.size W9 V9 := (Below.refl _ _).drew.trans hbV
              have hbase : w5.heap.size ≤ W9.drew.heap.size := hs
              have hWd : W9.drew.heap.size = W9.heap.size := rfl
              rw [hWd] at ho2 hbase
              refine hK.out _ _ ⟨(hG9.cell (p := ⟨Pq, Qq, none⟩) hplq).trans q0, (hG9.cell (p := ⟨Pq, Qq + 1, none⟩) hplq).trans q1⟩ (fun hHeld => ?_)
              clear hK K

              have xb : V9.cell? ⟨X, 0, none⟩ = some v := (hG9.cell (p := ⟨X, 0, none⟩) hXW).trans c0
              refine wpAnyH_ready (rs := [0, 10]) (by kernel_rfl) (by simp) ?_
              refine AllReadyH.cons rfl (fun K hK => ?_) (AllReadyH.cons rfl (fun K hK => ?_) AllReadyH.nil)
              · rw [if_pos (by rfl)]
                go_simp
                refine hK.out _ _ hHeld (fun hHeld => ?_)
                clear hK K

                refine wpAnyH_ready (rs := [10]) (by kernel_rfl) (by simp) ?_
                refine AllReadyH.cons rfl (fun K hK => ?_) AllReadyH.nil
                rw [if_pos (by rfl)]
                go_simp
                refine (HPT.out V9 A2 c2).mono ?_
                rintro e V ⟨rfl, hb10⟩
                have hG : Below W9.heap.size W9 V := hG9.trans (hb10.mono hG9.size)
                have ho10 := ho2.below hb10 (Nat.le_refl _)
                refine hK.out _ _ ⟨(hG.cell (p := ⟨Pq, Qq, none⟩) hplq).trans q0, (hG.cell (p := ⟨Pq, Qq + 1, none⟩) hplq).trans q1⟩ (fun hHeld => ?_)
                clear hK K
                have hOV := h2.keepB (w' := V) (fun k _ hk => hG.block k hk)
                have hR0 : eltO V w5.heap.size v [str kq, .slice A2 mq c2, .bool false] ⟨kq, vq, false⟩ := ⟨A2, c2, by rw [← hmq], by rw [← hmq] at ho10; exact ho10.mono hbase, fun k hk e => by
                  rw [hmq] at hk
                  have q1 := (ho2.lt k hk).1
                  have q2 := (h2.lt k e).2
                  omega⟩
                have nN := heap_alloc_new V (.cells #[str kq, .slice A2 mq c2, .bool false] 39)
                have hON := hOV.keepB (w' := V.alloc (.cells #[str kq, .slice A2 mq c2, .bool false] 39)) (fun k _ hk => Below.heap_alloc V _ k hk)
                have hRN := OC.elt_keepB (w' := V.alloc (.cells #[str kq, .slice A2 mq c2, .bool false] 39)) hR0 (fun k _ hk => Below.heap_alloc V _ k hk)
                have hGN := hG.alloc hG.size (.cells #[str kq, .slice A2 mq c2, .bool false] 39)
                have sN : (V.alloc (.cells #[str kq, .slice A2 mq c2, .bool false] 39)).heap.size = V.heap.size + 1 := by simp

                refine wpAnyH_ready (rs := [11]) (by kernel_rfl) (by simp) ?_
                refine AllReadyH.cons rfl (fun K hK => ?_) AllReadyH.nil
                rw [if_pos (by rfl)]
                go_simp
                refine hK.out _ _ ⟨(hGN.cell (p := ⟨Pq, Qq, none⟩) hplq).trans q0, (hGN.cell (p := ⟨Pq, Qq + 1, none⟩) hplq).trans q1⟩ (fun hHeld => ?_)
                clear hK K
                generalize V.alloc (.cells #[str kq, .slice A2 mq c2, .bool false] 39) = VN at *
                have hNl := hGN.size
                refine wpAnyH_ready (rs := [12]) (by kernel_rfl) (by simp) ?_
                refine AllReadyH.cons rfl (fun K hK => ?_) AllReadyH.nil
                rw [if_pos (by rfl)]
                refine wpo_apc (.tmp 50) (.tmp 61) hON (by omega) nN hRN (by omega) rfl rfl rfl ?_
                intro gg cp W7 ho7 hg7 hat7 hlt7
                have hne7 : v.ownBlock ≠ some Pq := fun e => by have := (h2.lt Pq e).1; omega
                have hneX : v.ownBlock ≠ some X := fun e => by have := (h2.lt X e).1; omega
                refine hK.out _ _ ⟨(grown_cell hg7 (by omega) hne7).trans hHeld.1, (grown_cell hg7 (by omega) hne7).trans hHeld.2⟩ (fun hHeld => ?_)
                clear hK K
                simp only [List.getElem_toArray, List.getElem_cons_zero, List.getElem_cons_succ, Act.put, List.setIfInBounds_toArray, List.set_cons_zero, List.set_cons_succ]
                have hX7 := ((hg7.block X (by omega) (fun e => hneX e.symm)).trans (hGN.block X hXW)).trans h1
                have xc : W7.cell? ⟨X, 0, none⟩ = some v := by rw [cell_of_row _ _ 0 _ _ _ hX7]; rfl
                have xf : W7.frozen? ⟨X, 0, none⟩ = false := frozen_of_rowX hX7 0
                obtain ⟨k1, k2⟩ := round_kept (u := .slice (some ⟨gg, 0, none⟩) (L.length + 1) cp) h1 hs (fun k e => OT.own_cells h2 k e) hGN hg7
                have hX8 := block_set (i := 0) hX7 (.slice (some ⟨gg, 0, none⟩) (L.length + 1) cp)
                have hO8 := ho7.keepB (w' := W7.setCell ⟨X, 0, none⟩ (.slice (some ⟨gg, 0, none⟩) (L.length + 1) cp)) (fun k hk _ => Below.heap_setCell W7 ⟨X, 0, none⟩ _ k (by show k ≠ X; omega))
                refine wpAnyH_ready (rs := [13]) (by kernel_rfl) (by simp) ?_
                refine AllReadyH.cons rfl (fun K hK => ?_) AllReadyH.nil
                rw [if_pos (by rfl)]
                go_simp
                refine hK.out _ _ ⟨(World.cell?_setCell_far W7 ⟨X, 0, none⟩ ⟨Pq, Qq, none⟩ _ (fun e => hXq e.symm)).trans hHeld.1, (World.cell?_setCell_far W7 ⟨X, 0, none⟩ ⟨Pq, Qq + 1, none⟩ _ (fun e => hXq e.symm)).trans hHeld.2⟩ (fun hHeld => ?_)
                clear hK K
                refine wpAnyH_done (by kernel_rfl) ?_ _
                exact ⟨hKO.trans k1, hKX.trans k2, _, hX8, by rw [hnext]; exact hO8, h3.trans k2⟩

              · rw [if_pos (by rfl)]
                go_simp
                refine (HPT.out V9 A2 c2).mono ?_
                rintro e V ⟨rfl, hb10⟩
                have hG : Below W9.heap.size W9 V := hG9.trans (hb10.mono hG9.size)
                have ho10 := ho2.below hb10 (Nat.le_refl _)
                refine hK.out _ _ ⟨(hG.cell (p := ⟨Pq, Qq, none⟩) hplq).trans q0, (hG.cell (p := ⟨Pq, Qq + 1, none⟩) hplq).trans q1⟩ (fun hHeld => ?_)
                clear hK K
                have hOV := h2.keepB (w' := V) (fun k _ hk => hG.block k hk)
                have hR0 : eltO V w5.heap.size v [str kq, .slice A2 mq c2, .bool false] ⟨kq, vq, false⟩ := ⟨A2, c2, by rw [← hmq], by rw [← hmq] at ho10; exact ho10.mono hbase, fun k hk e => by
                  rw [hmq] at hk
                  have q1 := (ho2.lt k hk).1
                  have q2 := (h2.lt k e).2
                  omega⟩
                have nN := heap_alloc_new V (.cells #[str kq, .slice A2 mq c2, .bool false] 39)
                have hON := hOV.keepB (w' := V.alloc (.cells #[str kq, .slice A2 mq c2, .bool false] 39)) (fun k _ hk => Below.heap_alloc V _ k hk)
                have hRN := OC.elt_keepB (w' := V.alloc (.cells #[str kq, .slice A2 mq c2, .bool false] 39)) hR0 (fun k _ hk => Below.heap_alloc V _ k hk)
                have hGN := hG.alloc hG.size (.cells #[str kq, .slice A2 mq c2, .bool false] 39)
                have sN : (V.alloc (.cells #[str kq, .slice A2 mq c2, .bool false] 39)).heap.size = V.heap.size + 1 := by simp

                have xb3 : V.cell? ⟨X, 0, none⟩ = some v := (hG.cell (p := ⟨X, 0, none⟩) hXW).trans c0
                refine wpAnyH_ready (rs := [0, 11]) (by kernel_rfl) (by simp) ?_
                refine AllReadyH.cons rfl (fun K hK => ?_) (AllReadyH.cons rfl (fun K hK => ?_) AllReadyH.nil)
                · rw [if_pos (by rfl)]
                  go_simp
                  refine hK.out _ _ hHeld (fun hHeld => ?_)
                  clear hK K

                  refine wpAnyH_ready (rs := [11]) (by kernel_rfl) (by simp) ?_
                  refine AllReadyH.cons rfl (fun K hK => ?_) AllReadyH.nil
                  rw [if_pos (by rfl)]
                  go_simp
                  refine hK.out _ _ ⟨(hGN.cell (p := ⟨Pq, Qq, none⟩) hplq).trans q0, (hGN.cell (p := ⟨Pq, Qq + 1, none⟩) hplq).trans q1⟩ (fun hHeld => ?_)
                  clear hK K
                  generalize V.alloc (.cells #[str kq, .slice A2 mq c2, .bool false] 39) = VN at *
                  have hNl := hGN.size
                  refine wpAnyH_ready (rs := [12]) (by kernel_rfl) (by simp) ?_
                  refine AllReadyH.cons rfl (fun K hK => ?_) AllReadyH.nil
                  rw [if_pos (by rfl)]
                  refine wpo_apc (.tmp 50) (.tmp 61) hON (by omega) nN hRN (by omega) rfl rfl rfl ?_
                  intro gg cp W7 ho7 hg7 hat7 hlt7
                  have hne7 : v.ownBlock ≠ some Pq := fun e => by have := (h2.lt Pq e).1; omega
                  have hneX : v.ownBlock ≠ some X := fun e => by have := (h2.lt X e).1; omega
                  refine hK.out _ _ ⟨(grown_cell hg7 (by omega) hne7).trans hHeld.1, (grown_cell hg7 (by omega) hne7).trans hHeld.2⟩ (fun hHeld => ?_)
                  clear hK K
                  simp only [List.getElem_toArray, List.getElem_cons_zero, List.getElem_cons_succ, Act.put, List.setIfInBounds_toArray, List.set_cons_zero, List.set_cons_succ]
                  have hX7 := ((hg7.block X (by omega) (fun e => hneX e.symm)).trans (hGN.block X hXW)).trans h1
                  have xc : W7.cell? ⟨X, 0, none⟩ = some v := by rw [cell_of_row _ _ 0 _ _ _ hX7]; rfl
                  have xf : W7.frozen? ⟨X, 0, none⟩ = false := frozen_of_rowX hX7 0
                  obtain ⟨k1, k2⟩ := round_kept (u := .slice (some ⟨gg, 0, none⟩) (L.length + 1) cp) h1 hs (fun k e => OT.own_cells h2 k e) hGN hg7
                  have hX8 := block_set (i := 0) hX7 (.slice (some ⟨gg, 0, none⟩) (L.length + 1) cp)
                  have hO8 := ho7.keepB (w' := W7.setCell ⟨X, 0, none⟩ (.slice (some ⟨gg, 0, none⟩) (L.length + 1) cp)) (fun k hk _ => Below.heap_setCell W7 ⟨X, 0, none⟩ _ k (by show k ≠ X; omega))
                  refine wpAnyH_ready (rs := [13]) (by kernel_rfl) (by simp) ?_
                  refine AllReadyH.cons rfl (fun K hK => ?_) AllReadyH.nil
                  rw [if_pos (by rfl)]
                  go_simp
                  refine hK.out _ _ ⟨(World.cell?_setCell_far W7 ⟨X, 0, none⟩ ⟨Pq, Qq, none⟩ _ (fun e => hXq e.symm)).trans hHeld.1, (World.cell?_setCell_far W7 ⟨X, 0, none⟩ ⟨Pq, Qq + 1, none⟩ _ (fun e => hXq e.symm)).trans hHeld.2⟩ (fun hHeld => ?_)
                  clear hK K
                  refine wpAnyH_done (by kernel_rfl) ?_ _
                  exact ⟨hKO.trans k1, hKX.trans k2, _, hX8, by rw [hnext]; exact hO8, h3.trans k2⟩

                · rw [if_pos (by rfl)]
                  go_simp
                  refine hK.out _ _ ⟨(hGN.cell (p := ⟨Pq, Qq, none⟩) hplq).trans q0, (hGN.cell (p := ⟨Pq, Qq + 1, none⟩) hplq).trans q1⟩ (fun hHeld => ?_)
                  clear hK K
                  generalize V.alloc (.cells #[str kq, .slice A2 mq c2, .bool false] 39) = VN at *

                  have xb2 : VN.cell? ⟨X, 0, none⟩ = some v := (hGN.cell (p := ⟨X, 0, none⟩) hXW).trans c0
                  refine wpAnyH_ready (rs := [0]) (by kernel_rfl) (by simp) ?_
                  refine AllReadyH.cons rfl (fun K hK => ?_) AllReadyH.nil
                  rw [if_pos (by rfl)]
                  go_simp
                  refine hK.out _ _ hHeld (fun hHeld => ?_)
                  clear hK K
                  have hNl := hGN.size
                  refine wpAnyH_ready (rs := [12]) (by kernel_rfl) (by simp) ?_
                  refine AllReadyH.cons rfl (fun K hK => ?_) AllReadyH.nil
                  rw [if_pos (by rfl)]
                  refine wpo_apc (.tmp 50) (.tmp 61) hON (by omega) nN hRN (by omega) rfl rfl rfl ?_
                  intro gg cp W7 ho7 hg7 hat7 hlt7
                  have hne7 : v.ownBlock ≠ some Pq := fun e => by have := (h2.lt Pq e).1; omega
                  have hneX : v.ownBlock ≠ some X := fun e => by have := (h2.lt X e).1; omega
                  refine hK.out _ _ ⟨(grown_cell hg7 (by omega) hne7).trans hHeld.1, (grown_cell hg7 (by omega) hne7).trans hHeld.2⟩ (fun hHeld => ?_)
                  clear hK K
                  simp only [List.getElem_toArray, List.getElem_cons_zero, List.getElem_cons_succ, Act.put, List.setIfInBounds_toArray, List.set_cons_zero, List.set_cons_succ]
                  have hX7 := ((hg7.block X (by omega) (fun e => hneX e.symm)).trans (hGN.block X hXW)).trans h1
                  have xc : W7.cell? ⟨X, 0, none⟩ = some v := by rw [cell_of_row _ _ 0 _ _ _ hX7]; rfl
                  have xf : W7.frozen? ⟨X, 0, none⟩ = false := frozen_of_rowX hX7 0
                  obtain ⟨k1, k2⟩ := round_kept (u := .slice (some ⟨gg, 0, none⟩) (L.length + 1) cp) h1 hs (fun k e => OT.own_cells h2 k e) hGN hg7
                  have hX8 := block_set (i := 0) hX7 (.slice (some ⟨gg, 0, none⟩) (L.length + 1) cp)
                  have hO8 := ho7.keepB (w' := W7.setCell ⟨X, 0, none⟩ (.slice (some ⟨gg, 0, none⟩) (L.length + 1) cp)) (fun k hk _ => Below.heap_setCell W7 ⟨X, 0, none⟩ _ k (by show k ≠ X; omega))
                  refine wpAnyH_ready (rs := [13]) (by kernel_rfl) (by simp) ?_
                  refine AllReadyH.cons rfl (fun K hK => ?_) AllReadyH.nil
                  rw [if_pos (by rfl)]
                  go_simp
                  refine hK.out _ _ ⟨(World.cell?_setCell_far W7 ⟨X, 0, none⟩ ⟨Pq, Qq, none⟩ _ (fun e => hXq e.symm)).trans hHeld.1, (World.cell?_setCell_far W7 ⟨X, 0, none⟩ ⟨Pq, Qq + 1, none⟩ _ (fun e => hXq e.symm)).trans hHeld.2⟩ (fun hHeld => ?_)
                  clear hK K
                  refine wpAnyH_done (by kernel_rfl) ?_ _
                  exact ⟨hKO.trans k1, hKX.trans k2, _, hX8, by rw [hnext]; exact hO8, h3.trans k2⟩

          | some i =>
            have hip := hxa i rfl
            obtain ⟨gp, op, eg, hplp, hr⟩ := cA.has (by omega)
            injection eg with eg
            injection eg with eg1 eg2
            rw [← eg1] at hplp hr
            rw [← eg2] at hr
            clear eg1 eg2 gp op
            have hil : i < (a.map bt.laid).length := by rw [List.length_map]; omega
            obtain ⟨p0, p2, Xp, cp, p1, gBp⟩ := hr i hil
            have hei : (a.map bt.laid)[i] = bt.laid a[i] := List.getElem_map ..
            have smp : a[i].val.length ≤ 1048576 := hsa _ (List.getElem_mem (by omega))
            rw [hei] at p0 p1 p2 gBp
            clear hr hei hil

            have hat : bt.outB (bt.Spots.at_ (a.map bt.laid) (b.map bt.laid) ⟨(some i, some j), hx, hxa, hxb⟩) = if a[i].val = b[j].val then [] else [⟨b[j].key, b[j].val, false⟩] := by
              unfold bt.Spots.at_ bt.outB
              simp [List.getElem?_eq_getElem (show j < b.length by omega), List.getElem?_eq_getElem (show i < a.length by omega), bt.laid]
            rw [hat] at hout
            clear hat
            obtain ⟨⟨kp, vp⟩, hxx⟩ : ∃ y, a[i] = y := ⟨_, rfl⟩
            rw [hxx] at p0 p1 p2 gBp smp hout
            simp only [bt.laid] at p0 p1 p2 gBp smp hout
            obtain ⟨Pp, hPp⟩ : ∃ q, g = q := ⟨_, rfl⟩
            obtain ⟨Qp, hQp⟩ : ∃ q, 0 + i * 3 = q := ⟨_, rfl⟩
            rw [hQp] at p0 p1 p2
            have hXp : Pp ≠ X := by omega
            have hnp : Pp < w5.heap.size := by omega
            have hsvp : spotV (some ⟨g, 0, none⟩) (some i) = .pointer (some ⟨Pp, Qp, none⟩) := by rw [← hQp, ← hPp]; rfl
            rw [hPp] at p0 p1 p2 hplp
            clear hxx hQp

            obtain ⟨⟨kq, vq⟩, hxx⟩ : ∃ y, b[j] = y := ⟨_, rfl⟩
            rw [hxx] at q0 q1 q2 gBq smq hout
            simp only [bt.laid] at q0 q1 q2 gBq smq hout
            obtain ⟨Pq, hPq⟩ : ∃ q, h' = q := ⟨_, rfl⟩
            obtain ⟨Qq, hQq⟩ : ∃ q, 0 + j * 3 = q := ⟨_, rfl⟩
            rw [hQq] at q0 q1 q2
            have hXq : Pq ≠ X := by omega
            have hnq : Pq < w5.heap.size := by omega
            have hsvq : spotV (some ⟨h', 0, none⟩) (some j) = .pointer (some ⟨Pq, Qq, none⟩) := by rw [← hQq, ← hPq]; rfl
            rw [hPq] at q0 q1 q2 hplq
            clear hxx hQq

            simp only [hsvp, hsvq]
            clear hsvp hsvq hx hxa hxb cA cB
            have HEQ := Lib.hid (equal_any Xp Xq vp.length cp vq.length cq vp vq W.drew (gBp.below (Below.refl _ _).drew) (gBq.below (Below.refl _ _).drew))
            obtain ⟨mp, hmp⟩ : ∃ m, vp.length = m := ⟨_, rfl⟩
            rw [hmp] at p1 HEQ
            have HCL := Lib.hid (fun V (hb : Below W.heap.size W V) => clone_any Xq vq.length cq vq V (gBq.below hb) (by omega))
            obtain ⟨mq, hmq⟩ : ∃ m, vq.length = m := ⟨_, rfl⟩
            rw [hmq] at q1 HCL
            have HPT := Lib.hid (fun V A2 c2 => putq_any kq A2 mq c2 V)

            rw [hmq] at HEQ
            by_cases hv : vp = vq
            · rw [if_pos hv, List.append_nil] at hout
              rw [decide_eq_true hv] at HEQ
              have hnext := hout
              clear hout hv
              gi_wp2
              refine regionIn (S := fun V => V.cell? ⟨Pp, Qp + 1, none⟩ = some (.slice Xp mp cp) ∧ V.cell? ⟨Pq, Qq + 1, none⟩ = some (.slice Xq mq cq)) ll 3 (by kernel_rfl) (by kernel_rfl) ⟨p1, q1⟩ (fun hHeld => ?_)
              refine wpAnyH_take (i := 0) (v := ?_) rfl (by kernel_rfl) (by kernel_rfl) (by kernel_rfl) (fun _ _ _ h => h) (Or.inl ⟨by rfl, ?_⟩) hHeld ?_
              rotate_left
              · intro w hSw; have f0 := hSw.1; have f1 := hSw.2; clear hSw; go_simp; try rfl
              simp only [List.getElem_toArray, List.getElem_cons_zero, Act.put, List.setIfInBounds_toArray, List.set_cons_zero, List.set_cons_succ]
              refine wpAnyH_take (i := 1) (v := ?_) rfl (by kernel_rfl) (by kernel_rfl) (by kernel_rfl) (fun _ _ _ h => h) (Or.inl ⟨by rfl, ?_⟩) hHeld ?_
              rotate_left
              · intro w hSw; have f0 := hSw.1; have f1 := hSw.2; clear hSw; go_simp; try rfl
              simp only [List.getElem_toArray, List.getElem_cons_zero, List.getElem_cons_succ, Act.put, List.setIfInBounds_toArray, List.set_cons_zero, List.set_cons_succ]
              refine wpAnyH_take (i := 2) (v := ?_) rfl (by kernel_rfl) (by kernel_rfl) (by kernel_rfl) (fun _ _ _ h => h) (Or.inl ⟨by rfl, ?_⟩) hHeld ?_
              rotate_left
              · intro w hSw; have f0 := hSw.1; have f1 := hSw.2; clear hSw; go_simp; try rfl
              simp only [List.getElem_toArray, List.getElem_cons_zero, List.getElem_cons_succ, Act.put, List.setIfInBounds_toArray, List.set_cons_zero, List.set_cons_succ]
              refine wpAnyH_take (i := 3) (v := ?_) rfl (by kernel_rfl) (by kernel_rfl) (by kernel_rfl) (fun _ _ _ h => h) (Or.inl ⟨by rfl, ?_⟩) hHeld ?_
              rotate_left
              · intro w hSw; have f0 := hSw.1; have f1 := hSw.2; clear hSw; go_simp; try rfl
              simp only [List.getElem_toArray, List.getElem_cons_zero, List.getElem_cons_succ, Act.put, List.setIfInBounds_toArray, List.set_cons_zero, List.set_cons_succ]
              refine wpAnyH_take (i := 4) (v := ?_) rfl (by kernel_rfl) (by kernel_rfl) (by kernel_rfl) (fun _ _ _ h => h) (Or.inl ⟨by rfl, ?_⟩) hHeld ?_
              rotate_left
              · intro w hSw; have f0 := hSw.1; have f1 := hSw.2; clear hSw; go_simp; try rfl
              simp only [List.getElem_toArray, List.getElem_cons_zero, List.getElem_cons_succ, Act.put, List.setIfInBounds_toArray, List.set_cons_zero, List.set_cons_succ]
              refine wpAnyH_take (i := 5) (v := ?_) rfl (by kernel_rfl) (by kernel_rfl) (by kernel_rfl) (fun _ _ _ h => h) (Or.inl ⟨by rfl, ?_⟩) hHeld ?_
              rotate_left
              · intro w hSw; have f0 := hSw.1; have f1 := hSw.2; clear hSw; go_simp; try rfl
              simp only [List.getElem_toArray, List.getElem_cons_zero, List.getElem_cons_succ, Act.put, List.setIfInBounds_toArray, List.set_cons_zero, List.set_cons_succ]
              refine wpAnyH_take (i := 6) (v := ?_) rfl (by kernel_rfl) (by kernel_rfl) (by kernel_rfl) (fun _ _ _ h => h) (Or.inl ⟨by rfl, ?_⟩) hHeld ?_
              rotate_left
              · intro w hSw; have f0 := hSw.1; have f1 := hSw.2; clear hSw; go_simp; try rfl
              simp only [List.getElem_toArray, List.getElem_cons_zero, List.getElem_cons_succ, Act.put, List.setIfInBounds_toArray, List.set_cons_zero, List.set_cons_succ]
              refine wpAnyH_take (i := 7) (v := ?_) rfl (by kernel_rfl) (by kernel_rfl) (by kernel_rfl) (fun _ _ _ h => h) (Or.inl ⟨by rfl, ?_⟩) hHeld ?_
              rotate_left
              · intro w hSw; have f0 := hSw.1; have f1 := hSw.2; clear hSw; go_simp; try rfl
              simp only [List.getElem_toArray, List.getElem_cons_zero, List.getElem_cons_succ, Act.put, List.setIfInBounds_toArray, List.set_cons_zero, List.set_cons_succ]
              refine wpAnyH_take (i := 8) (v := ?_) rfl (by kernel_rfl) (by kernel_rfl) (by kernel_rfl) (fun _ _ _ h => h) (Or.inl ⟨by rfl, ?_⟩) hHeld ?_
              rotate_left
              · intro w hSw; have f0 := hSw.1; have f1 := hSw.2; clear hSw; go_simp; try rfl
              simp only [List.getElem_toArray, List.getElem_cons_zero, List.getElem_cons_succ, Act.put, List.setIfInBounds_toArray, List.set_cons_zero, List.set_cons_succ]
              refine wpAnyH_take (i := 9) (v := ?_) rfl (by kernel_rfl) (by kernel_rfl) (by kernel_rfl) (fun _ _ _ h => h) (Or.inl ⟨by rfl, ?_⟩) hHeld ?_
              rotate_left
              · intro w hSw; have f0 := hSw.1; have f1 := hSw.2; clear hSw; go_simp; try rfl
              simp only [List.getElem_toArray, List.getElem_cons_zero, List.getElem_cons_succ, Act.put, List.setIfInBounds_toArray, List.set_cons_zero, List.set_cons_succ]
              refine wpAnyH_take (i := 10) (v := ?_) rfl (by kernel_rfl) (by kernel_rfl) (by kernel_rfl) (fun _ _ _ h => h) (Or.inl ⟨by rfl, ?_⟩) hHeld ?_
              rotate_left
              · intro w hSw; have f0 := hSw.1; have f1 := hSw.2; clear hSw; go_simp; try rfl
              simp only [List.getElem_toArray, List.getElem_cons_zero, List.getElem_cons_succ, Act.put, List.setIfInBounds_toArray, List.set_cons_zero, List.set_cons_succ]
              refine wpAnyH_ready (rs := [11]) (by kernel_rfl) (by simp) ?_
              refine AllReadyH.cons rfl (fun K hK => ?_) AllReadyH.nil
              rw [if_pos (by rfl)]
              go_simp
              refine HEQ.out.mono ?_
              rintro e w' ⟨rfl, rfl⟩
              refine hK.out _ _ hHeld (fun hHeld => ?_)
              clear hK K
              refine wpAnyH_take (i := 12) (v := ?_) rfl (by kernel_rfl) (by kernel_rfl) (by kernel_rfl) (fun _ _ _ h => h) (Or.inl ⟨by rfl, ?_⟩) hHeld ?_
              rotate_left
              · intro w hSw; clear hSw; go_simp; try rfl
              simp only [List.getElem_toArray, List.getElem_cons_zero, List.getElem_cons_succ, Act.put, List.setIfInBounds_toArray, List.set_cons_zero, List.set_cons_succ]
              refine wpAnyH_take (i := 13) (v := ?_) rfl (by kernel_rfl) (by kernel_rfl) (by kernel_rfl) (fun _ _ _ h => h) (Or.inl ⟨by rfl, ?_⟩) hHeld ?_
              rotate_left
              · intro w hSw; clear hSw; go_simp; try rfl
              simp only [List.getElem_toArray, List.getElem_cons_zero, List.getElem_cons_succ, Act.put, List.setIfInBounds_toArray, List.set_cons_zero, List.set_cons_succ]
              refine wpAnyH_take (i := 14) (v := ?_) rfl (by kernel_rfl) (by kernel_rfl) (by kernel_rfl) (fun _ _ _ h => h) (Or.inl ⟨by rfl, ?_⟩) hHeld ?_
              rotate_left
              · intro w hSw; clear hSw; go_simp; try rfl
              simp only [List.getElem_toArray, List.getElem_cons_zero, List.getElem_cons_succ, Act.put, List.setIfInBounds_toArray, List.set_cons_zero, List.set_cons_succ]
              obtain ⟨W9, hW9⟩ : ∃ W9, W.drew = W9 := ⟨_, rfl⟩
              have hb9 : Below W.heap.size W W9 := hW9 ▸ (Below.refl _ _).drew
              have hs9 : W9.heap.size = W.heap.size := by rw [← hW9]; rfl
              have hKO : KeepsOthers W W9 := by rw [← hW9]; exact ⟨Nat.le_refl _, fun _ _ h _ => h⟩
              have hKX : KX w5.heap.size X W W9 := KX.of_below hb9 hs
              have h1 : W9.heap[X]? = _ := (hb9.block X hXW).trans h1
              have h2 : OC W9 w5.heap.size v L := h2.keepB (fun k _ hk => hb9.block k hk)
              have h3 := h3.trans hKX
              have hs : w5.heap.size ≤ W9.heap.size := by omega
              have hXW : X < W9.heap.size := by omega
              have c0 : W9.cell? ⟨X, 0, none⟩ = some v := (hb9.cell (p := ⟨X, 0, none⟩) (by show X < _; omega)).trans c0
              have q0 := (hb9.cell (p := ⟨Pq, Qq, none⟩) hplq).trans q0
              have q1 := (hb9.cell (p := ⟨Pq, Qq + 1, none⟩) hplq).trans q1
              have hplq : Pq < W9.heap.size := by omega
              have HCL := Lib.hid (fun V (hb : Below W9.heap.size W9 V) => HCL.out V (hb9.trans (hb.mono hb9.size)))
              refine wpAnyH_done (by kernel_rfl) ?_ _
              rw [hW9]
              simp only [onlyK]

              gi_wp2
              exact ⟨hKO, hKX, v, h1, by rw [hnext]; exact h2, h3⟩
            · rw [if_neg hv] at hout
              rw [decide_eq_false hv] at HEQ
              have hnext := hout
              clear hout hv
              gi_wp2
              refine regionIn (S := fun V => V.cell? ⟨Pp, Qp + 1, none⟩ = some (.slice Xp mp cp) ∧ V.cell? ⟨Pq, Qq + 1, none⟩ = some (.slice Xq mq cq)) ll 3 (by kernel_rfl) (by kernel_rfl) ⟨p1, q1⟩ (fun hHeld => ?_)
              refine wpAnyH_take (i := 0) (v := ?_) rfl (by kernel_rfl) (by kernel_rfl) (by kernel_rfl) (fun _ _ _ h => h) (Or.inl ⟨by rfl, ?_⟩) hHeld ?_
              rotate_left
              · intro w hSw; have f0 := hSw.1; have f1 := hSw.2; clear hSw; go_simp; try rfl
              simp only [List.getElem_toArray, List.getElem_cons_zero, Act.put, List.setIfInBounds_toArray, List.set_cons_zero, List.set_cons_succ]
              refine wpAnyH_take (i := 1) (v := ?_) rfl (by kernel_rfl) (by kernel_rfl) (by kernel_rfl) (fun _ _ _ h => h) (Or.inl ⟨by rfl, ?_⟩) hHeld ?_
              rotate_left
              · intro w hSw; have f0 := hSw.1; have f1 := hSw.2; clear hSw; go_simp; try rfl
              simp only [List.getElem_toArray, List.getElem_cons_zero, List.getElem_cons_succ, Act.put, List.setIfInBounds_toArray, List.set_cons_zero, List.set_cons_succ]
              refine wpAnyH_take (i := 2) (v := ?_) rfl (by kernel_rfl) (by kernel_rfl) (by kernel_rfl) (fun _ _ _ h => h) (Or.inl ⟨by rfl, ?_⟩) hHeld ?_
              rotate_left
              · intro w hSw; have f0 := hSw.1; have f1 := hSw.2; clear hSw; go_simp; try rfl
              simp only [List.getElem_toArray, List.getElem_cons_zero, List.getElem_cons_succ, Act.put, List.setIfInBounds_toArray, List.set_cons_zero, List.set_cons_succ]
              refine wpAnyH_take (i := 3) (v := ?_) rfl (by kernel_rfl) (by kernel_rfl) (by kernel_rfl) (fun _ _ _ h => h) (Or.inl ⟨by rfl, ?_⟩) hHeld ?_
              rotate_left
              · intro w hSw; have f0 := hSw.1; have f1 := hSw.2; clear hSw; go_simp; try rfl
              simp only [List.getElem_toArray, List.getElem_cons_zero, List.getElem_cons_succ, Act.put, List.setIfInBounds_toArray, List.set_cons_zero, List.set_cons_succ]
              refine wpAnyH_take (i := 4) (v := ?_) rfl (by kernel_rfl) (by kernel_rfl) (by kernel_rfl) (fun _ _ _ h => h) (Or.inl ⟨by rfl, ?_⟩) hHeld ?_
              rotate_left
              · intro w hSw; have f0 := hSw.1; have f1 := hSw.2; clear hSw; go_simp; try rfl
              simp only [List.getElem_toArray, List.getElem_cons_zero, List.getElem_cons_succ, Act.put, List.setIfInBounds_toArray, List.set_cons_zero, List.set_cons_succ]
              refine wpAnyH_take (i := 5) (v := ?_) rfl (by kernel_rfl) (by kernel_rfl) (by kernel_rfl) (fun _ _ _ h => h) (Or.inl ⟨by rfl, ?_⟩) hHeld ?_
              rotate_left
              · intro w hSw; have f0 := hSw.1; have f1 := hSw.2; clear hSw; go_simp; try rfl
              simp only [List.getElem_toArray, List.getElem_cons_zero, List.getElem_cons_succ, Act.put, List.setIfInBounds_toArray, List.set_cons_zero, List.set_cons_succ]
              refine wpAnyH_take (i := 6) (v := ?_) rfl (by kernel_rfl) (by kernel_rfl) (by kernel_rfl) (fun _ _ _ h => h) (Or.inl ⟨by rfl, ?_⟩) hHeld ?_
              rotate_left
              · intro w hSw; have f0 := hSw.1; have f1 := hSw.2; clear hSw; go_simp; try rfl
              simp only [List.getElem_toArray, List.getElem_cons_zero, List.getElem_cons_succ, Act.put, List.setIfInBounds_toArray, List.set_cons_zero, List.set_cons_succ]
              refine wpAnyH_take (i := 7) (v := ?_) rfl (by kernel_rfl) (by kernel_rfl) (by kernel_rfl) (fun _ _ _ h => h) (Or.inl ⟨by rfl, ?_⟩) hHeld ?_
              rotate_left
              · intro w hSw; have f0 := hSw.1; have f1 := hSw.2; clear hSw; go_simp; try rfl
              simp only [List.getElem_toArray, List.getElem_cons_zero, List.getElem_cons_succ, Act.put, List.setIfInBounds_toArray, List.set_cons_zero, List.set_cons_succ]
              refine wpAnyH_take (i := 8) (v := ?_) rfl (by kernel_rfl) (by kernel_rfl) (by kernel_rfl) (fun _ _ _ h => h) (Or.inl ⟨by rfl, ?_⟩) hHeld ?_
              rotate_left
              · intro w hSw; have f0 := hSw.1; have f1 := hSw.2; clear hSw; go_simp; try rfl
              simp only [List.getElem_toArray, List.getElem_cons_zero, List.getElem_cons_succ, Act.put, List.setIfInBounds_toArray, List.set_cons_zero, List.set_cons_succ]
              refine wpAnyH_take (i := 9) (v := ?_) rfl (by kernel_rfl) (by kernel_rfl) (by kernel_rfl) (fun _ _ _ h => h) (Or.inl ⟨by rfl, ?_⟩) hHeld ?_
              rotate_left
              · intro w hSw; have f0 := hSw.1; have f1 := hSw.2; clear hSw; go_simp; try rfl
              simp only [List.getElem_toArray, List.getElem_cons_zero, List.getElem_cons_succ, Act.put, List.setIfInBounds_toArray, List.set_cons_zero, List.set_cons_succ]
              refine wpAnyH_take (i := 10) (v := ?_) rfl (by kernel_rfl) (by kernel_rfl) (by kernel_rfl) (fun _ _ _ h => h) (Or.inl ⟨by rfl, ?_⟩) hHeld ?_
              rotate_left
              · intro w hSw; have f0 := hSw.1; have f1 := hSw.2; clear hSw; go_simp; try rfl
              simp only [List.getElem_toArray, List.getElem_cons_zero, List.getElem_cons_succ, Act.put, List.setIfInBounds_toArray, List.set_cons_zero, List.set_cons_succ]
              refine wpAnyH_ready (rs := [11]) (by kernel_rfl) (by simp) ?_
              refine AllReadyH.cons rfl (fun K hK => ?_) AllReadyH.nil
              rw [if_pos (by rfl)]
              go_simp
              refine HEQ.out.mono ?_
              rintro e w' ⟨rfl, rfl⟩
              refine hK.out _ _ hHeld (fun hHeld => ?_)
              clear hK K
              refine wpAnyH_take (i := 12) (v := ?_) rfl (by kernel_rfl) (by kernel_rfl) (by kernel_rfl) (fun _ _ _ h => h) (Or.inl ⟨by rfl, ?_⟩) hHeld ?_
              rotate_left
              · intro w hSw; clear hSw; go_simp; try rfl
              simp only [List.getElem_toArray, List.getElem_cons_zero, List.getElem_cons_succ, Act.put, List.setIfInBounds_toArray, List.set_cons_zero, List.set_cons_succ]
              refine wpAnyH_take (i := 13) (v := ?_) rfl (by kernel_rfl) (by kernel_rfl) (by kernel_rfl) (fun _ _ _ h => h) (Or.inl ⟨by rfl, ?_⟩) hHeld ?_
              rotate_left
              · intro w hSw; clear hSw; go_simp; try rfl
              simp only [List.getElem_toArray, List.getElem_cons_zero, List.getElem_cons_succ, Act.put, List.setIfInBounds_toArray, List.set_cons_zero, List.set_cons_succ]
              refine wpAnyH_take (i := 14) (v := ?_) rfl (by kernel_rfl) (by kernel_rfl) (by kernel_rfl) (fun _ _ _ h => h) (Or.inl ⟨by rfl, ?_⟩) hHeld ?_
              rotate_left
              · intro w hSw; clear hSw; go_simp; try rfl
              simp only [List.getElem_toArray, List.getElem_cons_zero, List.getElem_cons_succ, Act.put, List.setIfInBounds_toArray, List.set_cons_zero, List.set_cons_succ]
              obtain ⟨W9, hW9⟩ : ∃ W9, W.drew = W9 := ⟨_, rfl⟩
              have hb9 : Below W.heap.size W W9 := hW9 ▸ (Below.refl _ _).drew
              have hs9 : W9.heap.size = W.heap.size := by rw [← hW9]; rfl
              have hKO : KeepsOthers W W9 := by rw [← hW9]; exact ⟨Nat.le_refl _, fun _ _ h _ => h⟩
              have hKX : KX w5.heap.size X W W9 := KX.of_below hb9 hs
              have h1 : W9.heap[X]? = _ := (hb9.block X hXW).trans h1
              have h2 : OC W9 w5.heap.size v L := h2.keepB (fun k _ hk => hb9.block k hk)
              have h3 := h3.trans hKX
              have hs : w5.heap.size ≤ W9.heap.size := by omega
              have hXW : X < W9.heap.size := by omega
              have c0 : W9.cell? ⟨X, 0, none⟩ = some v := (hb9.cell (p := ⟨X, 0, none⟩) (by show X < _; omega)).trans c0
              have q0 := (hb9.cell (p := ⟨Pq, Qq, none⟩) hplq).trans q0
              have q1 := (hb9.cell (p := ⟨Pq, Qq + 1, none⟩) hplq).trans q1
              have hplq : Pq < W9.heap.size := by omega
              have HCL := Lib.hid (fun V (hb : Below W9.heap.size W9 V) => HCL.out V (hb9.trans (hb.mono hb9.size)))
              refine wpAnyH_done (by kernel_rfl) ?_ _
              rw [hW9]
              simp only [onlyK]
              gi_wp2
              refine regionIn (S := fun V => V.cell? ⟨Pq, Qq, none⟩ = some (str kq) ∧ V.cell? ⟨Pq, Qq + 1, none⟩ = some (.slice Xq mq cq)) ll 3 (by kernel_rfl) (by kernel_rfl) ⟨q0, q1⟩ (fun hHeld => ?_)
              refine wpAnyH_take (i := 1) (v := ?_) rfl (by kernel_rfl) (by kernel_rfl) (by kernel_rfl) (fun _ _ _ h => h) (Or.inl ⟨by rfl, ?_⟩) hHeld ?_
              rotate_left
              · intro w hSw; have f0 := hSw.1; have f1 := hSw.2; clear hSw; go_simp; try rfl
              simp only [List.getElem_toArray, List.getElem_cons_zero, List.getElem_cons_succ, Act.put, List.setIfInBounds_toArray, List.set_cons_zero, List.set_cons_succ]
              refine wpAnyH_take (i := 2) (v := ?_) rfl (by kernel_rfl) (by kernel_rfl) (by kernel_rfl) (fun _ _ _ h => h) (Or.inl ⟨by rfl, ?_⟩) hHeld ?_
              rotate_left
              · intro w hSw; have f0 := hSw.1; have f1 := hSw.2; clear hSw; go_simp; try rfl
              simp only [List.getElem_toArray, List.getElem_cons_zero, List.getElem_cons_succ, Act.put, List.setIfInBounds_toArray, List.set_cons_zero, List.set_cons_succ]
              refine wpAnyH_take (i := 3) (v := ?_) rfl (by kernel_rfl) (by kernel_rfl) (by kernel_rfl) (fun _ _ _ h => h) (Or.inl ⟨by rfl, ?_⟩) hHeld ?_
              rotate_left
              · intro w hSw; have f0 := hSw.1; have f1 := hSw.2; clear hSw; go_simp; try rfl
              simp only [List.getElem_toArray, List.getElem_cons_zero, List.getElem_cons_succ, Act.put, List.setIfInBounds_toArray, List.set_cons_zero, List.set_cons_succ]
              refine wpAnyH_take (i := 4) (v := ?_) rfl (by kernel_rfl) (by kernel_rfl) (by kernel_rfl) (fun _ _ _ h => h) (Or.inl ⟨by rfl, ?_⟩) hHeld ?_
              rotate_left
              · intro w hSw; have f0 := hSw.1; have f1 := hSw.2; clear hSw; go_simp; try rfl
              simp only [List.getElem_toArray, List.getElem_cons_zero, List.getElem_cons_succ, Act.put, List.setIfInBounds_toArray, List.set_cons_zero, List.set_cons_succ]
              refine wpAnyH_take (i := 5) (v := ?_) rfl (by kernel_rfl) (by kernel_rfl) (by kernel_rfl) (fun _ _ _ h => h) (Or.inl ⟨by rfl, ?_⟩) hHeld ?_
              rotate_left
              · intro w hSw; have f0 := hSw.1; have f1 := hSw.2; clear hSw; go_simp; try rfl
              simp only [List.getElem_toArray, List.getElem_cons_zero, List.getElem_cons_succ, Act.put, List.setIfInBounds_toArray, List.set_cons_zero, List.set_cons_succ]
              refine wpAnyH_take (i := 6) (v := ?_) rfl (by kernel_rfl) (by kernel_rfl) (by kernel_rfl) (fun _ _ _ h => h) (Or.inl ⟨by rfl, ?_⟩) hHeld ?_
              rotate_left
              · intro w hSw; have f0 := hSw.1; have f1 := hSw.2; clear hSw; go_simp; try rfl
              simp only [List.getElem_toArray, List.getElem_cons_zero, List.getElem_cons_succ, Act.put, List.setIfInBounds_toArray, List.set_cons_zero, List.set_cons_succ]
              refine wpAnyH_take (i := 7) (v := ?_) rfl (by kernel_rfl) (by kernel_rfl) (by kernel_rfl) (fun _ _ _ h => h) (Or.inl ⟨by rfl, ?_⟩) hHeld ?_
              rotate_left
              · intro w hSw; have f0 := hSw.1; have f1 := hSw.2; clear hSw; go_simp; try rfl
              simp only [List.getElem_toArray, List.getElem_cons_zero, List.getElem_cons_succ, Act.put, List.setIfInBounds_toArray, List.set_cons_zero, List.set_cons_succ]
              refine wpAnyH_take (i := 8) (v := ?_) rfl (by kernel_rfl) (by kernel_rfl) (by kernel_rfl) (fun _ _ _ h => h) (Or.inl ⟨by rfl, ?_⟩) hHeld ?_
              rotate_left
              · intro w hSw; have f0 := hSw.1; have f1 := hSw.2; clear hSw; go_simp; try rfl
              simp only [List.getElem_toArray, List.getElem_cons_zero, List.getElem_cons_succ, Act.put, List.setIfInBounds_toArray, List.set_cons_zero, List.set_cons_succ]
              refine wpAnyH_ready (rs := [0, 9]) (by kernel_rfl) (by simp) ?_
              refine AllReadyH.cons rfl (fun K hK => ?_) (AllReadyH.cons rfl (fun K hK => ?_) AllReadyH.nil)
              · rw [if_pos (by rfl)]
                have xb : W9.drew.cell? ⟨X, 0, none⟩ = some v := c0
                go_simp
                refine hK.out _ _ hHeld (fun hHeld => ?_)
                clear hK K
                refine wpAnyH_ready (rs := [9]) (by kernel_rfl) (by simp) ?_
                refine AllReadyH.cons rfl (fun K hK => ?_) AllReadyH.nil
                rw [if_pos (by rfl)]
                go_simp
                refine (HCL.out _ (Below.refl _ _).drew).mono ?_
                rintro e V9 ⟨v2, rfl, ho2, hbV⟩
                obtain ⟨A2, c2, rfl, -⟩ := ho2.form
                rw [hmq] at ho2 ⊢
                have hG9 : Below W9.heap.size W9 V9 := (Below.refl _ _).drew.trans hbV
                have hbase : w5.heap.size ≤ W9.drew.heap.size := hs
                have hWd : W9.drew.heap.size = W9.heap.size := rfl
                rw [hWd] at ho2 hbase
                refine hK.out _ _ ⟨(hG9.cell (p := ⟨Pq, Qq, none⟩) hplq).trans q0, (hG9.cell (p := ⟨Pq, Qq + 1, none⟩) hplq).trans q1⟩ (fun hHeld => ?_)
                clear hK K

                refine wpAnyH_ready (rs := [10]) (by kernel_rfl) (by simp) ?_
                refine AllReadyH.cons rfl (fun K hK => ?_) AllReadyH.nil
                rw [if_pos (by rfl)]
                go_simp
                refine (HPT.out V9 A2 c2).mono ?_
                rintro e V ⟨rfl, hb10⟩
                have hG : Below W9.heap.size W9 V := hG9.trans (hb10.mono hG9.size)
                have ho10 := ho2.below hb10 (Nat.le_refl _)
                refine hK.out _ _ ⟨(hG.cell (p := ⟨Pq, Qq, none⟩) hplq).trans q0, (hG.cell (p := ⟨Pq, Qq + 1, none⟩) hplq).trans q1⟩ (fun hHeld => ?_)
                clear hK K
                have hOV := h2.keepB (w' := V) (fun k _ hk => hG.block k hk)
                have hR0 : eltO V w5.heap.size v [str kq, .slice A2 mq c2, .bool false] ⟨kq, vq, false⟩ := ⟨A2, c2, by rw [← hmq], by rw [← hmq] at ho10; exact ho10.mono hbase, fun k hk e => by
                  rw [hmq] at hk
                  have q1 := (ho2.lt k hk).1
                  have q2 := (h2.lt k e).2
                  omega⟩
                have nN := heap_alloc_new V (.cells #[str kq, .slice A2 mq c2, .bool false] 39)
                have hON := hOV.keepB (w' := V.alloc (.cells #[str kq, .slice A2 mq c2, .bool false] 39)) (fun k _ hk => Below.heap_alloc V _ k hk)
                have hRN := OC.elt_keepB (w' := V.alloc (.cells #[str kq, .slice A2 mq c2, .bool false] 39)) hR0 (fun k _ hk => Below.heap_alloc V _ k hk)
                have hGN := hG.alloc hG.size (.cells #[str kq, .slice A2 mq c2, .bool false] 39)
                have sN : (V.alloc (.cells #[str kq, .slice A2 mq c2, .bool false] 39)).heap.size = V.heap.size + 1 := by simp

                refine wpAnyH_ready (rs := [11]) (by kernel_rfl) (by simp) ?_
                refine AllReadyH.cons rfl (fun K hK => ?_) AllReadyH.nil
                rw [if_pos (by rfl)]
                go_simp
                refine hK.out _ _ ⟨(hGN.cell (p := ⟨Pq, Qq, none⟩) hplq).trans q0, (hGN.cell (p := ⟨Pq, Qq + 1, none⟩) hplq).trans q1⟩ (fun hHeld => ?_)
                clear hK K
                generalize V.alloc (.cells #[str kq, .slice A2 mq c2, .bool false] 39) = VN at *
                have hNl := hGN.size
                refine wpAnyH_ready (rs := [12]) (by kernel_rfl) (by simp) ?_
                refine AllReadyH.cons rfl (fun K hK => ?_) AllReadyH.nil
                rw [if_pos (by rfl)]
                refine wpo_apc (.tmp 50) (.tmp 61) hON (by omega) nN hRN (by omega) rfl rfl rfl ?_
                intro gg cp W7 ho7 hg7 hat7 hlt7
                have hne7 : v.ownBlock ≠ some Pq := fun e => by have := (h2.lt Pq e).1; omega
                have hneX : v.ownBlock ≠ some X := fun e => by have := (h2.lt X e).1; omega
                refine hK.out _ _ ⟨(grown_cell hg7 (by omega) hne7).trans hHeld.1, (grown_cell hg7 (by omega) hne7).trans hHeld.2⟩ (fun hHeld => ?_)
                clear hK K
                simp only [List.getElem_toArray, List.getElem_cons_zero, List.getElem_cons_succ, Act.put, List.setIfInBounds_toArray, List.set_cons_zero, List.set_cons_succ]
                have hX7 := ((hg7.block X (by omega) (fun e => hneX e.symm)).trans (hGN.block X hXW)).trans h1
                have xc : W7.cell? ⟨X, 0, none⟩ = some v := by rw [cell_of_row _ _ 0 _ _ _ hX7]; rfl
                have xf : W7.frozen? ⟨X, 0, none⟩ = false := frozen_of_rowX hX7 0
                obtain ⟨k1, k2⟩ := round_kept (u := .slice (some ⟨gg, 0, none⟩) (L.length + 1) cp) h1 hs (fun k e => OT.own_cells h2 k e) hGN hg7
                have hX8 := block_set (i := 0) hX7 (.slice (some ⟨gg, 0, none⟩) (L.length + 1) cp)
                have hO8 := ho7.keepB (w' := W7.setCell ⟨X, 0, none⟩ (.slice (some ⟨gg, 0, none⟩) (L.length + 1) cp)) (fun k hk _ => Below.heap_setCell W7 ⟨X, 0, none⟩ _ k (by show k ≠ X; omega))
                refine wpAnyH_ready (rs := [13]) (by kernel_rfl) (by simp) ?_
                refine AllReadyH.cons rfl (fun K hK => ?_) AllReadyH.nil
                rw [if_pos (by rfl)]
                go_simp
                refine hK.out _ _ ⟨(World.cell?_setCell_far W7 ⟨X, 0, none⟩ ⟨Pq, Qq, none⟩ _ (fun e => hXq e.symm)).trans hHeld.1, (World.cell?_setCell_far W7 ⟨X, 0, none⟩ ⟨Pq, Qq + 1, none⟩ _ (fun e => hXq e.symm)).trans hHeld.2⟩ (fun hHeld => ?_)
                clear hK K
                refine wpAnyH_done (by kernel_rfl) ?_ _
                exact ⟨hKO.trans k1, hKX.trans k2, _, hX8, by rw [hnext]; exact hO8, h3.trans k2⟩

              · rw [if_pos (by rfl)]
                go_simp
                refine (HCL.out _ (Below.refl _ _).drew).mono ?_
                rintro e V9 ⟨v2, rfl, ho2, hbV⟩
                obtain ⟨A2, c2, rfl, -⟩ := ho2.form
                rw [hmq] at ho2 ⊢
                have hG9 : Below W9.heap.size W9 V9 := (Below.refl _ _).drew.trans hbV
                have hbase : w5.heap.size ≤ W9.drew.heap.size := hs
                have hWd : W9.drew.heap.size = W9.heap.size := rfl
                rw [hWd] at ho2 hbase
                refine hK.out _ _ ⟨(hG9.cell (p := ⟨Pq, Qq, none⟩) hplq).trans q0, (hG9.cell (p := ⟨Pq, Qq + 1, none⟩) hplq).trans q1⟩ (fun hHeld => ?_)
                clear hK K

                have xb : V9.cell? ⟨X, 0, none⟩ = some v := (hG9.cell (p := ⟨X, 0, none⟩) hXW).trans c0
                refine wpAnyH_ready (rs := [0, 10]) (by kernel_rfl) (by simp) ?_
                refine AllReadyH.cons rfl (fun K hK => ?_) (AllReadyH.cons rfl (fun K hK => ?_) AllReadyH.nil)
                · rw [if_pos (by rfl)]
                  go_simp
                  refine hK.out _ _ hHeld (fun hHeld => ?_)
                  clear hK K

                  refine wpAnyH_ready (rs := [10]) (by kernel_rfl) (by simp) ?_
                  refine AllReadyH.cons rfl (fun K hK => ?_) AllReadyH.nil
                  rw [if_pos (by rfl)]
                  go_simp
                  refine (HPT.out V9 A2 c2).mono ?_
                  rintro e V ⟨rfl, hb10⟩
                  have hG : Below W9.heap.size W9 V := hG9.trans (hb10.mono hG9.size)
                  have ho10 := ho2.below hb10 (Nat.le_refl _)
                  refine hK.out _ _ ⟨(hG.cell (p := ⟨Pq, Qq, none⟩) hplq).trans q0, (hG.cell (p := ⟨Pq, Qq + 1, none⟩) hplq).trans q1⟩ (fun hHeld => ?_)
                  clear hK K
                  have hOV := h2.keepB (w' := V) (fun k _ hk => hG.block k hk)
                  have hR0 : eltO V w5.heap.size v [str kq, .slice A2 mq c2, .bool false] ⟨kq, vq, false⟩ := ⟨A2, c2, by rw [← hmq], by rw [← hmq] at ho10; exact ho10.mono hbase, fun k hk e => by
                    rw [hmq] at hk
                    have q1 := (ho2.lt k hk).1
                    have q2 := (h2.lt k e).2
                    omega⟩
                  have nN := heap_alloc_new V (.cells #[str kq, .slice A2 mq c2, .bool false] 39)
                  have hON := hOV.keepB (w' := V.alloc (.cells #[str kq, .slice A2 mq c2, .bool false] 39)) (fun k _ hk => Below.heap_alloc V _ k hk)
                  have hRN := OC.elt_keepB (w' := V.alloc (.cells #[str kq, .slice A2 mq c2, .bool false] 39)) hR0 (fun k _ hk => Below.heap_alloc V _ k hk)
                  have hGN := hG.alloc hG.size (.cells #[str kq, .slice A2 mq c2, .bool false] 39)
                  have sN : (V.alloc (.cells #[str kq, .slice A2 mq c2, .bool false] 39)).heap.size = V.heap.size + 1 := by simp

                  refine wpAnyH_ready (rs := [11]) (by kernel_rfl) (by simp) ?_
                  refine AllReadyH.cons rfl (fun K hK => ?_) AllReadyH.nil
                  rw [if_pos (by rfl)]
                  go_simp
                  refine hK.out _ _ ⟨(hGN.cell (p := ⟨Pq, Qq, none⟩) hplq).trans q0, (hGN.cell (p := ⟨Pq, Qq + 1, none⟩) hplq).trans q1⟩ (fun hHeld => ?_)
                  clear hK K
                  generalize V.alloc (.cells #[str kq, .slice A2 mq c2, .bool false] 39) = VN at *
                  have hNl := hGN.size
                  refine wpAnyH_ready (rs := [12]) (by kernel_rfl) (by simp) ?_
                  refine AllReadyH.cons rfl (fun K hK => ?_) AllReadyH.nil
                  rw [if_pos (by rfl)]
                  refine wpo_apc (.tmp 50) (.tmp 61) hON (by omega) nN hRN (by omega) rfl rfl rfl ?_
                  intro gg cp W7 ho7 hg7 hat7 hlt7
                  have hne7 : v.ownBlock ≠ some Pq := fun e => by have := (h2.lt Pq e).1; omega
                  have hneX : v.ownBlock ≠ some X := fun e => by have := (h2.lt X e).1; omega
                  refine hK.out _ _ ⟨(grown_cell hg7 (by omega) hne7).trans hHeld.1, (grown_cell hg7 (by omega) hne7).trans hHeld.2⟩ (fun hHeld => ?_)
                  clear hK K
                  simp only [List.getElem_toArray, List.getElem_cons_zero, List.getElem_cons_succ, Act.put, List.setIfInBounds_toArray, List.set_cons_zero, List.set_cons_succ]
                  have hX7 := ((hg7.block X (by omega) (fun e => hneX e.symm)).trans (hGN.block X hXW)).trans h1
                  have xc : W7.cell? ⟨X, 0, none⟩ = some v := by rw [cell_of_row _ _ 0 _ _ _ hX7]; rfl
                  have xf : W7.frozen? ⟨X, 0, none⟩ = false := frozen_of_rowX hX7 0
                  obtain ⟨k1, k2⟩ := round_kept (u := .slice (some ⟨gg, 0, none⟩) (L.length + 1) cp) h1 hs (fun k e => OT.own_cells h2 k e) hGN hg7
                  have hX8 := block_set (i := 0) hX7 (.slice (some ⟨gg, 0, none⟩) (L.length + 1) cp)
                  have hO8 := ho7.keepB (w' := W7.setCell ⟨X, 0, none⟩ (.slice (some ⟨gg, 0, none⟩) (L.length + 1) cp)) (fun k hk _ => Below.heap_setCell W7 ⟨X, 0, none⟩ _ k (by show k ≠ X; omega))
                  refine wpAnyH_ready (rs := [13]) (by kernel_rfl) (by simp) ?_
                  refine AllReadyH.cons rfl (fun K hK => ?_) AllReadyH.nil
                  rw [if_pos (by rfl)]
                  go_simp
                  refine hK.out _ _ ⟨(World.cell?_setCell_far W7 ⟨X, 0, none⟩ ⟨Pq, Qq, none⟩ _ (fun e => hXq e.symm)).trans hHeld.1, (World.cell?_setCell_far W7 ⟨X, 0, none⟩ ⟨Pq, Qq + 1, none⟩ _ (fun e => hXq e.symm)).trans hHeld.2⟩ (fun hHeld => ?_)
                  clear hK K
                  refine wpAnyH_done (by kernel_rfl) ?_ _
                  exact ⟨hKO.trans k1, hKX.trans k2, _, hX8, by rw [hnext]; exact hO8, h3.trans k2⟩

                · rw [if_pos (by rfl)]
                  go_simp
                  refine (HPT.out V9 A2 c2).mono ?_
                  rintro e V ⟨rfl, hb10⟩
                  have hG : Below W9.heap.size W9 V := hG9.trans (hb10.mono hG9.size)
                  have ho10 := ho2.below hb10 (Nat.le_refl _)
                  refine hK.out _ _ ⟨(hG.cell (p := ⟨Pq, Qq, none⟩) hplq).trans q0, (hG.cell (p := ⟨Pq, Qq + 1, none⟩) hplq).trans q1⟩ (fun hHeld => ?_)
                  clear hK K
                  have hOV := h2.keepB (w' := V) (fun k _ hk => hG.block k hk)
                  have hR0 : eltO V w5.heap.size v [str kq, .slice A2 mq c2, .bool false] ⟨kq, vq, false⟩ := ⟨A2, c2, by rw [← hmq], by rw [← hmq] at ho10; exact ho10.mono hbase, fun k hk e => by
                    rw [hmq] at hk
                    have q1 := (ho2.lt k hk).1
                    have q2 := (h2.lt k e).2
                    omega⟩
                  have nN := heap_alloc_new V (.cells #[str kq, .slice A2 mq c2, .bool false] 39)
                  have hON := hOV.keepB (w' := V.alloc (.cells #[str kq, .slice A2 mq c2, .bool false] 39)) (fun k _ hk => Below.heap_alloc V _ k hk)
                  have hRN := OC.elt_keepB (w' := V.alloc (.cells #[str kq, .slice A2 mq c2, .bool false] 39)) hR0 (fun k _ hk => Below.heap_alloc V _ k hk)
                  have hGN := hG.alloc hG.size (.cells #[str kq, .slice A2 mq c2, .bool false] 39)
                  have sN : (V.alloc (.cells #[str kq, .slice A2 mq c2, .bool false] 39)).heap.size = V.heap.size + 1 := by simp

                  have xb3 : V.cell? ⟨X, 0, none⟩ = some v := (hG.cell (p := ⟨X, 0, none⟩) hXW).trans c0
                  refine wpAnyH_ready (rs := [0, 11]) (by kernel_rfl) (by simp) ?_
                  refine AllReadyH.cons rfl (fun K hK => ?_) (AllReadyH.cons rfl (fun K hK => ?_) AllReadyH.nil)
                  · rw [if_pos (by rfl)]
                    go_simp
                    refine hK.out _ _ hHeld (fun hHeld => ?_)
                    clear hK K

                    refine wpAnyH_ready (rs := [11]) (by kernel_rfl) (by simp) ?_
                    refine AllReadyH.cons rfl (fun K hK => ?_) AllReadyH.nil
                    rw [if_pos (by rfl)]
                    go_simp
                    refine hK.out _ _ ⟨(hGN.cell (p := ⟨Pq, Qq, none⟩) hplq).trans q0, (hGN.cell (p := ⟨Pq, Qq + 1, none⟩) hplq).trans q1⟩ (fun hHeld => ?_)
                    clear hK K
                    generalize V.alloc (.cells #[str kq, .slice A2 mq c2, .bool false] 39) = VN at *
                    have hNl := hGN.size
                    refine wpAnyH_ready (rs := [12]) (by kernel_rfl) (by simp) ?_
                    refine AllReadyH.cons rfl (fun K hK => ?_) AllReadyH.nil
                    rw [if_pos (by rfl)]
                    refine wpo_apc (.tmp 50) (.tmp 61) hON (by omega) nN hRN (by omega) rfl rfl rfl ?_
                    intro gg cp W7 ho7 hg7 hat7 hlt7
                    have hne7 : v.ownBlock ≠ some Pq := fun e => by have := (h2.lt Pq e).1; omega
                    have hneX : v.ownBlock ≠ some X := fun e => by have := (h2.lt X e).1; omega
                    refine hK.out _ _ ⟨(grown_cell hg7 (by omega) hne7).trans hHeld.1, (grown_cell hg7 (by omega) hne7).trans hHeld.2⟩ (fun hHeld => ?_)
                    clear hK K
                    simp only [List.getElem_toArray, List.getElem_cons_zero, List.getElem_cons_succ, Act.put, List.setIfInBounds_toArray, List.set_cons_zero, List.set_cons_succ]
                    have hX7 := ((hg7.block X (by omega) (fun e => hneX e.symm)).trans (hGN.block X hXW)).trans h1
                    have xc : W7.cell? ⟨X, 0, none⟩ = some v := by rw [cell_of_row _ _ 0 _ _ _ hX7]; rfl
                    have xf : W7.frozen? ⟨X, 0, none⟩ = false := frozen_of_rowX hX7 0
                    obtain ⟨k1, k2⟩ := round_kept (u := .slice (some ⟨gg, 0, none⟩) (L.length + 1) cp) h1 hs (fun k e => OT.own_cells h2 k e) hGN hg7
                    have hX8 := block_set (i := 0) hX7 (.slice (some ⟨gg, 0, none⟩) (L.length + 1) cp)
                    have hO8 := ho7.keepB (w' := W7.setCell ⟨X, 0, none⟩ (.slice (some ⟨gg, 0, none⟩) (L.length + 1) cp)) (fun k hk _ => Below.heap_setCell W7 ⟨X, 0, none⟩ _ k (by show k ≠ X; omega))
                    refine wpAnyH_ready (rs := [13]) (by kernel_rfl) (by simp) ?_
                    refine AllReadyH.cons rfl (fun K hK => ?_) AllReadyH.nil
                    rw [if_pos (by rfl)]
                    go_simp
                    refine hK.out _ _ ⟨(World.cell?_setCell_far W7 ⟨X, 0, none⟩ ⟨Pq, Qq, none⟩ _ (fun e => hXq e.symm)).trans hHeld.1, (World.cell?_setCell_far W7 ⟨X, 0, none⟩ ⟨Pq, Qq + 1, none⟩ _ (fun e => hXq e.symm)).trans hHeld.2⟩ (fun hHeld => ?_)
                    clear hK K
                    refine wpAnyH_done (by kernel_rfl) ?_ _
                    exact ⟨hKO.trans k1, hKX.trans k2, _, hX8, by rw [hnext]; exact hO8, h3.trans k2⟩

                  · rw [if_pos (by rfl)]
                    go_simp
                    refine hK.out _ _ ⟨(hGN.cell (p := ⟨Pq, Qq, none⟩) hplq).trans q0, (hGN.cell (p := ⟨Pq, Qq + 1, none⟩) hplq).trans q1⟩ (fun hHeld => ?_)
                    clear hK K
                    generalize V.alloc (.cells #[str kq, .slice A2 mq c2, .bool false] 39) = VN at *

                    have xb2 : VN.cell? ⟨X, 0, none⟩ = some v := (hGN.cell (p := ⟨X, 0, none⟩) hXW).trans c0
                    refine wpAnyH_ready (rs := [0]) (by kernel_rfl) (by simp) ?_
                    refine AllReadyH.cons rfl (fun K hK => ?_) AllReadyH.nil
                    rw [if_pos (by rfl)]
                    go_simp
                    refine hK.out _ _ hHeld (fun hHeld => ?_)
                    clear hK K
                    have hNl := hGN.size
                    refine wpAnyH_ready (rs := [12]) (by kernel_rfl) (by simp) ?_
                    refine AllReadyH.cons rfl (fun K hK => ?_) AllReadyH.nil
                    rw [if_pos (by rfl)]
                    refine wpo_apc (.tmp 50) (.tmp 61) hON (by omega) nN hRN (by omega) rfl rfl rfl ?_
                    intro gg cp W7 ho7 hg7 hat7 hlt7
                    have hne7 : v.ownBlock ≠ some Pq := fun e => by have := (h2.lt Pq e).1; omega
                    have hneX : v.ownBlock ≠ some X := fun e => by have := (h2.lt X e).1; omega
                    refine hK.out _ _ ⟨(grown_cell hg7 (by omega) hne7).trans hHeld.1, (grown_cell hg7 (by omega) hne7).trans hHeld.2⟩ (fun hHeld => ?_)
                    clear hK K
                    simp only [List.getElem_toArray, List.getElem_cons_zero, List.getElem_cons_succ, Act.put, List.setIfInBounds_toArray, List.set_cons_zero, List.set_cons_succ]
                    have hX7 := ((hg7.block X (by omega) (fun e => hneX e.symm)).trans (hGN.block X hXW)).trans h1
                    have xc : W7.cell? ⟨X, 0, none⟩ = some v := by rw [cell_of_row _ _ 0 _ _ _ hX7]; rfl
                    have xf : W7.frozen? ⟨X, 0, none⟩ = false := frozen_of_rowX hX7 0
                    obtain ⟨k1, k2⟩ := round_kept (u := .slice (some ⟨gg, 0, none⟩) (L.length + 1) cp) h1 hs (fun k e => OT.own_cells h2 k e) hGN hg7
                    have hX8 := block_set (i := 0) hX7 (.slice (some ⟨gg, 0, none⟩) (L.length + 1) cp)
                    have hO8 := ho7.keepB (w' := W7.setCell ⟨X, 0, none⟩ (.slice (some ⟨gg, 0, none⟩) (L.length + 1) cp)) (fun k hk _ => Below.heap_setCell W7 ⟨X, 0, none⟩ _ k (by show k ≠ X; omega))
                    refine wpAnyH_ready (rs := [13]) (by kernel_rfl) (by simp) ?_
                    refine AllReadyH.cons rfl (fun K hK => ?_) AllReadyH.nil
                    rw [if_pos (by rfl)]
                    go_simp
                    refine hK.out _ _ ⟨(World.cell?_setCell_far W7 ⟨X, 0, none⟩ ⟨Pq, Qq, none⟩ _ (fun e => hXq e.symm)).trans hHeld.1, (World.cell?_setCell_far W7 ⟨X, 0, none⟩ ⟨Pq, Qq + 1, none⟩ _ (fun e => hXq e.symm)).trans hHeld.2⟩ (fun hHeld => ?_)
                    clear hK K
                    refine wpAnyH_done (by kernel_rfl) ?_ _
                    exact ⟨hKO.trans k1, hKX.trans k2, _, hX8, by rw [hnext]; exact hO8, h3.trans k2⟩


      case done =>
        rintro D xs W hD hxs ⟨v, h1, h2, h3⟩ hK
        have c0 : W.cell? ⟨X, 0, none⟩ = some v := by rw [cell_of_row _ _ 0 _ _ _ h1]; rfl
        rw [hxs, ← HAPP.out] at h2
        have h2' := OC.keepC (w' := W.putObj D (.deferred none)) h2 (fun k o hb hk hc => World.putObj_heap_other (fun e => by rw [e, hK] at hk; injection hk with hk; rw [← hk] at hc; cases hc))
        obtain ⟨A', c', rfl, hts⟩ := h2'.cs
        have hbD := (hKB W h3).trans ((belowK_b (w := w5) (n₀ := w5.heap.size) (Nat.le_refl _) W D _ (.deferred none) hD hK rfl rfl).mono hb15.size)
        gi_wp2
        refine ⟨by simp, .inl ⟨_, _, rfl, run_takeDeferred hK, ?_⟩⟩
        exact ⟨_, results_tmp2 rfl _ _ _, ⟨A', c', rfl, hts⟩, hbD⟩
      case stop =>
        rintro D c pre W _ _ h _
        exact h.elim
    · have c2' : bt.may b = false := by simpa using c2
      rw [c2'] at HM2
      have hres : bt.between a b = ([], 2) := by unfold bt.between; rw [c1, c2']; rfl
      rw [hres]
      clear hres c1 c2 c2' h hl hk1 hk2
      go_enter Try.func25, Try.ntmps25
      go_wp2_with fail
      refine HM1.out.mono ?_
      rintro e w1 ⟨rfl, hb1⟩
      go_wp2_with fail
      refine (HM2.out _ hb1).mono ?_
      rintro e w2 ⟨rfl, hb2⟩
      have hb12 := hb1.trans (hb2.mono hb1.size)
      go_wp2_with fail
      go_ret2
      exact ⟨⟨none, 0, rfl, CS.nil_ _ _ _ (by omega)⟩, hb12⟩
  · have c1' : bt.may a = false := by simpa using c1
    rw [c1'] at HM1
    have hres : bt.between a b = ([], 2) := by unfold bt.between; rw [c1']; rfl
    rw [hres]
    clear hres c1 c1' h hl hk1 hk2 HM2
    go_enter Try.func25, Try.ntmps25
    go_wp2_with fail
    refine HM1.out.mono ?_
    rintro e w1 ⟨rfl, hb1⟩
    go_wp2_with fail
    go_ret2
    exact ⟨⟨none, 0, rfl, CS.nil_ _ _ _ (by omega)⟩, hb1⟩
theorem wholeQ_any {B : Option Addr} {m d : Nat} {w : World} (b : List bt.R) (hl : TS w B m d b) (hk2 : ∀ r ∈ b, r.key.length ≤ 9223372036854775807) (hn : m ≤ 1099511627774) :
    Calls Try.prog 27 #[.slice B m d] w fun e w' => (∃ A' c', e = .returned (.tuple #[.slice A' (bt.between [] b).1.length c', .int .i64 (bt.between [] b).2]) ∧ CS w' A' (bt.between [] b).1.length c' (bt.between [] b).1) ∧ Below w.heap.size w w' := by
  have HB := Lib.hid (betweenQ_any (A := none) (n := 0) (c := 0) [] b ⟨rfl, Nat.le_refl _, by omega, fun h => by omega⟩ hl (by simp) hk2 (by omega))
  clear hl hk2
  go_enter Try.func27, Try.ntmps27
  go_wp2_with fail
  refine HB.out.mono ?_
  rintro e w1 ⟨⟨A', c', rfl, hcs⟩, hb⟩
  go_wp2_with fail
  go_ret2
  exact ⟨⟨A', c', rfl, hcs⟩, hb⟩
end Go.Proofs.Ytlchfadfbepapaa
