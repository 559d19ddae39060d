/-
  THE PROGRAM's journal, of no disk, and of none.
-/
import Derived.Test.YthddcaoolaipiaaDoorM4
namespace Go.Proofs.YthddcaoolaipiaaDoor
open Go.RowKit Go.Shelf
variable {w w' : World} {F : List Nat} {d : Value} {s : dk.St}
set_option maxHeartbeats 4000000 in
set_option maxRecDepth 100000 in
/-- the steps that write blocks and flush, whatever the disk is -/
theorem cwritten_no (dp : Option Addr) (a : Nat) (hd : d = .pointer dp) (ha : a ≤ 1048576) {A : Option Addr} {n c : Nat} {l : List dk.Blk} (hl : BlS w A n c l) (hn : n ≤ 524288) (hF : Ther w F) :
    Calls Tryd.prog 22 #[d, .int .i64 a, .slice A n c] w fun e w' => ∃ g cap fs, e = .returned (.slice (some ⟨g, 0, none⟩) (n + 1) cap) ∧
      w'.ownsRow w.heap.size 59 1 (.slice (some ⟨g, 0, none⟩) (n + 1) cap) (n + 1) (fs.map FV.val) ∧ StepsOf w' F d fs (jn.wrs a l ++ [.fl]) ∧ Below w.heap.size w w' := by
  subst hd
  obtain ⟨hz, -⟩ := zero_of_info zero_blk
  have e0 := heap_alloc_new w (.cells #[.pointer dp] 25)
  have e1 := heap_alloc_new (w.alloc (.cells #[.pointer dp] 25)) (.cells #[.int .i64 a] 3)
  have e00 := (Below.heap_alloc (w.alloc (.cells #[.pointer dp] 25)) (.cells #[.int .i64 a] 3) w.heap.size (by simp)).trans e0
  have b1 : Below w.heap.size w (w.alloc (.cells #[.pointer dp] 25)) := (Below.refl _ _).alloc (Nat.le_refl _) _
  have b2 := b1.alloc b1.size (.cells #[.int .i64 a] 3)
  rw [show (w.alloc (.cells #[.pointer dp] 25)).heap.size = w.heap.size + 1 from by simp] at e1
  obtain ⟨W2, hW2⟩ : ∃ W2, (w.alloc (.cells #[.pointer dp] 25)).alloc (.cells #[.int .i64 a] 3) = W2 := ⟨_, rfl⟩
  rw [hW2] at e1 e00 b2
  have hlt : w.heap.size + 1 < W2.heap.size := (Array.getElem?_eq_some_iff.1 e1).1
  have hl2 := hl.below b2
  have hcap := hl.cap
  have hmax := hl.max
  have hlen := hl.len
  have HWRS := Lib.hid (fun i (hi : i < l.length) => (show jn.wrs a (l.take (i + 1)) = jn.wrs a (l.take i) ++ [.wr (a + i) l[i]] from by
    rw [List.take_add_one, List.getElem?_eq_getElem hi]
    simp only [Option.toList_some]
    rw [jn.wrs_snoc, List.length_take, Nat.min_eq_left (by omega)]))
  have HLENS := Lib.hid hl.lens
  clear e0 b1 hl
  go_enter Tryd.func22, Tryd.ntmps22
  go_wp2_with fail
  go_loopw [7, 12] (fun v t wr => ∃ (i : Nat) (fs : List FV), t = .int .i64 i ∧ i ≤ n ∧ wr.ownsRow W2.heap.size 59 1 v i (fs.map FV.val) ∧ StepsOf wr F (.pointer dp) fs (jn.wrs a (l.take i)) ∧ Below W2.heap.size W2 wr) (fun _ t _ => n - (intOf t).toNat)
  case atStart => exact ⟨0, [], rfl, by omega, World.ownsRow_nil _ _ _ _, StepsOf.nil_, Below.refl _ _⟩
  case round =>
    obtain ⟨i, fs, rfl, hi, hown, hst, hb⟩ := hrel
    have hsz := hb.size
    by_cases hlt2 : i < n
    · obtain ⟨g, rfl, hgl, hr⟩ := (hl2.below hb).has (by omega)
      have hil : i < l.length := by omega
      have hrng := hr i hil
      have hxl := HLENS.out _ (List.getElem_mem hil)
      have hws := HWRS.out i hil
      generalize l[i] = x at *
      have HWS := Lib.hid hws
      clear hr hws
      have nI := (Below.heap_alloc (wr.alloc (.cells #[.int .i64 i] 3)) (.cells (dk.cells dk.zero).toArray 62) wr.heap.size (by simp)).trans (heap_alloc_new wr (.cells #[.int .i64 i] 3))
      have nB := heap_alloc_new (wr.alloc (.cells #[.int .i64 i] 3)) (.cells (dk.cells dk.zero).toArray 62)
      rw [show (wr.alloc (.cells #[.int .i64 i] 3)).heap.size = wr.heap.size + 1 from by simp] at nB
      have bA : Below wr.heap.size wr ((wr.alloc (.cells #[.int .i64 i] 3)).alloc (.cells (dk.cells dk.zero).toArray 62)) := ((Below.refl _ _).alloc (Nat.le_refl _) _).alloc (by simp) _
      obtain ⟨WA, hWA⟩ : ∃ WA, (wr.alloc (.cells #[.int .i64 i] 3)).alloc (.cells (dk.cells dk.zero).toArray 62) = WA := ⟨_, rfl⟩
      rw [hWA] at nI nB bA
      have hsA : wr.heap.size + 1 < WA.heap.size := (Array.getElem?_eq_some_iff.1 nB).1
      obtain ⟨X, hX⟩ : ∃ X, wr.heap.size = X := ⟨_, rfl⟩
      rw [hX] at nI nB bA hsA
      have hvlt := own_lt hown
      have nF : ∀ q, w.heap.size ≤ q → q ∉ F := fun q hq hm => by have := hF q hm; omega
      have E00 := Lib.hid ((hb.block _ (show w.heap.size < W2.heap.size by omega)).trans e00)
      have E1 := Lib.hid ((hb.block _ hlt).trans e1)
      go_wp2_with (first
        | refine wp_ld (.tmp 15) x hrng hxl rfl rfl rfl ?_
        | (refine wp_st0 (.tmp 9) (.tmp 16) x nB zero_len hxl rfl rfl rfl rfl ?_; intro w5 W5 c5; have b5 := bA.trans (c5.below (B := X) (by omega) (fun k hk => by simp at hk; omega)); have nI5 := (c5.block X (by omega) (by simp)).trans nI; have own5 := own_keepB (w' := w5) hown (fun k hk => b5.block k (by have := hvlt k hk; omega)); have st5 := hst.below (hX ▸ b5); have hs5 := c5.size; have all5 := st5.app (StepsOf.one (show StepOf w5 F (.pointer dp) ⟨36, #[], #[.pointer (some ⟨w.heap.size, 0, none⟩), .pointer (some ⟨w.heap.size + 1, 0, none⟩), .pointer (some ⟨X, 0, none⟩), .pointer (some ⟨X + 1, 0, none⟩)]⟩ (.wr (a + i) x) from ⟨w.heap.size, w.heap.size + 1, X, X + 1, a, i, rfl, rfl, ha, by omega, hxl, (b5.block _ (by omega)).trans E00.out, (b5.block _ (by omega)).trans E1.out, nI5, W5, nF _ (by omega), nF _ (by omega), nF _ (by omega), nF _ (by omega)⟩)); rw [← HWS.out] at all5; clear nB nI)
        | refine wp_bsf (.tmp 18) (v := .func (.func 36) #[] #[.pointer (some ⟨w.heap.size, 0, none⟩), .pointer (some ⟨w.heap.size + 1, 0, none⟩), .pointer (some ⟨X, 0, none⟩), .pointer (some ⟨X + 1, 0, none⟩)]) rfl rfl rfl rfl ?_
        | (at_builtin; refine wp_apf (.tmp 17) (.tmp 19) (m := 1) (ys := [_]) (own_alloc own5 _) (by simp; omega) (cells_new _ _ _) (by intro u hu; simp at hu; rw [hu]; rfl) rfl (by omega) (by omega) rfl rfl rfl rfl ?_; intro gg cp w7 own7 g7 at7 lt7; have all7 := (all5.below ((Below.refl _ _).alloc (Nat.le_refl _) _)).grown g7 (own_fn (own_alloc own5 _)); have hb7 := ((hb.trans (b5.mono (by omega))).alloc (by omega) _).grown g7 (by simp; omega) (fun k hk => own_base own5 k hk)))
      exact ⟨⟨i + 1, _, by go_num, by omega, by rw [List.map_append]; exact own7, all7, hb7⟩, by simp [intOf]; omega⟩
    · obtain rfl : i = n := by omega
      have htk : l.take i = l := List.take_of_length_le (by omega)
      rw [htk] at hst
      have cD : wr.cell? ⟨w.heap.size, 0, none⟩ = some (.pointer dp) := by rw [cell_of_row _ _ 0 _ _ _ ((hb.block _ (show w.heap.size < W2.heap.size by omega)).trans e00)]; rfl
      have all5 := hst.app (StepsOf.one (show StepOf wr F (.pointer dp) ⟨38, #[.pointer dp], #[]⟩ .fl from rfl))
      clear htk
      go_wp2_with (first
        | refine wp_bsf (.tmp 24) (v := .func (.func 38) #[.pointer dp] #[]) rfl rfl rfl rfl ?_
        | (at_builtin; refine wp_apf (.tmp 22) (.tmp 25) (m := 1) (ys := [_]) (own_alloc hown _) (by simp; omega) (cells_new _ _ _) (by intro u hu; simp at hu; rw [hu]; rfl) rfl (by omega) (by omega) rfl rfl rfl rfl ?_; intro gg cp w7 own7 g7 at7 lt7; have all7 := (all5.below ((Below.refl _ _).alloc (Nat.le_refl _) _)).grown g7 (own_fn (own_alloc hown _)); have hb7 := (hb.alloc (by omega) _).grown g7 (by simp; omega) (fun k hk => own_base hown k hk)))
      go_ret
      exact ⟨gg, cp, _, rfl, by rw [List.map_append]; exact ownsRow_base own7 (by omega), all7, b2.trans (hb7.mono (by omega))⟩
set_option maxHeartbeats 1000000 in
set_option maxRecDepth 100000 in
/-- steps on no disk: the first one is refused -/
theorem crun_no {g n c : Nat} {fs : List FV} {at_ : Nat} {b : dk.Blk} {L : List jn.Op} (hn : fs.length = n) (_hnc : n ≤ c) (_hc : c ≤ 9223372036854775807)
    (hrow : ∀ i (h : i < fs.length), w.cell? ⟨g, i, none⟩ = some fs[i].val) (hst : StepsOf w F d fs (.wr at_ b :: L)) (hd : ND w d) :
    Calls Tryd.prog 35 #[.slice (some ⟨g, 0, none⟩) n c] w fun e w' => e = .returned (.int .i64 1) ∧ Below w.heap.size w w' := by
  have hl : fs.length = L.length + 1 := hst.1
  have h0 := hst.2 0 (by omega) (.wr at_ b) rfl
  have hc0 := hrow 0 (by omega)
  have hen := h0.enter
  have hcall : Calls Tryd.prog fs[0].f (fs[0].first ++ fs[0].cap) w fun e w' => e = .returned (.int .i64 1) ∧ Below w.heap.size w w' := by
    obtain ⟨D, T, I, B, a, i, h1, rfl, h3, h4, h5, hD, hT, hI, hB, -⟩ := h0
    rw [h1]
    have cD : w.cell? ⟨D, 0, none⟩ = some d := by rw [cell_of_row _ _ 0 _ _ _ hD]; rfl
    have cT : w.cell? ⟨T, 0, none⟩ = some (.int .i64 a) := by rw [cell_of_row _ _ 0 _ _ _ hT]; rfl
    have cI : w.cell? ⟨I, 0, none⟩ = some (.int .i64 i) := by rw [cell_of_row _ _ 0 _ _ _ hI]; rfl
    have gB := blk_range hB
    have HW := Lib.hid (nd_write ((a : Int) + (i : Int)) b hd)
    show Calls Tryd.prog 36 #[.pointer (some ⟨D, 0, none⟩), .pointer (some ⟨T, 0, none⟩), .pointer (some ⟨I, 0, none⟩), .pointer (some ⟨B, 0, none⟩)] w _
    clear hD hT hI hB hst hrow hc0 hen h1
    rcases hd with rfl | ⟨p, rfl, -⟩
    all_goals
      go_enter Tryd.func36, Tryd.ntmps36
      go_wp2_with (refine wp_ld (.tmp 3) b gB h5 rfl rfl rfl ?_)
      refine HW.out.mono ?_
      rintro e w2 ⟨rfl, hb⟩
      go_wp2_with fail
      go_ret
      exact ⟨rfl, hb⟩
  unfold FV.val at hc0
  generalize fs[0]'(by omega) = x at *
  obtain ⟨f, first, cap⟩ := x
  have HST := Lib.hid hcall
  have hn0 : 0 < n := by omega
  clear hcall h0 hst hrow hd
  go_enter Tryd.func35, Tryd.ntmps35
  go_wp2_with fail
  go_loopw [8] (fun t wr => t = .int .i64 0 ∧ wr = w) (fun t _ => 0)
  case atStart => exact ⟨rfl, rfl⟩
  case round =>
    obtain ⟨rfl, rfl⟩ := hrel
    go_wp2_with fail
    refine HST.out.mono ?_
    rintro e w2 ⟨rfl, hb⟩
    go_wp2_with fail
    go_ret
    exact ⟨rfl, hb⟩
set_option maxHeartbeats 8000000 in
set_option maxRecDepth 100000 in
theorem cj_lay_no {p g m c gn cn at0 : Nat} {dp : Option Addr} {b0 : dk.Blk} {k : hd.H} {fs : List FV} {L : List jn.Op} (hd0 : d = .pointer dp) (hm : JM w p d k)
    (hown : w.ownsRow 0 59 1 (.slice (some ⟨g, 0, none⟩) m c) m (fs.map FV.val)) (hgp : g ≠ p) (hst : StepsOf w [] d fs (.wr at0 b0 :: L)) (hfm : fs.length = m) (hmm : m ≤ 524288)
    {a b : dk.Blk} (hnow : BlS w (some ⟨gn, 0, none⟩) 2 cn [a, b]) (hD : ND w d) (ht : Tabs w) {h : hd.H} (hok : h.Ok) (hput : (hd.put (jn.nx a b).1 h).2 = 0) :
    Calls Tryd.prog 21 #[.pointer (some ⟨p, 0, none⟩), .slice (some ⟨g, 0, none⟩) m c, .slice (some ⟨gn, 0, none⟩) 2 cn, hd.val h] w fun e w' => e = .returned (.int .i64 1) ∧ Chg w w' [g] := by
  subst hd0
  obtain ⟨hz, -⟩ := zero_of_info zero_blk
  have ha := hnow.lens a (by simp)
  have hb := hnow.lens b (by simp)
  obtain ⟨gn', egn, hgnl, hrng⟩ := hnow.has (by omega)
  injection egn with egn
  injection egn with egn _
  subst egn
  have ra := hrng 0 (by simp)
  have rb := hrng 1 (by simp)
  simp only [List.getElem_cons_zero, List.getElem_cons_succ, Nat.zero_mul, Nat.one_mul] at ra rb
  have hcn := hnow.cap
  have hcn2 := hnow.max
  have uB := Tryd.underlying62
  have iA := info_blk' ha
  have iB := info_blk' hb
  have m1 := HM.new w 51 h
  have b1 : Below w.heap.size w (w.alloc (.cells #[bv h.bank, .int .u32 h.blocks, .int .u32 h.batches] 51)) := (Below.refl _ _).alloc (Nat.le_refl _) _
  have b1d := b1.drew
  obtain ⟨W1, hW1⟩ : ∃ W1, (w.alloc (.cells #[bv h.bank, .int .u32 h.blocks, .int .u32 h.batches] 51)) = W1 := ⟨_, rfl⟩
  rw [hW1] at m1 b1 b1d
  obtain ⟨H, hH⟩ : ∃ H, w.heap.size = H := ⟨_, rfl⟩
  rw [hH] at m1
  have HNX := Lib.hid (fun W (hb' : Below w.heap.size w W) => cj_next a b ha hb W (ht.below hb'))
  have HPUT := Lib.hid (fun W (hb' : Below w.heap.size w W) => ch_put (jn.nx a b).1 (jn.nx_lt a b) h hok W (ht.below hb'))
  rw [hput] at HPUT
  have hXl := hd.put_len (jn.nx a b).1 h
  have hpos := jn.nx_pos a b
  obtain ⟨N, hN⟩ : ∃ N, (jn.nx a b).1 = N := ⟨_, rfl⟩
  obtain ⟨at_, hat⟩ : ∃ t, (jn.nx a b).2.toNat = t := ⟨_, rfl⟩
  rw [hat] at hpos
  obtain ⟨hp1, hp2⟩ := hpos
  rw [hN, hp1] at HNX
  rw [hN] at HPUT hXl
  generalize (hd.put N h).1 = X at *
  have hHw : w.heap.size ≤ H := by omega
  clear hN hat hp1 hput hrng hnow
  have S1 := b1.drew
  go_enter Tryd.func21, Tryd.ntmps21
  go_wp2_with fail
  refine wp_region_held_drew (S := fun W => W.rangeAt gn 0 (dk.cells a) ∧ W.rangeAt gn 128 (dk.cells b)) (by kernel_rfl) ⟨dk.range_below ra b1d, dk.range_below rb b1d⟩ (fun hHeld => ?_)
  refine wpAnyH_take (i := 0) (v := ?_) rfl (by kernel_rfl) (by kernel_rfl) (by kernel_rfl) (fun _ _ _ h => h) (Or.inl ⟨by rfl, ?_⟩) hHeld ?_
  rotate_left
  · intro w hSw; clear hSw; go_simp; try rfl
  simp only [List.getElem_toArray, List.getElem_cons_zero, Act.put, List.setIfInBounds_toArray, List.set_cons_zero, List.set_cons_succ]
  refine wpAnyH_take (i := 1) (v := ?_) rfl (by kernel_rfl) (by kernel_rfl) (by kernel_rfl) (fun _ _ _ h => h) (Or.inl ⟨by rfl, ?_⟩) hHeld ?_
  rotate_left
  · intro w hSw; clear hSw; go_simp; try rfl
  simp only [List.getElem_toArray, List.getElem_cons_zero, List.getElem_cons_succ, Act.put, List.setIfInBounds_toArray, List.set_cons_zero, List.set_cons_succ]
  refine wpAnyH_take (i := 2) (v := dk.val a) rfl (by kernel_rfl) (by kernel_rfl) (by kernel_rfl) (fun _ _ _ h => h) (yieldsIf_load_mid (by rfl) 62 (.tmp 16) rfl gn (0) rfl (dk.cells a) _ (fun w h => h.1) uB rfl iA) hHeld ?_
  simp only [List.getElem_toArray, List.getElem_cons_zero, List.getElem_cons_succ, Act.put, List.setIfInBounds_toArray, List.set_cons_zero, List.set_cons_succ]
  refine wpAnyH_take (i := 3) (v := ?_) rfl (by kernel_rfl) (by kernel_rfl) (by kernel_rfl) (fun _ _ _ h => h) (Or.inl ⟨by rfl, ?_⟩) hHeld ?_
  rotate_left
  · intro w hSw; clear hSw; go_simp; try rfl
  simp only [List.getElem_toArray, List.getElem_cons_zero, List.getElem_cons_succ, Act.put, List.setIfInBounds_toArray, List.set_cons_zero, List.set_cons_succ]
  refine wpAnyH_take (i := 4) (v := ?_) rfl (by kernel_rfl) (by kernel_rfl) (by kernel_rfl) (fun _ _ _ h => h) (Or.inl ⟨by rfl, ?_⟩) hHeld ?_
  rotate_left
  · intro w hSw; clear hSw; go_simp; try rfl
  simp only [List.getElem_toArray, List.getElem_cons_zero, List.getElem_cons_succ, Act.put, List.setIfInBounds_toArray, List.set_cons_zero, List.set_cons_succ]
  refine wpAnyH_take (i := 5) (v := dk.val b) rfl (by kernel_rfl) (by kernel_rfl) (by kernel_rfl) (fun _ _ _ h => h) (yieldsIf_load_mid (by rfl) 62 (.tmp 19) rfl gn (128) rfl (dk.cells b) _ (fun w h => h.2) uB rfl iB) hHeld ?_
  simp only [List.getElem_toArray, List.getElem_cons_zero, List.getElem_cons_succ, Act.put, List.setIfInBounds_toArray, List.set_cons_zero, List.set_cons_succ]
  refine wpAnyH_ready (rs := [6]) (by kernel_rfl) (by simp) ?_
  refine AllReadyH.cons rfl (fun K hK => ?_) AllReadyH.nil
  rw [if_pos (by rfl)]
  go_simp
  refine (HNX.out _ b1d).mono ?_
  rintro e w2 ⟨rfl, b2⟩
  have m2 := (HM.drew m1).below b2 (HM.drew m1).lt
  have b12 := b1d.trans (b2.mono b1d.size)
  refine hK.out _ _ ⟨dk.range_below hHeld.1 b2, dk.range_below hHeld.2 b2⟩ (fun hHeld => ?_)
  clear hK K
  refine wpAnyH_take (i := 7) (v := ?_) rfl (by kernel_rfl) (by kernel_rfl) (by kernel_rfl) (fun _ _ _ h => h) (Or.inl ⟨by rfl, ?_⟩) hHeld ?_
  rotate_left
  · intro w hSw; clear hSw; go_simp; try rfl
  simp only [List.getElem_toArray, List.getElem_cons_zero, List.getElem_cons_succ, Act.put, List.setIfInBounds_toArray, List.set_cons_zero, List.set_cons_succ]
  refine wpAnyH_take (i := 8) (v := ?_) rfl (by kernel_rfl) (by kernel_rfl) (by kernel_rfl) (fun _ _ _ h => h) (Or.inl ⟨by rfl, ?_⟩) hHeld ?_
  rotate_left
  · intro w hSw; clear hSw; go_simp; try rfl
  simp only [List.getElem_toArray, List.getElem_cons_zero, List.getElem_cons_succ, Act.put, List.setIfInBounds_toArray, List.set_cons_zero, List.set_cons_succ]
  refine wpAnyH_take (i := 9) (v := ?_) rfl (by kernel_rfl) (by kernel_rfl) (by kernel_rfl) (fun _ _ _ h => h) (Or.inl ⟨by rfl, ?_⟩) hHeld ?_
  rotate_left
  · intro w hSw; clear hSw; go_simp; try rfl
  simp only [List.getElem_toArray, List.getElem_cons_zero, List.getElem_cons_succ, Act.put, List.setIfInBounds_toArray, List.set_cons_zero, List.set_cons_succ]
  refine wpAnyH_take (i := 10) (v := ?_) rfl (by kernel_rfl) (by kernel_rfl) (by kernel_rfl) (fun _ _ _ h => h) (Or.inl ⟨by rfl, ?_⟩) hHeld ?_
  rotate_left
  · intro w hSw; clear hSw; go_simp; try rfl
  simp only [List.getElem_toArray, List.getElem_cons_zero, List.getElem_cons_succ, Act.put, List.setIfInBounds_toArray, List.set_cons_zero, List.set_cons_succ]
  refine wpAnyH_take (i := 11) (v := ?_) rfl (by kernel_rfl) (by kernel_rfl) (by kernel_rfl) (fun _ _ _ h => h) (Or.inl ⟨by rfl, ?_⟩) hHeld ?_
  rotate_left
  · intro w hSw; clear hSw; go_simp; try rfl
  simp only [List.getElem_toArray, List.getElem_cons_zero, List.getElem_cons_succ, Act.put, List.setIfInBounds_toArray, List.set_cons_zero, List.set_cons_succ]
  refine wpAnyH_done (by kernel_rfl) ?_ _
  clear HNX b1 b1d S1 m1 hW1 b2 hHeld
  go_wp2_with (refine wp_ldh (.tmp 7) h m2 rfl rfl rfl ?_)
  refine (HPUT.out w2 b12).mono ?_
  rintro e w3 ⟨rfl, b3⟩
  have b13 := b12.trans (b3.mono b12.size)
  have m3 := m2.below b3 m2.lt
  have n3 := heap_alloc_new w3 (.cells (dk.cells dk.zero).toArray 62)
  obtain ⟨X3, hX3⟩ : ∃ X, w3.heap.size = X := ⟨_, rfl⟩
  rw [hX3] at n3
  clear HPUT b12 m2
  go_wp2_with (refine wp_st0 (.tmp 11) (.tmp 28) X n3 zero_len hXl rfl rfl rfl rfl ?_; intro w4 n4 c4; rw [← hX3] at c4; have b4 := new_chg c4; have b14 := b13.trans (b4.mono b13.size); have m4 := m3.below b4 m3.lt; clear n3 m3)
  have hX3l : w.heap.size ≤ X3 := by have := b13.size; omega
  have b14d := b14.drew
  have hm4 : JM w4.drew p (.pointer dp) k := hm.below b14d hm.lt
  have n4d : w4.drew.heap[X3]? = some (.cells (dk.cells X).toArray 62 (0, 0)) := n4
  have m4d := HM.drew m4
  have iX := info_blk' hXl
  have own4 := own_keepB (w' := w4.drew) hown (fun k' hk' => b14d.block k' (own_lt hown k' hk'))
  have st4 := hst.below b14d
  have hF4 : Ther w4.drew [] := fun x hx => by simp at hx
  clear n4 m4 c4 b4 b14 b13 b3 hX3 hH
  refine wp_region_held_drew (S := fun W => JM W p (.pointer dp) k ∧ W.heap[X3]? = some (.cells (dk.cells X).toArray 62 (0, 0))) (by kernel_rfl) ⟨hm4, n4d⟩ (fun hHeld => ?_)
  generalize w4.drew = wd at *
  refine wpAnyH_take (i := 0) (v := ?_) rfl (by kernel_rfl) (by kernel_rfl) (by kernel_rfl) (fun _ _ _ h => h) (Or.inl ⟨by rfl, ?_⟩) hHeld ?_
  rotate_left
  · intro w hSw; clear hSw; go_simp; try rfl
  simp only [List.getElem_toArray, List.getElem_cons_zero, Act.put, List.setIfInBounds_toArray, List.set_cons_zero, List.set_cons_succ]
  refine wpAnyH_take (i := 1) (v := ?_) rfl (by kernel_rfl) (by kernel_rfl) (by kernel_rfl) (fun _ _ _ h => h) (Or.inl ⟨by rfl, ?_⟩) hHeld ?_
  rotate_left
  · intro w hSw; clear hSw; go_simp; try rfl
  simp only [List.getElem_toArray, List.getElem_cons_zero, List.getElem_cons_succ, Act.put, List.setIfInBounds_toArray, List.set_cons_zero, List.set_cons_succ]
  refine wpAnyH_take (i := 2) (v := ?_) rfl (by kernel_rfl) (by kernel_rfl) (by kernel_rfl) (fun _ _ _ h => h) (Or.inl ⟨by rfl, ?_⟩) hHeld ?_
  rotate_left
  · intro w hSw; clear hSw; go_simp; try rfl
  simp only [List.getElem_toArray, List.getElem_cons_zero, List.getElem_cons_succ, Act.put, List.setIfInBounds_toArray, List.set_cons_zero, List.set_cons_succ]
  refine wpAnyH_take (i := 3) (v := ?_) rfl (by kernel_rfl) (by kernel_rfl) (by kernel_rfl) (fun _ _ _ h => h) (Or.inl ⟨by rfl, ?_⟩) hHeld ?_
  rotate_left
  · intro w hSw; clear hSw; go_simp; try rfl
  simp only [List.getElem_toArray, List.getElem_cons_zero, List.getElem_cons_succ, Act.put, List.setIfInBounds_toArray, List.set_cons_zero, List.set_cons_succ]
  refine wpAnyH_take (i := 4) (v := ?_) rfl (by kernel_rfl) (by kernel_rfl) (by kernel_rfl) (fun _ _ _ h => h) (Or.inl ⟨by rfl, ?_⟩) hHeld ?_
  rotate_left
  · intro w hSw; have c0 := hSw.1.c0; clear hSw; go_simp; try rfl
  simp only [List.getElem_toArray, List.getElem_cons_zero, List.getElem_cons_succ, Act.put, List.setIfInBounds_toArray, List.set_cons_zero, List.set_cons_succ]
  refine wpAnyH_take (i := 5) (v := ?_) rfl (by kernel_rfl) (by kernel_rfl) (by kernel_rfl) (fun _ _ _ h => h) (Or.inl ⟨by rfl, ?_⟩) hHeld ?_
  rotate_left
  · intro w hSw; clear hSw; go_simp; try rfl
  simp only [List.getElem_toArray, List.getElem_cons_zero, List.getElem_cons_succ, Act.put, List.setIfInBounds_toArray, List.set_cons_zero, List.set_cons_succ]
  refine wpAnyH_take (i := 6) (v := dk.val X) rfl (by kernel_rfl) (by kernel_rfl) (by kernel_rfl) (fun _ _ _ h => h) (yieldsIf_load_mid (by rfl) 62 (.tmp 11) rfl X3 (0) rfl (dk.cells X) _ (fun w h => (blk_range h.2)) uB rfl iX) hHeld ?_
  simp only [List.getElem_toArray, List.getElem_cons_zero, List.getElem_cons_succ, Act.put, List.setIfInBounds_toArray, List.set_cons_zero, List.set_cons_succ]
  refine wpAnyH_ready (rs := [7]) (by kernel_rfl) (by simp) ?_
  refine AllReadyH.cons rfl (fun K hK => ?_) AllReadyH.nil
  rw [if_pos (by rfl)]
  refine wpo_bs1 (.tmp 38) X hXl rfl rfl ?_
  have hlX := (Array.getElem?_eq_some_iff.1 hHeld.2).1
  refine hK.out _ _ ⟨hHeld.1.below ((Below.refl _ _).alloc (Nat.le_refl _) _) hHeld.1.lt, (Below.heap_alloc _ _ _ hlX).trans hHeld.2⟩ (fun hHeld => ?_)
  clear hK K
  simp only [List.getElem_toArray, List.getElem_cons_zero, List.getElem_cons_succ, Act.put, List.setIfInBounds_toArray, List.set_cons_zero, List.set_cons_succ]
  have rw5 := heap_alloc_new wd (.cells (dk.cells X).toArray 62)
  have b5 : Below wd.heap.size wd (wd.alloc (.cells (dk.cells X).toArray 62)) := (Below.refl _ _).alloc (Nat.le_refl _) _
  obtain ⟨w5, hw5⟩ : ∃ w5, wd.alloc (.cells (dk.cells X).toArray 62) = w5 := ⟨_, rfl⟩
  rw [hw5] at rw5 b5 hHeld ⊢
  have hbls : BlS w5 (some ⟨wd.heap.size, 0, none⟩) 1 1 [X] := RowBl.bls (l := [X]) (show w5.heap[_]? = _ by rw [rw5]; simp [dk.cellsS]) (by simp; exact hXl) rfl (by omega)
  refine wpAnyH_ready (rs := [8]) (by kernel_rfl) (by simp) ?_
  refine AllReadyH.cons rfl (fun K hK => ?_) AllReadyH.nil
  rw [if_pos (by rfl)]
  go_simp
  refine (cwritten_no dp at_ rfl (by omega) hbls (by omega) (hF4.mono b5.size)).mono ?_
  rintro e w6 ⟨g2, cap2, fs2, rfl, own2, st2, b6⟩
  have b56 := b5.trans (b6.mono b5.size)
  have hm6 := hHeld.1.below b6 hHeld.1.lt
  have n6 := (b6.block X3 (Array.getElem?_eq_some_iff.1 hHeld.2).1).trans hHeld.2
  refine hK.out _ _ ⟨hm6, n6⟩ (fun hHeld => ?_)
  clear hK K
  have own6 := own_keepB (w' := w6) own4 (fun k' hk' => b56.block k' (own_lt own4 k' hk'))
  have st6 := st4.below b56
  have hl2 : fs2.length = 2 := st2.1
  refine wpAnyH_ready (rs := [9]) (by kernel_rfl) (by simp) ?_
  refine AllReadyH.cons rfl (fun K hK => ?_) AllReadyH.nil
  rw [if_pos (by rfl)]
  refine wpo_apf (.tmp 32) (.tmp 40) (m := 2) (ys := fs2.map FV.val) own6 (by omega) (fun j u hj => by
    have hj2 : j < 2 := by
      have := (List.getElem?_eq_some_iff.1 hj).1
      rwa [List.length_map, hl2] at this
    rw [own2.cellAt j (by omega)]
    exact hj) (by intro u hu; obtain ⟨y, _, rfl⟩ := List.mem_map.1 hu; rfl) (by rw [List.length_map, hl2]) (by omega) (by omega) rfl rfl rfl ?_
  intro g3 cap3 w7 own7 g7 at7 lt7
  rw [← List.map_append] at own7
  have c67 := Chg.grown g7
  have st7 := (st6.app st2).grown g7 (own_fn own6)
  have hgX : g ≠ X3 := fun e => by
    have := own_lt hown g rfl
    omega
  have hm7 := hm6.chg c67 (by simp [Value.ownBlock]; exact fun e => hgp e.symm)
  have n7 := (c67.block X3 (Array.getElem?_eq_some_iff.1 n6).1 (by simp [Value.ownBlock]; exact fun e => hgX e.symm)).trans n6
  refine hK.out _ _ ⟨hm7, n7⟩ (fun hHeld => ?_)
  clear hK K
  refine wpAnyH_take (i := 10) (v := ?_) rfl (by kernel_rfl) (by kernel_rfl) (by kernel_rfl) (fun _ _ _ h => h) (Or.inl ⟨by rfl, ?_⟩) hHeld ?_
  rotate_left
  · intro w hSw; clear hSw; go_simp; try rfl
  simp only [List.getElem_toArray, List.getElem_cons_zero, List.getElem_cons_succ, Act.put, List.setIfInBounds_toArray, List.set_cons_zero, List.set_cons_succ]
  refine wpAnyH_done (by kernel_rfl) ?_ _
  have hD6 := (hD.below b14d).below b56
  have hD7 : ND w7 (.pointer dp) := by
    rcases hD6 with h6 | ⟨y, h6, h7⟩
    · exact .inl h6
    · exact .inr ⟨y, h6, (c67.block y (Array.getElem?_eq_some_iff.1 h7).1 (by
        simp only [Value.ownBlock, Option.toList_some, List.mem_singleton]
        intro e
        obtain ⟨cs, h8⟩ := own_fn own6 g rfl
        rw [e, h8] at h7
        have h9 := Option.some.inj h7
        simp only [Obj.cells.injEq] at h9
        exact absurd h9.2.1 (by decide))).trans h7⟩
  obtain ⟨hcap1, hcap2⟩ : m + 2 ≤ cap3 ∧ cap3 ≤ 9223372036854775807 := by
    rcases own7.2 with ⟨e, _⟩ | ⟨_, _, _, e, _, _, h1, h2, _⟩
    · cases e
    · injection e with _ _ e
      subst e
      exact ⟨h1, by rw [maxLen_eq] at h2; exact h2⟩
  have hlen7 : (fs ++ fs2).length = m + 2 := by rw [List.length_append, hfm, hl2]
  have hrow7 : ∀ i (hi : i < (fs ++ fs2).length), w7.cell? ⟨g3, i, none⟩ = some (fs ++ fs2)[i].val := fun i hi => by
    rw [own7.cellAt i (by omega), List.getElem?_map, List.getElem?_eq_getElem hi]
    rfl
  have hrun := crun_no hlen7 hcap1 hcap2 hrow7 st7 hD7
  have HRUN := Lib.hid hrun
  have c47 : Chg wd w7 [g] := (Chg.of_below b56 [g]).trans c67 (fun x hx => .inl hx)
  have hc07 : Chg w w7 [g] := (Chg.of_below b14d [g]).trans c47 (Sub.refl _ _)
  have hw7 : w.heap.size ≤ w7.heap.size := hc07.size
  clear hrun hD6 hD7 own7 own6 own4 own2 st7 st6 st4 st2 g7 hrow7 hHeld n7 n6 n4d hm4 hm6 b5 b6 b56 c47 c67 rw5 hw5 hbls m4d lt7 hlen7 at7
  go_wp2_with fail
  refine HRUN.out.mono ?_
  rintro e w8 ⟨rfl, b8⟩
  clear HRUN
  go_wp2_with fail
  go_ret
  exact ⟨rfl, hc07.trans (Chg.of_below b8 [g]) (Sub.refl _ _)⟩
set_option maxHeartbeats 4000000 in
set_option maxRecDepth 100000 in
theorem cn_make (hD : ND w d) (ht : Tabs w) : Calls Tryd.prog 7 #[d] w fun e w' => e = .returned (.tuple #[.pointer none, .int .i64 1]) ∧ Below w.heap.size w w' := by
  obtain ⟨dp, rfl⟩ : ∃ dp, d = .pointer dp := by
    rcases hD with e | ⟨p, e, _⟩
    · exact ⟨_, e⟩
    · exact ⟨_, e⟩
  obtain ⟨i0, hi0, hz0, hs0, hb0⟩ := info_parts5 info_blk3'
  have hmk := fun W => run_make (P := Tryd.prog) W 45 62 i0 _ Tryd.underlying45 hi0 hz0 .i64 .i64 (2 : Int) (2 : Int) (by omega) (by omega) (by rw [hb0]; omega) (by omega)
  rw [hs0] at hmk
  simp only [show Int.toNat 2 = 2 from rfl, made_blocks] at hmk
  obtain ⟨C, hC⟩ : ∃ C, (dk.cellsS (List.replicate 2 dk.zero)).toArray = C := ⟨_, rfl⟩
  rw [hC] at hmk
  have r1 := heap_alloc_new w (.cells #[.pointer dp, Value.int .u8 0, .int .u32 0, .int .u32 0] 53)
  have b1 : Below w.heap.size w (w.alloc (.cells #[.pointer dp, Value.int .u8 0, .int .u32 0, .int .u32 0] 53)) := (Below.refl _ _).alloc (Nat.le_refl _) _
  have r2 := heap_alloc_new (w.alloc (.cells #[.pointer dp, Value.int .u8 0, .int .u32 0, .int .u32 0] 53)) (.cells C 62)
  have b2 := b1.alloc b1.size (.cells C 62)
  have r12 := (Below.heap_alloc (w.alloc (.cells #[.pointer dp, Value.int .u8 0, .int .u32 0, .int .u32 0] 53)) (.cells C 62) w.heap.size (by simp)).trans r1
  rw [show (w.alloc (.cells #[.pointer dp, Value.int .u8 0, .int .u32 0, .int .u32 0] 53)).heap.size = w.heap.size + 1 from by simp] at r2
  obtain ⟨W2, hW2⟩ : ∃ W2, (w.alloc (.cells #[.pointer dp, Value.int .u8 0, .int .u32 0, .int .u32 0] 53)).alloc (.cells C 62) = W2 := ⟨_, rfl⟩
  rw [hW2] at r2 b2 r12
  have hrow := row_two W2 (w.heap.size + 1) C hC r2
  have hnow : BlS W2 (some ⟨w.heap.size + 1, 0, none⟩) 2 2 [dk.zero, dk.zero] := RowBl.bls hrow (by intro x hx; simp at hx; rw [hx]; rfl) rfl (by omega)
  have hm2 : JM W2 w.heap.size (.pointer dp) hd.zero := r12
  have hD2 := hD.below b2
  have hlt2 : w.heap.size + 1 < W2.heap.size := hrow.lt
  have hwr := cwritten_no (F := []) dp 0 rfl (by omega) hnow (by omega) (fun x hx => by simp at hx)
  rw [Int.natCast_zero] at hwr
  have HWR := Lib.hid hwr
  clear hwr
  have HLAY := Lib.hid (fun (w3 : World) (g c : Nat) (fs : List FV) (hb : Below W2.heap.size W2 w3) (hown : w3.ownsRow W2.heap.size 59 1 (.slice (some ⟨g, 0, none⟩) 3 c) 3 (fs.map FV.val)) (hst : StepsOf w3 [] (.pointer dp) fs (jn.wrs 0 [dk.zero, dk.zero] ++ [.fl])) =>
    cj_lay_no (h := hd.zero) (b0 := dk.zero) (L := jn.wrs 1 [dk.zero] ++ [.fl]) rfl (hm2.below hb hm2.lt) (ownsRow_base hown (Nat.zero_le _)) (by have := own_base hown g rfl; omega) hst (hst.1.trans rfl) (by omega) (hnow.below hb) (hD2.below hb) (ht.below (b2.trans (hb.mono b2.size))) hd.zero_ok (by
      rw [jn.next_ok_zero, jn.newest_zero]
      rfl))
  clear hC hD2 r1 r2 r12 hrow hnow hm2 b1 hD
  go_enter Tryd.func7, Tryd.ntmps7
  go_wp2_with fail
  refine HWR.out.mono ?_
  rintro e w3 ⟨g, c, fs, rfl, own3, st3, b3⟩
  have hLY := HLAY.out w3 g c fs b3 own3 st3
  have HLY := Lib.hid hLY
  have b23 := b2.trans (b3.mono b2.size)
  have hg3 := own_base own3 g rfl
  clear HLAY HWR hLY own3 st3
  go_wp2_with fail
  refine HLY.out.mono ?_
  rintro e w4 ⟨rfl, c4⟩
  clear HLY
  go_wp2_with fail
  go_ret2
  exact ⟨rfl, b23.trans (c4.below (B := w.heap.size) b23.size (fun x hx => by simp at hx; omega))⟩
set_option maxHeartbeats 4000000 in
set_option maxRecDepth 100000 in
theorem cn_open (hD : ND w d) : Calls Tryd.prog 14 #[d] w fun e w' => e = .returned (.tuple #[.pointer none, .int .i64 1]) ∧ Below w.heap.size w w' := by
  obtain ⟨dp, rfl⟩ : ∃ dp, d = .pointer dp := by
    rcases hD with e | ⟨p, e, _⟩
    · exact ⟨_, e⟩
    · exact ⟨_, e⟩
  have HREAD := Lib.hid (cj_read_no (w := w) (.pointer dp) 0 2 (by omega) (by omega) (by omega) 1 (by decide) (fun W hb => (nd_read 0 (hD.below hb)).mono (by
    rintro e w' ⟨h1, h2⟩
    exact ⟨_, rfl, h1, h2⟩)))
  clear hD
  go_enter Tryd.func14, Tryd.ntmps14
  go_wp2_with fail
  refine HREAD.out.mono ?_
  rintro e w2 ⟨rfl, b2⟩
  clear HREAD
  go_wp2_with fail
  go_ret2
  exact ⟨rfl, b2⟩
/-- no journal, or one of 0s -/
def NJ (w : World) (j : Value) : Prop := j = .pointer none ∨ ∃ g, j = .pointer (some ⟨g, 0, none⟩) ∧ w.heap[g]? = some (.cells #[.pointer none, .int .u8 0, .int .u32 0, .int .u32 0] 53 (0, 0))
variable {j : Value}
theorem NJ.below (h : NJ w j) (hb : Below w.heap.size w w') : NJ w' j := h.imp id fun ⟨g, e, h⟩ => ⟨g, e, (hb.block g (Array.getElem?_eq_some_iff.1 h).1).trans h⟩
theorem cn_none (h : NJ w j) : Calls Tryd.prog 24 #[j] w fun e w' => e = .returned (.bool true) ∧ w = w' := by
  rcases h with rfl | ⟨p, rfl, hp⟩
  · go_enter Tryd.func24, Tryd.ntmps24
    go_wp2_with fail
    go_ret
    exact ⟨rfl, rfl⟩
  · have c0 : w.cell? ⟨p, 0, none⟩ = some (.pointer none) := by rw [cell_of_row _ _ 0 _ _ _ hp]; rfl
    go_enter Tryd.func24, Tryd.ntmps24
    go_wp2_with fail
    go_ret
    exact ⟨rfl, rfl⟩
set_option maxRecDepth 100000 in
theorem cn_append (h : NJ w j) (A : Option Addr) (n c : Nat) : Calls Tryd.prog 10 #[j, .slice A n c] w fun e w' => e = .returned (.int .i64 1) ∧ Below w.heap.size w w' := by
  have HN := Lib.hid (cn_none h)
  obtain ⟨jp, rfl⟩ : ∃ jp, j = .pointer jp := by
    rcases h with e | ⟨p, e, _⟩
    · exact ⟨_, e⟩
    · exact ⟨_, e⟩
  clear h
  go_enter Tryd.func10, Tryd.ntmps10
  go_wp2_with fail
  refine HN.out.mono ?_
  rintro e w1 ⟨rfl, rfl⟩
  go_wp2_with fail
  go_ret
  exact ⟨rfl, Below.refl _ _⟩
set_option maxRecDepth 100000 in
theorem cn_replace (h : NJ w j) (A : Option Addr) (n c : Nat) : Calls Tryd.prog 9 #[j, .slice A n c] w fun e w' => e = .returned (.int .i64 1) ∧ Below w.heap.size w w' := by
  have HN := Lib.hid (cn_none h)
  obtain ⟨jp, rfl⟩ : ∃ jp, j = .pointer jp := by
    rcases h with e | ⟨p, e, _⟩
    · exact ⟨_, e⟩
    · exact ⟨_, e⟩
  clear h
  go_enter Tryd.func9, Tryd.ntmps9
  go_wp2_with fail
  refine HN.out.mono ?_
  rintro e w1 ⟨rfl, rfl⟩
  go_wp2_with fail
  go_ret
  exact ⟨rfl, Below.refl _ _⟩
set_option maxRecDepth 100000 in
theorem cn_batches (h : NJ w j) : Calls Tryd.prog 16 #[j] w fun e w' => ∃ A c, e = .returned (.slice A 0 c) ∧ Below w.heap.size w w' := by
  have HN := Lib.hid (cn_none h)
  obtain ⟨jp, rfl⟩ : ∃ jp, j = .pointer jp := by
    rcases h with e | ⟨p, e, _⟩
    · exact ⟨_, e⟩
    · exact ⟨_, e⟩
  clear h
  go_enter Tryd.func16, Tryd.ntmps16
  go_wp2_with fail
  refine HN.out.mono ?_
  rintro e w1 ⟨rfl, rfl⟩
  go_wp2_with fail
  go_ret
  exact ⟨none, 0, rfl, Below.refl _ _⟩
set_option maxRecDepth 100000 in
theorem cn_room (h : NJ w j) : Calls Tryd.prog 18 #[j] w fun e w' => e = .returned (.int .i64 0) ∧ Below w.heap.size w w' := by
  have HN := Lib.hid (cn_none h)
  obtain ⟨jp, rfl⟩ : ∃ jp, j = .pointer jp := by
    rcases h with e | ⟨p, e, _⟩
    · exact ⟨_, e⟩
    · exact ⟨_, e⟩
  clear h
  go_enter Tryd.func18, Tryd.ntmps18
  go_wp2_with fail
  refine HN.out.mono ?_
  rintro e w1 ⟨rfl, rfl⟩
  go_wp2_with fail
  go_ret
  exact ⟨rfl, Below.refl _ _⟩
set_option maxRecDepth 100000 in
theorem cn_head (h : NJ w j) : Calls Tryd.prog 20 #[j] w fun e w' => e = .returned (hd.val hd.zero) ∧ Below w.heap.size w w' := by
  obtain ⟨hzh, -⟩ := zero_of_info info_head
  have n1 := HM.new w 51 hd.zero
  have b1 : Below w.heap.size w (w.alloc (.cells #[bv hd.zero.bank, .int .u32 hd.zero.blocks, .int .u32 hd.zero.batches] 51)) := (Below.refl _ _).alloc (Nat.le_refl _) _
  obtain ⟨W1, hW1⟩ : ∃ W1, w.alloc (.cells #[bv hd.zero.bank, .int .u32 hd.zero.blocks, .int .u32 hd.zero.batches] 51) = W1 := ⟨_, rfl⟩
  rw [hW1] at n1 b1
  have HN := Lib.hid (cn_none (h.below b1))
  obtain ⟨jp, rfl⟩ : ∃ jp, j = .pointer jp := by
    rcases h with e | ⟨p, e, _⟩
    · exact ⟨_, e⟩
    · exact ⟨_, e⟩
  clear h
  go_enter Tryd.func20, Tryd.ntmps20
  go_wp2_with fail
  refine HN.out.mono ?_
  rintro e w1 ⟨rfl, rfl⟩
  clear hW1 HN
  go_wp2_with (refine wp_sth (.tmp 2) (.tmp 5) hd.zero hd.zero n1 rfl rfl rfl rfl ?_; intro w2 n2 c2)
  exact bodyPost_ret (results_cell rfl rfl (head_load n2)) rfl ⟨rfl, b1.trans (c2.below (B := w.heap.size) b1.size (fun x hx => by simp at hx; omega))⟩
end Go.Proofs.YthddcaoolaipiaaDoor

/-
  cardexlaw07's walks: JournalNil. (jzero: the zero cells of the landed journal's struct.)
-/
namespace Go.Proofs.YthddcaoolaipiaaDoor
open Go.RowKit
/-- the cells of a journal.Journal of 0s (the landed struct's) -/
def jzero : Array Value := #[.pointer none, .int .u8 0, .int .u32 0, .int .u32 0]
abbrev ND7 (w : World) (d : Value) : Prop := ND w d
variable {w w' : World} {d j : Value}
theorem nj_make (h : ND7 w d) (ht : Tabs w) : Calls Tryd.prog 7 #[d] w fun e w' => e = .returned (.tuple #[.pointer none, .int .i64 1]) ∧ Below w.heap.size w w' := cn_make h ht
theorem nj_open (h : ND7 w d) : Calls Tryd.prog 14 #[d] w fun e w' => e = .returned (.tuple #[.pointer none, .int .i64 1]) ∧ Below w.heap.size w w' := cn_open h
theorem nj_append (h : NJ w j) (A : Option Addr) (n c : Nat) (b : List UInt8) (_ : BS w A n c b) : Calls Tryd.prog 10 #[j, .slice A n c] w fun e w' => e = .returned (.int .i64 1) ∧ Below w.heap.size w w' := cn_append h A n c
theorem nj_replace (h : NJ w j) (A : Option Addr) (n c : Nat) (b : List UInt8) (_ : BS w A n c b) : Calls Tryd.prog 9 #[j, .slice A n c] w fun e w' => e = .returned (.int .i64 1) ∧ Below w.heap.size w w' := cn_replace h A n c
theorem nj_batches (h : NJ w j) : Calls Tryd.prog 16 #[j] w fun e w' => ∃ A c, e = .returned (.slice A 0 c) ∧ Below w.heap.size w w' := cn_batches h
theorem nj_room (h : NJ w j) : Calls Tryd.prog 18 #[j] w fun e w' => e = .returned (.int .i64 0) ∧ Below w.heap.size w w' := cn_room h
theorem nj_head (h : NJ w j) : Calls Tryd.prog 20 #[j] w fun e w' => e = .returned (hd.val hd.zero) ∧ Below w.heap.size w w' := cn_head h
set_option maxHeartbeats 4000000 in
set_option maxRecDepth 100000 in
theorem walk_JournalNil (A : Option Addr) (n c : Nat) (b : List UInt8) (z : Bool) (w : World) (h : BS w A n c b) (_ : n ≤ 140737488351232) (ht : Tabs w) :
    Calls Tryd.prog 5 #[.slice A n c, .bool z] w fun e w' => e = .returned (.bool true) ∧ Below w.heap.size w w' := by
  obtain ⟨hzh, -⟩ := zero_of_info info_head
  have E1 := eq_head hd.zero hd.zero hd.zero_ok hd.zero_ok
  rw [decide_eq_true rfl] at E1
  have a1 := (Below.refl w.heap.size w).alloc (Nat.le_refl _) (.cells #[.slice none 0 0, .slice none 0 0, .int .i64 0, .bool false, .int .i64 0] 48)
  have a2 := a1.alloc a1.size (.cells jzero 53)
  have D1 : ND7 (w.alloc (.cells #[.slice none 0 0, .slice none 0 0, .int .i64 0, .bool false, .int .i64 0] 48)) (.pointer (some ⟨w.heap.size, 0, none⟩)) := .inr ⟨_, rfl, heap_alloc_new w _⟩
  have D2 := D1.below ((Below.refl _ _).alloc (Nat.le_refl _) (.cells jzero 53))
  have N2 : NJ ((w.alloc (.cells #[.slice none 0 0, .slice none 0 0, .int .i64 0, .bool false, .int .i64 0] 48)).alloc (.cells jzero 53)) (.pointer (some ⟨w.heap.size + 1, 0, none⟩)) := .inr ⟨_, rfl, by rw [← World.size_alloc w (.cells #[.slice none 0 0, .slice none 0 0, .int .i64 0, .bool false, .int .i64 0] 48)]; exact heap_alloc_new _ _⟩
  have D0 : ND7 w (.pointer none) := .inl rfl
  have N0 : NJ w (.pointer none) := .inl rfl
  simp only [jzero] at D2 a2
  unfold jzero at N2
  have hB2 := h.below a2
  cases z
  all_goals
    go_enter Tryd.func5, Tryd.ntmps5
    go_wp2_with fail
  · skip
    have L := Below.refl w.heap.size w
    have D := D0
    have N := N0
    have Bs := h
    clear D0 N0 D1 D2 N2 a1 a2
    clear hB2 hzh
    refine (nj_make D (ht.below L)).mono ?_
    rintro e w1 ⟨rfl, b1⟩
    have L1 := L.trans (b1.mono L.size)
    have D1 := D.below b1
    have N1 := N.below b1
    have B1 := Bs.below b1
    clear D N Bs b1
    go_wp2_with fail
    refine (nj_open D1).mono ?_
    rintro e w2 ⟨rfl, b2⟩
    have L2 := L1.trans (b2.mono L1.size)
    have N2 := N1.below b2
    have B2 := B1.below b2
    clear D1 N1 B1 b2
    go_wp2_with fail
    refine (nj_append N2 A n c b B2).mono ?_
    rintro e w3 ⟨rfl, b3⟩
    have L3 := L2.trans (b3.mono L2.size)
    have N3 := N2.below b3
    have B3 := B2.below b3
    clear N2 B2 b3
    go_wp2_with fail
    refine (nj_replace N3 A n c b B3).mono ?_
    rintro e w4 ⟨rfl, b4⟩
    have L4 := L3.trans (b4.mono L3.size)
    have N4 := N3.below b4
    clear N3 B3 b4
    go_wp2_with fail
    refine (nj_batches N4).mono ?_
    rintro e w5 ⟨A5, c5, rfl, b5⟩
    have L5 := L4.trans (b5.mono L4.size)
    have N5 := N4.below b5
    clear N4 b5
    go_wp2_with fail
    refine (nj_room N5).mono ?_
    rintro e w6 ⟨rfl, b6⟩
    have L6 := L5.trans (b6.mono L5.size)
    have N6 := N5.below b6
    clear N5 b6
    go_wp2_with fail
    refine (nj_head N6).mono ?_
    rintro e w7 ⟨rfl, b7⟩
    have L7 := L6.trans (b7.mono L6.size)
    clear N6 b7
    go_wp2_with fail
    refine (lives07_any _ (ht.below L7)).mono ?_
    rintro e w8 ⟨rfl, b8⟩
    go_wp2_with fail
    go_ret
    exact ⟨rfl, L7.trans (b8.mono L7.size)⟩
  · skip
    have L := a2
    have D := D2
    have N := N2
    have Bs := hB2
    clear D0 N0 D1 D2 N2 a1 a2
    clear hB2 hzh
    generalize (w.alloc (.cells #[.slice none 0 0, .slice none 0 0, .int .i64 0, .bool false, .int .i64 0] 48)).alloc (.cells #[.pointer none, .int .u8 0, .int .u32 0, .int .u32 0] 53) = W2 at *
    refine (nj_make D (ht.below L)).mono ?_
    rintro e w1 ⟨rfl, b1⟩
    have L1 := L.trans (b1.mono L.size)
    have D1 := D.below b1
    have N1 := N.below b1
    have B1 := Bs.below b1
    clear D N Bs b1
    go_wp2_with fail
    refine (nj_open D1).mono ?_
    rintro e w2 ⟨rfl, b2⟩
    have L2 := L1.trans (b2.mono L1.size)
    have N2 := N1.below b2
    have B2 := B1.below b2
    clear D1 N1 B1 b2
    go_wp2_with fail
    refine (nj_append N2 A n c b B2).mono ?_
    rintro e w3 ⟨rfl, b3⟩
    have L3 := L2.trans (b3.mono L2.size)
    have N3 := N2.below b3
    have B3 := B2.below b3
    clear N2 B2 b3
    go_wp2_with fail
    refine (nj_replace N3 A n c b B3).mono ?_
    rintro e w4 ⟨rfl, b4⟩
    have L4 := L3.trans (b4.mono L3.size)
    have N4 := N3.below b4
    clear N3 B3 b4
    go_wp2_with fail
    refine (nj_batches N4).mono ?_
    rintro e w5 ⟨A5, c5, rfl, b5⟩
    have L5 := L4.trans (b5.mono L4.size)
    have N5 := N4.below b5
    clear N4 b5
    go_wp2_with fail
    refine (nj_room N5).mono ?_
    rintro e w6 ⟨rfl, b6⟩
    have L6 := L5.trans (b6.mono L5.size)
    have N6 := N5.below b6
    clear N5 b6
    go_wp2_with fail
    refine (nj_head N6).mono ?_
    rintro e w7 ⟨rfl, b7⟩
    have L7 := L6.trans (b7.mono L6.size)
    clear N6 b7
    go_wp2_with fail
    refine (lives07_any _ (ht.below L7)).mono ?_
    rintro e w8 ⟨rfl, b8⟩
    go_wp2_with fail
    go_ret
    exact ⟨rfl, L7.trans (b8.mono L7.size)⟩
end Go.Proofs.YthddcaoolaipiaaDoor
