/-
  THE DOCUMENT's Get: a batch that is read.
-/
import Derived.Test.YtlchfadfbepapaaBatchC
import Derived.Test.YtlchfadfbepapaaBatchM2
import Derived.Test.YtlchfadfbepapaaBatchG2
import Derived.Test.YtlchfadfbepapaaFoot
import Derived.Deep.RegionHeldLaw
import Derived.Deep.WholeRow
namespace Go.Proofs.Ytlchfadfbepapaa
open Go.RowKit
theorem getRow_most {b : List UInt8} {a most : Int} (hm : 0 ≤ most) : ((getRowR b a most).1.length : Int) ≤ most := by
  unfold getRowR
  simp only
  split
  · simp; omega
  · split
    · simp; omega
    · split
      · simp; omega
      · simp only [List.length_take]
        omega
theorem getRow_back8 {b : List UInt8} {a : Nat} {most : Int} (h : (getRowR b a most).2.2 = 0) : (getRowR b a most).2.1 = ((a + 4 + (getRowR b a most).1.length : Nat) : Int) ∧ a + 4 + (getRowR b a most).1.length ≤ b.length :=
  ⟨(bt.getRow_back h).1, (bt.getRow_back h).2.1⟩
theorem zero_chg : (Try.prog.info? 39).map (fun i => (i.zero, i.size)) = some (some (.agg #[str [], .slice none 0 0, .bool false]), 3) := by kernel_rfl
namespace bt
theorem getN_zero (b : List UInt8) (a : Nat) (acc : List C) : getN b 0 a acc = if a = b.length then (acc, 0) else ([], 5) := rfl
theorem getN_next (b : List UInt8) (n a : Nat) (acc : List C) : getN b (n + 1) a acc = if (one b a).1 ≠ 0 then ([], (one b a).1) else if mayC (acc ++ [(one b a).2.1]) then getN b n (one b a).2.2 (acc ++ [(one b a).2.1]) else ([], 5) := rfl
theorem one_k {b : List UInt8} {a : Nat} (h : (getRowR b a 16).2.2 ≠ 0) : one b a = ((getRowR b a 16).2.2, default, 0) := by
  unfold one
  simp only [if_pos h]
theorem one_end {b : List UInt8} {a M : Nat} (h0 : (getRowR b a 16).2.2 = 0) (h1 : (getRowR b a 16).2.1 = M) (h : M = b.length) : one b a = (4, default, 0) := by
  unfold one
  simp only
  rw [if_neg (by simpa using h0), if_pos (by rw [h1]; exact_mod_cast h)]
theorem one_form {b : List UInt8} {a M : Nat} (h0 : (getRowR b a 16).2.2 = 0) (h1 : (getRowR b a 16).2.1 = M) (h : M ≠ b.length) (hx : 1 < b.getD M 0) : one b a = (5, default, 0) := by
  unfold one
  simp only
  rw [h1, Int.toNat_natCast, if_neg (by simpa using h0), if_neg (by exact_mod_cast h), if_pos hx]
theorem one_gone {b : List UInt8} {a M : Nat} (h0 : (getRowR b a 16).2.2 = 0) (h1 : (getRowR b a 16).2.1 = M) (h : M ≠ b.length) (hx : b.getD M 0 = 1) : one b a = (0, ⟨(getRowR b a 16).1, [], true⟩, M + 1) := by
  unfold one
  simp only
  rw [h1, Int.toNat_natCast, if_neg (by simpa using h0), if_neg (by exact_mod_cast h), if_neg (by rw [hx]; decide), if_pos hx]
theorem one_val {b : List UInt8} {a M : Nat} (h0 : (getRowR b a 16).2.2 = 0) (h1 : (getRowR b a 16).2.1 = M) (h : M ≠ b.length) (hx : b.getD M 0 = 0) : one b a = if (getRowR b ((M + 1 : Nat) : Int) 1048576).2.2 ≠ 0 then ((getRowR b ((M + 1 : Nat) : Int) 1048576).2.2, default, 0) else (0, ⟨(getRowR b a 16).1, (getRowR b ((M + 1 : Nat) : Int) 1048576).1, false⟩, (getRowR b ((M + 1 : Nat) : Int) 1048576).2.1.toNat) := by
  unfold one
  simp only
  rw [h1, Int.toNat_natCast, if_neg (by simpa using h0), if_neg (by exact_mod_cast h), if_neg (by rw [hx]; decide), if_neg (by rw [hx]; decide)]
end bt
theorem keys_snoc {acc : List bt.C} {y : bt.C} (h : ∀ r ∈ acc, r.key.length ≤ 16) (hy : y.key.length ≤ 16) : ∀ r ∈ acc ++ [y], r.key.length ≤ 16 := by
  intro r hr
  rcases List.mem_append.1 hr with hr | hr
  · exact h r hr
  · rw [List.mem_singleton] at hr
    rw [hr]
    exact hy
theorem own_same {e : TypeId} {w w' : World} {base : Nat} {v : Value} {l : List UInt8} (h : OwnB e w base v l) (hk : ∀ k, base ≤ k → k < w.heap.size → w'.heap[k]? = w.heap[k]?) : OwnB e w' base v l := by
  rcases h with hn | ⟨g, r, a, b, c2, d⟩
  · exact .inl hn
  · exact .inr ⟨g, r, a, b, (hk g b (Array.getElem?_eq_some_iff.1 c2).1).trans c2, d⟩
theorem chg8 {w W W' : World} {X : Nat} (hb : Below w.heap.size w W) (hX : w.heap.size ≤ X) (c : Chg W W' [X]) : Below w.heap.size w W' :=
  ⟨c.os.trans hb.os, c.tape.trans hb.tape, c.output.trans hb.output, Nat.le_trans hb.size c.size, fun k hk => (c.block k (Nat.lt_of_lt_of_le hk hb.size) (by simp; omega)).trans (hb.block k hk)⟩
set_option maxHeartbeats 4000000 in
set_option maxRecDepth 100000 in
theorem rget8_any (A : Option Addr) (n c : Nat) (b : List UInt8) (w : World) (h : BS w A n c b) (hn : n ≤ 140737488355320) : Calls Try.prog 18 #[.slice A n c] w fun e w' =>
    ∃ v, e = .returned (.tuple #[v, .int .i64 (bt.get b).2]) ∧ OC w' w.heap.size v (bt.get b).1 ∧ Below w.heap.size w w' := by
  obtain ⟨hzc, -⟩ := zero_of_info zero_chg
  have hlen := h.len
  have hcap := h.cap
  have HG := Lib.hid (fun W (g : BS W A n c b) => rget_any A n c b 0 4 W g)
  obtain ⟨q, hq⟩ : ∃ q, (getR b 0 4).1 = q := ⟨_, rfl⟩
  obtain ⟨g, hg⟩ : ∃ g, (getR b 0 4).2 = g := ⟨_, rfl⟩
  rw [hq, hg] at HG
  have H1 := Lib.hid h
  clear h
  by_cases h0 : g = 0
  · have h0' : (g != 0) = false := by simp [h0]
    have hgq : getR b 0 4 = (q, 0) := Prod.ext hq (hg.trans h0)
    obtain ⟨-, h4, hq32⟩ := getR_ok4 hgq
    have hres : bt.get b = bt.getN b q 4 [] := by
      unfold bt.get
      rw [hgq]
      simp
    obtain ⟨R, hR⟩ : ∃ R, bt.get b = R := ⟨_, rfl⟩
    rw [hR] at hres ⊢
    have HR0 := Lib.hid hres
    clear hres hR hgq hq hg h0
    go_enter Try.func18, Try.ntmps18
    go_wp2_with fail
    refine (HG.out _ H1.out).mono ?_
    rintro e w1 ⟨rfl, rfl⟩
    clear HG
    go_wp2_with fail
    go_loopw [6, 7, 8] (fun at_ lv t wr => ∃ (i a : Nat) (acc : List bt.C), t = .int .u64 i ∧ i ≤ q ∧ at_ = .int .i64 a ∧ a ≤ n ∧ acc.length = i ∧ Hid (R = bt.getN b (q - i) a acc) ∧ Hid (∀ r ∈ acc, r.key.length ≤ 16) ∧ OC wr w.heap.size lv acc ∧ Below w.heap.size w wr) (fun _ _ t _ => q - (intOf t).toNat)
    case atStart => exact ⟨0, 4, [], rfl, by omega, rfl, by omega, rfl, by rw [Nat.sub_zero]; exact HR0, Lib.hid (by simp), OC.nil_ _ _, Below.refl _ _⟩
    case round =>
      clear HR0
      obtain ⟨i, a, acc, rfl, hiq, rfl, han, hal, HR, HK, hO, hb⟩ := hrel
      by_cases hi : i < q
      · have hi' : (i : Int) < (q : Int) := by omega
        have hnx := HR.out
        rw [show q - i = (q - (i + 1)) + 1 from by omega, bt.getN_next] at hnx
        have hrow := rgetRow_any A n c b a 16 wr (H1.out.below hb) hn
        have hback := getRow_back8 (b := b) (a := a) (most := 16)
        have hmost := getRow_most (b := b) (a := a) (most := 16) (by omega)
        have hk := bt.one_k (b := b) (a := a)
        have hend := fun M => bt.one_end (b := b) (a := a) (M := M)
        have hform := fun M => bt.one_form (b := b) (a := a) (M := M)
        have hgone := fun M => bt.one_gone (b := b) (a := a) (M := M)
        have hval := fun M => bt.one_val (b := b) (a := a) (M := M)
        obtain ⟨kb, hkb⟩ : ∃ e, (getRowR b a 16).1 = e := ⟨_, rfl⟩
        obtain ⟨nx, hnxx⟩ : ∃ e, (getRowR b a 16).2.1 = e := ⟨_, rfl⟩
        obtain ⟨er, her⟩ : ∃ e, (getRowR b a 16).2.2 = e := ⟨_, rfl⟩
        unfold RowEnd at hrow
        rw [hkb, hnxx, her] at hrow
        rw [hkb] at hmost
        rw [hkb, hnxx, her] at hback
        rw [her] at hk
        simp only [hnxx, her] at hend
        simp only [hnxx, her] at hform
        simp only [hkb, hnxx, her] at hgone
        simp only [hkb, hnxx, her] at hval
        have HROW := Lib.hid hrow
        clear hrow hkb hnxx her
        by_cases he : er = 0
        · have he' : (er != 0) = false := by simp [he]
          obtain ⟨hM1, hM2⟩ := hback he
          have hkl := hmost
          obtain ⟨M, hM⟩ : ∃ M, a + 4 + kb.length = M := ⟨_, rfl⟩
          rw [hM] at hM1 hM2
          subst hM1
          have hend := hend M he rfl
          have hform := hform M he rfl
          have hgone := hgone M he rfl
          have hval := hval M he rfl
          rw [hlen] at hend hform hgone hval
          rw [hlen] at hM2
          by_cases hMn : M = n
          · have hMn' : ((M : Int) == (n : Int)) = true := by simp [hMn]
            rw [hend hMn, if_pos (by simp)] at hnx
            have HX := Lib.hid hnx
            clear hnx hend hform hgone hval hk hback hmost hMn he
            go_wp2_with fail
            refine HROW.out.mono ?_
            rintro e w4 ⟨v4, rfl, o4, b4⟩
            have hb4 := hb.trans (b4.mono hb.size)
            go_wp2_with fail
            go_ret2
            exact ⟨_, by rw [HX.out]; rfl, by rw [HX.out]; exact OC.nil_ _ _, hb4⟩
          · have hMn' : ((M : Int) == (n : Int)) = false := by rw [beq_eq_false_iff_ne]; omega
            have hMl : M < n := by omega
            have hform := hform hMn
            have hgone := hgone hMn
            have hval := hval hMn
            have HNX := Lib.hid hnx
            have HEND := Lib.hid hform
            have HGONE := Lib.hid hgone
            have HVAL := Lib.hid hval
            clear hnx hend hform hgone hval hk hback hmost he
            go_wp2_with fail
            refine HROW.out.mono ?_
            rintro e w4 ⟨v4, rfl, o4, b4⟩
            have hb4 := hb.trans (b4.mono hb.size)
            have hO4 := hO.below b4 (Nat.le_refl _)
            have hd4 := hb4.drew
            obtain ⟨gb, go, rfl, hgl, hcell⟩ := H1.out.has (by omega)
            have hcM := hcell M (by omega)
            obtain ⟨x, hx⟩ : ∃ x, b[M] = x := ⟨_, rfl⟩
            rw [hx] at hcM
            have hxD : b.getD M 0 = x := by rw [List.getD_eq_getElem?_getD, List.getElem?_eq_getElem (by omega)]; exact hx
            rw [hxD] at HEND HGONE HVAL
            have hcd := (hd4.cell (p := ⟨gb, go + M, none⟩) hgl).trans hcM
            obtain ⟨A4, c4, rfl, hB4⟩ := o4.form
            have hB4d := hB4.drew
            go_wp2_with fail
            refine wp_region_held_drew (S := fun W => W.cell? ⟨gb, go + M, none⟩ = some (bv x) ∧ BS W A4 kb.length c4 kb) (by kernel_rfl) ⟨hcd, hB4d⟩ (fun hHeld => ?_)
            refine wpAnyH_take (i := 0) (v := ?_) rfl (by kernel_rfl) (by kernel_rfl) (by kernel_rfl) (fun _ _ _ h => h) (Or.inl ⟨by rfl, ?_⟩) hHeld ?_
            rotate_left
            · intro w hSw; have k1 := hSw.1; have k2 := run_convert_bs (P := Try.prog) hSw.2 24 5 9 Try.underlying24 Try.underlying5 Try.underlying9; clear hSw; go_simp; try rfl
            simp only [List.getElem_toArray, List.getElem_cons_zero, Act.put, List.setIfInBounds_toArray, List.set_cons_zero, List.set_cons_succ]
            refine wpAnyH_take (i := 1) (v := ?_) rfl (by kernel_rfl) (by kernel_rfl) (by kernel_rfl) (fun _ _ _ h => h) (Or.inl ⟨by rfl, ?_⟩) hHeld ?_
            rotate_left
            · intro w hSw; have k1 := hSw.1; have k2 := run_convert_bs (P := Try.prog) hSw.2 24 5 9 Try.underlying24 Try.underlying5 Try.underlying9; clear hSw; go_simp; try rfl
            simp only [List.getElem_toArray, List.getElem_cons_zero, List.getElem_cons_succ, Act.put, List.setIfInBounds_toArray, List.set_cons_zero, List.set_cons_succ]
            refine wpAnyH_take (i := 2) (v := ?_) rfl (by kernel_rfl) (by kernel_rfl) (by kernel_rfl) (fun _ _ _ h => h) (Or.inl ⟨by rfl, ?_⟩) hHeld ?_
            rotate_left
            · intro w hSw; have k1 := hSw.1; have k2 := run_convert_bs (P := Try.prog) hSw.2 24 5 9 Try.underlying24 Try.underlying5 Try.underlying9; clear hSw; go_simp; try rfl
            simp only [List.getElem_toArray, List.getElem_cons_zero, List.getElem_cons_succ, Act.put, List.setIfInBounds_toArray, List.set_cons_zero, List.set_cons_succ]
            refine wpAnyH_take (i := 3) (v := ?_) rfl (by kernel_rfl) (by kernel_rfl) (by kernel_rfl) (fun _ _ _ h => h) (Or.inl ⟨by rfl, ?_⟩) hHeld ?_
            rotate_left
            · intro w hSw; have k1 := hSw.1; have k2 := run_convert_bs (P := Try.prog) hSw.2 24 5 9 Try.underlying24 Try.underlying5 Try.underlying9; clear hSw; go_simp; try rfl
            simp only [List.getElem_toArray, List.getElem_cons_zero, List.getElem_cons_succ, Act.put, List.setIfInBounds_toArray, List.set_cons_zero, List.set_cons_succ]
            refine wpAnyH_take (i := 4) (v := ?_) rfl (by kernel_rfl) (by kernel_rfl) (by kernel_rfl) (fun _ _ _ h => h) (Or.inl ⟨by rfl, ?_⟩) hHeld ?_
            rotate_left
            · intro w hSw; have k1 := hSw.1; have k2 := run_convert_bs (P := Try.prog) hSw.2 24 5 9 Try.underlying24 Try.underlying5 Try.underlying9; clear hSw; go_simp; try rfl
            simp only [List.getElem_toArray, List.getElem_cons_zero, List.getElem_cons_succ, Act.put, List.setIfInBounds_toArray, List.set_cons_zero, List.set_cons_succ]
            refine wpAnyH_take (i := 5) (v := ?_) rfl (by kernel_rfl) (by kernel_rfl) (by kernel_rfl) (fun _ _ _ h => h) (Or.inl ⟨by rfl, ?_⟩) hHeld ?_
            rotate_left
            · intro w hSw; have k1 := hSw.1; have k2 := run_convert_bs (P := Try.prog) hSw.2 24 5 9 Try.underlying24 Try.underlying5 Try.underlying9; clear hSw; go_simp; try rfl
            simp only [List.getElem_toArray, List.getElem_cons_zero, List.getElem_cons_succ, Act.put, List.setIfInBounds_toArray, List.set_cons_zero, List.set_cons_succ]
            refine wpAnyH_take (i := 6) (v := ?_) rfl (by kernel_rfl) (by kernel_rfl) (by kernel_rfl) (fun _ _ _ h => h) (Or.inl ⟨by rfl, ?_⟩) hHeld ?_
            rotate_left
            · intro w hSw; have k1 := hSw.1; have k2 := run_convert_bs (P := Try.prog) hSw.2 24 5 9 Try.underlying24 Try.underlying5 Try.underlying9; clear hSw; go_simp; try rfl
            simp only [List.getElem_toArray, List.getElem_cons_zero, List.getElem_cons_succ, Act.put, List.setIfInBounds_toArray, List.set_cons_zero, List.set_cons_succ]
            refine wpAnyH_take (i := 7) (v := ?_) rfl (by kernel_rfl) (by kernel_rfl) (by kernel_rfl) (fun _ _ _ h => h) (Or.inl ⟨by rfl, ?_⟩) hHeld ?_
            rotate_left
            · intro w hSw; have k1 := hSw.1; have k2 := run_convert_bs (P := Try.prog) hSw.2 24 5 9 Try.underlying24 Try.underlying5 Try.underlying9; clear hSw; go_simp; try rfl
            simp only [List.getElem_toArray, List.getElem_cons_zero, List.getElem_cons_succ, Act.put, List.setIfInBounds_toArray, List.set_cons_zero, List.set_cons_succ]
            refine wpAnyH_ready (rs := [8]) (by kernel_rfl) (by simp) ?_
            refine AllReadyH.cons rfl (fun K hK => ?_) AllReadyH.nil
            rw [if_pos (by rfl)]
            go_simp
            have b5 : Below w4.heap.size w4 (w4.alloc (.cells #[str [], .slice none 0 0, .bool false] 39)).drew := ((Below.refl _ _).alloc (Nat.le_refl _) _).drew
            have m5 : (w4.alloc (.cells #[str [], .slice none 0 0, .bool false] 39)).drew.heap[w4.heap.size]? = some (.cells #[str [], .slice none 0 0, .bool false] 39) := heap_alloc_new w4 _
            have hs4 := hb4.size
            refine hK.out _ _ ⟨(b5.cell (p := ⟨gb, go + M, none⟩) (by show gb < _; omega)).trans hHeld.1, hB4.below b5⟩ (fun hHeld => ?_)
            clear hK K
            generalize (w4.alloc (.cells #[str [], .slice none 0 0, .bool false] 39)).drew = W5 at *
            refine wpAnyH_ready (rs := [9]) (by kernel_rfl) (by simp) ?_
            refine AllReadyH.cons rfl (fun K hK => ?_) AllReadyH.nil
            rw [if_pos (by rfl)]
            have hth := there_of (cs := [str [], .slice none 0 0, .bool false]) m5 0 3 (by simp)
            refine wp_store_mid 39 (.tmp 12) (.tmp 47) rfl w4.heap.size 0 #[str kb, .slice none 0 0, .bool ((x.toNat : Int) == 1)] rfl rfl hth rfl (by simp [Value.oneCell']) ?_
            have m6 := block_sets [str kb, .slice none 0 0, .bool ((x.toNat : Int) == 1)] 0 [str [], .slice none 0 0, .bool false] W5 m5 (by simp)
            have c6 := Chg.setCells w4.heap.size [str kb, .slice none 0 0, .bool ((x.toNat : Int) == 1)] 0 W5
            have b6 : Below w4.heap.size w4 _ := chg8 b5 (Nat.le_refl _) c6
            have e6 : (#[str kb, .slice none 0 0, .bool ((x.toNat : Int) == 1)] : Array Value).toList = [str kb, .slice none 0 0, .bool ((x.toNat : Int) == 1)] := rfl
            rw [e6]
            have m6' : (W5.setCells w4.heap.size 0 [str kb, .slice none 0 0, .bool ((x.toNat : Int) == 1)]).heap[w4.heap.size]? = some (.cells #[str kb, .slice none 0 0, .bool ((x.toNat : Int) == 1)] 39) := by simpa using m6
            generalize W5.setCells w4.heap.size 0 [str kb, .slice none 0 0, .bool ((x.toNat : Int) == 1)] = W6 at *
            refine hK.out _ _ ⟨(b6.cell (p := ⟨gb, go + M, none⟩) (by show gb < _; omega)).trans (hd4.cell (p := ⟨gb, go + M, none⟩) hgl |>.trans hcM), hB4.below b6⟩ (fun hHeld => ?_)
            clear hK K
            simp only [Act.put]
            refine wpAnyH_done (by kernel_rfl) ?_ _
            have hb6 := hb4.trans (b6.mono hb4.size)
            have hO6 := hO4.below b6 (Nat.le_refl _)
            have hcM6 := (hb6.cell (p := ⟨gb, go + M, none⟩) hgl).trans hcM
            have hX6 : w4.heap.size < W6.heap.size := (Array.getElem?_eq_some_iff.1 m6').1
            clear hHeld m6 c6 e6 b5 m5 hth hd4 hcd hB4d hB4 o4 b4 hcell
            have hkl2 : kb.length ≤ 16 := by omega
            by_cases hx1 : 1 < x
            · have hgt : (1 : Int) < (x.toNat : Int) := by have := UInt8.lt_iff_toNat_lt.1 hx1; simp at this; omega
              have hnx := HNX.out
              rw [HEND.out hx1, if_pos (by simp)] at hnx
              have HX := Lib.hid hnx
              clear hnx HNX HEND HGONE HVAL HROW
              go_wp2_with fail
              go_ret2
              exact ⟨_, by rw [HX.out]; rfl, by rw [HX.out]; exact OC.nil_ _ _, hb6⟩
            · have hgt : ¬ (1 : Int) < (x.toNat : Int) := by
                intro hc
                apply hx1
                rw [UInt8.lt_iff_toNat_lt]
                simp
                omega
              by_cases hx2 : x = 1
              · have hgn : ((x.toNat : Int) == 1) = true := by rw [hx2]; rfl
                rw [hgn] at m6'
                have hnx := HNX.out
                rw [HGONE.out hx2, if_neg (by simp)] at hnx
                have hnx2 : R = if bt.mayC (acc ++ [⟨kb, [], true⟩]) = true then bt.getN b (q - (i + 1)) (M + 1) (acc ++ [⟨kb, [], true⟩]) else ([], 5) := hnx
                have hE6 : eltO W6 w.heap.size u7 [str kb, .slice none 0 0, .bool true] ⟨kb, [], true⟩ := ⟨none, 0, rfl, OwnB.nil_ _ _ _, fun k hk => by simp [Value.ownBlock] at hk⟩
                have hc2 := (cell_of_row _ _ 2 _ _ _ m6').trans (by rfl : _ = some (.bool true))
                have m8 := m6'
                have hO8 := hO6
                have hE8 := hE6
                have hb8 := hb6
                clear hnx HNX HEND HGONE HVAL HROW hO6 hE6 m6'
                have c0 := (cell_of_row _ _ 0 _ _ _ m8).trans (by rfl : _ = some (str kb))
                have c1 := (cell_of_row _ _ 1 _ _ _ m8).trans (by rfl : _ = some (.slice none 0 0))
                have c2 := (cell_of_row _ _ 2 _ _ _ m8).trans (by rfl : _ = some (.bool true))
                have hal8 := hb8.alloc hb8.size (.cells #[str kb, .slice none 0 0, .bool true] 39)
                have hn8 := heap_alloc_new W6 (.cells #[str kb, .slice none 0 0, .bool true] 39)
                have hO9 := hO8.alloc (.cells #[str kb, .slice none 0 0, .bool true] 39)
                have hE9 := OC.elt_keep (w' := W6.alloc (.cells #[str kb, .slice none 0 0, .bool true] 39)) hE8 (fun k hk => Below.heap_alloc W6 _ k hk)
                clear hO8 hE8 m8
                go_wp2_with (at_builtin; refine wp_apo (.tmp 69) (.tmp 71) hO9 hal8.size hn8 hE9 (by omega) rfl rfl rfl rfl ?_; intro gg cp w9 hO10 hg9 hat9 hgl9; have hb9 := Below.grown hal8 hg9 hal8.size (fun k hk => (hO9.lt k hk).1); obtain ⟨A10, c10, he10, hC10⟩ := hO10.cs; injection he10 with he1 he2 he3; subst he1 he3)
                rw [List.length_append, List.length_singleton, hal] at hC10
                refine (rmayC_any _ _ _ _ w9 hC10 (fun r hr => Nat.le_trans (keys_snoc HK.out hkl2 r hr) (by omega))).mono ?_
                rintro e w10 ⟨rfl, b10⟩
                have hb10 := hb9.trans (b10.mono hb9.size)
                have hO11 := hO10.below b10 (Nat.le_refl _)
                rw [hal] at hO11
                have HK2 : Hid (∀ r ∈ acc ++ [⟨kb, [], true⟩], r.key.length ≤ 16) := Lib.hid (keys_snoc HK.out hkl2)
                obtain ⟨mm, hmm⟩ : ∃ m, bt.mayC (acc ++ [⟨kb, [], true⟩]) = m := ⟨_, rfl⟩
                rw [hmm] at hnx2 ⊢
                clear hO10 hC10 hg9 hat9 hO9 hn8 hE9 hmm b10
                cases mm with
                | true =>
                  have HX := Lib.hid hnx2
                  clear hnx2
                  go_wp2_with fail
                  go_roundw
                  case rel => exact ⟨i + 1, (M + 1), acc ++ [⟨kb, [], true⟩], by go_num, by omega, by go_num, by omega, by simp; omega, Lib.hid (by simpa using HX.out), HK2, hO11, hb10⟩
                  case measure => simp [intOf]; omega
                | false =>
                  have HX := Lib.hid (show R = ([], 5) by simpa using hnx2)
                  clear hnx2
                  go_wp2_with fail
                  go_ret2
                  exact ⟨_, by rw [HX.out]; rfl, by rw [HX.out]; exact OC.nil_ _ _, hb10⟩
              · have hx0 : x = 0 := by
                  have h1 : x.toNat = 0 ∨ x.toNat = 1 := by omega
                  rcases h1 with h1 | h1
                  · exact UInt8.toNat_inj.1 h1
                  · exact absurd (UInt8.toNat_inj.1 (h1.trans rfl)) hx2
                have hgn : ((x.toNat : Int) == 1) = false := by rw [hx0]; rfl
                rw [hgn] at m6'
                have hv := HVAL.out hx0
                have hnx := HNX.out
                have hrow := rgetRow_any (some ⟨gb, go, none⟩) n c b ((M + 1 : Nat) : Int) 1048576 W6 (H1.out.below hb6) hn
                have hback := getRow_back8 (b := b) (a := M + 1) (most := 1048576)
                have hmost := getRow_most (b := b) (a := ((M + 1 : Nat) : Int)) (most := 1048576) (by omega)
                obtain ⟨vb, hvb⟩ : ∃ e, (getRowR b ((M + 1 : Nat) : Int) 1048576).1 = e := ⟨_, rfl⟩
                obtain ⟨ny, hny⟩ : ∃ e, (getRowR b ((M + 1 : Nat) : Int) 1048576).2.1 = e := ⟨_, rfl⟩
                obtain ⟨ev, hev⟩ : ∃ e, (getRowR b ((M + 1 : Nat) : Int) 1048576).2.2 = e := ⟨_, rfl⟩
                unfold RowEnd at hrow
                rw [hvb, hny, hev] at hrow
                rw [hvb, hny, hev] at hv hback
                rw [hvb] at hmost
                rw [show ((M + 1 : Nat) : Int) = (M : Int) + 1 from by omega] at hrow
                have HROW2 := Lib.hid hrow
                have hc2 := (cell_of_row _ _ 2 _ _ _ m6').trans (by rfl : _ = some (.bool false))
                have hth1 : (W6.heap[w4.heap.size]?) = _ := m6'
                clear hrow hvb hny hev HNX HEND HGONE HVAL HROW
                by_cases hv0 : ev = 0
                · have hv0' : (ev != 0) = false := by simp [hv0]
                  obtain ⟨hL1, hL2⟩ := hback hv0
                  obtain ⟨L, hL⟩ : ∃ L, M + 1 + 4 + vb.length = L := ⟨_, rfl⟩
                  rw [hL] at hL1 hL2
                  rw [hlen] at hL2
                  subst hL1
                  rw [if_neg (by simpa using hv0)] at hv
                  rw [hv, if_neg (by simp), Int.toNat_natCast] at hnx
                  have hnx2 : R = if bt.mayC (acc ++ [⟨kb, vb, false⟩]) = true then bt.getN b (q - (i + 1)) L (acc ++ [⟨kb, vb, false⟩]) else ([], 5) := hnx
                  clear hnx hv hback hmost hL hv0
                  go_wp2_with fail
                  refine HROW2.out.mono ?_
                  rintro e w7 ⟨v7, rfl, o7, b7⟩
                  obtain ⟨A7, c7, rfl, hB7⟩ := o7.form
                  have hb7 := hb6.trans (b7.mono hb6.size)
                  have m7 := (b7.block _ hX6).trans m6'
                  have hc1 := (cell_of_row _ _ 1 _ _ _ m7).trans (by rfl : _ = some (.slice none 0 0))
                  have hf1 : w7.frozen? ⟨w4.heap.size, 1, none⟩ = false := by simp [World.frozen?, m7]
                  have m8 : ((w7.setCell ⟨w4.heap.size, 1, none⟩ (.slice A7 vb.length c7))).heap[w4.heap.size]? = some (.cells #[str kb, .slice A7 vb.length c7, .bool false] 39) := by simpa using block_set (i := 1) m7 (.slice A7 vb.length c7)
                  have g8 := Chg.setCell w7 w4.heap.size 1 (.slice A7 vb.length c7)
                  have b8 : Below w4.heap.size w4 (w7.setCell ⟨w4.heap.size, 1, none⟩ (.slice A7 vb.length c7)) := chg8 (b6.trans (b7.mono (by omega))) (Nat.le_refl _) g8
                  have hb8 : Below w.heap.size w (w7.setCell ⟨w4.heap.size, 1, none⟩ (.slice A7 vb.length c7)) := hb4.trans (b8.mono hb4.size)
                  have hO8 : OC (w7.setCell ⟨w4.heap.size, 1, none⟩ (.slice A7 vb.length c7)) w.heap.size u7 acc := hO4.below b8 (Nat.le_refl _)
                  have o8 : OwnB 5 (w7.setCell ⟨w4.heap.size, 1, none⟩ (.slice A7 vb.length c7)) W6.heap.size (.slice A7 vb.length c7) vb := own_same o7 (fun k h1 h2 => g8.block k h2 (by simp; omega))
                  have hE8 : eltO (w7.setCell ⟨w4.heap.size, 1, none⟩ (.slice A7 vb.length c7)) w.heap.size u7 [str kb, .slice A7 vb.length c7, .bool false] ⟨kb, vb, false⟩ := ⟨A7, c7, rfl, o8.mono (by omega), fun k hk e => by
                    have h1 := (o7.lt k hk).1
                    have h2 := (hO4.lt k e).2
                    omega⟩
                  clear o7 o8 b7 b6 hb6 g8 m6' hB7 HROW2
                  have c0 := (cell_of_row _ _ 0 _ _ _ m8).trans (by rfl : _ = some (str kb))
                  have c1 := (cell_of_row _ _ 1 _ _ _ m8).trans (by rfl : _ = some (.slice A7 vb.length c7))
                  have c2 := (cell_of_row _ _ 2 _ _ _ m8).trans (by rfl : _ = some (.bool false))
                  have hal8 := hb8.alloc hb8.size (.cells #[str kb, .slice A7 vb.length c7, .bool false] 39)
                  have hn8 := heap_alloc_new (w7.setCell ⟨w4.heap.size, 1, none⟩ (.slice A7 vb.length c7)) (.cells #[str kb, .slice A7 vb.length c7, .bool false] 39)
                  rw [show (w7.setCell ⟨w4.heap.size, 1, none⟩ (.slice A7 vb.length c7)).heap.size = w7.heap.size from by simp] at hn8
                  have hO9 := hO8.alloc (.cells #[str kb, .slice A7 vb.length c7, .bool false] 39)
                  have hE9 := OC.elt_keep (w' := (w7.setCell ⟨w4.heap.size, 1, none⟩ (.slice A7 vb.length c7)).alloc (.cells #[str kb, .slice A7 vb.length c7, .bool false] 39)) hE8 (fun k hk => Below.heap_alloc (w7.setCell ⟨w4.heap.size, 1, none⟩ (.slice A7 vb.length c7)) _ k hk)
                  clear hO8 hE8 m8
                  go_wp2_with (at_builtin; refine wp_apo (.tmp 69) (.tmp 71) hO9 hal8.size hn8 hE9 (by omega) rfl rfl rfl rfl ?_; intro gg cp w9 hO10 hg9 hat9 hgl9; have hb9 := Below.grown hal8 hg9 hal8.size (fun k hk => (hO9.lt k hk).1); obtain ⟨A10, c10, he10, hC10⟩ := hO10.cs; injection he10 with he1 he2 he3; subst he1 he3)
                  rw [List.length_append, List.length_singleton, hal] at hC10
                  refine (rmayC_any _ _ _ _ w9 hC10 (fun r hr => Nat.le_trans (keys_snoc HK.out hkl2 r hr) (by omega))).mono ?_
                  rintro e w10 ⟨rfl, b10⟩
                  have hb10 := hb9.trans (b10.mono hb9.size)
                  have hO11 := hO10.below b10 (Nat.le_refl _)
                  rw [hal] at hO11
                  have HK2 : Hid (∀ r ∈ acc ++ [⟨kb, vb, false⟩], r.key.length ≤ 16) := Lib.hid (keys_snoc HK.out hkl2)
                  obtain ⟨mm, hmm⟩ : ∃ m, bt.mayC (acc ++ [⟨kb, vb, false⟩]) = m := ⟨_, rfl⟩
                  rw [hmm] at hnx2 ⊢
                  clear hO10 hC10 hg9 hat9 hO9 hn8 hE9 hmm b10
                  cases mm with
                  | true =>
                    have HX := Lib.hid hnx2
                    clear hnx2
                    go_wp2_with fail
                    go_roundw
                    case rel => exact ⟨i + 1, L, acc ++ [⟨kb, vb, false⟩], by go_num, by omega, by go_num, by omega, by simp; omega, Lib.hid (by simpa using HX.out), HK2, hO11, hb10⟩
                    case measure => simp [intOf]; omega
                  | false =>
                    have HX := Lib.hid (show R = ([], 5) by simpa using hnx2)
                    clear hnx2
                    go_wp2_with fail
                    go_ret2
                    exact ⟨_, by rw [HX.out]; rfl, by rw [HX.out]; exact OC.nil_ _ _, hb10⟩
                · have hv0' : (ev != 0) = true := by simp [hv0]
                  rw [if_pos (by simpa using hv0)] at hv
                  rw [hv, if_pos (by simpa using hv0)] at hnx
                  have HX := Lib.hid hnx
                  clear hnx hv hback hmost hv0
                  go_wp2_with fail
                  refine HROW2.out.mono ?_
                  rintro e w7 ⟨v7, rfl, o7, b7⟩
                  have hb7 := hb6.trans (b7.mono hb6.size)
                  have m7 := (b7.block _ hX6).trans m6'
                  have hc1 := (cell_of_row _ _ 1 _ _ _ m7).trans (by rfl : _ = some (.slice none 0 0))
                  have hf1 : w7.frozen? ⟨w4.heap.size, 1, none⟩ = false := by simp [World.frozen?, m7]
                  obtain ⟨A7, c7, rfl, hB7⟩ := o7.form
                  go_wp2_with fail
                  go_ret2
                  exact ⟨_, by rw [HX.out]; rfl, by rw [HX.out]; exact OC.nil_ _ _, hb4.trans ((chg8 (b6.trans (b7.mono (by omega))) (Nat.le_refl _) (Chg.setCell w7 w4.heap.size 1 _)).mono hb4.size)⟩
        · have he' : (er != 0) = true := by simp [he]
          rw [hk he, if_pos (by simpa using he)] at hnx
          have HX := Lib.hid hnx
          clear hnx hend hform hgone hval hk hback hmost he
          go_wp2_with fail
          refine HROW.out.mono ?_
          rintro e w4 ⟨v4, rfl, o4, b4⟩
          have hb4 := hb.trans (b4.mono hb.size)
          go_wp2_with fail
          go_ret2
          exact ⟨_, by rw [HX.out]; rfl, by rw [HX.out]; exact OC.nil_ _ _, hb4⟩
      · have hi' : ¬ (i : Int) < (q : Int) := by omega
        have hnx := HR.out
        rw [show q - i = 0 from by omega, bt.getN_zero, hlen] at hnx
        by_cases ha : a = n
        · have ha' : ((a : Int) != (n : Int)) = false := by simp [ha]
          rw [if_pos ha] at hnx
          have HX := Lib.hid hnx
          clear hnx ha HR
          go_wp2_with fail
          go_ret2
          exact ⟨_, by rw [HX.out]; rfl, by rw [HX.out]; exact hO, hb⟩
        · have ha' : ((a : Int) != (n : Int)) = true := by rw [bne_iff_ne]; omega
          rw [if_neg ha] at hnx
          have HX := Lib.hid hnx
          clear hnx ha HR
          go_wp2_with fail
          go_ret2
          exact ⟨_, by rw [HX.out]; rfl, by rw [HX.out]; exact OC.nil_ _ _, hb⟩
  · have h0' : (g != 0) = true := by simp [h0]
    have hres : bt.get b = ([], g) := by
      unfold bt.get
      rw [hg, if_pos h0]
    obtain ⟨R, hR⟩ : ∃ R, bt.get b = R := ⟨_, rfl⟩
    rw [hR] at hres ⊢
    have HR := Lib.hid hres
    clear hres hR
    go_enter Try.func18, Try.ntmps18
    go_wp2_with fail
    refine (HG.out _ H1.out).mono ?_
    rintro e w1 ⟨rfl, rfl⟩
    go_wp2_with fail
    go_ret2
    exact ⟨_, by rw [HR.out]; rfl, by rw [HR.out]; exact OC.nil_ _ _, Below.refl _ _⟩
end Go.Proofs.Ytlchfadfbepapaa
