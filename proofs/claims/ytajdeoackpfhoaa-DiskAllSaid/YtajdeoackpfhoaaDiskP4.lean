/-
  contract of the program's Flush.
-/
import Derived.Test.YtajdeoackpfhoaaDiskP3
namespace Go.Proofs.Ytajdeoackpfhoaa
open Go.RowKit
variable {w : World} {p g c : Nat} {r : List Value} {v : Value} {s : dk.St}

/-- a write that is not sure, as a value -/
abbrev dk.pval (x : Int × dk.Blk) : Value := .agg (dk.put x).toArray
theorem dk.put_len {x : Int × dk.Blk} (h : x.2.length = 128) : (dk.put x).length = 129 := by rw [List.length_cons, List.length_map, h]
theorem info_pw' {x : Int × dk.Blk} (h : x.2.length = 128) : (Try.prog.info? 68).map (·.size) = some (dk.put x).length := by
  rw [dk.put_len h]
  obtain ⟨i, hi, _, hs, _⟩ := info_parts3 info_pw
  rw [hi, Option.map_some, hs]
theorem put_one (x : Int × dk.Blk) : (dk.put x).toArray.all (·.oneCell') = true := all_oneCell_toArray (fun u hu => by
  rcases List.mem_cons.1 hu with rfl | hu
  · rfl
  · exact bvs_one x.2 u hu)
theorem put_range {w : World} {k o : Nat} {x : Int × dk.Blk} (h1 : w.cell? ⟨k, o, none⟩ = some (.int .i64 x.1)) (h2 : w.rangeAt k (o + 1) (dk.cells x.2)) : w.rangeAt k o (dk.put x) := fun j u hj => by
  cases j with
  | zero =>
    simp only [dk.put, List.getElem?_cons_zero, Option.some.injEq] at hj
    rw [← hj]
    exact h1
  | succ j =>
    rw [show o + (j + 1) = o + 1 + j from by omega]
    exact h2 j u (by simpa [dk.put] using hj)
section
variable {ops : Array Oper} {rest : List Oper} {o : Oper} {a : Act} {w : World} {Q : Exit → Act → World → Prop}
/-- a write that is not sure is loaded -/
theorem wp_ldp (x : Operand) (y : Int × dk.Blk) {g off : Nat} (hr : w.rangeAt g off (dk.put y)) (hy : y.2.length = 128) (hgd : o.guard = none) (ho : o.op = .load 68 x) (hx : a.eval x = .pointer (some ⟨g, off, none⟩))
    (h : wpList Try.prog ops Q rest (a.put o.dst (dk.pval y)) w) : wpList Try.prog ops Q (o :: rest) a w :=
  wpList_load_mid hgd _ x ho g off hx _ _ hr Try.underlying68 rfl (info_pw' hy) h
/-- it is stored into a block of its own -/
theorem wp_stp (x y : Operand) (z : Int × dk.Blk) {g : Nat} {old : Array Value} {E : TypeId} (hrow : w.heap[g]? = some (.cells old E (0, 0))) (hold : old.size = 129) (hz : z.2.length = 128) (hgd : o.guard = none)
    (ho : o.op = .store 68 x y) (hx : a.eval x = .pointer (some ⟨g, 0, none⟩)) (hy : a.eval y = dk.pval z)
    (h : ∀ W, W.heap[g]? = some (.cells (dk.put z).toArray E (0, 0)) → Chg w W [g] → wpList Try.prog ops Q rest (a.put o.dst undef) W) : wpList Try.prog ops Q (o :: rest) a w := by
  have hl : (dk.put z).length = 129 := dk.put_len hz
  have hrow' : w.heap[g]? = some (.cells old.toList.toArray E (0, 0)) := by rw [Array.toArray_toList]; exact hrow
  have h2 := block_sets (dk.put z) 0 old.toList w hrow' (by simp only [Array.length_toList]; omega)
  rw [hl, List.take_zero, List.nil_append, List.drop_of_length_le (by simp only [Array.length_toList]; omega), List.append_nil] at h2
  refine wpList_store_mid hgd _ x y ho g 0 (dk.put z).toArray hx hy ?_ (by simpa using info_pw' hz) (put_one z) ?_
  · have := there_of hrow' 0 129 (by simp only [Array.length_toList]; omega)
    rw [List.size_toArray, hl]
    exact this
  · exact h _ h2 (Chg.setCells g _ _ _)
end

set_option maxHeartbeats 4000000 in
set_option maxRecDepth 100000 in
theorem pflush_any (h : PM w p g c r v s) (hm : s.many < 4611686018427387904) : Calls Try.prog 17 #[.pointer (some ⟨p, 0, none⟩)] w fun e w' =>
    ∃ v', e = .returned (.int .i64 (dk.flush s).1) ∧ PM w' p g c r v' (dk.flush s).2 ∧ Chg w w' (dk.fp p g v) ∧ Sub w (dk.fp p g v') (dk.fp p g v) := by
  have HL := Lib.hid (plit_any h)
  have hs := pstep_any h hm
  cases hb : s.black with
  | true =>
    have hr : dk.flush s = (9, s) := by rw [dk.flush, if_pos hb]
    have hl : dk.lit s = 9 := by simp [dk.lit, hb]
    rw [hl] at HL
    have HR := Lib.hid hr
    clear hr hs hl
    go_enter Try.func17, Try.ntmps17
    go_wp2_with fail
    refine HL.out.mono ?_
    rintro e w1 ⟨rfl, rfl⟩
    go_wp2_with fail
    go_ret
    exact ⟨v, ret_int (by rw [HR.out]), by rw [HR.out]; exact h, Chg.refl _ _, Sub.refl _ _⟩
  | false =>
    have hl : dk.lit s = 0 := by simp [dk.lit, hb]
    rw [hl] at HL
    clear hl
    by_cases hc : s.cut = 1
    · have hst1 : (dk.step s).1 = 9 := by rw [dk.step, if_pos hc]
      have hr : dk.flush s = (9, (dk.step s).2) := by rw [dk.flush, if_neg (by simp [hb]), if_neg (by rw [hst1]; omega)]
      rw [hst1] at hs
      have HS := Lib.hid hs
      have HR := Lib.hid hr
      clear hr hs hst1 hc
      go_enter Try.func17, Try.ntmps17
      go_wp2_with fail
      refine HL.out.mono ?_
      rintro e w1 ⟨rfl, rfl⟩
      go_wp2_with fail
      refine HS.out.mono ?_
      rintro e w2 ⟨rfl, hM, hC⟩
      go_wp2_with fail
      go_ret
      exact ⟨v, ret_int (by rw [HR.out]), by rw [HR.out]; exact hM, hC.mono dk.sub_p, Sub.refl _ _⟩
    · have hst1 : (dk.step s).1 = 0 := by rw [dk.step, if_neg hc]
      have hr : dk.flush s = (0, { (dk.step s).2 with S := dk.lay s.S s.L, L := [] }) := by rw [dk.flush, if_neg (by simp [hb]), if_pos hst1]
      rw [hst1] at hs
      have HS := Lib.hid hs
      have HR := Lib.hid hr
      have hSS := dk.step_S s
      have hLL := dk.step_L s
      have hOL : ∃ A cap, v = .slice A s.L.length cap ∧ s.L.length ≤ cap ∧ cap ≤ 9223372036854775807 ∧ (s.L.length = 0 ∨ ∃ k, A = some ⟨k, 0, none⟩) := by
        by_cases h0 : 0 < s.L.length
        · obtain ⟨k, cap, hv, h1, h2, _⟩ := h.put_ h0
          exact ⟨_, cap, hv, h1, h2, .inr ⟨k, rfl⟩⟩
        · obtain ⟨A, cap, hv, h1, h2⟩ := h.own_len
          exact ⟨A, cap, hv, h1, h2, .inl (by omega)⟩
      rw [← hLL] at hOL
      generalize (dk.step s).2 = s1 at *
      rw [← hSS, ← hLL] at HR
      clear hr hs hst1 hc hSS hLL
      obtain ⟨A, cap, hvA, hcap, hmax, hkA⟩ := hOL
      rcases hkA with hz | ⟨k, rfl⟩
      · rw [hz] at hvA
        have hLn : s1.L = [] := List.eq_nil_of_length_eq_zero hz
        have hlay : dk.lay s1.S s1.L = s1.S := by rw [hLn]; rfl
        rw [hlay] at HR
        clear hlay hLn hz hcap
        go_enter Try.func17, Try.ntmps17
        go_wp2_with fail
        refine HL.out.mono ?_
        rintro e w1 ⟨rfl, rfl⟩
        go_wp2_with fail
        refine HS.out.mono ?_
        rintro e w2 ⟨rfl, hM0, hC0⟩
        have d1 := hM0.c1
        rw [hvA] at d1
        go_wp2_with fail
        clear d1
        go_loopw [22] (fun t wr => t = .int .i64 0 ∧ PM wr p g c r v s1 ∧ Chg w wr (dk.fp p g v)) (fun _ _ => 0)
        case atStart => exact ⟨rfl, hM0, hC0.mono dk.sub_p⟩
        case round =>
          clear hM0 hC0 h HS HL
          obtain ⟨rfl, hM, hC⟩ := hrel
          have d1 := hM.c1
          have f1 := hM.fz 1
          have hcl := hM.clear_
          rw [hvA] at d1
          go_wp2_with fail
          go_ret
          exact ⟨_, ret_int (by rw [HR.out]), by rw [HR.out]; exact hcl, hC.trans (Chg.setCell _ _ _ _) dk.sub_p, dk.sub_nil⟩
      · go_enter Try.func17, Try.ntmps17
        go_wp2_with fail
        refine HL.out.mono ?_
        rintro e w1 ⟨rfl, rfl⟩
        go_wp2_with fail
        refine HS.out.mono ?_
        rintro e w2 ⟨rfl, hM0, hC0⟩
        have d1 := hM0.c1
        rw [hvA] at d1
        go_wp2_with fail
        clear d1
        go_loopw [22] (fun t wr => ∃ j : Nat, j ≤ s1.L.length ∧ t = .int .i64 j ∧ PM wr p g c r v { s1 with S := dk.lay s1.S (s1.L.take j) } ∧ Chg w wr (dk.fp p g v)) (fun t _ => s1.L.length - (intOf t).toNat)
        case atStart => exact ⟨0, by omega, rfl, hM0, hC0.mono dk.sub_p⟩
        case round =>
          have hlen := hM0.ok.lenL
          have hin := hM0.ok.inL
          clear hM0 hC0 h HS HL
          obtain ⟨j, hj, rfl, hM, hC⟩ := hrel
          by_cases hlt : j < s1.L.length
          · obtain ⟨k', cap', hv, hcap', hmax', dN, dB⟩ := hM.put_ hlt
            obtain ⟨rfl, rfl⟩ : k = k' ∧ cap = cap' := by
              have := hvA.symm.trans hv
              simpa using this
            have hbl := hlen _ (List.getElem_mem hlt)
            obtain ⟨hi0, hi1⟩ := hin _ (List.getElem_mem hlt)
            have hst : dk.lay s1.S (s1.L.take (j + 1)) = (dk.lay s1.S (s1.L.take j)).set s1.L[j].1.toNat s1.L[j].2 := by
              rw [List.take_succ_eq_append_getElem hlt, dk.lay_snoc]
            simp only at dN dB
            generalize s1.L[j] = x at *
            have dP := put_range dN dB
            obtain ⟨xn, xb⟩ := x
            simp only at hst dN dB hbl hi0 hi1
            obtain ⟨i, rfl⟩ : ∃ i : Nat, xn = i := ⟨xn.toNat, by omega⟩
            rw [Int.toNat_natCast] at hst
            have HST := Lib.hid hst
            have hiS : i < (dk.lay s1.S (s1.L.take j)).length := by rw [dk.lay_length]; omega
            have hrl := hM.rowLen hiS
            have hmost := hM.ok.most
            simp only [dk.lay_length] at hmost
            simp only at hrl
            obtain ⟨Z, hZ⟩ : ∃ Z : Array Value, Z = (dk.put (0, dk.zero)).toArray := ⟨_, rfl⟩
            have zp := pw_zero
            have zs : Z.size = 129 := by rw [hZ]; exact dk.put_size _ zero_len
            rw [← hZ] at zp
            have hMa := hM.alloc (.cells Z 68)
            have hnew := heap_alloc_new wr (.cells Z 68)
            clear hst hlen hin hZ dN dB hv
            go_wp2_with (first | refine wp_ldp (.tmp 24) ((i : Int), xb) dP hbl rfl rfl rfl ?_ | (refine wp_stp (.tmp 6) (.tmp 25) ((i : Int), xb) hnew zs hbl rfl rfl rfl rfl ?_; intro W hW hCW))
            have hMW := hMa.keep (hCW.same (F := [wr.heap.size]) (G := dk.fp p g v) (fun a ha hm => by have := hM.there a hm; simp only [List.mem_singleton] at ha; omega) hMa.there)
            have hCC : Chg wr W (dk.fp p g v) := (Chg.alloc wr _ (dk.fp p g v)).trans hCW (fun a ha => .inr (by simp only [List.mem_singleton] at ha; omega))
            have e0 : W.cell? ⟨wr.heap.size, 0, none⟩ = some (.int .i64 (i : Int)) := by rw [cell_of_row _ _ 0 _ _ _ hW]; rfl
            have e1 : W.rangeAt wr.heap.size 1 (dk.cells xb) := range_of hW 1 _ (fun a u ha => by rw [Nat.add_comm]; exact ha)
            have d0 := hMW.c0
            have hrow := hMW.row
            simp only [dk.lay_length] at d0
            simp only at hrow
            clear hnew hMa hW hCW hM
            refine wp_region_still_tail 9 (by kernel_rfl) (by kernel_rfl) ?_
            simp only [List.take_succ_cons, List.take_zero, List.drop_succ_cons, List.drop_zero]
            iterate 7 still_step
            refine still_ld (.tmp 32) xb (show W.drew.rangeAt wr.heap.size 1 (dk.cells xb) from e1) hbl rfl rfl (by rfl) ?_
            simp only [Act.put, List.setIfInBounds_toArray, List.set_cons_zero, List.set_cons_succ]
            still_step
            refine wpStill_nil ?_
            refine wp_st (.tmp 34) (.tmp 33) xb (show W.drew.heap[g]? = _ from hrow) hrl hbl rfl rfl rfl rfl ?_
            intro W2 hW2 hCW2
            have hMW2 := hMW.drew.stored hiS hbl hW2 hCW2
            simp only at hMW2
            clear e0 e1 d0 hrow hrl hW2
            go_wp2_with fail
            go_roundw
            case rel => exact ⟨j + 1, by omega, by go_num, by rw [HST.out]; exact hMW2, ((hC.trans hCC (Sub.refl _ _)).trans (Chg.drew _ (dk.fp p g v)) (Sub.refl _ _)).trans hCW2 dk.sub_g⟩
            case measure => simp [intOf]; omega
          · have d1 := hM.c1
            have f1 := hM.fz 1
            have hcl := hM.clear_
            rw [hvA] at d1
            simp only [List.take_of_length_le (show s1.L.length ≤ j from by omega)] at hcl
            go_wp2_with fail
            go_ret
            exact ⟨_, ret_int (by rw [HR.out]), by rw [HR.out]; exact hcl, hC.trans (Chg.setCell _ _ _ _) dk.sub_p, dk.sub_nil⟩
end Go.Proofs.Ytajdeoackpfhoaa
