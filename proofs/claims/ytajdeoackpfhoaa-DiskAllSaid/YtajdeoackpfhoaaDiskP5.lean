/-
  contract of the program's Crash.
-/
import Derived.Test.YtajdeoackpfhoaaDiskP4
import Derived.Laws.CopyOwn
namespace Go.Proofs.Ytajdeoackpfhoaa
open Go.RowKit
variable {w : World} {p g c : Nat} {r : List Value} {v : Value} {s : dk.St}

/-- what is kept of a write -/
def dk.kept (q : Int) : Nat := min q.toNat 128
theorem dk.torn_row (R : List Value) (o : Nat) (ob xb : dk.Blk) (q : Int) (ho : ob.length = 128) (hx : xb.length = 128) (hR : ∀ j, j < 128 → R[o + j]? = (dk.cells ob)[j]?) :
    R.take o ++ (dk.cells (xb.take (dk.kept q)) ++ R.drop (o + dk.kept q)) = R.take o ++ dk.cells (dk.torn ob xb q) ++ R.drop (o + 128) := by
  have hl : (dk.cells ob).length = 128 := by rw [List.length_map, ho]
  have e : R.drop o = dk.cells ob ++ R.drop (o + 128) := by
    apply List.ext_getElem?
    intro j
    rw [List.getElem?_drop]
    by_cases hj : j < 128
    · rw [List.getElem?_append_left (by omega), hR j hj]
    · rw [List.getElem?_append_right (by omega), List.getElem?_drop]
      congr 1
      omega
  have hk : dk.kept q ≤ 128 := by unfold dk.kept; omega
  rw [List.append_assoc]
  congr 1
  rw [← List.drop_drop, e, List.drop_append_of_le_length (by omega), ← List.append_assoc]
  congr 1
  unfold dk.torn dk.kept
  rw [show dk.cells (xb.take q.toNat ++ ob.drop q.toNat) = dk.cells (xb.take q.toNat) ++ dk.cells (ob.drop q.toNat) from List.map_append, ← List.map_drop]
  by_cases hq : q.toNat ≤ 128
  · rw [Nat.min_eq_left hq]
  · rw [Nat.min_eq_right (by omega), List.take_of_length_le (by omega), List.drop_of_length_le (by omega), List.take_of_length_le (by omega), List.drop_of_length_le (by omega)]

theorem Chg.setRow (w : World) (g : Nat) (cs : Array Value) : Chg w (w.setRow g cs) [g] :=
  ⟨rfl, rfl, rfl, by simp [World.setRow], fun k _ hn => setRow_other w g k cs (fun e => hn (by rw [List.mem_singleton]; exact e))⟩
theorem Chg.cell {w w' : World} {F : List Nat} (h : Chg w w' F) {a : Addr} (hp : a.block < w.heap.size) (hn : a.block ∉ F) : w'.cell? a = w.cell? a := by
  simp only [World.cell?, h.block _ hp hn]
set_option maxHeartbeats 4000000 in
set_option maxRecDepth 100000 in
theorem pcrash_any (A : Option Addr) (n cp : Nat) (l : List Int) (hl : IS w A n cp l) (hA : 0 < n → ∀ b o, A = some ⟨b, o, none⟩ → b ∉ dk.fp p g v) (h : PM w p g c r v s) : Calls Try.prog 14 #[.pointer (some ⟨p, 0, none⟩), .slice A n cp] w fun e w' =>
    ∃ v', e = .returned (.int .i64 0) ∧ PM w' p g c r v' (dk.crash s l) ∧ Chg w w' (dk.fp p g v) ∧ Sub w (dk.fp p g v') (dk.fp p g v) := by
  have HN := Lib.hid (pnone_any h)
  have hOL : ∃ A cap, v = .slice A s.L.length cap ∧ s.L.length ≤ cap ∧ cap ≤ 9223372036854775807 ∧ (s.L.length = 0 ∨ ∃ k, A = some ⟨k, 0, none⟩) := by
    by_cases h0 : 0 < s.L.length
    · obtain ⟨k, cap, hv, h1, h2, _⟩ := h.put_ h0
      exact ⟨_, cap, hv, h1, h2, .inr ⟨k, rfl⟩⟩
    · obtain ⟨A, cap, hv, h1, h2⟩ := h.own_len
      exact ⟨A, cap, hv, h1, h2, .inl (by omega)⟩
  obtain ⟨AA, cap, hvA, hcap, hmax, hkA⟩ := hOL
  rcases hkA with hz | ⟨k, rfl⟩
  · rw [hz] at hvA
    subst hvA
    have hLn : s.L = [] := List.eq_nil_of_length_eq_zero hz
    have hcr : dk.crash s l = { s with L := [], black := false, cut := 0 } := by unfold dk.crash; rw [hLn]; rfl
    rw [hcr]
    clear hcr hLn hz hcap
    have d1 := h.c1
    go_enter Try.func14, Try.ntmps14
    go_wp2_with fail
    refine HN.out.mono ?_
    rintro e w1 ⟨rfl, rfl⟩
    go_wp2_with fail
    clear d1
    go_loopw [15] (fun t wr => t = .int .i64 0 ∧ PM wr p g c r (.slice AA 0 cap) s ∧ Chg w wr (dk.fp p g (.slice AA 0 cap))) (fun _ _ => 0)
    case atStart => exact ⟨rfl, h, Chg.refl _ _⟩
    case round =>
      clear h HN
      obtain ⟨rfl, hM, hC⟩ := hrel
      have d1 := hM.c1
      have f1 := hM.fz 1
      have hc1 := hM.clear_
      have g3 := hc1.c3
      have f3 := hc1.fz 3
      have g2 := hc1.c2
      have f2 := hc1.fz 2
      have hc2 := hc1.cut 0 (by omega)
      have g3' := hc2.c3
      have f3' := hc2.fz 3
      have hc3 := hc2.black false
      go_wp2_with fail
      go_ret
      exact ⟨rfl, _, hc3, ((hC.trans (Chg.setCell _ _ _ _) dk.sub_p).trans (Chg.setCell _ _ _ _) dk.sub_p).trans (Chg.setCell _ _ _ _) dk.sub_p, dk.sub_nil⟩
  · subst hvA
    have d1 := h.c1
    go_enter Try.func14, Try.ntmps14
    go_wp2_with fail
    refine HN.out.mono ?_
    rintro e w1 ⟨rfl, rfl⟩
    go_wp2_with fail
    clear d1
    go_loopw [15] (fun t wr => ∃ j : Nat, j ≤ s.L.length ∧ t = .int .i64 j ∧ PM wr p g c r (.slice (some ⟨k, 0, none⟩) s.L.length cap) { s with S := dk.tear s.S (s.L.take j) l } ∧ Chg w wr (dk.fp p g (.slice (some ⟨k, 0, none⟩) s.L.length cap))) (fun t _ => s.L.length - (intOf t).toNat)
    case atStart => exact ⟨0, by omega, rfl, h, Chg.refl _ _⟩
    case round =>
      have hlen := h.ok.lenL
      have hin := h.ok.inL
      obtain ⟨j, hj, rfl, hM, hC⟩ := hrel
      have hI := hl.chg hC hA
      have hIl := hI.len
      have hIc := hI.cap
      have hIm := hI.max
      clear hl h HN
      by_cases hlt : j < s.L.length
      · obtain ⟨k', cap', hv, hcap', hmax', dN, dB⟩ := hM.put_ hlt
        obtain ⟨rfl, rfl⟩ : k = k' ∧ cap = cap' := by
          simpa using hv
        have hbl := hlen _ (List.getElem_mem hlt)
        obtain ⟨hi0, hi1⟩ := hin _ (List.getElem_mem hlt)
        obtain ⟨q, hq⟩ : ∃ q, l.getD j 0 = q := ⟨_, rfl⟩
        have hst : dk.tear s.S (s.L.take (j + 1)) l = (dk.tear s.S (s.L.take j) l).set s.L[j].1.toNat (dk.torn ((dk.tear s.S (s.L.take j) l).getD s.L[j].1.toNat dk.zero) s.L[j].2 q) := by
          rw [List.take_succ_eq_append_getElem hlt, dk.tear_snoc, List.length_take, Nat.min_eq_left (by omega), hq]
        simp only at dN dB
        generalize s.L[j] = x at *
        have dP := put_range dN dB
        obtain ⟨xn, xb⟩ := x
        simp only at hst dN dB hbl hi0 hi1
        obtain ⟨i, rfl⟩ : ∃ i : Nat, xn = i := ⟨xn.toNat, by omega⟩
        rw [Int.toNat_natCast] at hst
        have hiS : i < (dk.tear s.S (s.L.take j) l).length := by rw [dk.tear_length]; omega
        have hold : (dk.tear s.S (s.L.take j) l).getD i dk.zero = (dk.tear s.S (s.L.take j) l)[i] := by
          rw [List.getD_eq_getElem?_getD, List.getElem?_eq_getElem hiS]
          rfl
        rw [hold] at hst
        have hobl := hM.ok.lenS _ (List.getElem_mem hiS)
        have dO := hM.block (i := i) hiS
        simp only at hobl dO
        generalize (dk.tear s.S (s.L.take j) l)[i] = ob at *
        have hrl := hM.rowLen hiS
        have hmost := hM.ok.most
        simp only [dk.tear_length] at hmost
        simp only at hrl
        have hcase : (∃ pb po, A = some ⟨pb, po, none⟩ ∧ j < n ∧ pb < wr.heap.size ∧ wr.cell? ⟨pb, po + j, none⟩ = some (.int .i64 q)) ∨ (¬ j < n ∧ q = 0) := by
          by_cases hjp : j < n
          · obtain ⟨pb, po, rfl, hpb, hpc⟩ := hI.has (by omega)
            have hpj := hpc j (by omega)
            have hqj : l[j]'(by omega) = q := by rw [← hq, List.getD_eq_getElem?_getD, List.getElem?_eq_getElem (by omega)]; rfl
            rw [hqj] at hpj
            exact .inl ⟨pb, po, rfl, hjp, hpb, hpj⟩
          · exact .inr ⟨hjp, by rw [← hq, List.getD_eq_getElem?_getD, List.getElem?_eq_none (by omega)]; rfl⟩
        obtain ⟨Z, hZ⟩ : ∃ Z : Array Value, Z = (dk.put (0, dk.zero)).toArray := ⟨_, rfl⟩
        have zp := pw_zero
        have zs : Z.size = 129 := by rw [hZ]; exact dk.put_size _ zero_len
        rw [← hZ] at zp
        have hMa := hM.alloc (.cells Z 68)
        have hnew := heap_alloc_new wr (.cells Z 68)
        have hR : ∀ a, a < 128 → (dk.cellsS (dk.tear s.S (s.L.take j) l) ++ r)[i * 128 + a]? = (dk.cells ob)[a]? := fun a ha => by
          have ha' : a < (dk.cells ob).length := by rw [List.length_map, hobl]; exact ha
          have h1 := dO a _ (List.getElem?_eq_getElem ha')
          rw [cell_of_row _ _ _ _ _ _ hM.row] at h1
          rw [List.getElem?_eq_getElem ha', ← h1]
          simp
        have hR2 := dk.torn_row _ (i * 128) ob xb q hobl hbl hR
        have htb := dk.torn_length q hobl hbl
        have hkl : dk.kept q ≤ 128 := by unfold dk.kept; omega
        generalize dk.torn ob xb q = tb at *
        have HST := Lib.hid hst
        obtain ⟨kq, hkq⟩ : ∃ kq, dk.kept q = kq := ⟨_, rfl⟩
        rw [hkq] at hR2 hkl
        have HR2 := Lib.hid hR2
        unfold dk.kept at hkq
        clear hR2 hst hlen hin hZ dN dB hv hq hI hold hR
        have hpb' : ∀ pb : Nat, pb < wr.heap.size → pb < (wr.alloc (.cells Z 68)).heap.size := fun pb h => by simp; omega
        have hcase2 : (∃ pb po, A = some ⟨pb, po, none⟩ ∧ j < n ∧ pb < wr.heap.size ∧ wr.cell? ⟨pb, po + j, none⟩ = some (.int .i64 q) ∧ q < 0 ∧ kq = 0) ∨
            (∃ pb po m, A = some ⟨pb, po, none⟩ ∧ j < n ∧ pb < wr.heap.size ∧ wr.cell? ⟨pb, po + j, none⟩ = some (.int .i64 q) ∧ q = ((m : Nat) : Int) ∧ m ≤ 128 ∧ kq = m) ∨
            (∃ pb po, A = some ⟨pb, po, none⟩ ∧ j < n ∧ pb < wr.heap.size ∧ wr.cell? ⟨pb, po + j, none⟩ = some (.int .i64 q) ∧ 128 < q ∧ kq = 128) ∨
            (¬ j < n ∧ kq = 0) := by
          rcases hcase with ⟨pb, po, h1, h2, h3, h4⟩ | ⟨h1, rfl⟩
          · by_cases hq0 : q < 0
            · exact .inl ⟨pb, po, h1, h2, h3, h4, hq0, by omega⟩
            · by_cases hq1 : q ≤ 128
              · exact .inr (.inl ⟨pb, po, q.toNat, h1, h2, h3, h4, by omega, by omega, by omega⟩)
              · exact .inr (.inr (.inl ⟨pb, po, h1, h2, h3, h4, by omega, by omega⟩))
          · exact .inr (.inr (.inr ⟨h1, by rw [← hkq]; rfl⟩))
        clear hcase hkq
        rcases hcase2 with ⟨pb, po, rfl, hjp, hpb, hpj, hq0, hkt⟩ | ⟨pb, po, m, rfl, hjp, hpb, hpj, rfl, hm, hkt⟩ | ⟨pb, po, rfl, hjp, hpb, hpj, hq0, hkt⟩ | ⟨hjp, hkt⟩
        all_goals
          try (have hm0 : ¬ (m : Int) < 0 := by omega)
          try (have hm1 : (m : Int) ≤ 128 := by omega)
          try (have hm2 : ¬ q < 0 := by omega)
          try (have hm3 : ¬ q ≤ 128 := by omega)
          try (have hpa := ((Chg.alloc wr (.cells Z 68) []).cell (a := ⟨pb, po + j, none⟩) hpb (by simp)).trans hpj)
          try (have hpb2 := hpb' pb hpb)
          try (have hne : pb ≠ wr.heap.size := by omega)
          go_wp2_with (first | refine wp_ldp (.tmp 18) ((i : Int), xb) dP hbl rfl rfl rfl ?_ | (refine wp_stp (.tmp 6) (.tmp 19) ((i : Int), xb) hnew zs hbl rfl rfl rfl rfl ?_; intro W hW hCW; try (have hpW := (hCW.cell (a := ⟨pb, po + j, none⟩) hpb2 (by simpa using hne)).trans hpa)))
          try (clear hpW)
          have hMW := hMa.keep (hCW.same (F := [wr.heap.size]) (G := dk.fp p g _) (fun a ha hm => by have := hM.there a hm; simp only [List.mem_singleton] at ha; omega) hMa.there)
          have hCC : Chg wr W (dk.fp p g (.slice (some ⟨k, 0, none⟩) s.L.length cap)) := (Chg.alloc wr _ (dk.fp p g _)).trans hCW (fun a ha => .inr (by simp only [List.mem_singleton] at ha; omega))
          have e0 : W.cell? ⟨wr.heap.size, 0, none⟩ = some (.int .i64 (i : Int)) := by rw [cell_of_row _ _ 0 _ _ _ hW]; rfl
          have e1 : W.rangeAt wr.heap.size 1 (dk.cells xb) := range_of hW 1 _ (fun a u ha => by rw [Nat.add_comm]; exact ha)
          have d0 := hMW.c0
          have hrow := hMW.row
          simp only [dk.tear_length] at d0
          simp only at hrow
          clear hnew hMa hW hCW
          go_still_tail 11, (by kernel_rfl)
          change wpList _ _ _ _ _ W.drew
          refine wpList_copy_own rfl (.tmp 38) (.tmp 40) 69 69 rfl 5 Try.underlying69 (by kernel_rfl) g (i * 128) _ 128 ⟨wr.heap.size, 1, none⟩ 128 128 rfl rfl _ _ (show W.drew.heap[g]? = _ from hrow) (dk.cells (xb.take kq)) ?_ ?_ ?_ ?_ ?_
          · (rw [List.length_map, List.length_take, hbl, hkt]) <;> first | rfl | exact Nat.min_comm _ _
          · intro a u ha
            have hadd : (⟨wr.heap.size, 1, none⟩ : Addr).add a = ⟨wr.heap.size, 1 + a, none⟩ := by unfold Addr.add; split <;> simp_all
            rw [hadd]
            refine e1 a u ?_
            rw [List.getElem?_map] at ha ⊢
            rw [List.getElem?_take] at ha
            split at ha
            · exact ha
            · simp at ha
          · simp only [List.size_toArray, List.length_map, List.length_take]
            omega
          · exact bvs_one _
          · have hset := setRow_heap W.drew g _ (((dk.cellsS (dk.tear s.S (s.L.take j) l) ++ r).toArray.toList.take (i * 128) ++ (dk.cells (xb.take kq) ++ (dk.cellsS (dk.tear s.S (s.L.take j) l) ++ r).toArray.toList.drop (i * 128 + (dk.cells (xb.take kq)).length))).toArray) _ _ (show W.drew.heap[g]? = _ from hrow)
            have hlk : (dk.cells (xb.take kq)).length = kq := by rw [List.length_map, List.length_take]; omega
            have hchg := Chg.setRow W.drew g (((dk.cellsS (dk.tear s.S (s.L.take j) l) ++ r).toArray.toList.take (i * 128) ++ (dk.cells (xb.take kq) ++ (dk.cellsS (dk.tear s.S (s.L.take j) l) ++ r).toArray.toList.drop (i * 128 + (dk.cells (xb.take kq)).length))).toArray)
            generalize W.drew.setRow g (((dk.cellsS (dk.tear s.S (s.L.take j) l) ++ r).toArray.toList.take (i * 128) ++ (dk.cells (xb.take kq) ++ (dk.cellsS (dk.tear s.S (s.L.take j) l) ++ r).toArray.toList.drop (i * 128 + (dk.cells (xb.take kq)).length))).toArray) = W2 at *
            rw [hlk, List.toList_toArray, HR2.out] at hset
            have hMW2 := hMW.drew.stored hiS htb hset hchg
            simp only at hMW2
            clear e0 e1 d0 hrow hrl hset
            go_wp2_with fail
            go_roundw
            case rel => exact ⟨j + 1, by omega, by go_num, by rw [HST.out]; exact hMW2, ((hC.trans hCC (Sub.refl _ _)).trans (Chg.drew _ (dk.fp p g _)) (Sub.refl _ _)).trans hchg dk.sub_g⟩
            case measure => simp [intOf]; omega
      · have d1 := hM.c1
        have f1 := hM.fz 1
        simp only [List.take_of_length_le (show s.L.length ≤ j from by omega)] at hM
        have hc1 := hM.clear_
        have g3 := hc1.c3
        have f3 := hc1.fz 3
        have g2 := hc1.c2
        have f2 := hc1.fz 2
        have hc2 := hc1.cut 0 (by omega)
        have g3' := hc2.c3
        have f3' := hc2.fz 3
        have hc3 := hc2.black false
        go_wp2_with fail
        go_ret
        exact ⟨rfl, _, hc3, ((hC.trans (Chg.setCell _ _ _ _) dk.sub_p).trans (Chg.setCell _ _ _ _) dk.sub_p).trans (Chg.setCell _ _ _ _) dk.sub_p, dk.sub_nil⟩
end Go.Proofs.Ytajdeoackpfhoaa
