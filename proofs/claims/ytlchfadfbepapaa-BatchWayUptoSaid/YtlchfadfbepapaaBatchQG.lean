/-
  THE PROGRAM's batch: one change read (getChange).
-/
import Derived.Test.YtlchfadfbepapaaBatchX
import Derived.Test.YtlchfadfbepapaaBatchH
namespace Go.Proofs.Ytlchfadfbepapaa
open Go.RowKit Go.Shelf
section
variable {ops : Array Oper} {rest : List Oper} {o : Oper} {a : Act} {w : World} {Q : Exit → Act → World → Prop}
/-- a change is stored into a box -/
theorem wp_st3 (x y : Operand) {B : Nat} {a0 a1 a2 u0 u1 u2 : Value} (hB : w.heap[B]? = some (.cells #[a0, a1, a2] 39 (0, 0))) (hgd : o.guard = none) (ho : o.op = .store 39 x y) (hx : a.eval x = .pointer (some ⟨B, 0, none⟩)) (hy : a.eval y = .agg #[u0, u1, u2])
    (h1 : (#[u0, u1, u2] : Array Value).all (·.oneCell') = true)
    (h : ∀ w', w'.heap[B]? = some (.cells #[u0, u1, u2] 39 (0, 0)) → Chg w w' [B] → wpList Try.prog ops Q rest (a.put o.dst undef) w') : wpList Try.prog ops Q (o :: rest) a w := by
  have hth := there_of (cs := [a0, a1, a2]) hB 0 3 (by simp)
  refine wpList_store_mid hgd 39 x y ho B 0 #[u0, u1, u2] hx hy hth rfl h1 ?_
  have m6 := block_sets [u0, u1, u2] 0 [a0, a1, a2] w hB (by simp)
  exact h _ (by simpa using m6) (Chg.setCells B [u0, u1, u2] 0 w)
end
theorem chg_load {w : World} {g : Nat} {u0 u1 u2 : Value} {t : TypeId} (hg : w.heap[g]? = some (.cells #[u0, u1, u2] t (0, 0))) : (loadVar 39 ⟨g, 0, none⟩).run Try.prog w = .ok (.agg #[u0, u1, u2]) w :=
  run_loadVar_row w g t 39 #[u0, u1, u2] (0, 0) _ hg Try.underlying39 rfl (by kernel_rfl)
set_option maxRecDepth 100000 in
theorem results_ctt {fn : Func} {s t u : Tmp} {T : TypeId} (h : fn.results = #[.cell t T, .tmp s, .tmp u]) {tmps : Array Value} {P : Program} {w : World} {a : Addr} {x : Value} (ht : tmps.getD t undef = .pointer (some a)) (hl : (loadVar T a).run P w = .ok x w) :
    (results fn tmps).run P w = .ok (.tuple #[x, tmps.getD s undef, tmps.getD u undef]) w := by
  have ht' : tmps[t]?.getD undef = .pointer (some a) := by simpa using ht
  simp [results, h, ht', asAddr, hl]
theorem getR_one {b : List UInt8} {M : Nat} (hM : M ≤ b.length) : getR b M 1 = if M = b.length then (0, 4) else ((b.getD M 0).toNat, 0) := by
  have h1 : (isSz 1 && decide ((0 : Int) ≤ (M : Int) ∧ (M : Int) ≤ (b.length : Int))) = true := by
    rw [decide_eq_true (by omega)]
    rfl
  unfold getR
  rw [if_pos h1]
  by_cases h : M = b.length
  · rw [if_neg (by omega), if_pos h]
  · rw [if_pos (by omega), if_neg h]
    have hM' : M < b.length := by omega
    have e : (b.drop (M : Int).toNat).take (1 : Int).toNat = [b.getD M 0] := by
      rw [Int.toNat_natCast, List.drop_eq_getElem_cons hM', List.getD_eq_getElem?_getD, List.getElem?_eq_getElem hM']
      rfl
    rw [e]
    simp [leVal]
/-- what one change answers -/
def OneEnd (r : Int × bt.C × Nat) (w : World) (e : Ending) (w' : World) : Prop := ∃ A c, e = .returned (.tuple #[.agg #[str r.2.1.key, .slice A r.2.1.val.length c, .bool r.2.1.gone], .int .i64 r.2.2, .int .i64 r.1]) ∧ OwnB 5 w' w.heap.size (.slice A r.2.1.val.length c) r.2.1.val ∧ Below w.heap.size w w'
set_option maxHeartbeats 4000000 in
set_option maxRecDepth 100000 in
theorem getChange_any (A : Option Addr) (n c : Nat) (b : List UInt8) (a : Nat) (w : World) (h : BS w A n c b) (hn : n ≤ 140737488355320) : Calls Try.prog 45 #[.slice A n c, .int .i64 a] w (OneEnd (bt.one b a) w) := by
  obtain ⟨hzc, -⟩ := zero_of_info zero_chg
  have hlen := h.len
  have hcap := h.cap
  obtain ⟨W0, hW0, -, -, -, bW0, sW0⟩ := new3 w (str []) (.slice none 0 0) (.bool false) 39
  have nW0 : W0.heap[w.heap.size]? = some (.cells #[str [], .slice none 0 0, .bool false] 39 (0, 0)) := hW0 ▸ heap_alloc_new w _
  have HROW := Lib.hid (getRow_any A n c b a 16 W0 (h.below bW0) hn (by omega))
  have hback := getRow_back8 (b := b) (a := a) (most := 16)
  have hmost := getRow_most (b := b) (a := a) (most := 16) (by omega)
  have hk := bt.one_k (b := b) (a := a)
  have hend := fun M => bt.one_end (b := b) (a := a) (M := M)
  have hform := fun M => bt.one_form (b := b) (a := a) (M := M)
  have hgone := fun M => bt.one_gone (b := b) (a := a) (M := M)
  have hval := fun M => bt.one_val (b := b) (a := a) (M := M)
  obtain ⟨R, hR⟩ : ∃ R, bt.one b a = R := ⟨_, rfl⟩
  rw [hR]
  simp only [hR] at hk hend hform hgone hval
  obtain ⟨kb, hkb⟩ : ∃ e, (getRowR b a 16).1 = e := ⟨_, rfl⟩
  obtain ⟨nx, hnxx⟩ : ∃ e, (getRowR b a 16).2.1 = e := ⟨_, rfl⟩
  obtain ⟨er, her⟩ : ∃ e, (getRowR b a 16).2.2 = e := ⟨_, rfl⟩
  unfold RowEnd at HROW
  rw [hkb, hnxx, her] at HROW
  rw [hkb] at hmost
  rw [hkb, hnxx, her] at hback
  rw [her] at hk
  simp only [hnxx, her] at hend
  simp only [hnxx, her] at hform
  simp only [hkb, hnxx, her] at hgone
  simp only [hkb, hnxx, her] at hval
  have HW0 := Lib.hid hW0
  have H := Lib.hid h
  clear hkb hnxx her hR hW0 h
  by_cases he : er = 0
  · have he' : (er != 0) = false := by simp [he]
    obtain ⟨hM1, hM2⟩ := hback he
    obtain ⟨M, hM⟩ : ∃ M, a + 4 + kb.length = M := ⟨_, rfl⟩
    rw [hM] at hM1 hM2
    subst hM1
    have hend := hend M he rfl
    have hform := hform M he rfl
    have hgone := hgone M he rfl
    have hval := hval M he rfl
    have hgr := getR_one hM2
    rw [hlen] at hend hform hgone hval hM2 hgr
    by_cases hMn : M = n
    · rw [if_pos hMn] at hgr
      have HGR := Lib.hid hgr
      have HX := Lib.hid (hend hMn)
      clear hgr hend hform hgone hval hk hback hmost he hMn
      go_enter Try.func45, Try.ntmps45
      go_wp2_with fail
      rw [HW0.out]
      refine HROW.out.mono ?_
      rintro e w1 ⟨v1, rfl, o1, b1⟩
      obtain ⟨A1, c1, rfl, hB1⟩ := o1.form
      have n1 := (b1.block w.heap.size (by omega)).trans nW0
      have bb1 := bW0.trans (b1.mono bW0.size)
      have HG := Lib.hid (get_any A n c b (M : Int) 1 w1 (H.out.below bb1))
      rw [HGR.out] at HG
      go_wp2_with fail
      refine HG.out.mono ?_
      rintro e w2 ⟨rfl, rfl⟩
      clear HG
      go_wp2_with (refine wp_st3 (.tmp 4) (.tmp 31) n1 rfl rfl rfl rfl (by simp [Value.oneCell']) ?_; intro w9 n9 c9)
      refine bodyPost_ret (results_ctt rfl rfl (chg_load n9)) rfl ?_
      rw [HX.out]
      exact ⟨none, 0, rfl, OwnB.nil_ _ _ _, chg8 bb1 (Nat.le_refl _) c9⟩
    · rw [if_neg hMn] at hgr
      have hform := hform hMn
      have hgone := hgone hMn
      have hval := hval hMn
      obtain ⟨x, hx⟩ : ∃ x, b.getD M 0 = x := ⟨_, rfl⟩
      rw [hx] at hgr hform hgone hval
      have HGR := Lib.hid hgr
      have HFORM := Lib.hid hform
      have HGONE := Lib.hid hgone
      have HVAL := Lib.hid hval
      have hMl : M < n := by omega
      have hx256 := x.toNat_lt
      clear hgr hend hform hgone hval hk hback he hx hMn
      by_cases hx0 : x = 0
      · have hx0' : ((x.toNat : Int) == 0) = true := by rw [hx0]; rfl
        have hv := HVAL.out hx0
        have hback := getRow_back8 (b := b) (a := M + 1) (most := 1048576)
        have HROW2 := Lib.hid (fun W (hB : Below w.heap.size w W) => getRow_any A n c b ((M + 1 : Nat) : Int) 1048576 W (H.out.below hB) hn (by omega))
        obtain ⟨vb, hvb⟩ : ∃ e, (getRowR b ((M + 1 : Nat) : Int) 1048576).1 = e := ⟨_, rfl⟩
        obtain ⟨ny, hny⟩ : ∃ e, (getRowR b ((M + 1 : Nat) : Int) 1048576).2.1 = e := ⟨_, rfl⟩
        obtain ⟨ev, hev⟩ : ∃ e, (getRowR b ((M + 1 : Nat) : Int) 1048576).2.2 = e := ⟨_, rfl⟩
        unfold RowEnd at HROW2
        rw [hvb, hny, hev] at HROW2
        rw [hvb, hny, hev] at hv hback
        rw [show ((M + 1 : Nat) : Int) = (M : Int) + 1 from by omega] at HROW2
        clear hvb hny hev HFORM HGONE HVAL hx0
        by_cases hv0 : ev = 0
        · have hv0' : (ev != 0) = false := by simp [hv0]
          obtain ⟨hL1, hL2⟩ := hback hv0
          obtain ⟨L, hL⟩ : ∃ L, M + 1 + 4 + vb.length = L := ⟨_, rfl⟩
          rw [hL] at hL1 hL2
          subst hL1
          rw [if_neg (by simpa using hv0), Int.toNat_natCast] at hv
          have HX := Lib.hid hv
          clear hv hback hL hv0
          go_enter Try.func45, Try.ntmps45
          go_wp2_with fail
          rw [HW0.out]
          refine HROW.out.mono ?_
          rintro e w1 ⟨v1, rfl, o1, b1⟩
          obtain ⟨A1, c1, rfl, hB1⟩ := o1.form
          have n1 := (b1.block w.heap.size (by omega)).trans nW0
          have bb1 := bW0.trans (b1.mono bW0.size)
          have HG := Lib.hid (get_any A n c b (M : Int) 1 w1 (H.out.below bb1))
          rw [HGR.out] at HG
          go_wp2_with fail
          refine HG.out.mono ?_
          rintro e w2 ⟨rfl, rfl⟩
          clear HG
          have HR2 := Lib.hid (HROW2.out w1 bb1)
          go_wp2_with fail
          refine HR2.out.mono ?_
          rintro e w3 ⟨v3, rfl, o3, b3⟩
          obtain ⟨A3, c3, rfl, hB3⟩ := o3.form
          have bb3 := bb1.trans (b3.mono bb1.size)
          have n3 := (b3.block w.heap.size (Nat.lt_of_lt_of_le (by omega) b1.size)).trans n1
          have hB1' := hB1.below b3
          have kc := run_convert_bs (P := Try.prog) hB1' 24 5 9 Try.underlying24 Try.underlying5 Try.underlying9
          have HPUT := Lib.hid (putq_any kb A3 vb.length c3 w3)
          have hw3 : w.heap.size < w3.heap.size := Nat.lt_of_lt_of_le (by omega) (Nat.le_trans b1.size b3.size)
          clear HR2 HROW2
          go_wp2_with fail
          refine HPUT.out.mono ?_
          rintro e w4 ⟨rfl, b4⟩
          have bb4 := bb3.trans (b4.mono bb3.size)
          have n4 := (b4.block w.heap.size hw3).trans n3
          have o4 := o3.below b4 (Nat.le_refl _)
          have hlo := o4.lt
          have hw1 : w.heap.size < w1.heap.size := Nat.lt_of_lt_of_le (by omega) b1.size
          go_wp2_with (refine wp_st3 (.tmp 4) (.tmp 52) n4 rfl rfl rfl rfl (by simp [Value.oneCell']) ?_; intro w9 n9 c9)
          refine bodyPost_ret (results_ctt rfl rfl (chg_load n9)) rfl ?_
          rw [HX.out]
          refine ⟨A3, c3, rfl, (own_same o4 (fun k h1 h2 => c9.block k h2 (by simp; omega))).mono (by omega), chg8 bb4 (Nat.le_refl _) c9⟩
        · have hv0' : (ev != 0) = true := by simp [hv0]
          rw [if_pos (by simpa using hv0)] at hv
          have HX := Lib.hid hv
          clear hv hback hv0
          go_enter Try.func45, Try.ntmps45
          go_wp2_with fail
          rw [HW0.out]
          refine HROW.out.mono ?_
          rintro e w1 ⟨v1, rfl, o1, b1⟩
          obtain ⟨A1, c1, rfl, hB1⟩ := o1.form
          have n1 := (b1.block w.heap.size (by omega)).trans nW0
          have bb1 := bW0.trans (b1.mono bW0.size)
          have HG := Lib.hid (get_any A n c b (M : Int) 1 w1 (H.out.below bb1))
          rw [HGR.out] at HG
          go_wp2_with fail
          refine HG.out.mono ?_
          rintro e w2 ⟨rfl, rfl⟩
          clear HG
          have HR2 := Lib.hid (HROW2.out w1 bb1)
          go_wp2_with fail
          refine HR2.out.mono ?_
          rintro e w3 ⟨v3, rfl, o3, b3⟩
          have bb3 := bb1.trans (b3.mono bb1.size)
          have n3 := (b3.block w.heap.size (Nat.lt_of_lt_of_le (by omega) b1.size)).trans n1
          clear HR2 HROW2
          go_wp2_with (refine wp_st3 (.tmp 4) (.tmp 47) n3 rfl rfl rfl rfl (by simp [Value.oneCell']) ?_; intro w9 n9 c9)
          refine bodyPost_ret (results_ctt rfl rfl (chg_load n9)) rfl ?_
          rw [HX.out]
          exact ⟨none, 0, rfl, OwnB.nil_ _ _ _, chg8 bb3 (Nat.le_refl _) c9⟩
      · have hx0' : ((x.toNat : Int) == 0) = false := by
          rw [beq_eq_false_iff_ne]
          intro e
          exact hx0 (UInt8.toNat_inj.1 (by simpa using e))
        by_cases hx1 : x = 1
        · have hx1' : ((x.toNat : Int) == 1) = true := by rw [hx1]; rfl
          have HX := Lib.hid (HGONE.out hx1)
          clear HFORM HGONE HVAL hx0 hx1
          go_enter Try.func45, Try.ntmps45
          go_wp2_with fail
          rw [HW0.out]
          refine HROW.out.mono ?_
          rintro e w1 ⟨v1, rfl, o1, b1⟩
          obtain ⟨A1, c1, rfl, hB1⟩ := o1.form
          have n1 := (b1.block w.heap.size (by omega)).trans nW0
          have bb1 := bW0.trans (b1.mono bW0.size)
          have HG := Lib.hid (get_any A n c b (M : Int) 1 w1 (H.out.below bb1))
          rw [HGR.out] at HG
          go_wp2_with fail
          refine HG.out.mono ?_
          rintro e w2 ⟨rfl, rfl⟩
          clear HG
          have kc := run_convert_bs (P := Try.prog) hB1 24 5 9 Try.underlying24 Try.underlying5 Try.underlying9
          go_wp2_with (refine wp_st3 (.tmp 4) (.tmp 58) n1 rfl rfl rfl rfl (by simp [Value.oneCell']) ?_; intro w9 n9 c9)
          refine bodyPost_ret (results_ctt rfl rfl (chg_load n9)) rfl ?_
          rw [HX.out]
          refine ⟨none, 0, ?_, OwnB.nil_ _ _ _, chg8 bb1 (Nat.le_refl _) c9⟩
          first | rfl | (simp; omega)
        · have hx1' : ((x.toNat : Int) == 1) = false := by
            rw [beq_eq_false_iff_ne]
            intro e
            exact hx1 (UInt8.toNat_inj.1 (by show x.toNat = 1; omega))
          have hgt : 1 < x := by
            rw [UInt8.lt_iff_toNat_lt]
            have h0 : x.toNat ≠ 0 := fun e => hx0 (UInt8.toNat_inj.1 (by simpa using e))
            have h1 : x.toNat ≠ 1 := fun e => hx1 (UInt8.toNat_inj.1 (by simpa using e))
            show 1 < x.toNat
            omega
          have HX := Lib.hid (HFORM.out hgt)
          clear HFORM HGONE HVAL hx0 hx1 hgt
          go_enter Try.func45, Try.ntmps45
          go_wp2_with fail
          rw [HW0.out]
          refine HROW.out.mono ?_
          rintro e w1 ⟨v1, rfl, o1, b1⟩
          obtain ⟨A1, c1, rfl, hB1⟩ := o1.form
          have n1 := (b1.block w.heap.size (by omega)).trans nW0
          have bb1 := bW0.trans (b1.mono bW0.size)
          have HG := Lib.hid (get_any A n c b (M : Int) 1 w1 (H.out.below bb1))
          rw [HGR.out] at HG
          go_wp2_with fail
          refine HG.out.mono ?_
          rintro e w2 ⟨rfl, rfl⟩
          clear HG
          go_wp2_with (refine wp_st3 (.tmp 4) (.tmp 60) n1 rfl rfl rfl rfl (by simp [Value.oneCell']) ?_; intro w9 n9 c9)
          refine bodyPost_ret (results_ctt rfl rfl (chg_load n9)) rfl ?_
          rw [HX.out]
          exact ⟨none, 0, rfl, OwnB.nil_ _ _ _, chg8 bb1 (Nat.le_refl _) c9⟩
  · have he' : (er != 0) = true := by simp [he]
    have HX := Lib.hid (hk he)
    clear hk hend hform hgone hval hback he
    go_enter Try.func45, Try.ntmps45
    go_wp2_with fail
    rw [HW0.out]
    refine HROW.out.mono ?_
    rintro e w1 ⟨v1, rfl, o1, b1⟩
    obtain ⟨A1, c1, rfl, hB1⟩ := o1.form
    have n1 := (b1.block w.heap.size (by omega)).trans nW0
    have bb1 := bW0.trans (b1.mono bW0.size)
    go_wp2_with (refine wp_st3 (.tmp 4) (.tmp 21) n1 rfl rfl rfl rfl (by simp [Value.oneCell']) ?_; intro w9 n9 c9)
    refine bodyPost_ret (results_ctt rfl rfl (chg_load n9)) rfl ?_
    rw [HX.out]
    exact ⟨none, 0, rfl, OwnB.nil_ _ _ _, chg8 bb1 (Nat.le_refl _) c9⟩
end Go.Proofs.Ytlchfadfbepapaa
