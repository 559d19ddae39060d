/-
  cardexlaw04's walk: DiskAll, the walk itself.
-/
import Derived.Test.YtajdeoackpfhoaaLaw04h
import Derived.Test.YtajdeoackpfhoaaLives04
namespace Go.Proofs.Ytajdeoackpfhoaa
open Go.RowKit

set_option maxHeartbeats 4000000 in
set_option maxRecDepth 100000 in
theorem walk_DiskAll (A1 : Option Addr) (n1 c1 : Nat) (l1 : List (UInt8 × dk.Blk)) (A2 : Option Addr) (n2 c2 : Nat) (l2 : List (UInt8 × dk.Blk)) (w : World)
    (h1 : PS w A1 n1 c1 l1) (h2 : PS w A2 n2 c2 l2) :
    Calls Try.prog 5 #[.slice A1 n1 c1, .slice A2 n2 c2] w fun e w' => e = .returned (.bool true) ∧ Below w.heap.size w w' := by
  have hl2 := h2.len
  have hcap := h2.cap
  have hmax := h2.max
  obtain ⟨hz, -⟩ := zero_of_info zero_blk
  obtain ⟨Z, hZ⟩ : ∃ Z : Array Value, Z = (dk.cellsS (List.replicate 16 dk.zero)).toArray := ⟨_, rfl⟩
  obtain ⟨hz16, -⟩ := zero_of_info zero_arr16
  rw [← hZ] at hz16
  have HZ := Lib.hid hZ
  obtain ⟨S1, hS1⟩ : ∃ S, dk.lay (List.replicate 64 dk.zero) ((l1.take 40).map dk.conv) = S := ⟨_, rfl⟩
  have hSl : S1.length = 64 := by rw [← hS1, dk.lay_length]; simp
  obtain ⟨m0, hm0⟩ : ∃ m : Nat, (l1.take 40).length + 1 = m := ⟨_, rfl⟩
  have hm0' : m0 ≤ 41 := by rw [← hm0, List.length_take]; omega
  have hfl := dk.wst_start (l1.take 40)
  rw [hS1, show (((l1.take 40).length : Int) + 1) = (m0 : Int) from by omega] at hfl
  have hfew0 : (dk.stw (l1.take 40)).Few := by constructor <;> simp [dk.stw] <;> omega
  have HF0 := Lib.hid hfl
  clear hS1 hfl hZ hm0
  go_enter Try.func5, Try.ntmps5
  go_wp2_with fail
  refine (written_any _ _ _ _ _ h1).mono ?_
  rintro e w1 ⟨F1, d, rfl, hD1, hb1, hF1⟩
  obtain ⟨p, rfl⟩ := hD1.form
  go_wp2_with fail
  refine (cd_flush hD1 hfew0).mono ?_
  rintro e w2 ⟨F2, rfl, hD2, hC2, hS2⟩
  rw [HF0.out] at hD2 ⊢
  simp only at hD2
  have hb2 : Below w.heap.size w w2 := (Chg.of_below hb1 F1 |>.trans hC2 (Sub.refl _ _)).below (Nat.le_refl _) hF1
  have hF2 : ∀ k ∈ F2, w.heap.size ≤ k := fun k hk => (hS2 k hk).elim (hF1 k) (fun h => Nat.le_trans hb1.size h)
  have hS1len : ∀ b ∈ S1, b.length = 128 := hD2.ok.lenS
  clear hD1 hC2 hS2 hb1 hF1 HF0 h1 hfew0
  have hD3 := hD2.below ((Below.refl _ _).alloc (Nat.le_refl _) (.cells Z 52))
  have hb3 := hb2.alloc hb2.size (.cells Z 52)
  have hr3 := heap_alloc_new w2 (.cells Z 52)
  have eZ : Z = (dk.cellsS (dk.firsts S1 0)).toArray := by rw [HZ.out]; simp [dk.firsts]
  have hr3 := hr3.trans (show some (Obj.cells Z 52 (0, 0)) = some (Obj.cells (dk.cellsS (dk.firsts S1 0)).toArray 52 (0, 0)) from by rw [eZ])
  have HeZ := Lib.hid eZ
  clear eZ
  obtain ⟨B, hB⟩ : ∃ B, w2.heap.size = B := ⟨_, rfl⟩
  have hF3 : ∀ k ∈ F2, w.heap.size ≤ k ∧ k ≠ B := fun k hk => ⟨hF2 k hk, by have := hD2.there k hk; omega⟩
  have hwB : w.heap.size ≤ B := by rw [← hB]; exact hb2.size
  go_wp2_with fail
  rw [hB] at hr3
  generalize w2.alloc (.cells Z 52) = w3 at *
  clear hD2 hb2 hF2 HZ hz16 hB
  go_loopw [8] (fun i wr => ∃ k : Nat, i = .int .i64 k ∧ k ≤ 16 ∧ CD wr F2 (.pointer (some ⟨p, 0, none⟩)) (dk.wst S1 m0 []) ∧ Below w.heap.size w wr ∧ wr.heap[B]? = some (.cells (dk.cellsS (dk.firsts S1 k)).toArray 52 (0, 0))) (fun i _ => 16 - (intOf i).toNat)
  case atStart => exact ⟨0, rfl, by omega, hD3, hb3, hr3⟩
  case round =>
    clear hD3 hb3 hr3
    obtain ⟨k, rfl, hk, hD, hb, hr⟩ := hrel
    by_cases hk16 : k < 16
    · have hread := cd_read (k : Int) hD
      rw [dk.wst_read S1 m0 [] hSl k (by omega), show dk.lay S1 (([] : List (UInt8 × dk.Blk)).map dk.conv) = S1 from rfl] at hread
      have hxl : (S1.getD k dk.zero).length = 128 := dk.getD_len hS1len k
      have hset := dk.firsts_set hSl hk16
      have hfl := dk.firsts_length hSl hk
      have hcs := dk.cellsS_set (dk.firsts_len hS1len k) (i := k) (by omega) hxl
      rw [hset] at hcs
      generalize S1.getD k dk.zero = x at *
      have hcl := dk.cellsS_length (dk.firsts_len hS1len k)
      have HCS := Lib.hid hcs
      have HRD := Lib.hid hread
      clear hcs hset hread
      go_wp2_with fail
      refine HRD.out.mono ?_
      rintro e w4 ⟨rfl, hb4⟩
      have hr4 := (hb4.block B (Array.getElem?_eq_some_iff.1 hr).1).trans hr
      have hD4 := hD.below hb4
      have hbb4 := hb.trans (hb4.mono hb.size)
      clear hD hr
      go_wp2_with (refine wp_st (.tmp 43) (.tmp 41) x hr4 (by rw [hcl, hfl]; omega) hxl rfl rfl rfl rfl ?_; intro w5 hW5 hc5)
      rw [HCS.out] at hW5
      go_roundw
      case rel =>
        exact ⟨k + 1, by go_num, by omega, hD4.keep (hc5.same (fun a ha hm => (hF3 a hm).2 (List.mem_singleton.1 ha)) hD4.there), (Chg.of_below hbb4 [B] |>.trans hc5 (Sub.refl _ _)).below (Nat.le_refl _) (fun a ha => by rw [List.mem_singleton.1 ha]; exact hwB), hW5⟩
      case measure => simp [intOf]; omega
    · have hk16' : k = 16 := by omega
      rw [hk16'] at hr
      clear hk hk16'
      go_wp2_with fail
      clear hk16
      go_loopw [9, 10] (fun v i wr => ∃ (j : Nat) (F : List Nat), i = .int .i64 j ∧ j ≤ n2 ∧ j ≤ 40 ∧ CD wr F (.pointer (some ⟨p, 0, none⟩)) (dk.wst S1 m0 (l2.take j)) ∧ (∀ k ∈ F, w.heap.size ≤ k ∧ k ≠ B) ∧ wr.ownsRow 0 3 1 v j ((dk.pk j).map (Value.int .i64 ·)) ∧ (∀ k, v.ownBlock = some k → w.heap.size ≤ k ∧ k ∉ F ∧ k ≠ B) ∧ Below w.heap.size w wr ∧ wr.heap[B]? = some (.cells (dk.cellsS (dk.firsts S1 16)).toArray 52 (0, 0))) (fun _ i _ => 40 - (intOf i).toNat)
      case atStart => exact ⟨0, F2, rfl, by omega, by omega, hD, hF3, World.ownsRow_nil _ _ _ _, fun k hk => by simp [Value.ownBlock] at hk, hb, hr⟩
      case round =>
        clear hD hF3 hb hr
        obtain ⟨j, F, rfl, hjn, hj40, hD, hF, hown, hpk, hb, hr⟩ := hrel
        have hP := h2.below hb
        by_cases hin : j < n2 ∧ j < 40
        · obtain ⟨q1, q2⟩ := hin
          obtain ⟨b, o, rfl, hbl, hc⟩ := hP.has (by omega)
          obtain ⟨cN, cB⟩ := hc j (by omega)
          have hx := hP.blk _ (List.getElem_mem (show j < l2.length by omega))
          have hst : l2.take (j + 1) = l2.take j ++ [l2[j]'(by omega)] := List.take_succ_eq_append_getElem (by omega)
          have hw := dk.wst_snoc S1 m0 (l2.take j) (l2[j]'(by omega)) hSl
          rw [← hst] at hw
          generalize l2[j]'(by omega) = x at *
          obtain ⟨xn, xb⟩ := x
          simp only at cN cB hx hw
          have hfew : (dk.wst S1 m0 (l2.take j)).Few := by
            constructor
            · simp [dk.wst]; omega
            · simp [dk.wst]; omega
          have hwr := cd_write ((xn.toNat % 16 : Nat) : Int) xb hx (h := show CD wr.drew F _ _ from hD.below ((Below.refl _ _).drew)) hfew
          rw [hw] at hwr
          have HW := Lib.hid hwr
          have hxn := xn.toNat_lt
          clear hc hst hw hwr hfew h2 hP
          go_wp2_with fail
          refine wp_region_still_tail 13 (by kernel_rfl) (by kernel_rfl) ?_
          simp only [List.take_succ_cons, List.take_zero, List.drop_succ_cons, List.drop_zero]
          iterate 12 still_step
          rw [rem16 xn]
          refine still_ld (.tmp 65) xb (show wr.drew.rangeAt b (o + j * 129 + 1) (dk.cells xb) from cB) hx rfl rfl (by rfl) ?_
          simp only [Act.put, List.setIfInBounds_toArray, List.set_cons_zero, List.set_cons_succ]
          refine wpStill_nil ?_
          change wpList _ _ _ _ _ wr.drew
          clear cN cB
          go_wp2_with fail
          refine HW.out.mono ?_
          rintro e w4 ⟨F4, rfl, hD4, hC4, hS4⟩
          have hsz4 : wr.heap.size ≤ w4.heap.size := hC4.size
          have hF4 : ∀ k ∈ F4, w.heap.size ≤ k ∧ k ≠ B := fun k hk => by
            have hBl := (Array.getElem?_eq_some_iff.1 hr).1
            rcases hS4 k hk with h | h
            · exact hF k h
            · have h' : wr.heap.size ≤ k := h
              exact ⟨Nat.le_trans hb.size h', by omega⟩
          have hul := own_there hown
          have hpk4 : ∀ k, u9.ownBlock = some k → w.heap.size ≤ k ∧ k ∉ F4 ∧ k ≠ B ∧ k < wr.heap.size := fun k hk => by
            obtain ⟨g1, g2, g3⟩ := hpk k hk
            have g4 := hul k hk
            refine ⟨g1, fun hm => ?_, g3, g4⟩
            rcases hS4 k hm with h | h
            · exact g2 h
            · have h' : wr.heap.size ≤ k := h
              omega
          have hr4 := (hC4.block B (show B < wr.drew.heap.size from (Array.getElem?_eq_some_iff.1 hr).1) (fun hm => (hF B hm).2 rfl)).trans (show wr.drew.heap[B]? = _ from hr)
          have hown4 := dk.own_keep (w' := w4.alloc (.cells #[.int .i64 (128 + (j : Int))] 3)) hown (fun k hk => (Below.heap_alloc w4 _ k (by have := (hpk4 k hk).2.2.2; omega)).trans (hC4.block k (hul k hk) (hpk k hk).2.1))
          have hb4 : Below w.heap.size w w4 := ((Chg.of_below hb F).trans (Chg.drew _ F) (Sub.refl _ _)).trans hC4 (Sub.refl _ _) |>.below (Nat.le_refl _) (fun k hk => (hF k hk).1)
          have hn4 := heap_alloc_new w4 (.cells #[.int .i64 (128 + (j : Int))] 3)
          obtain ⟨i0, hi0, hz0, hs0, hb0⟩ := info_parts4 info_int
          clear hr hown hpk hul hD hS4 hC4 HW
          go_wp2_with (at_builtin; refine wpList_append_lies _ rfl (.tmp 69) (.tmp 72) 34 rfl 0 3 i0 _ 1 8 Try.underlying34 hi0 hz0 hs0 hb0 (by rfl) (by omega) u9 j _ rfl hown4 ⟨w4.heap.size, 0, none⟩ 1 1 [.int .i64 (128 + (j : Int))] rfl (by rfl) (World.news_of_block hn4) (by simp [Value.oneCell']) (by omega) (by rw [maxLen_eq]; omega) (by omega) (Nat.zero_le _) _ rfl ?_; intro gg cp w5 hown5 hg5 hat5 hlt5)
          go_roundw
          case rel =>
            have hC5 : Chg w4 w5 u9.ownBlock.toList := (Chg.alloc w4 _ u9.ownBlock.toList).trans (Chg.grown hg5) (Sub.refl _ _)
            have hgB : w.heap.size ≤ gg ∧ gg ∉ F4 ∧ gg ≠ B := by
              rcases hat5 with h | h
              · have := hpk4 gg h
                exact ⟨this.1, this.2.1, this.2.2.1⟩
              · have hB4 := (Array.getElem?_eq_some_iff.1 hr4).1
                have := hb4.size
                simp only [World.size_alloc] at h
                exact ⟨by omega, fun hm => by have := hD4.there gg hm; omega, by omega⟩
            refine ⟨j + 1, F4, by go_num, by omega, by omega, hD4.keep (hC5.same (fun a ha hm => ?_) hD4.there), hF4, ?_, fun k hk => ?_, ?_, ?_⟩
            · rw [Option.mem_toList] at ha
              exact (hpk4 a ha).2.1 hm
            · rw [dk.pk_succ, List.map_append]
              exact hown5
            · simp only [Value.ownBlock, Option.some.injEq] at hk
              rw [← hk]
              exact hgB
            · exact (Chg.of_below hb4 _).trans hC5 (Sub.refl _ _) |>.below (Nat.le_refl _) (fun k hk => by rw [Option.mem_toList] at hk; exact (hpk4 k hk).1)
            · rw [hC5.block B (Array.getElem?_eq_some_iff.1 hr4).1 (fun hm => by rw [Option.mem_toList] at hm; exact (hpk4 B hm).2.2.1 rfl)]
              exact hr4
          case measure => simp [intOf]; omega
        · have hcs : (j < n2 ∧ ¬ j < 40) ∨ ¬ j < n2 := by omega
          have hlj : (l2.take j).length = j := by rw [List.length_take]; omega
          obtain ⟨A, c, rfl, hI, hAo⟩ := IS.of_own hown (dk.pk_length j).symm
          have hIc := hI.cap
          have hIm := hI.max
          generalize l2.take j = lj at *
          have hfew : (dk.wst S1 m0 lj).Few := by
            constructor
            · simp [dk.wst]; omega
            · simp [dk.wst]; omega
          have hKs := dk.wst_kept S1 m0 lj hS1len hD.ok.lenL (dk.pk j) (by rw [dk.pk_length]; omega) (dk.pk_ge j)
          have hLs := dk.wst_lost S1 m0 lj
          have hKlen : ∀ b ∈ dk.lay S1 (lj.map dk.conv), b.length = 128 := dk.lay_len _ hD.ok.lenL _ hS1len
          have hKl : (dk.lay S1 (lj.map dk.conv)).length = 64 := by rw [dk.lay_length]; exact hSl
          have hRd := fun k hk => dk.wst_read S1 m0 lj hSl k hk
          have hloose : (dk.wst S1 m0 lj).L.length = j := by simp [dk.wst, hlj]
          generalize dk.lay S1 (lj.map dk.conv) = K at *
          generalize dk.wst S1 m0 lj = s at *
          have hbA : 0 < j → ∀ b o, A = some ⟨b, o, none⟩ → b < wr.heap.size := fun h0 b o e => by
            obtain ⟨b', o', e', hb', _⟩ := hI.has h0
            rw [e] at e'
            injection e' with e'
            injection e' with e1 e2
            omega
          have hBr := (Array.getElem?_eq_some_iff.1 hr).1
          clear hown hpk hAo hin hP h2
          rcases hcs with ⟨q1, q2⟩ | q1
          all_goals
            go_wp2_with fail
            refine (cd_copy hD hfew).mono ?_
            rintro e w4 ⟨FK, dK, rfl, hK4, hb4, hFK⟩
            obtain ⟨pK, rfl⟩ := hK4.form
            have hD4 := hD.below hb4
            have hI4 := hI.chg (Chg.of_below hb4 []) (by simp)
            have hr4 := (hb4.block B hBr).trans hr
            have hbb4 := hb.trans (hb4.mono hb.size)
            have aK : Apt FK F := fun k hk hk2 => by have := hFK k hk; have := hD.there k hk2; omega
            have hFKw : ∀ k ∈ FK, w.heap.size ≤ k := fun k hk => Nat.le_trans hb.size (hFK k hk)
            have hFKB : ∀ k ∈ FK, k ≠ B := fun k hk => by have := hFK k hk; omega
            have hpK : 0 < j → ∀ b o, A = some ⟨b, o, none⟩ → b ∉ FK := fun h0 b o e hm => by have := hbA h0 b o e; have := hFK b hm; omega
            have hs4 := hb4.size
            clear hD hI hr hb4 hbA
            go_wp2_with fail
            refine (cd_copy hD4 hfew).mono ?_
            rintro e w5 ⟨FL, dL, rfl, hL5, hb5, hFL⟩
            obtain ⟨pL, rfl⟩ := hL5.form
            have hD5 := hD4.below hb5
            have hK5 := hK4.below hb5
            have hI5 := hI4.chg (Chg.of_below hb5 []) (by simp)
            have hr5 := (hb5.block B (by omega)).trans hr4
            have hbb5 := hbb4.trans (hb5.mono hbb4.size)
            have aL : Apt FL F := fun k hk hk2 => by have := hFL k hk; have := hD4.there k hk2; omega
            have aKL : Apt FK FL := fun k hk hk2 => by have := hFL k hk2; have := hK4.there k hk; omega
            have hFLw : ∀ k ∈ FL, w.heap.size ≤ k := fun k hk => Nat.le_trans hbb4.size (hFL k hk)
            have hFLB : ∀ k ∈ FL, k ≠ B := fun k hk => by have := hFL k hk; omega
            have hs5 := hb5.size
            clear hD4 hK4 hI4 hr4 hb5
            go_wp2_with fail
            refine (cd_crash A j c (dk.pk j) hI5 hpK hK5).mono ?_
            rintro e w6 ⟨FK6, rfl, hK6, hC6, hS6⟩
            have hD6 := hD5.keep (hC6.same aK hD5.there)
            have hL6 := hL5.keep (hC6.same aKL hL5.there)
            have aK6 := aK.step hS6 hD5.there
            have aKL6 := aKL.step hS6 hL5.there
            have hr6 := (hC6.block B (by omega) (fun hm => hFKB B hm rfl)).trans hr5
            have hbb6 := (Chg.of_below hbb5 FK |>.trans hC6 (Sub.refl _ _)).below (Nat.le_refl _) hFKw
            have hs6 := hC6.size
            clear hD5 hK5 hL5 hI5 hr5 hC6 hS6 aK aKL
            go_wp2_with fail
            refine (cd_crash none 0 0 [] ⟨rfl, Nat.le_refl _, by omega, fun h => absurd h (by omega)⟩ (fun h => absurd h (by omega)) hL6).mono ?_
            rintro e w7 ⟨FL7, rfl, hL7, hC7, hS7⟩
            have hD7 := hD6.keep (hC7.same aL hD6.there)
            have hK7 := hK6.keep (hC7.same aKL6.symm hK6.there)
            have hr7 := (hC7.block B (by omega) (fun hm => hFLB B hm rfl)).trans hr6
            have hbb7 := (Chg.of_below hbb6 FL |>.trans hC7 (Sub.refl _ _)).below (Nat.le_refl _) hFLw
            clear hD6 hK6 hL6 hr6 hC7 hS7 aL aKL6 aK6 hs4 hs5 hs6
            go_wp2_with fail
            refine (cd_loose hD7).mono ?_
            rintro e w8 ⟨rfl, rfl⟩
            rw [hloose]
            generalize dk.crash s (dk.pk j) = sK at *
            generalize dk.crash s [] = sL at *
            go_wp2_with fail
            go_loopw [13] (fun i w8 => ∃ m : Nat, i = .int .i64 m ∧ m ≤ 16 ∧ CD w8 F (.pointer (some ⟨p, 0, none⟩)) s ∧ CD w8 FK6 (.pointer (some ⟨pK, 0, none⟩)) sK ∧ CD w8 FL7 (.pointer (some ⟨pL, 0, none⟩)) sL ∧ Below w.heap.size w w8 ∧ w8.heap[B]? = some (.cells (dk.cellsS (dk.firsts S1 16)).toArray 52 (0, 0))) (fun i _ => 16 - (intOf i).toNat)
            case atStart => exact ⟨0, rfl, by omega, hD7, hK7, hL7, hbb7, hr7⟩
            case round =>
              clear hD7 hK7 hL7 hbb7 hr7 hfew hloose hFKw hFKB hFLw hFLB hFK hFL hbb4 hbb5 hbb6 hb hpK
              obtain ⟨m, rfl, hm, hD, hK, hL, hb, hr⟩ := hrel
              by_cases hm16 : m < 16
              · have hxl : (K.getD m dk.zero).length = 128 := dk.getD_len hKlen m
                have hyl : (S1.getD m dk.zero).length = 128 := dk.getD_len hS1len m
                have c1 := cd_read (m : Int) hD
                rw [hRd m (by omega)] at c1
                have hgK := dk.sure_in (s := sK) (k := m) (by rw [hKs]; omega)
                have hgL := dk.sure_in (s := sL) (k := m) (by rw [hLs]; omega)
                rw [hKs] at hgK
                rw [hLs] at hgL
                have hfg := dk.firsts_get hSl hm16 (by rw [dk.firsts_length hSl (Nat.le_refl _)]; omega)
                have hrB : ∀ W : World, W.heap[B]? = some (.cells (dk.cellsS (dk.firsts S1 16)).toArray 52 (0, 0)) → W.rangeAt B (m * 128) (dk.cells (S1.getD m dk.zero)) := fun W hW => by
                  have := dk.cellsS_range (dk.firsts_len hS1len 16) hW (i := m) (by rw [dk.firsts_length hSl (Nat.le_refl _)]; omega)
                  rwa [hfg] at this
                generalize K.getD m dk.zero = x at *
                generalize S1.getD m dk.zero = y at *
                have eX := eq_blk x x hxl hxl
                have eY := eq_blk y y hyl hyl
                rw [decide_eq_true rfl] at eX eY
                have C1 := Lib.hid c1
                have HGK := Lib.hid hgK
                have HGL := Lib.hid hgL
                have HRB := Lib.hid hrB
                clear c1 hgK hgL hrB hfg hRd
                go_wp2_with fail
                refine C1.out.mono ?_
                rintro e v1 ⟨rfl, hb1⟩
                have hD1 := hD.below hb1
                have hK1 := hK.below hb1
                have hL1 := hL.below hb1
                have hbb1 := hb.trans (hb1.mono hb.size)
                have hB1 := (hb1.block B (Array.getElem?_eq_some_iff.1 hr).1).trans hr
                have hr1 := heap_alloc_new v1 (.cells (dk.cells dk.zero).toArray 33)
                clear hD hK hL hr hb1
                go_wp2_with (refine wp_st0 (.tmp 14) (.tmp 102) x hr1 zero_len hxl rfl rfl rfl rfl ?_; intro v2 hW2 hc2; have hb2 := new_chg hc2; have hD2 := hD1.below hb2; have hK2 := hK1.below hb2; have hL2 := hL1.below hb2; have hbb2 := hbb1.trans (hb2.mono hbb1.size); have hB2 := (hb2.block B (Array.getElem?_eq_some_iff.1 hB1).1).trans hB1; clear hD1 hK1 hL1 hr1 hc2 hb2 hB1)
                have c2 := cd_sure (m : Int) hK2
                rw [HGK.out] at c2
                refine c2.mono ?_
                rintro e v3 ⟨rfl, hb3⟩
                have hD3 := hD2.below hb3
                have hK3 := hK2.below hb3
                have hL3 := hL2.below hb3
                have hbb3 := hbb2.trans (hb3.mono hbb2.size)
                have hB3 := (hb3.block B (Array.getElem?_eq_some_iff.1 hB2).1).trans hB2
                have hX3 := (hb3.block _ (Array.getElem?_eq_some_iff.1 hW2).1).trans hW2
                have hr3 := heap_alloc_new v3 (.cells (dk.cells dk.zero).toArray 33)
                clear hD2 hK2 hL2 hB2 hW2 hb3 c2
                go_wp2_with (refine wp_st0 (.tmp 16) (.tmp 108) x hr3 zero_len hxl rfl rfl rfl rfl ?_; intro v4 hW4 hc4; have hb4 := new_chg hc4; have hD4 := hD3.below hb4; have hK4 := hK3.below hb4; have hL4 := hL3.below hb4; have hbb4 := hbb3.trans (hb4.mono hbb3.size); have hB4 := (hb4.block B (Array.getElem?_eq_some_iff.1 hB3).1).trans hB3; have hX4 := (hb4.block _ (Array.getElem?_eq_some_iff.1 hX3).1).trans hX3; clear hD3 hK3 hL3 hr3 hc4 hb4 hB3 hX3)
                have c3 := cd_sure (m : Int) hL4
                rw [HGL.out] at c3
                refine c3.mono ?_
                rintro e v5 ⟨rfl, hb5⟩
                have hD5 := hD4.below hb5
                have hK5 := hK4.below hb5
                have hL5 := hL4.below hb5
                have hbb5 := hbb4.trans (hb5.mono hbb4.size)
                have hB5 := (hb5.block B (Array.getElem?_eq_some_iff.1 hB4).1).trans hB4
                have hX5 := (hb5.block _ (Array.getElem?_eq_some_iff.1 hX4).1).trans hX4
                have hY5 := (hb5.block _ (Array.getElem?_eq_some_iff.1 hW4).1).trans hW4
                have hr5 := heap_alloc_new v5 (.cells (dk.cells dk.zero).toArray 33)
                clear hD4 hK4 hL4 hB4 hX4 hW4 hb5 c3
                go_wp2_with (refine wp_st0 (.tmp 18) (.tmp 114) y hr5 zero_len hyl rfl rfl rfl rfl ?_; intro v6 hW6 hc6; have hb6 := new_chg hc6; have hD6 := hD5.below hb6; have hK6 := hK5.below hb6; have hL6 := hL5.below hb6; have hbb6 := hbb5.trans (hb6.mono hbb5.size); have hB6 := (hb6.block B (Array.getElem?_eq_some_iff.1 hB5).1).trans hB5; have hX6 := (hb6.block _ (Array.getElem?_eq_some_iff.1 hX5).1).trans hX5; have hY6 := (hb6.block _ (Array.getElem?_eq_some_iff.1 hY5).1).trans hY5; clear hD5 hK5 hL5 hr5 hc6 hb6 hB5 hX5 hY5)
                have g1 := blk_range hX6
                have g2 := blk_range hY6
                have g3 := blk_range hW6
                have g4 := HRB.out v6 hB6
                have g4' : v6.drew.rangeAt B (m * 128) (dk.cells y) := g4
                have hB6' : v6.drew.heap[B]? = _ := hB6
                clear hX6 hY6 hW6 hB6
                refine wp_region_still_tail 21 (by kernel_rfl) (by kernel_rfl) ?_
                simp only [List.take_succ_cons, List.take_zero, List.drop_succ_cons, List.drop_zero]
                refine still_ld (.tmp 14) x (show v6.drew.rangeAt _ 0 (dk.cells x) from g1) hxl rfl rfl (by rfl) ?_
                simp only [Act.put, List.setIfInBounds_toArray, List.set_cons_zero, List.set_cons_succ]
                refine still_ld (.tmp 16) x (show v6.drew.rangeAt _ 0 (dk.cells x) from g2) hxl rfl rfl (by rfl) ?_
                simp only [Act.put, List.setIfInBounds_toArray, List.set_cons_zero, List.set_cons_succ]
                iterate 2 still_step
                refine still_ld (.tmp 18) y (show v6.drew.rangeAt _ 0 (dk.cells y) from g3) hyl rfl rfl (by rfl) ?_
                simp only [Act.put, List.setIfInBounds_toArray, List.set_cons_zero, List.set_cons_succ]
                iterate 2 still_step
                refine still_ld (.tmp 122) y g4' hyl rfl rfl (by rfl) ?_
                simp only [Act.put, List.setIfInBounds_toArray, List.set_cons_zero, List.set_cons_succ]
                iterate 13 still_step
                refine wpStill_nil ?_
                change wpList _ _ _ _ _ v6.drew
                go_wp2_with fail
                go_roundw
                case rel => exact ⟨m + 1, by go_num, by omega, hD6.below ((Below.refl _ _).drew), hK6.below ((Below.refl _ _).drew), hL6.below ((Below.refl _ _).drew), hbb6.drew, hB6'⟩
                case measure => simp [intOf]; omega
              · go_wp2_with fail
                refine (lives04_any _).mono ?_
                rintro e w11 ⟨rfl, hb11⟩
                go_wp2_with fail
                go_ret
                exact ⟨rfl, hb.trans (hb11.mono hb.size)⟩
end Go.Proofs.Ytajdeoackpfhoaa
