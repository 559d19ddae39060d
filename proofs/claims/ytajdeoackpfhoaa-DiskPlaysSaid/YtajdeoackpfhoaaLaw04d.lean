/-
  cardexlaw04's walk: alike.
-/
import Derived.Test.YtajdeoackpfhoaaDiskC
import Derived.Test.YtajdeoackpfhoaaDiskE
namespace Go.Proofs.Ytajdeoackpfhoaa
open Go.RowKit

theorem dk.sure_len {s : dk.St} (h : s.Ok) (n : Int) : (dk.sure s n).1.length = 128 := by
  unfold dk.sure
  split
  · exact zero_len
  · exact dk.getD_len h.lenS _
theorem dk.read_len {s : dk.St} (h : s.Ok) (n : Int) : (dk.read s n).1.length = 128 := by
  unfold dk.read
  split
  · exact dk.look_len _ h.lenL _ _ (dk.getD_len h.lenS _)
  · exact zero_len

set_option maxHeartbeats 4000000 in
set_option maxRecDepth 100000 in
theorem alike_any {w : World} {F G : List Nat} {d r : Value} {s : dk.St} (hC : CD w F d s) (hR : RD w G r s) : Calls Try.prog 13 #[d, r] w fun e w' => e = .returned (.bool true) ∧ Below w.heap.size w w' := by
  obtain ⟨hz, -⟩ := zero_of_info zero_blk
  obtain ⟨p, rfl⟩ := hC.form
  obtain ⟨p', rfl⟩ := hR.form
  have hok := hC.ok
  have hm := hok.most
  go_enter Try.func13, Try.ntmps13
  go_wp2_with fail
  refine (cd_blocks hC).mono ?_
  rintro e w1 ⟨rfl, rfl⟩
  go_wp2_with fail
  refine (rd_blocks hR).mono ?_
  rintro e w1 ⟨rfl, rfl⟩
  go_wp2_with fail
  refine (cd_dark hC).mono ?_
  rintro e w1 ⟨rfl, rfl⟩
  go_wp2_with fail
  refine (rd_dark hR).mono ?_
  rintro e w1 ⟨rfl, rfl⟩
  go_wp2_with fail
  refine (cd_steps hC).mono ?_
  rintro e w1 ⟨rfl, rfl⟩
  go_wp2_with fail
  refine (rd_steps hR).mono ?_
  rintro e w1 ⟨rfl, rfl⟩
  go_wp2_with fail
  refine (cd_loose hC).mono ?_
  rintro e w1 ⟨rfl, rfl⟩
  go_wp2_with fail
  refine (rd_loose hR).mono ?_
  rintro e w1 ⟨rfl, rfl⟩
  go_wp2_with fail
  go_loopw [5] (fun i wr => ∃ j : Nat, i = .int .i64 j ∧ j ≤ 70 ∧ CD wr F (.pointer (some ⟨p, 0, none⟩)) s ∧ RD wr G (.pointer (some ⟨p', 0, none⟩)) s ∧ Below w.heap.size w wr) (fun i _ => 70 - (intOf i).toNat)
  case atStart => exact ⟨0, rfl, by omega, hC, hR, Below.refl _ _⟩
  case round =>
    clear hC hR
    obtain ⟨j, rfl, hj, hC, hR, hb⟩ := hrel
    have hB := Lib.hid (rd_blocks hR)
    by_cases hin : j < s.S.length ∧ j < 70
    · obtain ⟨h1, h2⟩ := hin
      obtain ⟨⟨x, ex⟩, hx⟩ : ∃ q, dk.sure s (j : Int) = q := ⟨_, rfl⟩
      obtain ⟨⟨y, ey⟩, hy⟩ : ∃ q, dk.read s (j : Int) = q := ⟨_, rfl⟩
      have hxl := dk.sure_len hok (j : Int)
      have hyl := dk.read_len hok (j : Int)
      rw [hx] at hxl
      rw [hy] at hyl
      simp only at hxl hyl
      have eX := eq_blk x x hxl hxl
      have eY := eq_blk y y hyl hyl
      rw [decide_eq_true rfl] at eX eY
      have c1 := cd_sure (j : Int) hC
      rw [hx] at c1
      have C1 := Lib.hid c1
      clear c1
      go_wp2_with fail
      refine hB.out.mono ?_
      rintro e w1 ⟨rfl, rfl⟩
      go_wp2_with fail
      refine C1.out.mono ?_
      rintro e w1 ⟨rfl, hb1⟩
      have hC1 := hC.below hb1
      have hR1 := hR.below hb1
      have hbb1 := hb.trans (hb1.mono hb.size)
      have hr1 := heap_alloc_new w1 (.cells (dk.cells dk.zero).toArray 33)
      go_wp2_with (refine wp_st0 (.tmp 6) (.tmp 54) x hr1 zero_len hxl rfl rfl rfl rfl ?_; intro w2 hW2 hc2; have hb12 := new_chg hc2; have hC2 := hC1.below hb12; have hR2 := hR1.below hb12; have hbb2 := hbb1.trans (hb12.mono hbb1.size))
      have c2 := rd_sure (j : Int) hR2
      rw [hx] at c2
      refine c2.mono ?_
      rintro e w3 ⟨rfl, hb3⟩
      have hC3 := hC2.below hb3
      have hR3 := hR2.below hb3
      have hbb3 := hbb2.trans (hb3.mono hbb2.size)
      have hV3 := (hb3.block _ (Array.getElem?_eq_some_iff.1 hW2).1).trans hW2
      have hr3 := heap_alloc_new w3 (.cells (dk.cells dk.zero).toArray 33)
      clear hW2 hc2 hr1 hC hR hC1 hR1 hC2 hR2 hb1 hb12 hb3 hbb1 hbb2 c2
      go_wp2_with (refine wp_st0 (.tmp 8) (.tmp 60) x hr3 zero_len hxl rfl rfl rfl rfl ?_; intro w4 hW4 hc4; have hb34 := new_chg hc4; have hC4 := hC3.below hb34; have hR4 := hR3.below hb34; have hbb4 := hbb3.trans (hb34.mono hbb3.size); have hV4 := (hb34.block _ (Array.getElem?_eq_some_iff.1 hV3).1).trans hV3)
      have c3 := cd_read (j : Int) hC4
      rw [hy] at c3
      refine c3.mono ?_
      rintro e w5 ⟨rfl, hb5⟩
      have hC5 := hC4.below hb5
      have hR5 := hR4.below hb5
      have hbb5 := hbb4.trans (hb5.mono hbb4.size)
      have hV5 := (hb5.block _ (Array.getElem?_eq_some_iff.1 hV4).1).trans hV4
      have hX5 := (hb5.block _ (Array.getElem?_eq_some_iff.1 hW4).1).trans hW4
      have hr5 := heap_alloc_new w5 (.cells (dk.cells dk.zero).toArray 33)
      clear hW4 hc4 hr3 hC3 hR3 hC4 hR4 hb34 hb5 hbb3 hbb4 c3 hV3 hV4
      go_wp2_with (refine wp_st0 (.tmp 10) (.tmp 66) y hr5 zero_len hyl rfl rfl rfl rfl ?_; intro w6 hW6 hc6; have hb56 := new_chg hc6; have hC6 := hC5.below hb56; have hR6 := hR5.below hb56; have hbb6 := hbb5.trans (hb56.mono hbb5.size); have hV6 := (hb56.block _ (Array.getElem?_eq_some_iff.1 hV5).1).trans hV5; have hX6 := (hb56.block _ (Array.getElem?_eq_some_iff.1 hX5).1).trans hX5)
      have c4 := rd_read (j : Int) hR6
      rw [hy] at c4
      refine c4.mono ?_
      rintro e w7 ⟨rfl, hb7⟩
      have hC7 := hC6.below hb7
      have hR7 := hR6.below hb7
      have hbb7 := hbb6.trans (hb7.mono hbb6.size)
      have hV7 := (hb7.block _ (Array.getElem?_eq_some_iff.1 hV6).1).trans hV6
      have hX7 := (hb7.block _ (Array.getElem?_eq_some_iff.1 hX6).1).trans hX6
      have hY7 := (hb7.block _ (Array.getElem?_eq_some_iff.1 hW6).1).trans hW6
      have hr7 := heap_alloc_new w7 (.cells (dk.cells dk.zero).toArray 33)
      clear hW6 hc6 hr5 hC5 hR5 hC6 hR6 hb56 hb7 hbb5 hbb6 c4 hV5 hV6 hX5 hX6
      go_wp2_with (first
        | (refine wp_st0 (.tmp 12) (.tmp 72) y hr7 zero_len hyl rfl rfl rfl rfl ?_; intro w8 hW8 hc8; have hb78 := new_chg hc8; have g1 := blk_range ((hb78.block _ (Array.getElem?_eq_some_iff.1 hV7).1).trans hV7); have g2 := blk_range ((hb78.block _ (Array.getElem?_eq_some_iff.1 hX7).1).trans hX7); have g3 := blk_range ((hb78.block _ (Array.getElem?_eq_some_iff.1 hY7).1).trans hY7); have g4 := blk_range hW8)
        | refine wp_ld (.tmp 6) x g1 hxl rfl rfl rfl ?_
        | refine wp_ld (.tmp 8) x g2 hxl rfl rfl rfl ?_
        | refine wp_ldw (.tmp 10) y g3 hyl rfl rfl (by rfl) ?_
        | refine wp_ldw (.tmp 12) y g4 hyl rfl rfl (by rfl) ?_)
      go_roundw
      case rel => exact ⟨j + 1, by go_num, by omega, hC7.below hb78, hR7.below hb78, hbb7.trans (hb78.mono hbb7.size)⟩
      case measure => simp [intOf]; omega
    · have hcs : (j < s.S.length ∧ ¬ j < 70) ∨ ¬ j < s.S.length := by omega
      rcases hcs with ⟨h1, h2⟩ | h1
      all_goals
        go_wp2_with fail
        refine hB.out.mono ?_
        rintro e w1 ⟨rfl, rfl⟩
        go_wp2_with fail
        go_ret
        exact ⟨rfl, hb⟩
end Go.Proofs.Ytajdeoackpfhoaa
