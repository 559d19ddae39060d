/-
  cardexlaw04's walks: DiskPlays.
-/
import Derived.Test.YtajdeoackpfhoaaLaw04d
import Derived.Test.YtajdeoackpfhoaaLaw04e
import Derived.Test.YtajdeoackpfhoaaLives04
import Derived.Test.YtajdeoackpfhoaaLaw04
namespace Go.Proofs.Ytajdeoackpfhoaa
open Go.RowKit

section
variable {ops : Array Oper} {rest : List Oper} {o : Oper} {a : Act} {w : World} {Q : Exit → Act → World → Prop}
theorem info_act : (Try.prog.info? 36).map (·.size) = some 133 := by kernel_rfl
/-- an act is loaded -/
theorem wp_lda (x : Operand) (y : AC) {g off : Nat} (hr : w.rangeAt g off y.cells) (hy : y.b.length = 128) (hgd : o.guard = none) (ho : o.op = .load 36 x) (hx : a.eval x = .pointer (some ⟨g, off, none⟩))
    (h : wpList Try.prog ops Q rest (a.put o.dst (.agg y.cells.toArray)) w) : wpList Try.prog ops Q (o :: rest) a w :=
  wpList_load_mid hgd _ x ho g off hx _ _ hr Try.underlying36 rfl (by rw [y.length hy]; exact info_act) h
end
def one1 : dk.Blk := 1 :: List.replicate 127 0
theorem one1_len : one1.length = 128 := by decide +kernel
theorem one1_set : (dk.cells dk.zero).set 0 (Value.int IntKind.u8 1) = dk.cells one1 := by kernel_rfl
theorem Chg.mem {w w' : World} {F G : List Nat} (h : Chg w w' F) (hF : ∀ k ∈ F, k ∈ G) : Chg w w' G := h.mono (fun k hk => .inl (hF k hk))

set_option maxHeartbeats 4000000 in
set_option maxRecDepth 100000 in
theorem walk_DiskPlays (z : Int) (A : Option Addr) (n c : Nat) (l : List AC) (w : World) (hw : (Lit.int .i64 z).wf = true) (h : AS w A n c l) :
    Calls Try.prog 3 #[.int .i64 z, .slice A n c] w fun e w' => e = .returned (.bool true) ∧ Below w.heap.size w w' := by
  obtain ⟨hz0, -⟩ := zero_of_info zero_blk
  have hln := h.len
  have hcap := h.cap
  have hmax := h.max
  by_cases hz : z < 64 ∨ 4096 < z
  · have H1 := Lib.hid (cd_no (w := w) z hz)
    have H2 := Lib.hid (rnew_no (w := w) z hz)
    clear hz h
    go_enter Try.func3, Try.ntmps3
    go_wp2_with fail
    refine H1.out.mono ?_
    rintro e w1 ⟨rfl, rfl⟩
    go_wp2_with fail
    refine H2.out.mono ?_
    rintro e w1 ⟨rfl, rfl⟩
    go_wp2_with fail
    refine (lives04_any _).mono ?_
    rintro e w11 ⟨rfl, hb11⟩
    go_wp2_with fail
    go_ret
    exact ⟨rfl, hb11⟩
  · obtain ⟨m, rfl⟩ : ∃ m : Nat, z = m := ⟨z.toNat, by omega⟩
    have hm1 : 64 ≤ m := by omega
    have hm2 : m ≤ 4096 := by omega
    have H1 := Lib.hid (cd_new (w := w) m hm1 hm2)
    clear hz hw
    go_enter Try.func3, Try.ntmps3
    go_wp2_with fail
    refine H1.out.mono ?_
    rintro e w1 ⟨F1, d, rfl, hD1, hb1, hF1⟩
    obtain ⟨p, rfl⟩ := hD1.form
    go_wp2_with fail
    refine (rd_new (w := w1) m hm1 hm2).mono ?_
    rintro e w2 ⟨G2, q, rfl, hR2, hb2, hG2⟩
    obtain ⟨q, rfl⟩ := hR2.form
    have hD2 := hD1.below hb2
    have hbb2 := hb1.trans (hb2.mono hb1.size)
    have hA2 : Apt F1 G2 := fun k hk hk2 => by have := hD1.there k hk; have := hG2 k hk2; omega
    have hG2' : ∀ k ∈ G2, w.heap.size ≤ k := fun k hk => Nat.le_trans hb1.size (hG2 k hk)
    have hpic : ∀ x ∈ l, 0 < x.pn → ∀ b o, x.pA = some ⟨b, o, none⟩ → b < w.heap.size := fun x hx hn b o e => by
      obtain ⟨b', o', e', hb', _⟩ := (h.ok x hx).p.has hn
      rw [e] at e'
      injection e' with e'
      injection e' with e1 e2
      omega
    have f0m : (fresh m).many = 0 := rfl
    have f0l : (fresh m).L.length = 0 := rfl
    generalize fresh m = s0 at *
    clear hD1 hb1 hb2 hG2 H1
    go_wp2_with fail
    go_loopw [9] (fun t wr => ∃ (j : Nat) (F G : List Nat) (s : dk.St), t = .int .i64 j ∧ j ≤ n ∧ j ≤ 60 ∧ CD wr F (.pointer (some ⟨p, 0, none⟩)) s ∧ RD wr G (.pointer (some ⟨q, 0, none⟩)) s ∧ Apt F G ∧ s.many ≤ j ∧ s.L.length ≤ j ∧ (∀ k ∈ F, w.heap.size ≤ k) ∧ (∀ k ∈ G, w.heap.size ≤ k) ∧ Below w.heap.size w wr) (fun t _ => 60 - (intOf t).toNat)
    case atStart => exact ⟨0, F1, G2, s0, rfl, by omega, by omega, hD2, hR2, hA2, by omega, by omega, hF1, hG2', hbb2⟩
    case round =>
      clear hD2 hR2 hA2 hG2' hbb2 hF1 f0m f0l
      obtain ⟨j, F, G, s, rfl, hjn, hj60, hD, hR, hA, hsm, hsl, hF, hG, hb⟩ := hrel
      have hP := h.below hb
      have hfew : s.Few := ⟨by omega, by omega⟩
      by_cases hin : j < n ∧ j < 60
      · obtain ⟨q1, q2⟩ := hin
        obtain ⟨b, o, rfl, hbl, hc⟩ := hP.has (by omega)
        have hrange := hc j (by omega)
        have hy := hP.ok _ (List.getElem_mem (show j < l.length by omega))
        have hyp := hpic _ (List.getElem_mem (show j < l.length by omega))
        generalize l[j]'(by omega) = y at *
        have hyb := hy.b
        have HB := Lib.hid (both_any y hy hD hR hA hfew (fun hn b o e => ⟨fun hm => by have := hyp hn b o e; have := hF b hm; omega, fun hm => by have := hyp hn b o e; have := hG b hm; omega⟩))
        clear hc hP h hpic hy hyp hD hR
        go_wp2_with (refine wp_lda (.tmp 45) y hrange hyb rfl rfl rfl ?_)
        refine HB.out.mono ?_
        rintro e w5 ⟨F5, G5, rfl, hD5, hR5, hA5, hC5, hSF, hSG⟩
        go_wp2_with fail
        go_roundw
        case rel =>
          obtain ⟨d1, d2⟩ := y.does_few s
          have hFG : ∀ k ∈ F ++ G, w.heap.size ≤ k := fun k hk => (List.mem_append.1 hk).elim (hF k) (hG k)
          exact ⟨j + 1, F5, G5, _, by go_num, by omega, by omega, hD5, hR5, hA5, by omega, by omega,
            fun k hk => (hSF k hk).elim (hFG k) (fun x => Nat.le_trans hb.size x), fun k hk => (hSG k hk).elim (hFG k) (fun x => Nat.le_trans hb.size x),
            (Chg.of_below hb (F ++ G) |>.trans hC5 (Sub.refl _ _)).below (Nat.le_refl _) hFG⟩
        case measure => simp [intOf]; omega
      · have hcs : (j < n ∧ ¬ j < 60) ∨ ¬ j < n := by omega
        clear hP h hin hpic
        rcases hcs with ⟨q1, q2⟩ | q1
        all_goals
          go_wp2_with fail
          refine (cd_copy hD hfew).mono ?_
          rintro e w3 ⟨F3, d3, rfl, hD3, hb3, hF3⟩
          obtain ⟨p3, rfl⟩ := hD3.form
          have hDo3 := hD.below hb3
          have hRo3 := hR.below hb3
          have hbb3 := hb.trans (hb3.mono hb.size)
          go_wp2_with fail
          refine (alike_any hD3 hRo3).mono ?_
          rintro e w4 ⟨rfl, hb4⟩
          have hD4 := hD3.below hb4
          have hDo4 := hDo3.below hb4
          have hRo4 := hRo3.below hb4
          have hbb4 := hbb3.trans (hb4.mono hbb3.size)
          have hsz4 := hb4.size
          go_wp2_with fail
          refine (cd_crash none 0 0 [] ⟨rfl, Nat.le_refl _, by omega, fun h => absurd h (by omega)⟩ (fun h => absurd h (by omega)) hD4).mono ?_
          rintro e w5 ⟨F5, rfl, hD5, hC5, hS5⟩
          have aF3 : Apt F3 F := fun k hk hk2 => by have := hF3 k hk; have := hD.there k hk2; omega
          have aG3 : Apt F3 G := fun k hk hk2 => by have := hF3 k hk; have := hR.there k hk2; omega
          have hDo5 := hDo4.keep (hC5.same aF3 hDo4.there)
          have hRo5 := hRo4.keep (hC5.same aG3 hRo4.there)
          have aF5 := aF3.step hS5 hDo4.there
          have aG5 := aG3.step hS5 hRo4.there
          have hF3w : ∀ k ∈ F3, w.heap.size ≤ k := fun k hk => Nat.le_trans hb.size (hF3 k hk)
          have hF5w : ∀ k ∈ F5, w.heap.size ≤ k := fun k hk => (hS5 k hk).elim (hF3w k) (fun x => Nat.le_trans hbb4.size x)
          have hbb5 := (Chg.of_below hbb4 F3 |>.trans hC5 (Sub.refl _ _)).below (Nat.le_refl _) hF3w
          have hf5 : (dk.crash s []).Few := ⟨by show s.many < 1048576; omega, by show (0 : Nat) < 1048576; omega⟩
          have hlen5 := hD5.ok.some
          have hwr := cd_write 0 one1 one1_len hD5 hf5
          rw [dk.write_ok rfl rfl (by omega) (by omega)] at hwr
          generalize dk.crash s [] = s5 at *
          clear hD3 hDo3 hRo3 hb3 hb4 hD4 hDo4 hRo4 hC5 hS5 hbb3 hbb4 hsz4
          have HW := Lib.hid hwr
          clear hwr
          go_wp2_with fail
          rw [one1_set]
          refine HW.out.mono ?_
          rintro e w6 ⟨F6, rfl, hD6, hC6, hS6⟩
          have hDo6 := hDo5.keep (hC6.same aF5 hDo5.there)
          have hRo6 := hRo5.keep (hC6.same aG5 hRo5.there)
          have hbb6 := (Chg.of_below hbb5 F5 |>.trans hC6 (Sub.refl _ _)).below (Nat.le_refl _) hF5w
          go_wp2_with fail
          refine (alike_any hDo6 hRo6).mono ?_
          rintro e w7 ⟨rfl, hb7⟩
          go_wp2_with fail
          refine (lives04_any _).mono ?_
          rintro e w11 ⟨rfl, hb11⟩
          go_wp2_with fail
          go_ret
          have hbb7 := hbb6.trans (hb7.mono hbb6.size)
          exact ⟨rfl, hbb7.trans (hb11.mono hbb7.size)⟩
end Go.Proofs.Ytajdeoackpfhoaa
