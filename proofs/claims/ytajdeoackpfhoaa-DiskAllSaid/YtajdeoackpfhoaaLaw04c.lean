/-
  cardexlaw04's walk: DiskSure.
-/
import Derived.Test.YtajdeoackpfhoaaLaw04
import Derived.Test.YtajdeoackpfhoaaLives04
namespace Go.Proofs.Ytajdeoackpfhoaa
open Go.RowKit

namespace dk
theorem flush_ok {s : St} (hc : s.cut = 0) (hb : s.black = false) : flush s = (0, { s with many := s.many + 1, S := lay s.S s.L, L := [] }) := by
  have hs : step s = (0, { s with many := s.many + 1 }) := by
    unfold step
    rw [if_neg (by rw [hc]; omega), if_neg (by rw [hc]; omega)]
  rw [flush, if_neg (by rw [hb]; simp), hs, if_pos rfl]
theorem read_none {s : St} {k : Nat} (hb : s.black = false) (hk : k < s.S.length) (hL : ∀ x ∈ s.L, x.1 ≠ (k : Int)) : read s k = (s.S.getD k zero, 0) := by
  have ha : asks s k = 0 := by
    unfold asks
    rw [if_neg (by rw [hb]; simp), if_neg (by omega)]
  have hlook : ∀ (L : List (Int × Blk)) (b : Blk), (∀ x ∈ L, x.1 ≠ (k : Int)) → look b k L = b := by
    intro L
    induction L with
    | nil => intro b _; rfl
    | cons x r ih =>
      intro b h
      rw [look, if_neg (h x (List.mem_cons_self ..))]
      exact ih b fun y hy => h y (List.mem_cons_of_mem _ hy)
  rw [read, if_pos ha, hlook _ _ hL, Int.toNat_natCast]
theorem sure_in {s : St} {k : Nat} (hk : k < s.S.length) : sure s k = (s.S.getD k zero, 0) := by
  rw [sure, if_neg (by omega), Int.toNat_natCast]
theorem tear_far (k : Nat) : ∀ (L : List (Int × Blk)) (S : List Blk) (p : List Int), (∀ x ∈ L, 0 ≤ x.1 ∧ x.1 ≠ (k : Int)) → (tear S L p).getD k zero = S.getD k zero
  | [], _, _, _ => rfl
  | x :: r, S, p, h => by
    have hx := h x (List.mem_cons_self ..)
    rw [tear, tear_far k r _ _ fun y hy => h y (List.mem_cons_of_mem _ hy)]
    simp only [List.getD_eq_getElem?_getD]
    rw [List.getElem?_set_ne (by omega)]
/-- nothing was written to block k since all was sure -/
structure Still (S1 : List Blk) (k j : Nat) (s : St) : Prop where
  S : s.S = S1
  black : s.black = false
  cut : s.cut = 0
  far : ∀ x ∈ s.L, x.1 ≠ (k : Int)
  len : s.L.length ≤ j
  many : s.many ≤ 41 + (j : Int)
theorem still_start (l : List (UInt8 × Blk)) (k : Nat) (hl : l.length ≤ 40) : (flush (stw l)).1 = 0 ∧ Still (lay (List.replicate 64 zero) (l.map conv)) k 0 (flush (stw l)).2 := by
  rw [flush_ok rfl rfl]
  exact ⟨rfl, rfl, rfl, rfl, fun x hx => by simp at hx, by simp, by simp [stw]; omega⟩
theorem still_write {S1 : List Blk} {k j : Nat} {s : St} (h : Still S1 k j s) (hS : S1.length = 64) {n : Nat} (hn : n < 16) (hk : n ≠ k) (b : Blk) :
    (write s n b).1 = 0 ∧ Still S1 k (j + 1) (write s n b).2 := by
  rw [write_ok h.cut h.black (by omega) (by rw [h.S, hS]; omega)]
  refine ⟨rfl, h.S, h.black, h.cut, fun x hx => ?_, by have := h.len; simp; omega, by have := h.many; simp only; omega⟩
  rcases List.mem_append.1 hx with hx | hx
  · exact h.far x hx
  · rw [List.mem_singleton.1 hx]; simp only; omega
end dk

set_option maxHeartbeats 4000000 in
set_option maxRecDepth 100000 in
theorem walk_DiskSure (A1 : Option Addr) (n1 c1 : Nat) (l1 : List (UInt8 × dk.Blk)) (A2 : Option Addr) (n2 c2 : Nat) (l2 : List (UInt8 × dk.Blk)) (x : UInt8) (A3 : Option Addr) (n3 c3 : Nat) (l3 : List Int) (w : World)
    (h1 : PS w A1 n1 c1 l1) (h2 : PS w A2 n2 c2 l2) (h3 : IS w A3 n3 c3 l3) :
    Calls Try.prog 4 #[.slice A1 n1 c1, .slice A2 n2 c2, bv x, .slice A3 n3 c3] w fun e w' => e = .returned (.bool true) ∧ Below w.heap.size w w' := by
  have hl2 := h2.len
  have hcap := h2.cap
  have hmax := h2.max
  have hA3 : ∀ b o, A3 = some ⟨b, o, none⟩ → 0 < n3 → b < w.heap.size := fun b o e hn => by
    obtain ⟨b', o', e', hb', _⟩ := h3.has hn
    rw [e] at e'
    injection e' with e'
    injection e' with e1 e2
    omega
  obtain ⟨hz, -⟩ := zero_of_info zero_blk
  obtain ⟨k, hk⟩ : ∃ k, x.toNat % 16 = k := ⟨_, rfl⟩
  have hk16 : k < 16 := by omega
  have hrem : (x.toNat : Int) % 16 = (k : Int) := by omega
  obtain ⟨S1, hS1⟩ : ∃ S, dk.lay (List.replicate 64 dk.zero) ((l1.take 40).map dk.conv) = S := ⟨_, rfl⟩
  have hSl : S1.length = 64 := by rw [← hS1, dk.lay_length]; simp
  obtain ⟨hf0, hst0⟩ := dk.still_start (l1.take 40) k (by simp; omega)
  rw [hS1] at hst0
  have hfew0 : (dk.stw (l1.take 40)).Few := by constructor <;> simp [dk.stw] <;> omega
  have HF0 := Lib.hid hf0
  clear hS1 hk hf0
  go_enter Try.func4, Try.ntmps4
  go_wp2_with fail
  refine (written_any _ _ _ _ _ h1).mono ?_
  rintro e w1 ⟨F1, d, rfl, hD1, hb1, hF1⟩
  obtain ⟨p, rfl⟩ := hD1.form
  go_wp2_with fail
  refine (cd_flush hD1 hfew0).mono ?_
  rintro e w2 ⟨F2, rfl, hD2, hC2, hS2⟩
  rw [HF0.out]
  have hb2 : Below w.heap.size w w2 := (Chg.of_below hb1 F1 |>.trans hC2 (Sub.refl _ _)).below (Nat.le_refl _) hF1
  have hF2 : ∀ k ∈ F2, w.heap.size ≤ k := fun k hk => (hS2 k hk).elim (hF1 k) (fun h => Nat.le_trans hb1.size h)
  have hok2 := hD2.ok
  generalize (dk.flush (dk.stw (l1.take 40))).2 = s2 at *
  clear hD1 hC2 hS2 hb1 hF1 HF0 h1 hfew0
  go_wp2_with fail
  rw [hrem]
  obtain ⟨was, hwas⟩ : ∃ b, S1.getD k dk.zero = b := ⟨_, rfl⟩
  have hwl : was.length = 128 := by rw [← hwas, ← hst0.S]; exact dk.getD_len hok2.lenS k
  have hread := cd_read (k : Int) hD2
  rw [dk.read_none hst0.black (by rw [hst0.S, hSl]; omega) hst0.far, hst0.S, hwas] at hread
  refine hread.mono ?_
  rintro e w3 ⟨rfl, hb23⟩
  have hb3 := hb2.trans (hb23.mono hb2.size)
  have hD3 := hD2.below hb23
  have hr3 := heap_alloc_new w3 (.cells (dk.cells dk.zero).toArray 33)
  go_wp2_with (refine wp_st0 (.tmp 12) (.tmp 40) was hr3 zero_len hwl rfl rfl rfl rfl ?_; intro w4 hW4 hC4; have hb34 := new_chg hC4; have hD4 := hD3.below hb34)
  have hb4 := hb3.trans (hb34.mono hb3.size)
  obtain ⟨B, hB⟩ : ∃ B, w3.heap.size = B := ⟨_, rfl⟩
  have hF4 : ∀ k ∈ F2, w.heap.size ≤ k ∧ k ≠ B := fun k hk => ⟨hF2 k hk, by have := hD3.there k hk; omega⟩
  have hB4 : B < w4.heap.size := by
    rw [← hB]
    exact (Array.getElem?_eq_some_iff.1 hW4).1
  have hwB : w.heap.size ≤ B := by rw [← hB]; exact hb3.size
  rw [hB] at hW4 ⊢
  clear hread hD2 hD3 hr3 hC4 hb34 hb23 hB hb3 hb2 hF2 hok2
  go_loopw [14] (fun i wr => ∃ (j : Nat) (F : List Nat) (s : dk.St), i = .int .i64 j ∧ j ≤ n2 ∧ j ≤ 40 ∧ CD wr F (.pointer (some ⟨p, 0, none⟩)) s ∧ dk.Still S1 k j s ∧ Below w.heap.size w wr ∧ wr.heap[B]? = some (.cells (dk.cells was).toArray 33 (0, 0)) ∧ (∀ k ∈ F, w.heap.size ≤ k ∧ k ≠ B)) (fun i _ => 40 - (intOf i).toNat)
  case atStart => exact ⟨0, F2, s2, rfl, by omega, by omega, hD4, hst0, hb4, hW4, hF4⟩
  case round =>
    clear hD4 hst0 hb4 hW4 hF4 hB4
    obtain ⟨j, F, s, rfl, hjn, hj40, hD, hSt, hb, hW, hF⟩ := hrel
    have hP := h2.below hb
    have hfew : s.Few := ⟨by have := hSt.many; omega, by have := hSt.len; omega⟩
    have hBl : B < wr.heap.size := (Array.getElem?_eq_some_iff.1 hW).1
    by_cases hin : j < n2 ∧ j < 40
    · obtain ⟨q1, q2⟩ := hin
      obtain ⟨b, o, rfl, hbl, hc⟩ := hP.has (by omega)
      obtain ⟨cN, cB⟩ := hc j (by omega)
      have hx := hP.blk _ (List.getElem_mem (show j < l2.length by omega))
      generalize l2[j]'(by omega) = y at *
      obtain ⟨yn, yb⟩ := y
      simp only at cN cB hx
      have hyn := yn.toNat_lt
      obtain ⟨m, hm⟩ : ∃ m, yn.toNat % 16 = m := ⟨_, rfl⟩
      have hm16 : m < 16 := by omega
      have hmr : (yn.toNat : Int) % 16 = (m : Int) := by omega
      clear hc hP h2
      by_cases hmk : m = k
      · have hne : (yn.toNat : Int) % 16 = (k : Int) := by omega
        have hStN : dk.Still S1 k (j + 1) s := ⟨hSt.S, hSt.black, hSt.cut, hSt.far, by have := hSt.len; omega, by have := hSt.many; omega⟩
        clear hm hmk hmr
        go_wp2_with fail
        go_roundw
        case rel => exact ⟨j + 1, F, s, by go_num, by omega, by omega, hD, hStN, hb, hW, hF⟩
        case measure => simp [intOf]; omega
      · obtain ⟨ans, hStN⟩ := dk.still_write hSt hSl hm16 hmk yb
        have hwr := cd_write (m : Int) yb hx hD hfew
        rw [ans] at hwr
        have HW := Lib.hid hwr
        have hne : ¬ (yn.toNat : Int) % 16 = (k : Int) := by omega
        rw [← hmr] at HW hStN
        clear hm hmk ans hwr hmr
        go_wp2_with (first | refine wp_ldw (.tmp 68) yb cB hx rfl rfl (by simp [Region.wanted, yielded, hne]) ?_)
        refine HW.out.mono ?_
        rintro e w5 ⟨F5, rfl, hD5, hC5, hS5⟩
        go_wp2_with fail
        go_roundw
        case rel =>
          refine ⟨j + 1, F5, _, by go_num, by omega, by omega, hD5, hStN, (Chg.of_below hb F |>.trans hC5 (Sub.refl _ _)).below (Nat.le_refl _) (fun k hk => (hF k hk).1), by rw [hC5.block B hBl (fun hm => (hF B hm).2 rfl)]; exact hW, fun k hk => ?_⟩
          rcases hS5 k hk with h | h
          · exact hF k h
          · exact ⟨Nat.le_trans hb.size h, by omega⟩
        case measure => simp [intOf]; omega
    · have hcs : (j < n2 ∧ ¬ j < 40) ∨ ¬ j < n2 := by omega
      have hI := h3.chg (Chg.of_below hb []) (by simp)
      have hcr := cd_crash A3 n3 c3 l3 hI (fun hn b o e hk => by
        have h1 := hA3 b o e hn
        have h2 := (hF b hk).1
        omega) hD
      have hfar : ∀ x ∈ s.L, 0 ≤ x.1 ∧ x.1 ≠ (k : Int) := fun x hx => ⟨(hD.ok.inL x hx).1, hSt.far x hx⟩
      have hlen5 : (dk.crash s l3).S.length = 64 := by unfold dk.crash; simp only [dk.tear_length]; rw [hSt.S, hSl]
      have hget5 : (dk.crash s l3).S.getD k dk.zero = was := by
        unfold dk.crash
        simp only
        rw [dk.tear_far k _ _ _ hfar, hSt.S, hwas]
      have hr5 : dk.read (dk.crash s l3) k = (was, 0) := by rw [dk.read_none rfl (by omega) (fun x hx => by simp [dk.crash] at hx), hget5]
      have hs5 : dk.sure (dk.crash s l3) k = (was, 0) := by rw [dk.sure_in (by omega), hget5]
      have hL5 : (dk.crash s l3).L.length = 0 := rfl
      generalize dk.crash s l3 = t at *
      have HC := Lib.hid hcr
      have hE := eq_blk was was hwl hwl
      rw [decide_eq_true rfl] at hE
      clear hin hI hcr hfar hget5 hlen5 hP h2 h3
      rcases hcs with ⟨q1, q2⟩ | q1
      all_goals
        go_wp2_with fail
        refine HC.out.mono ?_
        rintro e w5 ⟨F5, rfl, hD5, hC5, hS5⟩
        have hb5 := (Chg.of_below hb F |>.trans hC5 (Sub.refl _ _)).below (Nat.le_refl _) (fun k hk => (hF k hk).1)
        have hW5 : w5.heap[B]? = some (.cells (dk.cells was).toArray 33 (0, 0)) := by rw [hC5.block B hBl (fun hm => (hF B hm).2 rfl)]; exact hW
        have hr := cd_read (k : Int) hD5
        rw [hr5] at hr
        go_wp2_with fail
        refine hr.mono ?_
        rintro e w6 ⟨rfl, hb56⟩
        have hD6 := hD5.below hb56
        have hb6 := hb5.trans (hb56.mono hb5.size)
        have hW6 := (hb56.block B (Array.getElem?_eq_some_iff.1 hW5).1).trans hW5
        have hr6 := heap_alloc_new w6 (.cells (dk.cells dk.zero).toArray 33)
        go_wp2_with (refine wp_st0 (.tmp 17) (.tmp 80) was hr6 zero_len hwl rfl rfl rfl rfl ?_; intro w7 hW7 hC7; have hb67 := new_chg hC7; have hD7 := hD6.below hb67; have hV7 := (hb67.block B (Array.getElem?_eq_some_iff.1 hW6).1).trans hW6)
        have hb7 := hb6.trans (hb67.mono hb6.size)
        have hr := cd_sure (k : Int) hD7
        rw [hs5] at hr
        refine hr.mono ?_
        rintro e w8 ⟨rfl, hb78⟩
        have hD8 := hD7.below hb78
        have hb8 := hb7.trans (hb78.mono hb7.size)
        have hV8 := (hb78.block B (Array.getElem?_eq_some_iff.1 hV7).1).trans hV7
        have hW8 := (hb78.block _ (Array.getElem?_eq_some_iff.1 hW7).1).trans hW7
        have hr8 := heap_alloc_new w8 (.cells (dk.cells dk.zero).toArray 33)
        go_wp2_with (first
          | (refine wp_st0 (.tmp 19) (.tmp 86) was hr8 zero_len hwl rfl rfl rfl rfl ?_; intro w9 hW9 hC9; have hb89 := new_chg hC9; have hD9 := hD8.below hb89; have g1 := blk_range ((hb89.block B (Array.getElem?_eq_some_iff.1 hV8).1).trans hV8); have g2 := blk_range ((hb89.block _ (Array.getElem?_eq_some_iff.1 hW8).1).trans hW8); have g3 := blk_range hW9)
          | refine wp_ldw (.tmp 17) was g2 hwl rfl rfl (by rfl) ?_
          | refine wp_ldw (.tmp 12) was g1 hwl rfl rfl (by rfl) ?_
          | refine wp_ldw (.tmp 19) was g3 hwl rfl rfl (by rfl) ?_)
        have hb9 := hb8.trans (hb89.mono hb8.size)
        refine (cd_loose hD9).mono ?_
        rintro e w10 ⟨rfl, rfl⟩
        rw [hL5]
        go_wp2_with fail
        refine (lives04_any _).mono ?_
        rintro e w11 ⟨rfl, hb11⟩
        go_wp2_with fail
        go_ret
        exact ⟨rfl, hb9.trans (hb11.mono hb9.size)⟩
end Go.Proofs.Ytajdeoackpfhoaa
