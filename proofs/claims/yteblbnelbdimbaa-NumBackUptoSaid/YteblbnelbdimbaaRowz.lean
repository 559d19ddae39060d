/-
  ROWS: contracts of num.Row, GetRow, bytes.Clone, cardexref01's, and of cardexref00.Copy, Wide, Left, Spoil.
-/
import Derived.Test.YteblbnelbdimbaaBase
import Derived.StillTailTactics
import Derived.Deep.DeepCutAuto
namespace Go.Proofs.Yteblbnelbdimbaa
open Go.RowKit

/-- how a call that answers bytes of its own ends -/
def OwnEnd (E : TypeId) (l : List UInt8) (w : World) (e : Ending) (w' : World) : Prop := ∃ v, e = .returned v ∧ OwnB E w' w.heap.size v l ∧ Below w.heap.size w w'

theorem own_empty (w : World) (e : TypeId) : OwnB e (w.alloc (.cells #[] e)) w.heap.size (.slice (some ⟨w.heap.size, 0, none⟩) 0 0) [] :=
  .inr ⟨w.heap.size, [], rfl, Nat.le_refl _, heap_alloc_new w _, by simp, by simp⟩
theorem bs_none {w : World} {n c : Nat} {l : List UInt8} (h : BS w none n c l) : n = 0 ∧ l = [] := by
  rcases Nat.eq_zero_or_pos n with h0 | h0
  · exact ⟨h0, List.eq_nil_of_length_eq_zero (h.len.trans h0)⟩
  · obtain ⟨b, o, he, _⟩ := h.has h0
    cases he

theorem row_any (A : Option Addr) (n c : Nat) (l : List UInt8) (w : World) (h : BS w A n c l) (hn : n ≤ 140737488355320) :
    Calls Try.prog 16 #[.slice A n c] w (OwnEnd 5 (leBytes n 4 ++ l) w) := by
  obtain ⟨i0, hi, hz0, hz1, hz2⟩ := info_parts info_u8
  go_enter Try.func16, Try.ntmps16
  go_wp2_with (first
    | (go_at_call 28; refine (lowestFirst_any n 4 _ (by omega)).mono ?_; rintro e w' ⟨v, rfl, ho, hb⟩)
    | (at_builtin; refine wpList_append_bytes _ rfl (.tmp 6) (.tmp 7) 23 rfl 5 i0 Try.underlying23 hi hz0 hz1 hz2 w.heap.size _ _ rfl ho A n c l rfl (h.below hb) (by rw [leBytes_length]; omega) hb.size ?_; intro v1 w1 ho1 hg1 _ _))
  go_ret
  exact ⟨_, rfl, ho1, OwnB.step hb ho hg1 hb.size⟩

theorem clone_any (A : Option Addr) (n c : Nat) (l : List UInt8) (w : World) (h : BS w A n c l) (hn : n ≤ 140737488355320) :
    Calls Try.prog 32 #[.slice A n c] w (OwnEnd 5 l w) := by
  obtain ⟨i0, hi, hz0, hz1, hz2⟩ := info_parts info_u8
  have k1 := fun W => Lib.run_eql_slice_nil (P := Try.prog) W 23 5 A n c 0 0 Try.underlying23
  cases A with
  | none =>
    obtain ⟨rfl, rfl⟩ := bs_none h
    go_enter Try.func32, Try.ntmps32
    go_wp2_with fail
    go_ret
    exact ⟨_, rfl, OwnB.nil_ _ _ _, Below.refl _ _⟩
  | some a =>
    go_enter Try.func32, Try.ntmps32
    go_wp2_with (at_builtin; refine wpList_append_bytes _ rfl (.tmp 5) (.tmp 6) 23 rfl 5 i0 Try.underlying23 hi hz0 hz1 hz2 w.heap.size _ _ rfl (own_empty w _) (some a) n c l rfl (h.alloc _) (by simp; omega) (by simp) ?_; intro v1 w1 ho1 hg1 _ _)
    go_ret
    exact ⟨_, rfl, ho1, OwnB.step ((Below.refl _ _).alloc (Nat.le_refl _) _) (own_empty w _) hg1 (by simp)⟩

theorem copy_any (A : Option Addr) (n c : Nat) (l : List UInt8) (w : World) (h : BS w A n c l) (hn : n ≤ 140737488355320) :
    Calls Try.prog 25 #[.slice A n c] w (OwnEnd 5 l w) := by
  obtain ⟨i0, hi, hz0, hz1, hz2⟩ := info_parts info_u8
  go_enter Try.func25, Try.ntmps25
  go_wp2_with (at_builtin; refine wpList_append_bytes _ rfl (.tmp 4) (.tmp 5) 23 rfl 5 i0 Try.underlying23 hi hz0 hz1 hz2 w.heap.size _ _ rfl (OwnB.nil_ _ _ _) A n c l rfl h (by simp; omega) (Nat.le_refl _) ?_; intro v1 w1 ho1 hg1 _ _)
  go_ret
  exact ⟨_, rfl, ho1, OwnB.step (Below.refl _ _) (OwnB.nil_ 5 _ w.heap.size) hg1 (Nat.le_refl _)⟩

theorem rrow_any (A : Option Addr) (n c : Nat) (l : List UInt8) (w : World) (h : BS w A n c l) (hn : n < 4294967296) :
    Calls Try.prog 19 #[.slice A n c] w (OwnEnd 5 (leBytes n 4 ++ l) w) := by
  obtain ⟨i0, hi, hz0, hz1, hz2⟩ := info_parts info_u8
  have hp : putOk n 4 = true := by simp [putOk, isSz]; omega
  have cP : ∀ W, Calls Try.prog 10 #[.int .u64 n, .int .i64 4] W fun e w' => ∃ v, e = .returned (.tuple #[v, .int .i64 0]) ∧ OwnB 5 w' W.heap.size v (leBytes n 4) ∧ Below W.heap.size W w' :=
    fun W => (rput_any n 4 W (by omega)).mono fun e w' h => by
      obtain ⟨v, h1, h2⟩ := h.2.1 hp
      exact ⟨v, h1, h2, h.2.2⟩
  clear hp
  go_enter Try.func19, Try.ntmps19
  go_wp2_with (first
    | (go_at_call 10; refine (cP _).mono ?_; rintro e w' ⟨v, rfl, ho, hb⟩)
    | (at_builtin; refine wpList_append_bytes _ rfl (.tmp 12) (.tmp 13) 23 rfl 5 i0 Try.underlying23 hi hz0 hz1 hz2 w.heap.size _ _ rfl ho A n c l rfl (h.below hb) (by rw [leBytes_length]; omega) hb.size ?_; intro v1 w1 ho1 hg1 _ _))
  go_ret
  exact ⟨_, rfl, ho1, OwnB.step hb ho hg1 hb.size⟩

/-- what GetRow answers -/
def getRowR (l : List UInt8) (at_ most : Int) : List UInt8 × Int × Int :=
  let g := getR l at_ 4
  if g.2 ≠ 0 then ([], 0, g.2) else if most < g.1 then ([], 0, 3) else if (l.length : Int) < at_ + 4 + g.1 then ([], 0, 4) else ((l.drop (at_.toNat + 4)).take g.1, at_ + 4 + g.1, 0)
def RowEnd (E : TypeId) (r : List UInt8 × Int × Int) (w : World) (e : Ending) (w' : World) : Prop := ∃ v, e = .returned (.tuple #[v, .int .i64 r.2.1, .int .i64 r.2.2]) ∧ OwnB E w' w.heap.size v r.1 ∧ Below w.heap.size w w'

theorem getR_ok {l : List UInt8} {at_ s : Int} {q : Nat} (h : getR l at_ s = (q, 0)) : isSz s = true ∧ 0 ≤ at_ ∧ at_ + s ≤ l.length ∧ q = leVal ((l.drop at_.toNat).take s.toNat) := by
  unfold getR at h
  split at h
  · rename_i hc
    simp at hc
    split at h
    · rename_i h2
      injection h with h3 _
      exact ⟨hc.1, hc.2.1, h2, h3.symm⟩
    · injection h with _ h3
      cases h3
  · injection h with _ h3
    cases h3
theorem getR_ok4 {l : List UInt8} {at_ : Int} {q : Nat} (h : getR l at_ 4 = (q, 0)) : 0 ≤ at_ ∧ at_ + 4 ≤ l.length ∧ q < 4294967296 := by
  obtain ⟨_, h1, h2, h3⟩ := getR_ok h
  refine ⟨h1, h2, ?_⟩
  have := leVal_lt ((l.drop at_.toNat).take (4 : Int).toNat)
  rw [← h3] at this
  refine Nat.lt_of_lt_of_le this (Nat.le_trans (Nat.pow_le_pow_right (by omega) (show _ ≤ 32 from ?_)) (Nat.le_refl _))
  have : (List.take (4 : Int).toNat (l.drop at_.toNat)).length ≤ 4 := List.length_take_le _ _
  omega
theorem row_end_nil {E : TypeId} {x y : Int} {w : World} {e : Ending} (h : e = .returned (.tuple #[.slice none 0 0, .int .i64 x, .int .i64 y])) : RowEnd E ([], x, y) w e w :=
  ⟨_, h, OwnB.nil_ _ _ _, Below.refl _ _⟩

theorem getRow_any (A : Option Addr) (n c : Nat) (l : List UInt8) (at_ most : Int) (w : World) (h : BS w A n c l) (hn : n ≤ 140737488355320) (hmo : most ≤ 9223372036854775807) :
    Calls Try.prog 17 #[.slice A n c, .int .i64 at_, .int .i64 most] w (RowEnd 5 (getRowR l at_ most) w) := by
  have hl := h.len
  have cG := fun W hW => get_any A n c l at_ 4 W hW
  obtain ⟨⟨q, e0⟩, hg⟩ : ∃ g, getR l at_ 4 = g := ⟨_, rfl⟩
  rw [hg] at cG
  simp only at cG
  by_cases h0 : e0 = 0
  · subst h0
    obtain ⟨hat, hat4, hq⟩ := getR_ok4 hg
    obtain ⟨at_, rfl⟩ := Int.eq_ofNat_of_zero_le hat
    rw [hl] at hat4
    by_cases h1 : most < q
    · have hr : getRowR l at_ most = ([], 0, 3) := by simp [getRowR, hg, h1]
      rw [hr]
      clear hr hg hl
      by_cases hneg : most < 0
      · go_enter Try.func17, Try.ntmps17
        go_wp2_with (go_at_call 11; refine (cG _ h).mono ?_; rintro e w' ⟨rfl, rfl⟩)
        go_ret3
        exact row_end_nil rfl
      · have h1' : (q : Int) > most := h1
        go_enter Try.func17, Try.ntmps17
        go_wp2_with (go_at_call 11; refine (cG _ h).mono ?_; rintro e w' ⟨rfl, rfl⟩)
        go_ret3
        exact row_end_nil rfl
    · have hpos : ¬ most < 0 := by omega
      have h1' : (q : Int) ≤ most := by omega
      by_cases h2 : n < at_ + 4 + q
      · have hr : getRowR l at_ most = ([], 0, 4) := by simp [getRowR, hg, h1]; omega
        rw [hr]
        clear hr hg hl
        have h2' : (n : Int) - (at_ + 4) < q := by omega
        go_enter Try.func17, Try.ntmps17
        go_wp2_with (go_at_call 11; refine (cG _ h).mono ?_; rintro e w' ⟨rfl, rfl⟩)
        go_ret3
        exact row_end_nil rfl
      · have hr : getRowR l at_ most = ((l.drop (at_ + 4)).take q, (at_ : Int) + 4 + q, 0) := by
          have : ¬ (n : Int) < at_ + 4 + q := by omega
          simp only [getRowR, hg, hl, if_neg h1, if_neg this]
          simp
        rw [hr]
        clear hr hg hl
        have h2' : (q : Int) ≤ (n : Int) - (at_ + 4) := by omega
        go_enter Try.func17, Try.ntmps17
        go_wp2_with (first
          | (go_at_call 11; refine (cG _ h).mono ?_; rintro e w' ⟨rfl, rfl⟩)
          | (go_at_call 31; refine (cut_any A n c l (at_ + 4) q _ h (by omega)).mono ?_; rintro e w' ⟨A', rfl, hcut, rfl⟩)
          | (go_at_call 32; refine (clone_any A' q q _ _ hcut (by omega)).mono ?_; rintro e w' ⟨v, rfl, ho, hb⟩))
        go_ret3

        exact ⟨_, rfl, ho, hb⟩
  · have hr : getRowR l at_ most = ([], 0, e0) := by simp [getRowR, hg, h0]
    rw [hr]
    clear hr hg hl
    have hne : (e0 != 0) = true := by rw [bne_iff_ne]; exact h0
    go_enter Try.func17, Try.ntmps17
    go_wp2_with (go_at_call 11; refine (cG _ h).mono ?_; rintro e w' ⟨rfl, rfl⟩)
    go_ret3
    exact row_end_nil rfl

theorem rgetRow_any (A : Option Addr) (n c : Nat) (l : List UInt8) (at_ most : Int) (w : World) (h : BS w A n c l) (hn : n ≤ 140737488355320) :
    Calls Try.prog 18 #[.slice A n c, .int .i64 at_, .int .i64 most] w (RowEnd 5 (getRowR l at_ most) w) := by
  obtain ⟨i0, hi, hz0, hz1, hz2⟩ := info_parts info_u8
  have hl := h.len
  have hcap := h.cap
  have hmax := h.max
  have cG := fun W hW => rget_any A n c l at_ 4 W hW
  obtain ⟨⟨q, e0⟩, hg⟩ : ∃ g, getR l at_ 4 = g := ⟨_, rfl⟩
  rw [hg] at cG
  simp only at cG
  by_cases h0 : e0 = 0
  · subst h0
    obtain ⟨hat, hat4, hq⟩ := getR_ok4 hg
    obtain ⟨at_, rfl⟩ := Int.eq_ofNat_of_zero_le hat
    rw [hl] at hat4
    by_cases h1 : most < q
    · have hr : getRowR l at_ most = ([], 0, 3) := by simp [getRowR, hg, h1]
      rw [hr]
      clear hr hg hl
      go_enter Try.func18, Try.ntmps18
      go_wp2_with (go_at_call 12; refine (cG _ h).mono ?_; rintro e w' ⟨rfl, rfl⟩)
      go_ret3
      exact row_end_nil rfl
    · have h1' : (q : Int) ≤ most := by omega
      by_cases h2 : n < at_ + 4 + q
      · have hr : getRowR l at_ most = ([], 0, 4) := by simp [getRowR, hg, h1]; omega
        rw [hr]
        clear hr hg hl
        have h2' : ¬ (at_ : Int) + 4 + q ≤ n := by omega
        go_enter Try.func18, Try.ntmps18
        go_wp2_with (go_at_call 12; refine (cG _ h).mono ?_; rintro e w' ⟨rfl, rfl⟩)
        go_ret3
        exact row_end_nil rfl
      · have hr : getRowR l at_ most = ((l.drop (at_ + 4)).take q, (at_ : Int) + 4 + q, 0) := by
          have : ¬ (n : Int) < at_ + 4 + q := by omega
          simp only [getRowR, hg, hl, if_neg h1, if_neg this]
          simp
        rw [hr]
        have h2' : (at_ : Int) + 4 + q ≤ n := by omega
        clear hr hg hl
        by_cases hcf : c = at_ + 4
        · obtain rfl : q = 0 := by omega
          subst hcf
          go_enter Try.func18, Try.ntmps18
          go_wp2_with (first
            | (go_at_call 12; refine (cG _ h).mono ?_; rintro e w' ⟨rfl, rfl⟩)
            | (at_builtin; refine wpList_append_bytes _ rfl (.tmp 35) (.tmp 42) 23 rfl 5 i0 Try.underlying23 hi hz0 hz1 hz2 w.heap.size _ _ rfl (OwnB.nil_ _ _ _) A 0 0 [] (by first | rfl | (simp [Act.eval]; done) | (simp [Act.eval]; omega)) (BS.empty (by omega)) (by simp) (Nat.le_refl _) ?_; intro v1 w1 ho1 hg1 _ _))
          go_ret3
          exact ⟨_, rfl, ho1, OwnB.step (Below.refl _ _) (OwnB.nil_ 5 _ w.heap.size) hg1 (Nat.le_refl _)⟩
        · have hB : BS w (A.map fun x => x.add (at_ + 4)) q (c - (at_ + 4)) ((l.drop (at_ + 4)).take q) := by
            rcases Nat.eq_zero_or_pos q with hq0 | hq0
            · subst hq0
              rw [List.take_zero]
              exact BS.empty (by omega)
            · exact h.cut (by omega) (by omega) (by omega) hq0
          go_enter Try.func18, Try.ntmps18
          go_wp2_with (first
            | (go_at_call 12; refine (cG _ h).mono ?_; rintro e w' ⟨rfl, rfl⟩)
            | (at_builtin; refine wpList_append_bytes _ rfl (.tmp 35) (.tmp 42) 23 rfl 5 i0 Try.underlying23 hi hz0 hz1 hz2 w.heap.size _ _ rfl (OwnB.nil_ _ _ _) _ q _ _ (by first | rfl | (simp [Act.eval]; done) | (simp [Act.eval]; omega)) hB (by first | (simp; done) | (simp; omega)) (Nat.le_refl _) ?_; intro v1 w1 ho1 hg1 _ _))
          go_ret3
          exact ⟨_, rfl, ho1, OwnB.step (Below.refl _ _) (OwnB.nil_ 5 _ w.heap.size) hg1 (Nat.le_refl _)⟩
  · have hr : getRowR l at_ most = ([], 0, e0) := by simp [getRowR, hg, h0]
    rw [hr]
    clear hr hg hl
    have hne : (e0 != 0) = true := by rw [bne_iff_ne]; exact h0
    go_enter Try.func18, Try.ntmps18
    go_wp2_with (go_at_call 12; refine (cG _ h).mono ?_; rintro e w' ⟨rfl, rfl⟩)
    go_ret3
    exact row_end_nil rfl

theorem wide_step (l : List UInt8) (n j : Nat) (hl : l.length = n) (hj : j < n + 3) (x : UInt8) (hx : (l ++ [7, 7, 7])[j]? = some x) :
    ((l ++ [7, 7, 7]).take j ++ List.replicate (n + 3 - j) 0).set j x = (l ++ [7, 7, 7]).take (j + 1) ++ List.replicate (n + 3 - (j + 1)) 0 := by
  have hj' : j < (l ++ [7, 7, 7]).length := by simp; omega
  rw [List.set_append_right _ _ (by simp; omega), show j - (List.take j (l ++ [7, 7, 7])).length = 0 from by simp; omega, show n + 3 - j = (n + 3 - (j + 1)) + 1 from by omega, List.replicate_succ, List.set_cons_zero,
    List.take_succ_eq_append_getElem hj']
  rw [List.getElem?_eq_getElem hj'] at hx
  rw [Option.some.inj hx]
  simp

theorem wide_any (A : Option Addr) (n c : Nat) (l : List UInt8) (w : World) (h : BS w A n c l) (hn : n ≤ 140737488355320) :
    Calls Try.prog 8 #[.slice A n c] w fun e w' => e = .returned (.slice (some ⟨w.heap.size, 0, none⟩) n (n + 3)) ∧ RowB 5 w' w.heap.size (l ++ [7, 7, 7]) ∧ Below w.heap.size w w' := by
  obtain ⟨i0, hi, hz0, hz1, hz2⟩ := info_parts info_u8
  have hl := h.len
  have hmk := fun W => run_make_bytes (P := Try.prog) 23 5 i0 Try.underlying23 hi hz0 hz1 hz2 .i64 .i64 (n + 3) (by omega) W
  simp only [show ((n + 3 : Nat) : Int) = (n : Int) + 3 from by omega] at hmk
  have HL := Lib.hid hl
  clear hl
  go_enter Try.func8, Try.ntmps8
  go_wp2_with fail
  go_loopw [4] (fun i wr => ∃ j : Nat, j ≤ n + 3 ∧ i = .int .i64 j ∧ RowB 5 wr w.heap.size ((l ++ [7, 7, 7]).take j ++ List.replicate (n + 3 - j) 0) ∧ Below w.heap.size w wr) (fun i _ => n + 3 - (intOf i).toNat)
  case atStart => exact ⟨0, by omega, rfl, by simpa using zeroB_row w 5 (n + 3), (Below.refl _ _).alloc (Nat.le_refl _) _⟩
  case round =>
    obtain ⟨j, hj, rfl, hr, hb⟩ := hrel
    by_cases hlt : j < n + 3
    · have hc := hr.cell (i := j) (by simp [HL.out]; omega)
      have hf := hr.frozen j
      by_cases hin : j < n
      · obtain ⟨b, o, rfl, hbl, hcell⟩ := h.has (by omega)
        have hx := (hb.cell (p := ⟨b, o + j, none⟩) hbl).trans (hcell j (by rw [HL.out]; exact hin))
        generalize hy : l[j]'(by rw [HL.out]; exact hin) = y at hx
        have hst := wide_step l n j HL.out hlt y (by rw [List.getElem?_append_left (by rw [HL.out]; exact hin), List.getElem?_eq_getElem (by rw [HL.out]; exact hin), hy])
        have HST := Lib.hid hst
        clear hy hcell hst
        have hne : w.heap.size ≠ b := by omega
        have hx2 := (World.cell?_setCell_other wr ⟨w.heap.size, j, none⟩ ⟨b, o + j, none⟩ (.int .u8 7) (fun e => hne (by injection e))).trans hx
        go_wp2
        go_roundw
        case rel =>
          refine ⟨j + 1, by omega, by go_num, ?_, (hb.setCell (Nat.le_refl _) _).setCell (Nat.le_refl _) _⟩
          have h1 := (hr.set_ j 7).set_ j y
          rw [List.set_set, HST.out] at h1
          exact h1
        case measure => simp [intOf]; omega
      · have hst := wide_step l n j HL.out hlt 7 (by
          have hj3 : j - n = 0 ∨ j - n = 1 ∨ j - n = 2 := by omega
          rw [List.getElem?_append_right (by rw [HL.out]; omega), HL.out]
          rcases hj3 with h | h | h <;> rw [h] <;> rfl)
        have HST := Lib.hid hst
        clear hst
        go_wp2
        go_roundw
        case rel =>
          refine ⟨j + 1, by omega, by go_num, ?_, hb.setCell (Nat.le_refl _) _⟩
          have h1 := hr.set_ j 7
          rw [HST.out] at h1
          exact h1
        case measure => simp [intOf]; omega
    · obtain rfl : j = n + 3 := by omega
      go_wp2
      go_ret
      refine ⟨rfl, ?_, hb⟩
      have : (l ++ [7, 7, 7]).take (n + 3) ++ List.replicate (n + 3 - (n + 3)) 0 = l ++ [7, 7, 7] := by
        rw [List.take_of_length_le (by simp [HL.out]), Nat.sub_self]
        simp
      rw [this] at hr
      exact hr

theorem left_any (A : Option Addr) (n c g : Nat) (l : List UInt8) (w : World) (hr : RowB 5 w g (l ++ [7, 7, 7])) (h : BS w A n c l) (hn : n ≤ 140737488355320) :
    Calls Try.prog 14 #[.slice (some ⟨g, 0, none⟩) n (n + 3), .slice A n c] w fun e w' => e = .returned (.bool true) ∧ w = w' := by
  have hl := h.len
  have hB : BS w (some ⟨g, 0, none⟩) n (n + 3) l := ⟨hl, by omega, by omega, h.small, fun _ => ⟨g, 0, rfl, hr.lt, fun i hi => by
    have := hr.cell (i := i) (by simp; omega)
    rw [Nat.zero_add, this, List.getElem_append_left hi]⟩⟩
  have hS : ∀ W, W = w → Calls Try.prog 13 #[.slice (some ⟨g, 0, none⟩) n (n + 3), .slice A n c] W fun e w' => e = .returned (.bool true) ∧ W = w' := by
    rintro W rfl
    exact (same_any _ _ _ _ _ _ _ _ _ hB h).mono fun e w' h => by simpa using h
  have c0 := hr.cell (i := n) (by simp; omega)
  have c1 := hr.cell (i := n + 1) (by simp; omega)
  have c2 := hr.cell (i := n + 2) (by simp; omega)
  have e0 : (l ++ [7, 7, 7])[n]'(by simp; omega) = 7 := by rw [List.getElem_append_right (by omega)]; simp [hl]
  have e1 : (l ++ [7, 7, 7])[n + 1]'(by simp; omega) = 7 := by rw [List.getElem_append_right (by omega)]; simp [hl]
  have e2 : (l ++ [7, 7, 7])[n + 2]'(by simp; omega) = 7 := by rw [List.getElem_append_right (by omega)]; simp [hl]
  rw [e0] at c0
  rw [e1] at c1
  rw [e2] at c2
  clear e0 e1 e2 hl
  go_enter Try.func14, Try.ntmps14
  go_wp2_with (go_at_call 13; refine (hS _ rfl).mono ?_; rintro e w' ⟨rfl, rfl⟩)
  go_ret
  exact ⟨rfl, rfl⟩

theorem spoil_any (A : Option Addr) (n c base : Nat) (l : List UInt8) (x : UInt8) (w : World) (h : OwnB 5 w base (.slice A n c) l) :
    Calls Try.prog 20 #[.slice A n c, .int .u8 (x.toNat : Int)] w fun e w' => e = .returned (.tuple #[]) ∧ w.grownBy w' (Value.slice A n c).ownBlock := by
  have hx := x.toNat_lt
  rcases h with ⟨he, rfl⟩ | ⟨g, r, he, hb, hr, hm, hs⟩
  · injection he with h1 h2 h3
    subst h1 h2 h3
    go_enter Try.func20, Try.ntmps20
    go_wp2_with fail
    go_loop [5] (fun i => i = .int .i64 0) (fun _ => 0)
    case atStart => rfl
    case round =>
      subst hrel
      go_wp2
      go_end0
      exact ⟨rfl, World.grownBy.refl _ _⟩
  · injection he with h1 h2 h3
    subst h1 h2 h3
    obtain ⟨m, hm'⟩ : ∃ m, m = l.length + r.length := ⟨_, rfl⟩
    rw [← hm'] at hm ⊢
    have hr : RowB 5 w g (l ++ r) := hr
    have hll : (l ++ r).length = m := by simp [hm']
    have HM := Lib.hid hll
    have HM' := Lib.hid hm'
    clear hll
    go_enter Try.func20, Try.ntmps20
    go_wp2_with fail
    go_loopw [5] (fun i wr => ∃ (j : Nat) (s : List UInt8), j ≤ m ∧ s.length = m ∧ i = .int .i64 j ∧ RowB 5 wr g s ∧ w.grownBy wr (some g)) (fun i _ => m - (intOf i).toNat)
    case atStart => exact ⟨0, l ++ r, by omega, HM.out, rfl, hr, World.grownBy.refl _ _⟩
    case round =>
      obtain ⟨j, s, hj, hs, rfl, hr, hg⟩ := hrel
      have HS := Lib.hid hs
      clear hs
      by_cases hlt : j < m
      · have hc := hr.cell (i := j) (by rw [HS.out]; exact hlt)
        generalize hy : s[j]'(by rw [HS.out]; exact hlt) = y at hc
        clear hy
        have hf := hr.frozen j
        have hyb := y.toNat_lt
        go_wp2
        go_roundw
        case rel =>
          refine ⟨j + 1, s.set j (y ^^^ x), by omega, by rw [List.length_set, HS.out], by go_num, ?_, grown_setCell hg _ _⟩
          have h1 := hr.set_ j (y ^^^ x)
          rw [← xor_bv] at h1
          exact h1
        case measure => simp [intOf]; omega
      · go_wp2
        go_end0
        exact ⟨rfl, hg⟩

end Go.Proofs.Yteblbnelbdimbaa