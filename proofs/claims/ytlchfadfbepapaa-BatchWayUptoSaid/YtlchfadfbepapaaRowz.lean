/-
  ROWS: contracts of num.Row, GetRow, cardexref01's.
-/
import Derived.Test.YtlchfadfbepapaaBase
import Derived.Test.YtlchfadfbepapaaRef00
import Derived.StillTailTactics
import Derived.Deep.DeepCutAuto
namespace Go.Proofs.Ytlchfadfbepapaa
open Go.RowKit

set_option maxRecDepth 100000 in
theorem row_any (A : Option Addr) (n c : Nat) (l : List UInt8) (w : World) (h : BS w A n c l) (hn : n ≤ 140737488355320) :
    Calls Try.prog 34 #[.slice A n c] w (OwnEnd 5 (leBytes n 4 ++ l) w) := by
  obtain ⟨i0, hi, hz0, hz1, hz2⟩ := info_parts info_u8
  go_enter Try.func34, Try.ntmps34
  go_wp2_with (first
    | (go_at_call 60; refine (lowestFirst_any n 4 _ (by omega)).mono ?_; rintro e w' ⟨v, rfl, ho, hb⟩)
    | (at_builtin; refine wpList_append_bytes _ rfl (.tmp 6) (.tmp 7) 24 rfl 5 i0 Try.underlying24 hi hz0 hz1 hz2 w.heap.size _ _ rfl ho A n c l rfl (h.below hb) (by rw [leBytes_length]; omega) hb.size ?_; intro v1 w1 ho1 hg1 _ _))
  go_ret
  exact ⟨_, rfl, ho1, OwnB.step hb ho hg1 hb.size⟩

set_option maxRecDepth 100000 in
theorem rrow_any (A : Option Addr) (n c : Nat) (l : List UInt8) (w : World) (h : BS w A n c l) (hn : n < 4294967296) :
    Calls Try.prog 36 #[.slice A n c] w (OwnEnd 5 (leBytes n 4 ++ l) w) := by
  obtain ⟨i0, hi, hz0, hz1, hz2⟩ := info_parts info_u8
  have hp : putOk n 4 = true := by simp [putOk, isSz]; omega
  have cP : ∀ W, Calls Try.prog 35 #[.int .u64 n, .int .i64 4] W fun e w' => ∃ v, e = .returned (.tuple #[v, .int .i64 0]) ∧ OwnB 5 w' W.heap.size v (leBytes n 4) ∧ Below W.heap.size W w' :=
    fun W => (rput_any n 4 W (by omega)).mono fun e w' h => by
      obtain ⟨v, h1, h2⟩ := h.2.1 hp
      exact ⟨v, h1, h2, h.2.2⟩
  clear hp
  go_enter Try.func36, Try.ntmps36
  go_wp2_with (first
    | (go_at_call 35; refine (cP _).mono ?_; rintro e w' ⟨v, rfl, ho, hb⟩)
    | (at_builtin; refine wpList_append_bytes _ rfl (.tmp 12) (.tmp 13) 24 rfl 5 i0 Try.underlying24 hi hz0 hz1 hz2 w.heap.size _ _ rfl ho A n c l rfl (h.below hb) (by rw [leBytes_length]; omega) hb.size ?_; intro v1 w1 ho1 hg1 _ _))
  go_ret
  exact ⟨_, rfl, ho1, OwnB.step hb ho hg1 hb.size⟩

/-- what GetRow answers -/
def getRowR (l : List UInt8) (at_ most : Int) : List UInt8 × Int × Int :=
  let g := getR l at_ 4
  if g.2 ≠ 0 then ([], 0, g.2) else if most < g.1 then ([], 0, 3) else if (l.length : Int) < at_ + 4 + g.1 then ([], 0, 4) else ((l.drop (at_.toNat + 4)).take g.1, at_ + 4 + g.1, 0)
def RowEnd (E : TypeId) (r : List UInt8 × Int × Int) (w : World) (e : Ending) (w' : World) : Prop := ∃ v, e = .returned (.tuple #[v, .int .i64 r.2.1, .int .i64 r.2.2]) ∧ OwnB E w' w.heap.size v r.1 ∧ Below w.heap.size w w'

set_option maxRecDepth 100000 in
theorem getR_ok {l : List UInt8} {at_ s : Int} {q : Nat} (h : getR l at_ s = (q, 0)) : isSz s = true ∧ 0 ≤ at_ ∧ at_ + s ≤ l.length ∧ q = leVal ((l.drop at_.toNat).take s.toNat) := by
  unfold getR at h
  split at h
  · rename_i hc
    simp at hc
    split at h
    · rename_i h2
      injection h with h3 _
      exact ⟨hc.1, hc.2.1, h2, h3.symm⟩
    · injection h with _ h3
      cases h3
  · injection h with _ h3
    cases h3
set_option maxRecDepth 100000 in
theorem getR_ok4 {l : List UInt8} {at_ : Int} {q : Nat} (h : getR l at_ 4 = (q, 0)) : 0 ≤ at_ ∧ at_ + 4 ≤ l.length ∧ q < 4294967296 := by
  obtain ⟨_, h1, h2, h3⟩ := getR_ok h
  refine ⟨h1, h2, ?_⟩
  have := leVal_lt ((l.drop at_.toNat).take (4 : Int).toNat)
  rw [← h3] at this
  refine Nat.lt_of_lt_of_le this (Nat.le_trans (Nat.pow_le_pow_right (by omega) (show _ ≤ 32 from ?_)) (Nat.le_refl _))
  have : (List.take (4 : Int).toNat (l.drop at_.toNat)).length ≤ 4 := List.length_take_le _ _
  omega
set_option maxRecDepth 100000 in
theorem row_end_nil {E : TypeId} {x y : Int} {w : World} {e : Ending} (h : e = .returned (.tuple #[.slice none 0 0, .int .i64 x, .int .i64 y])) : RowEnd E ([], x, y) w e w :=
  ⟨_, h, OwnB.nil_ _ _ _, Below.refl _ _⟩

set_option maxRecDepth 100000 in
theorem getRow_any (A : Option Addr) (n c : Nat) (l : List UInt8) (at_ most : Int) (w : World) (h : BS w A n c l) (hn : n ≤ 140737488355320) (hmo : most ≤ 9223372036854775807) :
    Calls Try.prog 69 #[.slice A n c, .int .i64 at_, .int .i64 most] w (RowEnd 5 (getRowR l at_ most) w) := by
  have hl := h.len
  have cG := fun W hW => get_any A n c l at_ 4 W hW
  obtain ⟨⟨q, e0⟩, hg⟩ : ∃ g, getR l at_ 4 = g := ⟨_, rfl⟩
  rw [hg] at cG
  simp only at cG
  by_cases h0 : e0 = 0
  · subst h0
    obtain ⟨hat, hat4, hq⟩ := getR_ok4 hg
    obtain ⟨at_, rfl⟩ := Int.eq_ofNat_of_zero_le hat
    rw [hl] at hat4
    by_cases h1 : most < q
    · have hr : getRowR l at_ most = ([], 0, 3) := by simp [getRowR, hg, h1]
      rw [hr]
      clear hr hg hl
      by_cases hneg : most < 0
      · go_enter Try.func69, Try.ntmps69
        go_wp2_with (go_at_call 44; refine (cG _ h).mono ?_; rintro e w' ⟨rfl, rfl⟩)
        go_ret3
        exact row_end_nil rfl
      · have h1' : (q : Int) > most := h1
        go_enter Try.func69, Try.ntmps69
        go_wp2_with (go_at_call 44; refine (cG _ h).mono ?_; rintro e w' ⟨rfl, rfl⟩)
        go_ret3
        exact row_end_nil rfl
    · have hpos : ¬ most < 0 := by omega
      have h1' : (q : Int) ≤ most := by omega
      by_cases h2 : n < at_ + 4 + q
      · have hr : getRowR l at_ most = ([], 0, 4) := by simp [getRowR, hg, h1]; omega
        rw [hr]
        clear hr hg hl
        have h2' : (n : Int) - (at_ + 4) < q := by omega
        go_enter Try.func69, Try.ntmps69
        go_wp2_with (go_at_call 44; refine (cG _ h).mono ?_; rintro e w' ⟨rfl, rfl⟩)
        go_ret3
        exact row_end_nil rfl
      · have hr : getRowR l at_ most = ((l.drop (at_ + 4)).take q, (at_ : Int) + 4 + q, 0) := by
          have : ¬ (n : Int) < at_ + 4 + q := by omega
          simp only [getRowR, hg, hl, if_neg h1, if_neg this]
          simp
        rw [hr]
        clear hr hg hl
        have h2' : (q : Int) ≤ (n : Int) - (at_ + 4) := by omega
        go_enter Try.func69, Try.ntmps69
        go_wp2_with (first
          | (go_at_call 44; refine (cG _ h).mono ?_; rintro e w' ⟨rfl, rfl⟩)
          | (go_at_call 68; refine (cut_any A n c l (at_ + 4) q _ h (by omega)).mono ?_; rintro e w' ⟨A', rfl, hcut, rfl⟩)
          | (go_at_call 49; refine (clone_any A' q q _ _ hcut (by omega)).mono ?_; rintro e w' ⟨v, rfl, ho, hb⟩))
        go_ret3

        exact ⟨_, rfl, ho, hb⟩
  · have hr : getRowR l at_ most = ([], 0, e0) := by simp [getRowR, hg, h0]
    rw [hr]
    clear hr hg hl
    have hne : (e0 != 0) = true := by rw [bne_iff_ne]; exact h0
    go_enter Try.func69, Try.ntmps69
    go_wp2_with (go_at_call 44; refine (cG _ h).mono ?_; rintro e w' ⟨rfl, rfl⟩)
    go_ret3
    exact row_end_nil rfl

set_option maxRecDepth 100000 in
theorem rgetRow_any (A : Option Addr) (n c : Nat) (l : List UInt8) (at_ most : Int) (w : World) (h : BS w A n c l) (hn : n ≤ 140737488355320) :
    Calls Try.prog 47 #[.slice A n c, .int .i64 at_, .int .i64 most] w (RowEnd 5 (getRowR l at_ most) w) := by
  obtain ⟨i0, hi, hz0, hz1, hz2⟩ := info_parts info_u8
  have hl := h.len
  have hcap := h.cap
  have hmax := h.max
  have cG := fun W hW => rget_any A n c l at_ 4 W hW
  obtain ⟨⟨q, e0⟩, hg⟩ : ∃ g, getR l at_ 4 = g := ⟨_, rfl⟩
  rw [hg] at cG
  simp only at cG
  by_cases h0 : e0 = 0
  · subst h0
    obtain ⟨hat, hat4, hq⟩ := getR_ok4 hg
    obtain ⟨at_, rfl⟩ := Int.eq_ofNat_of_zero_le hat
    rw [hl] at hat4
    by_cases h1 : most < q
    · have hr : getRowR l at_ most = ([], 0, 3) := by simp [getRowR, hg, h1]
      rw [hr]
      clear hr hg hl
      go_enter Try.func47, Try.ntmps47
      go_wp2_with (go_at_call 46; refine (cG _ h).mono ?_; rintro e w' ⟨rfl, rfl⟩)
      go_ret3
      exact row_end_nil rfl
    · have h1' : (q : Int) ≤ most := by omega
      by_cases h2 : n < at_ + 4 + q
      · have hr : getRowR l at_ most = ([], 0, 4) := by simp [getRowR, hg, h1]; omega
        rw [hr]
        clear hr hg hl
        have h2' : ¬ (at_ : Int) + 4 + q ≤ n := by omega
        go_enter Try.func47, Try.ntmps47
        go_wp2_with (go_at_call 46; refine (cG _ h).mono ?_; rintro e w' ⟨rfl, rfl⟩)
        go_ret3
        exact row_end_nil rfl
      · have hr : getRowR l at_ most = ((l.drop (at_ + 4)).take q, (at_ : Int) + 4 + q, 0) := by
          have : ¬ (n : Int) < at_ + 4 + q := by omega
          simp only [getRowR, hg, hl, if_neg h1, if_neg this]
          simp
        rw [hr]
        have h2' : (at_ : Int) + 4 + q ≤ n := by omega
        clear hr hg hl
        by_cases hcf : c = at_ + 4
        · obtain rfl : q = 0 := by omega
          subst hcf
          go_enter Try.func47, Try.ntmps47
          go_wp2_with (first
            | (go_at_call 46; refine (cG _ h).mono ?_; rintro e w' ⟨rfl, rfl⟩)
            | (at_builtin; refine wpList_append_bytes _ rfl (.tmp 35) (.tmp 42) 24 rfl 5 i0 Try.underlying24 hi hz0 hz1 hz2 w.heap.size _ _ rfl (OwnB.nil_ _ _ _) A 0 0 [] (by first | rfl | (simp [Act.eval]; done) | (simp [Act.eval]; omega)) (BS.empty (by omega)) (by simp) (Nat.le_refl _) ?_; intro v1 w1 ho1 hg1 _ _))
          go_ret3
          exact ⟨_, rfl, ho1, OwnB.step (Below.refl _ _) (OwnB.nil_ 5 _ w.heap.size) hg1 (Nat.le_refl _)⟩
        · have hB : BS w (A.map fun x => x.add (at_ + 4)) q (c - (at_ + 4)) ((l.drop (at_ + 4)).take q) := by
            rcases Nat.eq_zero_or_pos q with hq0 | hq0
            · subst hq0
              rw [List.take_zero]
              exact BS.empty (by omega)
            · exact h.cut (by omega) (by omega) (by omega) hq0
          go_enter Try.func47, Try.ntmps47
          go_wp2_with (first
            | (go_at_call 46; refine (cG _ h).mono ?_; rintro e w' ⟨rfl, rfl⟩)
            | (at_builtin; refine wpList_append_bytes _ rfl (.tmp 35) (.tmp 42) 24 rfl 5 i0 Try.underlying24 hi hz0 hz1 hz2 w.heap.size _ _ rfl (OwnB.nil_ _ _ _) _ q _ _ (by first | rfl | (simp [Act.eval]; done) | (simp [Act.eval]; omega)) hB (by first | (simp; done) | (simp; omega)) (Nat.le_refl _) ?_; intro v1 w1 ho1 hg1 _ _))
          go_ret3
          exact ⟨_, rfl, ho1, OwnB.step (Below.refl _ _) (OwnB.nil_ 5 _ w.heap.size) hg1 (Nat.le_refl _)⟩
  · have hr : getRowR l at_ most = ([], 0, e0) := by simp [getRowR, hg, h0]
    rw [hr]
    clear hr hg hl
    have hne : (e0 != 0) = true := by rw [bne_iff_ne]; exact h0
    go_enter Try.func47, Try.ntmps47
    go_wp2_with (go_at_call 46; refine (cG _ h).mono ?_; rintro e w' ⟨rfl, rfl⟩)
    go_ret3
    exact row_end_nil rfl

end Go.Proofs.Ytlchfadfbepapaa