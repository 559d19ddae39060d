/-
  ROWS: contracts of num.Row, GetRow, cardexref01's.
-/
import Derived.Test.YtknndmhkfonfmaaGreatDoorM1
import Derived.Test.YtknndmhkfonfmaaGreatDoorM2
import Derived.StillTailTactics
import Derived.Deep.DeepCutAuto
import Derived.Laws.CopyOwn
namespace Go.Proofs.YtknndmhkfonfmaaGreatDoor
open Go.RowKit

set_option maxRecDepth 100000 in
theorem row_any (A : Option Addr) (n c : Nat) (l : List UInt8) (w : World) (h : BS w A n c l) (hn : n ≤ 140737488355320) :
    Calls Tryz.prog 70 #[.slice A n c] w (OwnEnd 5 (leBytes n 4 ++ l) w) := by
  obtain ⟨i0, hi, hz0, hz1, hz2⟩ := info_parts info_u8
  go_enter Tryz.func70, Tryz.ntmps70
  go_wp2_with (first
    | (go_at_call 95; refine (lowestFirst_any n 4 _ (by omega)).mono ?_; rintro e w' ⟨v, rfl, ho, hb⟩)
    | (at_builtin; refine wpList_append_bytes _ rfl (.tmp 6) (.tmp 7) 36 rfl 5 i0 Tryz.underlying36 hi hz0 hz1 hz2 w.heap.size _ _ rfl ho A n c l rfl (h.below hb) (by rw [leBytes_length]; omega) hb.size ?_; intro v1 w1 ho1 hg1 _ _))
  go_ret
  exact ⟨_, rfl, ho1, OwnB.step hb ho hg1 hb.size⟩

set_option maxRecDepth 100000 in
theorem rrow_any (A : Option Addr) (n c : Nat) (l : List UInt8) (w : World) (h : BS w A n c l) (hn : n < 4294967296) :
    Calls Tryz.prog 72 #[.slice A n c] w (OwnEnd 5 (leBytes n 4 ++ l) w) := by
  obtain ⟨i0, hi, hz0, hz1, hz2⟩ := info_parts info_u8
  have hp : putOk n 4 = true := by simp [putOk, isSz]; omega
  have cP : ∀ W, Calls Tryz.prog 67 #[.int .u64 n, .int .i64 4] W fun e w' => ∃ v, e = .returned (.tuple #[v, .int .i64 0]) ∧ OwnB 5 w' W.heap.size v (leBytes n 4) ∧ Below W.heap.size W w' :=
    fun W => (rput_any n 4 W (by omega)).mono fun e w' h => by
      obtain ⟨v, h1, h2⟩ := h.2.1 hp
      exact ⟨v, h1, h2, h.2.2⟩
  clear hp
  go_enter Tryz.func72, Tryz.ntmps72
  go_wp2_with (first
    | (go_at_call 67; refine (cP _).mono ?_; rintro e w' ⟨v, rfl, ho, hb⟩)
    | (at_builtin; refine wpList_append_bytes _ rfl (.tmp 12) (.tmp 13) 36 rfl 5 i0 Tryz.underlying36 hi hz0 hz1 hz2 w.heap.size _ _ rfl ho A n c l rfl (h.below hb) (by rw [leBytes_length]; omega) hb.size ?_; intro v1 w1 ho1 hg1 _ _))
  go_ret
  exact ⟨_, rfl, ho1, OwnB.step hb ho hg1 hb.size⟩

/-- what GetRow answers -/
def getRowR (l : List UInt8) (at_ most : Int) : List UInt8 × Int × Int :=
  let g := getR l at_ 4
  if g.2 ≠ 0 then ([], 0, g.2) else if most < g.1 then ([], 0, 3) else if (l.length : Int) < at_ + 4 + g.1 then ([], 0, 4) else ((l.drop (at_.toNat + 4)).take g.1, at_ + 4 + g.1, 0)
def RowEnd (E : TypeId) (r : List UInt8 × Int × Int) (w : World) (e : Ending) (w' : World) : Prop := ∃ v, e = .returned (.tuple #[v, .int .i64 r.2.1, .int .i64 r.2.2]) ∧ OwnB E w' w.heap.size v r.1 ∧ Below w.heap.size w w'

set_option maxRecDepth 100000 in
theorem getR_ok {l : List UInt8} {at_ s : Int} {q : Nat} (h : getR l at_ s = (q, 0)) : isSz s = true ∧ 0 ≤ at_ ∧ at_ + s ≤ l.length ∧ q = leVal ((l.drop at_.toNat).take s.toNat) := by
  unfold getR at h
  split at h
  · rename_i hc
    simp at hc
    split at h
    · rename_i h2
      injection h with h3 _
      exact ⟨hc.1, hc.2.1, h2, h3.symm⟩
    · injection h with _ h3
      cases h3
  · injection h with _ h3
    cases h3
set_option maxRecDepth 100000 in
theorem getR_ok4 {l : List UInt8} {at_ : Int} {q : Nat} (h : getR l at_ 4 = (q, 0)) : 0 ≤ at_ ∧ at_ + 4 ≤ l.length ∧ q < 4294967296 := by
  obtain ⟨_, h1, h2, h3⟩ := getR_ok h
  refine ⟨h1, h2, ?_⟩
  have := leVal_lt ((l.drop at_.toNat).take (4 : Int).toNat)
  rw [← h3] at this
  refine Nat.lt_of_lt_of_le this (Nat.le_trans (Nat.pow_le_pow_right (by omega) (show _ ≤ 32 from ?_)) (Nat.le_refl _))
  have : (List.take (4 : Int).toNat (l.drop at_.toNat)).length ≤ 4 := List.length_take_le _ _
  omega
set_option maxRecDepth 100000 in
theorem row_end_nil {E : TypeId} {x y : Int} {w : World} {e : Ending} (h : e = .returned (.tuple #[.slice none 0 0, .int .i64 x, .int .i64 y])) : RowEnd E ([], x, y) w e w :=
  ⟨_, h, OwnB.nil_ _ _ _, Below.refl _ _⟩

set_option maxRecDepth 100000 in
theorem getRow_any (A : Option Addr) (n c : Nat) (l : List UInt8) (at_ most : Int) (w : World) (h : BS w A n c l) (hn : n ≤ 140737488355320) (hmo : most ≤ 9223372036854775807) :
    Calls Tryz.prog 86 #[.slice A n c, .int .i64 at_, .int .i64 most] w (RowEnd 5 (getRowR l at_ most) w) := by
  have hl := h.len
  have cG := fun W hW => get_any A n c l at_ 4 W hW
  obtain ⟨⟨q, e0⟩, hg⟩ : ∃ g, getR l at_ 4 = g := ⟨_, rfl⟩
  rw [hg] at cG
  simp only at cG
  by_cases h0 : e0 = 0
  · subst h0
    obtain ⟨hat, hat4, hq⟩ := getR_ok4 hg
    obtain ⟨at_, rfl⟩ := Int.eq_ofNat_of_zero_le hat
    rw [hl] at hat4
    by_cases h1 : most < q
    · have hr : getRowR l at_ most = ([], 0, 3) := by simp [getRowR, hg, h1]
      rw [hr]
      clear hr hg hl
      by_cases hneg : most < 0
      · go_enter Tryz.func86, Tryz.ntmps86
        go_wp2_with (go_at_call 105; refine (cG _ h).mono ?_; rintro e w' ⟨rfl, rfl⟩)
        go_ret3
        exact row_end_nil rfl
      · have h1' : (q : Int) > most := h1
        go_enter Tryz.func86, Tryz.ntmps86
        go_wp2_with (go_at_call 105; refine (cG _ h).mono ?_; rintro e w' ⟨rfl, rfl⟩)
        go_ret3
        exact row_end_nil rfl
    · have hpos : ¬ most < 0 := by omega
      have h1' : (q : Int) ≤ most := by omega
      by_cases h2 : n < at_ + 4 + q
      · have hr : getRowR l at_ most = ([], 0, 4) := by simp [getRowR, hg, h1]; omega
        rw [hr]
        clear hr hg hl
        have h2' : (n : Int) - (at_ + 4) < q := by omega
        go_enter Tryz.func86, Tryz.ntmps86
        go_wp2_with (go_at_call 105; refine (cG _ h).mono ?_; rintro e w' ⟨rfl, rfl⟩)
        go_ret3
        exact row_end_nil rfl
      · have hr : getRowR l at_ most = ((l.drop (at_ + 4)).take q, (at_ : Int) + 4 + q, 0) := by
          have : ¬ (n : Int) < at_ + 4 + q := by omega
          simp only [getRowR, hg, hl, if_neg h1, if_neg this]
          simp
        rw [hr]
        clear hr hg hl
        have h2' : (q : Int) ≤ (n : Int) - (at_ + 4) := by omega
        go_enter Tryz.func86, Tryz.ntmps86
        go_wp2_with (first
          | (go_at_call 105; refine (cG _ h).mono ?_; rintro e w' ⟨rfl, rfl⟩)
          | (go_at_call 106; refine (cut_any A n c l (at_ + 4) q _ h (by omega)).mono ?_; rintro e w' ⟨A', rfl, hcut, rfl⟩)
          | (go_at_call 107; refine (clone_any A' q q _ _ hcut (by omega)).mono ?_; rintro e w' ⟨v, rfl, ho, hb⟩))
        go_ret3

        exact ⟨_, rfl, ho, hb⟩
  · have hr : getRowR l at_ most = ([], 0, e0) := by simp [getRowR, hg, h0]
    rw [hr]
    clear hr hg hl
    have hne : (e0 != 0) = true := by rw [bne_iff_ne]; exact h0
    go_enter Tryz.func86, Tryz.ntmps86
    go_wp2_with (go_at_call 105; refine (cG _ h).mono ?_; rintro e w' ⟨rfl, rfl⟩)
    go_ret3
    exact row_end_nil rfl

set_option maxRecDepth 100000 in
theorem rgetRow_any (A : Option Addr) (n c : Nat) (l : List UInt8) (at_ most : Int) (w : World) (h : BS w A n c l) (hn : n ≤ 140737488355320) :
    Calls Tryz.prog 90 #[.slice A n c, .int .i64 at_, .int .i64 most] w (RowEnd 5 (getRowR l at_ most) w) := by
  obtain ⟨i0, hi, hz0, hz1, hz2⟩ := info_parts info_u8
  have hl := h.len
  have hcap := h.cap
  have hmax := h.max
  have cG := fun W hW => rget_any A n c l at_ 4 W hW
  obtain ⟨⟨q, e0⟩, hg⟩ : ∃ g, getR l at_ 4 = g := ⟨_, rfl⟩
  rw [hg] at cG
  simp only at cG
  by_cases h0 : e0 = 0
  · subst h0
    obtain ⟨hat, hat4, hq⟩ := getR_ok4 hg
    obtain ⟨at_, rfl⟩ := Int.eq_ofNat_of_zero_le hat
    rw [hl] at hat4
    by_cases h1 : most < q
    · have hr : getRowR l at_ most = ([], 0, 3) := by simp [getRowR, hg, h1]
      rw [hr]
      clear hr hg hl
      go_enter Tryz.func90, Tryz.ntmps90
      go_wp2_with (go_at_call 109; refine (cG _ h).mono ?_; rintro e w' ⟨rfl, rfl⟩)
      go_ret3
      exact row_end_nil rfl
    · have h1' : (q : Int) ≤ most := by omega
      by_cases h2 : n < at_ + 4 + q
      · have hr : getRowR l at_ most = ([], 0, 4) := by simp [getRowR, hg, h1]; omega
        rw [hr]
        clear hr hg hl
        have h2' : ¬ (at_ : Int) + 4 + q ≤ n := by omega
        go_enter Tryz.func90, Tryz.ntmps90
        go_wp2_with (go_at_call 109; refine (cG _ h).mono ?_; rintro e w' ⟨rfl, rfl⟩)
        go_ret3
        exact row_end_nil rfl
      · have hr : getRowR l at_ most = ((l.drop (at_ + 4)).take q, (at_ : Int) + 4 + q, 0) := by
          have : ¬ (n : Int) < at_ + 4 + q := by omega
          simp only [getRowR, hg, hl, if_neg h1, if_neg this]
          simp
        rw [hr]
        have h2' : (at_ : Int) + 4 + q ≤ n := by omega
        clear hr hg hl
        by_cases hcf : c = at_ + 4
        · obtain rfl : q = 0 := by omega
          subst hcf
          go_enter Tryz.func90, Tryz.ntmps90
          go_wp2_with (first
            | (go_at_call 109; refine (cG _ h).mono ?_; rintro e w' ⟨rfl, rfl⟩)
            | (at_builtin; refine wpList_append_bytes _ rfl (.tmp 35) (.tmp 42) 36 rfl 5 i0 Tryz.underlying36 hi hz0 hz1 hz2 w.heap.size _ _ rfl (OwnB.nil_ _ _ _) A 0 0 [] (by first | rfl | (simp [Act.eval]; done) | (simp [Act.eval]; omega)) (BS.empty (by omega)) (by simp) (Nat.le_refl _) ?_; intro v1 w1 ho1 hg1 _ _))
          go_ret3
          exact ⟨_, rfl, ho1, OwnB.step (Below.refl _ _) (OwnB.nil_ 5 _ w.heap.size) hg1 (Nat.le_refl _)⟩
        · have hB : BS w (A.map fun x => x.add (at_ + 4)) q (c - (at_ + 4)) ((l.drop (at_ + 4)).take q) := by
            rcases Nat.eq_zero_or_pos q with hq0 | hq0
            · subst hq0
              rw [List.take_zero]
              exact BS.empty (by omega)
            · exact h.cut (by omega) (by omega) (by omega) hq0
          go_enter Tryz.func90, Tryz.ntmps90
          go_wp2_with (first
            | (go_at_call 109; refine (cG _ h).mono ?_; rintro e w' ⟨rfl, rfl⟩)
            | (at_builtin; refine wpList_append_bytes _ rfl (.tmp 35) (.tmp 42) 36 rfl 5 i0 Tryz.underlying36 hi hz0 hz1 hz2 w.heap.size _ _ rfl (OwnB.nil_ _ _ _) _ q _ _ (by first | rfl | (simp [Act.eval]; done) | (simp [Act.eval]; omega)) hB (by first | (simp; done) | (simp; omega)) (Nat.le_refl _) ?_; intro v1 w1 ho1 hg1 _ _))
          go_ret3
          exact ⟨_, rfl, ho1, OwnB.step (Below.refl _ _) (OwnB.nil_ 5 _ w.heap.size) hg1 (Nat.le_refl _)⟩
  · have hr : getRowR l at_ most = ([], 0, e0) := by simp [getRowR, hg, h0]
    rw [hr]
    clear hr hg hl
    have hne : (e0 != 0) = true := by rw [bne_iff_ne]; exact h0
    go_enter Tryz.func90, Tryz.ntmps90
    go_wp2_with (go_at_call 109; refine (cG _ h).mono ?_; rintro e w' ⟨rfl, rfl⟩)
    go_ret3
    exact row_end_nil rfl

end Go.Proofs.YtknndmhkfonfmaaGreatDoor

/-
  PURE: batches as rows, with 0s behind each up to a whole block; what is read of them. No program is named here.
-/
namespace Go.Proofs.YtknndmhkfonfmaaGreatDoor
namespace jn
abbrev Blk := dk.Blk
def rowOf (b : List UInt8) : List UInt8 := leBytes b.length 4 ++ b
/-- how many 0s stand behind so many bytes -/
def pad (n : Nat) : Nat := (128 - n % 128) % 128
def filled (l : List UInt8) : List UInt8 := l ++ List.replicate (pad l.length) 0
/-- how many blocks so many bytes take -/
def count (n : Nat) : Nat := (n + 127) / 128
/-- the block i of a row -/
def blk (row : List UInt8) (i : Nat) : Blk := (row.drop (i * 128)).take 128 ++ List.replicate (128 - ((row.drop (i * 128)).take 128).length) 0
def blocks (b : List UInt8) : List Blk := (List.range (count (rowOf b).length)).map (blk (rowOf b))
theorem rowOf_length (b : List UInt8) : (rowOf b).length = b.length + 4 := by
  rw [rowOf, List.length_append, leBytes_length]; omega
theorem pad_fill (n : Nat) : n + pad n = count n * 128 := by unfold pad count; omega
theorem filled_length (l : List UInt8) : (filled l).length = count l.length * 128 := by
  rw [filled, List.length_append, List.length_replicate, pad_fill]
theorem blk_length (row : List UInt8) (i : Nat) : (blk row i).length = 128 := by
  rw [blk, List.length_append, List.length_replicate, List.length_take]
  omega
theorem blocks_length (b : List UInt8) : (blocks b).length = count (b.length + 4) := by rw [blocks, List.length_map, List.length_range, rowOf_length]
theorem blocks_len (b : List UInt8) : ∀ x ∈ blocks b, x.length = 128 := fun x hx => by
  obtain ⟨i, _, rfl⟩ := List.mem_map.1 hx
  exact blk_length _ i
/-- the blocks, side by side, are the row with its 0s -/
theorem blk_filled (row : List UInt8) (i : Nat) (hi : i < count row.length) : blk row i = ((filled row).drop (i * 128)).take 128 := by
  have hle : i * 128 < row.length := by unfold count at hi; omega
  unfold blk filled
  rw [List.drop_append, show i * 128 - row.length = 0 from by omega, List.drop_zero, List.take_append]
  congr 1
  rw [List.take_replicate, List.length_take, List.length_drop]
  congr 1
  have hp := pad_fill row.length
  by_cases h : 128 ≤ row.length - i * 128
  · omega
  · have : count row.length = i + 1 := by unfold count at hi ⊢; omega
    rw [this] at hp
    omega
theorem flatten_range (l : List UInt8) : ∀ k, k * 128 ≤ l.length → ((List.range k).map fun i => (l.drop (i * 128)).take 128).flatten = l.take (k * 128)
  | 0, _ => by simp
  | k + 1, h => by
    rw [List.range_succ, List.map_append, List.flatten_append, flatten_range l k (by omega)]
    simp only [List.map_cons, List.map_nil, List.flatten_cons, List.flatten_nil, List.append_nil]
    rw [show (k + 1) * 128 = k * 128 + 128 from by omega, List.take_add]
theorem blocks_flatten (b : List UInt8) : (blocks b).flatten = filled (rowOf b) := by
  have h : blocks b = (List.range (count (rowOf b).length)).map fun i => ((filled (rowOf b)).drop (i * 128)).take 128 := by
    unfold blocks
    apply List.map_congr_left
    intro i hi
    exact blk_filled _ i (List.mem_range.1 hi)
  rw [h, flatten_range _ _ (by rw [filled_length]; exact Nat.le_refl _), List.take_of_length_le (by rw [filled_length]; exact Nat.le_refl _)]
/-- one batch is read: it, and what stands behind its 0s -/
def one (all : List UInt8) : Option (List UInt8 × List UInt8) :=
  if (getRowR all 0 1048576).2.2 = 0 then
    (if (all.drop (getRowR all 0 1048576).2.1.toNat).take (pad (getRowR all 0 1048576).2.1.toNat) = List.replicate (pad (getRowR all 0 1048576).2.1.toNat) 0 then some ((getRowR all 0 1048576).1, all.drop ((getRowR all 0 1048576).2.1.toNat + pad (getRowR all 0 1048576).2.1.toNat)) else none)
  else none
/-- so many batches are read -/
def parse : Nat → List UInt8 → Option (List (List UInt8) × List UInt8)
  | 0, all => some ([], all)
  | k + 1, all => (parse k all).bind fun x => (one x.2).map fun y => (x.1 ++ [y.1], y.2)
/-- a row, laid, is read -/
theorem getRow_row (b rest : List UInt8) (hb : b.length ≤ 1048576) : getRowR (filled (rowOf b) ++ rest) 0 1048576 = (b, (b.length : Int) + 4, 0) := by
  have hl : (filled (rowOf b) ++ rest).length = count (b.length + 4) * 128 + rest.length := by rw [List.length_append, filled_length, rowOf_length]
  have hc : b.length + 4 ≤ count (b.length + 4) * 128 := by unfold count; omega
  have e0 : filled (rowOf b) ++ rest = leBytes b.length 4 ++ (b ++ (List.replicate (pad (rowOf b).length) 0 ++ rest)) := by rw [filled, rowOf, List.append_assoc, List.append_assoc]
  have ht : (filled (rowOf b) ++ rest).take 4 = leBytes b.length 4 := by
    rw [e0]
    exact List.take_left' (leBytes_length _ _)
  have hg : getR (filled (rowOf b) ++ rest) 0 4 = (b.length, 0) := by
    unfold getR
    rw [hl, if_pos (by simp [isSz]; omega), if_pos (by omega)]
    congr 1
    have e1 : (0 : Int).toNat = 0 := rfl
    have e2 : (4 : Int).toNat = 4 := rfl
    rw [e1, e2, List.drop_zero, ht, leVal_bytes]
    omega
  unfold getRowR
  simp only [hg]
  rw [if_neg (by simp), if_neg (by omega), if_neg (by rw [hl]; omega)]
  refine Prod.ext ?_ (Prod.ext (by simp only; omega) rfl)
  simp only
  have e3 : ((0 : Int).toNat + 4) = 4 := rfl
  rw [e3, e0, List.drop_left' (leBytes_length _ _)]
  exact List.take_left' rfl
theorem one_row (b rest : List UInt8) (hb : b.length ≤ 1048576) : one (filled (rowOf b) ++ rest) = some (b, rest) := by
  have hg := getRow_row b rest hb
  unfold one
  rw [hg]
  simp only
  have e1 : ((b.length : Int) + 4).toNat = (rowOf b).length := by rw [rowOf_length]; omega
  have hd : (filled (rowOf b) ++ rest).drop (rowOf b).length = List.replicate (pad (rowOf b).length) 0 ++ rest := by
    rw [filled, List.append_assoc]
    exact List.drop_left' rfl
  rw [e1, if_pos trivial, hd, List.take_left' List.length_replicate, if_pos rfl, ← List.drop_drop, hd, List.drop_left' List.length_replicate]
/-- what is read of bytes is read of them where others stand behind -/
theorem getRow_app {all : List UInt8} (h : (getRowR all 0 1048576).2.2 = 0) (r : List UInt8) : getRowR (all ++ r) 0 1048576 = getRowR all 0 1048576 ∧ (getRowR all 0 1048576).2.1.toNat ≤ all.length := by
  unfold getRowR at h ⊢
  have e1 : (0 : Int).toNat = 0 := rfl
  have e2 : (4 : Int).toNat = 4 := rfl
  by_cases h4 : (4 : Int) ≤ all.length
  · have ga : getR all 0 4 = (leVal (all.take 4), 0) := by
      unfold getR
      rw [if_pos (by simp [isSz]), if_pos (by omega), e1, e2, List.drop_zero]
    have gb : getR (all ++ r) 0 4 = (leVal (all.take 4), 0) := by
      unfold getR
      rw [if_pos (by simp [isSz]; omega), if_pos (by simp; omega), e1, e2, List.drop_zero, List.take_append_of_le_length (by omega)]
    simp only [ga, ne_eq, not_true_eq_false, if_false] at h ⊢
    simp only [gb, not_true_eq_false, if_false]
    by_cases hm : (1048576 : Int) < (leVal (all.take 4) : Nat)
    · rw [if_pos hm] at h
      cases h
    · simp only [if_neg hm] at h ⊢
      by_cases hs : (all.length : Int) < 0 + 4 + (leVal (all.take 4) : Nat)
      · rw [if_pos hs] at h
        cases h
      · have hs2 : ¬ ((all ++ r).length : Int) < 0 + 4 + (leVal (all.take 4) : Nat) := by rw [List.length_append]; omega
        simp only [if_neg hs, if_neg hs2]
        refine ⟨?_, by omega⟩
        congr 1
        rw [e1, List.drop_append_of_le_length (by omega), List.take_append_of_le_length (by rw [List.length_drop]; omega)]
  · have ga : getR all 0 4 = (0, 4) := by
      unfold getR
      rw [if_pos (by simp [isSz]), if_neg (by omega)]
    simp only [ga] at h
    rw [if_pos (by simp)] at h
    cases h
theorem one_app {all : List UInt8} {x : List UInt8 × List UInt8} (h : one all = some x) (hm : all.length % 128 = 0) (r : List UInt8) : one (all ++ r) = some (x.1, x.2 ++ r) ∧ x.2.length % 128 = 0 := by
  unfold one at h ⊢
  by_cases h0 : (getRowR all 0 1048576).2.2 = 0
  · obtain ⟨e1, e2⟩ := getRow_app h0 r
    rw [if_pos h0] at h
    rw [e1, if_pos h0]
    generalize (getRowR all 0 1048576).2.1.toNat = n at *
    have hle : n + pad n ≤ all.length := by have := pad_fill n; unfold count at this; omega
    have ht : ((all ++ r).drop n).take (pad n) = (all.drop n).take (pad n) := by
      rw [List.drop_append_of_le_length e2, List.take_append_of_le_length (by rw [List.length_drop]; omega)]
    split at h
    · next hz =>
      rw [ht, if_pos hz]
      injection h with h
      rw [← h]
      simp only
      refine ⟨by rw [List.drop_append_of_le_length hle], ?_⟩
      rw [List.length_drop, pad_fill]
      omega
    · cases h
  · rw [if_neg h0] at h
    cases h
theorem parse_app : ∀ (k : Nat) {all : List UInt8} {x : List (List UInt8) × List UInt8}, parse k all = some x → all.length % 128 = 0 → ∀ r, parse k (all ++ r) = some (x.1, x.2 ++ r) ∧ x.2.length % 128 = 0
  | 0, all, x, h, hm, r => by
    simp only [parse, Option.some.injEq] at h ⊢
    subst h
    exact ⟨rfl, hm⟩
  | k + 1, all, x, h, hm, r => by
    simp only [parse] at h ⊢
    cases hp : parse k all with
    | none => rw [hp] at h; cases h
    | some y =>
      obtain ⟨e1, e2⟩ := parse_app k hp hm r
      rw [hp] at h
      simp only [Option.bind_some] at h
      rw [e1]
      simp only [Option.bind_some]
      cases ho : one y.2 with
      | none => rw [ho] at h; cases h
      | some z =>
        obtain ⟨e3, e4⟩ := one_app ho e2 r
        rw [ho] at h
        simp only [Option.map_some, Option.some.injEq] at h
        subst h
        rw [e3]
        exact ⟨rfl, e4⟩
/-- one more batch behind all -/
theorem parse_more {k : Nat} {all : List UInt8} {l : List (List UInt8)} (h : parse k all = some (l, [])) (hm : all.length % 128 = 0) (b : List UInt8) (hb : b.length ≤ 1048576) : parse (k + 1) (all ++ filled (rowOf b)) = some (l ++ [b], []) := by
  obtain ⟨e1, _⟩ := parse_app k h hm (filled (rowOf b))
  simp only [parse, e1, Option.bind_some, List.nil_append]
  have := one_row b [] hb
  rw [List.append_nil] at this
  rw [this]
  rfl
theorem parse_only (b : List UInt8) (hb : b.length ≤ 1048576) : parse 1 (filled (rowOf b)) = some ([b], []) := parse_more (k := 0) (all := []) rfl rfl b hb
end jn
end Go.Proofs.YtknndmhkfonfmaaGreatDoor

/-
  PURE: a journal on a disk: what is laid; what is there, wherever the power is cut. No program is named here.
-/
namespace Go.Proofs.YtknndmhkfonfmaaGreatDoor
namespace jn
abbrev St := dk.St
def half (s : St) : Nat := (s.S.length - 2) / 2
def first (s : St) (bank : UInt8) : Nat := 2 + bank.toNat * half s
def rd (s : St) (n : Int) : Blk := (dk.read s n).1
def newest (s : St) : Nat × hd.H × Int := hd.newest (rd s 0) (rd s 1)
/-- blocks are written, one behind the other, to the first error -/
def writes (s : St) (at_ : Nat) : List Blk → Int × St
  | [] => (0, s)
  | b :: r => if (dk.write s at_ b).1 = 0 then writes (dk.write s at_ b).2 (at_ + 1) r else dk.write s at_ b
/-- a head is laid -/
def layH (t : St) (h : hd.H) : Int × St :=
  if (dk.write t (sl.next (rd t 0) (rd t 1)) (hd.put ((newest t).1 + 1) h).1).1 = 0 then dk.flush (dk.write t (sl.next (rd t 0) (rd t 1)) (hd.put ((newest t).1 + 1) h).1).2
  else dk.write t (sl.next (rd t 0) (rd t 1)) (hd.put ((newest t).1 + 1) h).1
def lay (s : St) (at_ : Nat) (l : List Blk) (h : hd.H) : Int × St :=
  if (writes s at_ l).1 = 0 then
    (if (dk.flush (writes s at_ l).2).1 = 0 then layH (dk.flush (writes s at_ l).2).2 h else dk.flush (writes s at_ l).2)
  else writes s at_ l
def make (s : St) : Int × St := if s.black then (9, s) else lay s 0 [dk.zero, dk.zero] hd.zero
def bytes (s : St) (at_ k : Nat) : List UInt8 := ((List.range k).map fun i => rd s ((at_ + i : Nat) : Int)).flatten
def batches (s : St) (h : hd.H) : List (List UInt8) × Bool :=
  if half s < h.blocks then ([], false)
  else match parse h.batches (bytes s (first s h.bank) h.blocks) with
    | none => ([], false)
    | some x => (x.1, x.2.isEmpty)
def opens (s : St) : Int :=
  if s.black then 9 else if ¬ (newest s).2.2 = 0 ∨ 2305843009213693952 < (newest s).1 then 5 else if (batches s (newest s).2.1).2 then 0 else 5
def appendH (h : hd.H) (b : List UInt8) : hd.H := ⟨h.bank, h.blocks + (blocks b).length, h.batches + 1⟩
def replaceH (h : hd.H) (b : List UInt8) : hd.H := ⟨1 - h.bank, (blocks b).length, 1⟩
def append (s : St) (h : hd.H) (b : List UInt8) : Int × St :=
  if 1048576 < b.length then (3, s) else if s.black then (9, s) else if half s < h.blocks + (blocks b).length then (10, s) else lay s (first s h.bank + h.blocks) (blocks b) (appendH h b)
def replace (s : St) (h : hd.H) (b : List UInt8) : Int × St :=
  if 1048576 < b.length then (3, s) else if s.black then (9, s) else if half s < (blocks b).length then (10, s) else lay s (first s (1 - h.bank)) (blocks b) (replaceH h b)

/-! ### Steps -/
theorem step_cases (s : St) : ((dk.step s).1 = 0 ∧ (dk.step s).2.black = s.black ∧ (dk.step s).2.many = s.many + 1) ∨ ((dk.step s).1 = 9 ∧ (dk.step s).2.black = true ∧ (dk.step s).2.many = s.many) := by
  unfold dk.step
  split
  · exact .inr ⟨rfl, rfl, rfl⟩
  · exact .inl ⟨rfl, rfl, rfl⟩
/-- a write in the light, to a block that is there: done, or the power is cut -/
theorem write_cases {s : St} (hb : s.black = false) {n : Nat} (hn : n < s.S.length) (b : Blk) :
    ((dk.write s n b).1 = 0 ∧ (dk.write s n b).2.black = false ∧ (dk.write s n b).2.S = s.S ∧ (dk.write s n b).2.L = s.L ++ [((n : Int), b)] ∧ (dk.write s n b).2.many = s.many + 1) ∨
    ((dk.write s n b).1 = 9 ∧ (dk.write s n b).2.black = true ∧ (dk.write s n b).2.S = s.S ∧ (dk.write s n b).2.L = s.L ∧ (dk.write s n b).2.many = s.many) := by
  have ha : dk.asks s n = 0 := by
    unfold dk.asks
    rw [if_neg (by rw [hb]; simp), if_neg (by omega)]
  unfold dk.write
  rw [if_pos ha]
  rcases step_cases s with ⟨h1, h2, h3⟩ | ⟨h1, h2, h3⟩
  · rw [if_pos h1]
    exact .inl ⟨rfl, h2.trans hb, dk.step_S s, rfl, h3⟩
  · rw [if_neg (by rw [h1]; decide)]
    exact .inr ⟨rfl, h2, dk.step_S s, dk.step_L s, h3⟩
theorem flush_cases {s : St} (hb : s.black = false) :
    ((dk.flush s).1 = 0 ∧ (dk.flush s).2.black = false ∧ (dk.flush s).2.S = dk.lay s.S s.L ∧ (dk.flush s).2.L = [] ∧ (dk.flush s).2.many = s.many + 1) ∨
    ((dk.flush s).1 = 9 ∧ (dk.flush s).2.black = true ∧ (dk.flush s).2.S = s.S ∧ (dk.flush s).2.L = s.L ∧ (dk.flush s).2.many = s.many) := by
  unfold dk.flush
  rw [if_neg (by rw [hb]; simp)]
  rcases step_cases s with ⟨h1, h2, h3⟩ | ⟨h1, h2, h3⟩
  · rw [if_pos h1]
    exact .inl ⟨rfl, h2.trans hb, rfl, rfl, h3⟩
  · rw [if_neg (by rw [h1]; decide)]
    exact .inr ⟨rfl, h2, dk.step_S s, dk.step_L s, h3⟩
def zipAt (at_ : Nat) : List Blk → List (Int × Blk)
  | [] => []
  | b :: r => ((at_ : Int), b) :: zipAt (at_ + 1) r
/-- all of these are writes of the blocks from at_ on, less than hi -/
def InR (lo hi : Nat) (M : List (Int × Blk)) : Prop := ∀ x ∈ M, (lo : Int) ≤ x.1 ∧ x.1 < (hi : Int) ∧ x.2.length = 128
theorem zipAt_in : ∀ (l : List Blk) (at_ : Nat), (∀ b ∈ l, b.length = 128) → InR at_ (at_ + l.length) (zipAt at_ l)
  | [], _, _, x, hx => by cases hx
  | b :: r, at_, h, x, hx => by
    rcases List.mem_cons.1 hx with rfl | hx
    · exact ⟨Int.le_refl _, by simp only [List.length_cons]; omega, h _ (List.mem_cons_self ..)⟩
    · have := zipAt_in r (at_ + 1) (fun b hb => h b (List.mem_cons_of_mem _ hb)) x hx
      simp only [List.length_cons]
      exact ⟨by omega, by omega, this.2.2⟩
theorem writes_cases : ∀ (l : List Blk) (s : St) (at_ : Nat), s.black = false → at_ + l.length ≤ s.S.length → (∀ b ∈ l, b.length = 128) →
    ((writes s at_ l).1 = 0 ∧ (writes s at_ l).2.black = false ∧ (writes s at_ l).2.S = s.S ∧ (writes s at_ l).2.L = s.L ++ zipAt at_ l ∧ (writes s at_ l).2.many = s.many + l.length) ∨
    ((writes s at_ l).1 = 9 ∧ (writes s at_ l).2.black = true ∧ (writes s at_ l).2.S = s.S ∧ (∃ M, (writes s at_ l).2.L = s.L ++ M ∧ InR at_ (at_ + l.length) M ∧ M.length ≤ l.length) ∧ (writes s at_ l).2.many ≤ s.many + l.length)
  | [], s, at_, hb, _, _ => .inl ⟨rfl, hb, rfl, by simp [writes, zipAt], by simp [writes]⟩
  | b :: r, s, at_, hb, hl, h => by
    simp only [List.length_cons] at hl ⊢
    simp only [writes]
    rcases write_cases hb (n := at_) (by omega) b with ⟨w1, w2, w3, w4, w5⟩ | ⟨w1, w2, w3, w4, w5⟩
    · rw [if_pos w1]
      rcases writes_cases r (dk.write s at_ b).2 (at_ + 1) w2 (by rw [w3]; omega) (fun x hx => h x (List.mem_cons_of_mem _ hx)) with ⟨v1, v2, v3, v4, v5⟩ | ⟨v1, v2, v3, ⟨M, v4, v5, v7⟩, v6⟩
      · refine .inl ⟨v1, v2, by rw [v3, w3], ?_, by rw [v5, w5]; omega⟩
        rw [v4, w4, List.append_assoc]
        rfl
      · refine .inr ⟨v1, v2, by rw [v3, w3], ⟨((at_ : Int), b) :: M, ?_, ?_, by simp only [List.length_cons]; omega⟩, by omega⟩
        · rw [v4, w4, List.append_assoc]
          rfl
        · intro x hx
          rcases List.mem_cons.1 hx with rfl | hx
          · exact ⟨Int.le_refl _, by simp only; omega, h _ (List.mem_cons_self ..)⟩
          · have := v5 x hx
            exact ⟨by omega, by omega, this.2.2⟩
    · rw [if_neg (by rw [w1]; decide)]
      exact .inr ⟨w1, w2, w3, ⟨[], by rw [w4, List.append_nil], (fun x hx => by cases hx), by simp⟩, by omega⟩
/-! ### What other blocks have -/
/-- S' has what S has but between lo and hi -/
structure Agree (lo hi : Nat) (S S' : List Blk) : Prop where
  len : S'.length = S.length
  get : ∀ k, (k < lo ∨ hi ≤ k) → S'.getD k dk.zero = S.getD k dk.zero
theorem Agree.refl (lo hi : Nat) (S : List Blk) : Agree lo hi S S := ⟨rfl, fun _ _ => rfl⟩
theorem Agree.trans {lo hi : Nat} {S S1 S2 : List Blk} (h : Agree lo hi S S1) (h2 : Agree lo hi S1 S2) : Agree lo hi S S2 := ⟨h2.len.trans h.len, fun k hk => (h2.get k hk).trans (h.get k hk)⟩
theorem getD_set_ne {S : List Blk} {i k : Nat} (h : i ≠ k) (b : Blk) : (S.set i b).getD k dk.zero = S.getD k dk.zero := by
  simp only [List.getD_eq_getElem?_getD]
  rw [List.getElem?_set_ne h]
theorem getD_set_eq {S : List Blk} {i : Nat} (h : i < S.length) (b : Blk) : (S.set i b).getD i dk.zero = b := by
  rw [List.getD_eq_getElem?_getD, List.getElem?_set, if_pos rfl, if_pos h]
  rfl
theorem agree_set {lo hi : Nat} (S : List Blk) {i : Nat} (h1 : lo ≤ i) (h2 : i < hi) (b : Blk) : Agree lo hi S (S.set i b) :=
  ⟨List.length_set, fun k hk => getD_set_ne (by omega) b⟩
theorem agree_tear {lo hi : Nat} : ∀ (M : List (Int × Blk)) (S : List Blk) (p : List Int), InR lo hi M → Agree lo hi S (dk.tear S M p)
  | [], S, _, _ => Agree.refl _ _ _
  | x :: r, S, p, h => by
    have hx := h x (List.mem_cons_self ..)
    exact (agree_set S (i := x.1.toNat) (by omega) (by omega) _).trans (agree_tear r _ _ (fun y hy => h y (List.mem_cons_of_mem _ hy)))
theorem agree_lay {lo hi : Nat} : ∀ (M : List (Int × Blk)) (S : List Blk), InR lo hi M → Agree lo hi S (dk.lay S M)
  | [], S, _ => Agree.refl _ _ _
  | x :: r, S, h => by
    have hx := h x (List.mem_cons_self ..)
    exact (agree_set S (i := x.1.toNat) (by omega) (by omega) _).trans (agree_lay r _ (fun y hy => h y (List.mem_cons_of_mem _ hy)))
/-- what was written is there -/
theorem lay_zip : ∀ (l : List Blk) (at_ : Nat) (S : List Blk), at_ + l.length ≤ S.length → ∀ i, i < l.length → (dk.lay S (zipAt at_ l)).getD (at_ + i) dk.zero = l.getD i dk.zero
  | [], _, _, _, i, hi => by simp at hi
  | b :: r, at_, S, h, i, hi => by
    simp only [List.length_cons] at h hi
    simp only [zipAt, dk.lay, Int.toNat_natCast]
    cases i with
    | zero =>
      have hfar : ∀ (r : List Blk) (a : Nat) (S : List Blk) (k : Nat), k < a → (dk.lay S (zipAt a r)).getD k dk.zero = S.getD k dk.zero := by
        intro r
        induction r with
        | nil => intro a S k _; rfl
        | cons x r ih =>
          intro a S k hk
          simp only [zipAt, dk.lay, Int.toNat_natCast]
          rw [ih (a + 1) _ k (by omega), getD_set_ne (by omega)]
      simp only [Nat.add_zero]
      rw [hfar r (at_ + 1) _ at_ (by omega), getD_set_eq (by omega)]
      rfl
    | succ i =>
      have := lay_zip r (at_ + 1) (S.set at_ b) (by rw [List.length_set]; omega) i (by omega)
      rw [show at_ + (i + 1) = at_ + 1 + i from by omega, this]
      rfl
end jn
end Go.Proofs.YtknndmhkfonfmaaGreatDoor

/-
  PURE: WHEREVER THE POWER IS CUT: the batches are those ahead of what was under way, or behind it. No program is named here.
-/
namespace Go.Proofs.YtknndmhkfonfmaaGreatDoor
namespace jn
theorem get_le (X : Blk) : (hd.get X).1 ≤ sl.worth X := by
  unfold hd.get sl.worth
  split
  · split
    · exact Nat.le_refl _
    · exact Nat.zero_le _
  · exact Nat.zero_le _
theorem newest_a {a b : Blk} {N : Nat} {h : hd.H} (ha : hd.get a = (N, h, 0)) (hb : sl.worth b < N) : hd.newest a b = (N, h, 0) := by
  have := get_le b
  unfold hd.newest
  simp only [ha]
  rw [if_neg (by simp), if_neg (by omega)]
theorem newest_b {a b : Blk} {N : Nat} {h : hd.H} (hb : hd.get b = (N, h, 0)) (ha : sl.worth a < N) : hd.newest a b = (N, h, 0) := by
  have := get_le a
  unfold hd.newest
  simp only [hb]
  rw [if_neg (by simp), if_pos (by omega)]
theorem worth_seal6 {n : Nat} (h0 : 0 < n) (hn : n < 18446744073709551616) {body : List UInt8} (h : body.length ≤ 108) : sl.worth (sl.sealB n body) = n := by
  rw [sl.worth, sl.get_seal h0 hn h]
theorem worth_bad {X : Blk} (h : ¬ (sl.get X).2.2 = 0) : sl.worth X = 0 := by
  unfold sl.worth
  unfold sl.get at h ⊢
  split
  · rfl
  · split
    · rfl
    · next h1 h2 =>
      rw [if_neg h1, if_neg h2] at h
      exact absurd rfl h
/-- the two heads: the one that counts, and the other one -/
structure Two (S : List Blk) (c N : Nat) (h : hd.H) : Prop where
  c2 : c < 2
  num : hd.num N = true
  may : hd.may h = true
  here : S.getD c dk.zero = sl.sealB N (hd.bodyOf h)
  away : sl.Away (S.getD (1 - c) dk.zero) (N + 1)
  less : sl.worth (S.getD (1 - c) dk.zero) < N
theorem Two.newest {S : List Blk} {c N : Nat} {h : hd.H} (t : Two S c N h) : hd.newest (S.getD 0 dk.zero) (S.getD 1 dk.zero) = (N, h, 0) := by
  have hg : hd.get (sl.sealB N (hd.bodyOf h)) = (N, h, 0) := by
    have := hd.get_put (hd.may_Ok t.may) t.num t.may
    rwa [hd.put_yes t.num t.may] at this
  have hc := t.c2
  have hh := t.here
  have hl := t.less
  have hcs : c = 0 ∨ c = 1 := by omega
  rcases hcs with rfl | rfl
  · rw [hh]; exact newest_a hg hl
  · rw [hh]; exact newest_b hg hl
theorem Two.next {S : List Blk} {c N : Nat} {h : hd.H} (t : Two S c N h) : sl.next (S.getD 0 dk.zero) (S.getD 1 dk.zero) = ((1 - c : Nat) : Int) := by
  have hn := hd.num_ok t.num
  have hw : sl.worth (sl.sealB N (hd.bodyOf h)) = N := worth_seal6 (by omega) (by omega) (by rw [hd.bodyOf_length]; omega)
  have hc := t.c2
  have hh := t.here
  have hl := t.less
  unfold sl.next
  have hcs : c = 0 ∨ c = 1 := by omega
  rcases hcs with rfl | rfl
  · rw [hh, hw, if_pos ⟨by omega, by simpa using Nat.le_of_lt hl⟩]; rfl
  · rw [hh, hw, if_neg (fun h => by have := h.2; simp only [Nat.sub_self] at hl; omega)]; rfl
theorem Two.agree {S S' : List Blk} {c N : Nat} {h : hd.H} (t : Two S c N h) {lo hi : Nat} (ha : Agree lo hi S S') (h2 : 2 ≤ lo) : Two S' c N h := by
  have hc := t.c2
  have e1 := ha.get c (.inl (by omega))
  have e2 := ha.get (1 - c) (.inl (by omega))
  exact ⟨t.c2, t.num, t.may, by rw [e1]; exact t.here, by rw [e2]; exact t.away, by rw [e2]; exact t.less⟩
/-- a new head in the other place -/
theorem Two.laid {S : List Blk} {c N : Nat} {h h' : hd.H} (t : Two S c N h) (hl : 2 ≤ S.length) (hn : hd.num (N + 1) = true) (hm : hd.may h' = true) : Two (S.set (1 - c) (sl.sealB (N + 1) (hd.bodyOf h'))) (1 - c) (N + 1) h' := by
  have hc := t.c2
  have n1 := hd.num_ok t.num
  have e1 : (S.set (1 - c) (sl.sealB (N + 1) (hd.bodyOf h'))).getD (1 - (1 - c)) dk.zero = sl.sealB N (hd.bodyOf h) := by
    rw [show 1 - (1 - c) = c from by omega, getD_set_ne (by omega)]
    exact t.here
  refine ⟨by omega, hn, hm, getD_set_eq (by omega) _, ?_, ?_⟩
  · rw [e1]
    exact sl.away_seal (by rw [hd.bodyOf_length]; omega) (by omega) (by omega) (by omega)
  · rw [e1, worth_seal6 (by omega) (by omega) (by rw [hd.bodyOf_length]; omega)]
    omega
/-- only a beginning of a new head in the other place -/
theorem Two.begun {S : List Blk} {c N : Nat} {h h' : hd.H} (t : Two S c N h) (hS : ∀ b ∈ S, b.length = 128) (hl : 2 ≤ S.length) (hn : hd.num (N + 1) = true) (hm : hd.may h' = true) (k : Int) :
    Two (S.set (1 - c) (dk.torn (S.getD (1 - c) dk.zero) (sl.sealB (N + 1) (hd.bodyOf h')) k)) c N h ∨ Two (S.set (1 - c) (dk.torn (S.getD (1 - c) dk.zero) (sl.sealB (N + 1) (hd.bodyOf h')) k)) (1 - c) (N + 1) h' := by
  have hc := t.c2
  have n1 := hd.num_ok hn
  have hbl : (hd.bodyOf h').length ≤ 108 := by rw [hd.bodyOf_length]; omega
  have hold : ∀ X', (sl.Away X' (N + 1)) → sl.worth X' < N → Two (S.set (1 - c) X') c N h := fun X' h1 h2 =>
    ⟨t.c2, t.num, t.may, by rw [getD_set_ne (by omega)]; exact t.here, by rw [getD_set_eq (by omega)]; exact h1, by rw [getD_set_eq (by omega)]; exact h2⟩
  rcases sl.torn_away (dk.getD_len hS (1 - c)) (M := N + 1) (by omega) hbl t.away k with e | e | ⟨e1, e2⟩
  · rw [e]
    exact .inl (hold _ t.away t.less)
  · rw [e]
    exact .inr (t.laid hl hn hm)
  · exact .inl (hold _ e2 (by rw [worth_bad e1]; have := hd.num_ok t.num; omega))
theorem Two.zero : Two ([sl.sealB 1 (hd.bodyOf hd.zero), dk.zero]) 0 1 hd.zero :=
  ⟨by omega, by decide, by decide, rfl, sl.away_zero (by omega), by show sl.worth dk.zero < 1; decide +kernel⟩
end jn
end Go.Proofs.YtknndmhkfonfmaaGreatDoor

/-
  PURE: WHEREVER THE POWER IS CUT, the whole: a head is laid; blocks and a head are laid; Append, Replace. No program is named here.
-/
namespace Go.Proofs.YtknndmhkfonfmaaGreatDoor
namespace jn
/-- in the light, with all sure: what is read is what stands there -/
theorem rd_sure {s : St} (hb : s.black = false) (hL : s.L = []) {k : Nat} (hk : k < s.S.length) : rd s (k : Int) = s.S.getD k dk.zero := by
  have ha : dk.asks s k = 0 := by
    unfold dk.asks
    rw [if_neg (by rw [hb]; simp), if_neg (by omega)]
  rw [rd, dk.read, if_pos ha, hL, Int.toNat_natCast]
  rfl
def bytesS (S : List Blk) (at_ k : Nat) : List UInt8 := ((List.range k).map fun i => S.getD (at_ + i) dk.zero).flatten
theorem bytes_sure {s : St} (hb : s.black = false) (hL : s.L = []) {at_ k : Nat} (hk : at_ + k ≤ s.S.length) : bytes s at_ k = bytesS s.S at_ k := by
  unfold bytes bytesS
  congr 1
  apply List.map_congr_left
  intro i hi
  exact rd_sure hb hL (by have := List.mem_range.1 hi; omega)
theorem bytesS_agree {S S' : List Blk} {lo hi at_ k : Nat} (ha : Agree lo hi S S') (hd : at_ + k ≤ lo ∨ hi ≤ at_) : bytesS S' at_ k = bytesS S at_ k := by
  unfold bytesS
  congr 1
  apply List.map_congr_left
  intro i hi
  have := List.mem_range.1 hi
  exact ha.get _ (by omega)
theorem bytesS_length {S : List Blk} (h : ∀ b ∈ S, b.length = 128) (at_ : Nat) : ∀ k, (bytesS S at_ k).length = k * 128
  | 0 => rfl
  | k + 1 => by
    have e : bytesS S at_ (k + 1) = bytesS S at_ k ++ S.getD (at_ + k) dk.zero := by simp [bytesS, List.range_succ]
    rw [e, List.length_append, bytesS_length h at_ k, dk.getD_len h]
    omega
theorem bytesS_more (S : List Blk) (at_ k m : Nat) : bytesS S at_ (k + m) = bytesS S at_ k ++ bytesS S (at_ + k) m := by
  unfold bytesS
  rw [List.range_add, List.map_append, List.flatten_append, List.map_map]
  congr 2
  apply List.map_congr_left
  intro i _
  simp only [Function.comp]
  rw [Nat.add_assoc]
theorem bytesS_blocks {S : List Blk} {at_ : Nat} {l : List Blk} (h : ∀ i, i < l.length → S.getD (at_ + i) dk.zero = l.getD i dk.zero) : bytesS S at_ l.length = l.flatten := by
  unfold bytesS
  congr 1
  apply List.ext_getElem?
  intro i
  by_cases hi : i < l.length
  · rw [List.getElem?_map, List.getElem?_range hi, List.getElem?_eq_getElem hi]
    simp only [Option.map_some, Option.some.injEq]
    rw [h i hi, List.getD_eq_getElem?_getD, List.getElem?_eq_getElem hi]
    rfl
  · rw [List.getElem?_eq_none (by simp; omega), List.getElem?_eq_none (by omega)]
/-- A JOURNAL IN THE LIGHT, ALL OF IT SURE -/
structure Good (s : St) (c N : Nat) (h : hd.H) (was : List (List UInt8)) : Prop where
  ok : s.Ok
  light : s.black = false
  sure : s.L = []
  two : Two s.S c N h
  fits : h.blocks ≤ half s
  reads : parse h.batches (bytesS s.S (first s h.bank) h.blocks) = some (was, [])
theorem first_ge (s : St) (bank : UInt8) : 2 ≤ first s bank := by unfold first; omega
theorem first_le {s : St} (h : s.Ok) {bank : UInt8} (hb : bank.toNat ≤ 1) : first s bank + half s ≤ s.S.length := by
  have h1 := h.some
  have : bank.toNat * half s ≤ 1 * half s := Nat.mul_le_mul_right _ hb
  unfold first half at *
  omega
theorem Good.newest {s : St} {c N : Nat} {h : hd.H} {was : List (List UInt8)} (g : Good s c N h was) : newest s = (N, h, 0) := by
  have h1 := g.ok.some
  have e0 : rd s 0 = s.S.getD 0 dk.zero := rd_sure g.light g.sure (k := 0) (by omega)
  have e1 : rd s 1 = s.S.getD 1 dk.zero := rd_sure g.light g.sure (k := 1) (by omega)
  rw [jn.newest, e0, e1]
  exact g.two.newest
theorem Good.batches {s : St} {c N : Nat} {h : hd.H} {was : List (List UInt8)} (g : Good s c N h was) : batches s h = (was, true) := by
  have hm := (hd.may_ok g.two.may).1
  have h1 := first_le g.ok hm
  have h2 := g.fits
  unfold jn.batches
  rw [if_neg (by omega), bytes_sure g.light g.sure (by omega), g.reads]
  rfl
theorem Good.opens {s : St} {c N : Nat} {h : hd.H} {was : List (List UInt8)} (g : Good s c N h was) (hN : N ≤ 2305843009213693952) : opens s = 0 := by
  unfold jn.opens
  rw [g.newest]
  simp only
  rw [g.batches, if_neg (by rw [g.light]; simp), if_neg (by simp; omega)]
  rfl
/-- blocks that do not count turn -/
theorem Good.agree {s s' : St} {c N : Nat} {h : hd.H} {was : List (List UInt8)} (g : Good s c N h was) (ok : s'.Ok) (hb : s'.black = false) (hL : s'.L = []) {lo hi : Nat} (ha : Agree lo hi s.S s'.S) (h2 : 2 ≤ lo)
    (hfar : first s h.bank + h.blocks ≤ lo ∨ hi ≤ first s h.bank) : Good s' c N h was := by
  have hh : half s' = half s := by unfold half; rw [ha.len]
  have hf : first s' h.bank = first s h.bank := by unfold first; rw [hh]
  exact ⟨ok, hb, hL, g.two.agree ha h2, by rw [hh]; exact g.fits, by rw [hf, bytesS_agree ha hfar]; exact g.reads⟩
theorem Ok.writes : ∀ (l : List Blk) {s : St} (at_ : Nat), s.Ok → (∀ b ∈ l, b.length = 128) → (writes s at_ l).2.Ok
  | [], _, _, h, _ => h
  | b :: r, s, at_, h, hl => by
    have hw := dk.Ok.write (n := (at_ : Int)) h (hl b (List.mem_cons_self ..))
    simp only [jn.writes]
    split
    · exact Ok.writes r _ hw (fun x hx => hl x (List.mem_cons_of_mem _ hx))
    · exact hw
theorem Ok.layH {t : St} (h : t.Ok) (k : hd.H) : (layH t k).2.Ok := by
  have hw := dk.Ok.write (n := sl.next (rd t 0) (rd t 1)) h (hd.put_len ((jn.newest t).1 + 1) k)
  unfold jn.layH
  split
  · exact dk.Ok.flush hw
  · exact hw
theorem Ok.lay {s : St} (h : s.Ok) (at_ : Nat) {l : List Blk} (hl : ∀ b ∈ l, b.length = 128) (k : hd.H) : (lay s at_ l k).2.Ok := by
  have h1 := Ok.writes l at_ h hl
  unfold jn.lay
  split
  · split
    · exact Ok.layH (dk.Ok.flush h1) k
    · exact dk.Ok.flush h1
  · exact h1
/-- A HEAD IS LAID: it is there; or the power is cut, and of it a beginning at most is there -/
theorem layH_cases {t : St} (ok : t.Ok) (hb : t.black = false) (hL : t.L = []) {c N : Nat} {h h' : hd.H} (two : Two t.S c N h) (hn : hd.num (N + 1) = true) (hm : hd.may h' = true) :
    ((layH t h').1 = 0 ∧ (layH t h').2.black = false ∧ (layH t h').2.L = [] ∧ (layH t h').2.S = t.S.set (1 - c) (sl.sealB (N + 1) (hd.bodyOf h')) ∧ (layH t h').2.many = t.many + 2) ∨
    ((layH t h').1 = 9 ∧ (layH t h').2.black = true ∧ (layH t h').2.many ≤ t.many + 2 ∧ ∀ p, (dk.crash (layH t h').2 p).S = t.S ∨ ∃ k, (dk.crash (layH t h').2 p).S = t.S.set (1 - c) (dk.torn (t.S.getD (1 - c) dk.zero) (sl.sealB (N + 1) (hd.bodyOf h')) k)) := by
  have hc := two.c2
  have h64 := ok.some
  have e0 : rd t 0 = t.S.getD 0 dk.zero := rd_sure hb hL (k := 0) (by omega)
  have e1 : rd t 1 = t.S.getD 1 dk.zero := rd_sure hb hL (k := 1) (by omega)
  have en : jn.newest t = (N, h, 0) := by rw [jn.newest, e0, e1]; exact two.newest
  have ex : sl.next (rd t 0) (rd t 1) = ((1 - c : Nat) : Int) := by rw [e0, e1]; exact two.next
  unfold jn.layH
  rw [en, ex, hd.put_yes hn hm]
  simp only
  generalize sl.sealB (N + 1) (hd.bodyOf h') = Y
  rcases write_cases hb (n := 1 - c) (by omega) Y with ⟨w1, w2, w3, w4, w5⟩ | ⟨w1, w2, w3, w4, w5⟩
  · rw [if_pos w1]
    rw [hL, List.nil_append] at w4
    rcases flush_cases w2 with ⟨f1, f2, f3, f4, f5⟩ | ⟨f1, f2, f3, f4, f5⟩
    · refine .inl ⟨f1, f2, f4, ?_, by rw [f5, w5]; omega⟩
      rw [f3, w3, w4]
      simp only [dk.lay, Int.toNat_natCast]
    · refine .inr ⟨f1, f2, by rw [f5, w5]; omega, fun p => .inr ⟨p.headD 0, ?_⟩⟩
      simp only [dk.crash]
      rw [f3, f4, w3, w4]
      simp only [dk.tear, Int.toNat_natCast]
  · rw [if_neg (by rw [w1]; decide)]
    refine .inr ⟨w1, w2, by omega, fun p => .inl ?_⟩
    simp only [dk.crash]
    rw [w3, w4, hL]
    rfl
/-- BLOCKS AND A HEAD ARE LAID -/
theorem lay_cases {s : St} {c N : Nat} {h : hd.H} {was : List (List UInt8)} (g : Good s c N h was) {at_ : Nat} {l : List Blk} (hl : ∀ b ∈ l, b.length = 128) {h' : hd.H} (h2 : 2 ≤ at_) (hat : at_ + l.length ≤ s.S.length)
    (hfar : first s h.bank + h.blocks ≤ at_ ∨ at_ + l.length ≤ first s h.bank) (hn : hd.num (N + 1) = true) (hm : hd.may h' = true) (hfit : h'.blocks ≤ half s) {now : List (List UInt8)}
    (hnow : ∀ S1, Agree at_ (at_ + l.length) s.S S1 → (∀ i, i < l.length → S1.getD (at_ + i) dk.zero = l.getD i dk.zero) → (∀ b ∈ S1, b.length = 128) → parse h'.batches (bytesS S1 (first s h'.bank) h'.blocks) = some (now, [])) :
    ((lay s at_ l h').1 = 0 ∧ Good (lay s at_ l h').2 (1 - c) (N + 1) h' now ∧ (lay s at_ l h').2.S.length = s.S.length ∧ (lay s at_ l h').2.many = s.many + l.length + 3) ∨
    ((lay s at_ l h').1 = 9 ∧ (lay s at_ l h').2.black = true ∧ (lay s at_ l h').2.Ok ∧ (lay s at_ l h').2.S.length = s.S.length ∧ (lay s at_ l h').2.many ≤ s.many + l.length + 3 ∧
      ∀ p, Good (dk.crash (lay s at_ l h').2 p) c N h was ∨ Good (dk.crash (lay s at_ l h').2 p) (1 - c) (N + 1) h' now) := by
  have hok := Ok.lay g.ok at_ hl h'
  have hokw := Ok.writes l at_ g.ok hl
  have h64 := g.ok.some
  have hb1 := (hd.may_ok hm).1
  have hf1 := first_le g.ok hb1
  have hg1 := first_ge s h'.bank
  unfold jn.lay at hok ⊢
  rcases writes_cases l s at_ g.light hat hl with ⟨w1, w2, w3, w4, w5⟩ | ⟨w1, w2, w3, ⟨M, w4, w5, _⟩, w6⟩
  · rw [if_pos w1] at hok ⊢
    rw [g.sure, List.nil_append] at w4
    have hz := zipAt_in l at_ hl
    rcases flush_cases w2 with ⟨f1, f2, f3, f4, f5⟩ | ⟨f1, f2, f3, f4, f5⟩
    · rw [if_pos f1] at hok ⊢
      have hokf := dk.Ok.flush hokw
      rw [w3, w4] at f3
      have ha : Agree at_ (at_ + l.length) s.S (dk.flush (writes s at_ l).2).2.S := by rw [f3]; exact agree_lay _ _ hz
      have hgood1 := g.agree hokf f2 f4 ha h2 hfar
      have hput : ∀ i, i < l.length → (dk.flush (writes s at_ l).2).2.S.getD (at_ + i) dk.zero = l.getD i dk.zero := fun i hi => by rw [f3]; exact lay_zip l at_ s.S hat i hi
      have hm1 : (dk.flush (writes s at_ l).2).2.many = s.many + l.length + 1 := by rw [f5, w5]
      generalize (dk.flush (writes s at_ l).2).2 = t at *
      have hhalf : half t = half s := by unfold half; rw [ha.len]
      have hfirst : ∀ b, first t b = first s b := fun b => by unfold first; rw [hhalf]
      have hread := hnow t.S ha hput hokf.lenS
      -- a head in the other place leaves the blocks
      have hset : ∀ X (u : St), u.S = t.S.set (1 - c) X → u.Ok → u.black = false → u.L = [] → (Two u.S c N h → Good u c N h was) ∧ (Two u.S (1 - c) (N + 1) h' → Good u (1 - c) (N + 1) h' now) := fun X u hu ho hb hL => by
        have ha2 : Agree 0 2 t.S u.S := by rw [hu]; exact agree_set _ (Nat.zero_le _) (by omega) _
        have hh : half u = half s := by unfold half; rw [ha2.len, ha.len]
        have hf : ∀ b, first u b = first s b := fun b => by unfold first; rw [hh]
        refine ⟨fun two => ⟨ho, hb, hL, two, by rw [hh]; exact g.fits, ?_⟩, fun two => ⟨ho, hb, hL, two, by rw [hh]; exact hfit, ?_⟩⟩
        · rw [hf, bytesS_agree ha2 (.inr (first_ge s _)), ← hfirst]
          exact hgood1.reads
        · rw [hf, bytesS_agree ha2 (.inr hg1)]
          exact hread
      rcases layH_cases hokf f2 f4 hgood1.two hn hm with ⟨a1, a2, a3, a4, a5⟩ | ⟨a1, a2, a3, a4⟩
      · refine .inl ⟨a1, ?_, by rw [a4, List.length_set, ha.len], by rw [a5, hm1]; omega⟩
        refine (hset _ _ a4 hok a2 a3).2 ?_
        rw [a4]
        exact hgood1.two.laid (by rw [ha.len]; omega) hn hm
      · have hSl : (layH t h').2.S.length = s.S.length := by
          have h3 := a4 []
          have h4 : (dk.crash (layH t h').2 []).S.length = (layH t h').2.S.length := by simp only [dk.crash]; exact dk.tear_length _ _ _
          rcases h3 with e | ⟨k, e⟩
          · rw [← h4, e, ha.len]
          · rw [← h4, e, List.length_set, ha.len]
        refine .inr ⟨a1, a2, hok, hSl, by omega, fun p => ?_⟩
        have hokc := dk.Ok.crash hok p
        rcases a4 p with e | ⟨k, e⟩
        · refine .inl (hgood1.agree (lo := 2) (hi := 2) hokc rfl rfl ⟨by rw [e], fun k _ => by rw [e]⟩ (Nat.le_refl _) (.inr (first_ge _ _)))
        · rcases hgood1.two.begun hokf.lenS (by rw [ha.len]; omega) hn hm k with two | two
          · exact .inl ((hset _ _ e hokc rfl rfl).1 (by rw [e]; exact two))
          · exact .inr ((hset _ _ e hokc rfl rfl).2 (by rw [e]; exact two))
    · rw [if_neg (by rw [f1]; decide)] at hok ⊢
      refine .inr ⟨f1, f2, hok, by rw [f3, w3], by rw [f5, w5]; omega, fun p => .inl ?_⟩
      refine g.agree (lo := at_) (hi := at_ + l.length) (dk.Ok.crash hok p) rfl rfl ?_ h2 hfar
      simp only [dk.crash]
      rw [f3, f4, w3, w4]
      exact agree_tear _ _ p hz
  · rw [if_neg (by rw [w1]; decide)] at hok ⊢
    refine .inr ⟨w1, w2, hok, by rw [w3], by omega, fun p => .inl ?_⟩
    refine g.agree (lo := at_) (hi := at_ + l.length) (dk.Ok.crash hok p) rfl rfl ?_ h2 hfar
    simp only [dk.crash]
    rw [w3, w4, g.sure, List.nil_append]
    exact agree_tear _ _ p w5
theorem may_of {h : hd.H} (h1 : h.bank.toNat ≤ 1) (h2 : h.blocks ≤ 4096) (h3 : h.batches ≤ h.blocks) : hd.may h = true := by simp [hd.may, h1, h2, h3]
theorem count_pos (n : Nat) : 1 ≤ count (n + 4) := by unfold count; omega
theorem half_le {s : St} (h : s.Ok) : half s ≤ 2047 := by have := h.most; unfold half; omega
theorem bank_cases {x : UInt8} (h : x.toNat ≤ 1) : x = 0 ∨ x = 1 := by
  have hcs : x.toNat = 0 ∨ x.toNat = 1 := by omega
  rcases hcs with e | e
  · exact .inl (UInt8.toNat_inj.1 e)
  · exact .inr (UInt8.toNat_inj.1 e)
/-- what there is room for is behind the others, or the power is cut -/
theorem append_cases {s : St} {c N : Nat} {h : hd.H} {was : List (List UInt8)} (g : Good s c N h was) (hn : hd.num (N + 1) = true) (b : List UInt8) (hb : b.length ≤ 1048576) (hroom : h.blocks + (blocks b).length ≤ half s) :
    append s h b = lay s (first s h.bank + h.blocks) (blocks b) (appendH h b) ∧
    (((append s h b).1 = 0 ∧ Good (append s h b).2 (1 - c) (N + 1) (appendH h b) (was ++ [b]) ∧ (append s h b).2.S.length = s.S.length ∧ (append s h b).2.many = s.many + (blocks b).length + 3) ∨
    ((append s h b).1 = 9 ∧ (append s h b).2.black = true ∧ (append s h b).2.Ok ∧ (append s h b).2.S.length = s.S.length ∧ (append s h b).2.many ≤ s.many + (blocks b).length + 3 ∧
      ∀ p, Good (dk.crash (append s h b).2 p) c N h was ∨ Good (dk.crash (append s h b).2 p) (1 - c) (N + 1) (appendH h b) (was ++ [b]))) := by
  have he : append s h b = lay s (first s h.bank + h.blocks) (blocks b) (appendH h b) := by
    unfold jn.append
    rw [if_neg (by omega), if_neg (by rw [g.light]; simp), if_neg (by omega)]
  refine ⟨he, ?_⟩
  rw [he]
  have hm := hd.may_ok g.two.may
  have hf := first_le g.ok hm.1
  have hh := half_le g.ok
  have hp := count_pos b.length
  rw [← blocks_length] at hp
  refine lay_cases g (blocks_len b) (by have := first_ge s h.bank; omega) (by omega) (.inl (Nat.le_refl _)) hn ?_ hroom ?_
  · exact may_of hm.1 (show h.blocks + (blocks b).length ≤ 4096 by omega) (show h.batches + 1 ≤ h.blocks + (blocks b).length by omega)
  · intro S1 ha hput hlen
    show parse (h.batches + 1) (bytesS S1 (first s h.bank) (h.blocks + (blocks b).length)) = _
    rw [bytesS_more, bytesS_agree ha (.inl (Nat.le_refl _)), bytesS_blocks hput, blocks_flatten]
    exact parse_more g.reads (by rw [bytesS_length g.ok.lenS]; omega) b hb
theorem replace_cases {s : St} {c N : Nat} {h : hd.H} {was : List (List UInt8)} (g : Good s c N h was) (hn : hd.num (N + 1) = true) (b : List UInt8) (hb : b.length ≤ 1048576) (hroom : (blocks b).length ≤ half s) :
    replace s h b = lay s (first s (1 - h.bank)) (blocks b) (replaceH h b) ∧
    (((replace s h b).1 = 0 ∧ Good (replace s h b).2 (1 - c) (N + 1) (replaceH h b) [b] ∧ (replace s h b).2.S.length = s.S.length ∧ (replace s h b).2.many = s.many + (blocks b).length + 3) ∨
    ((replace s h b).1 = 9 ∧ (replace s h b).2.black = true ∧ (replace s h b).2.Ok ∧ (replace s h b).2.S.length = s.S.length ∧ (replace s h b).2.many ≤ s.many + (blocks b).length + 3 ∧
      ∀ p, Good (dk.crash (replace s h b).2 p) c N h was ∨ Good (dk.crash (replace s h b).2 p) (1 - c) (N + 1) (replaceH h b) [b])) := by
  have he : replace s h b = lay s (first s (1 - h.bank)) (blocks b) (replaceH h b) := by
    unfold jn.replace
    rw [if_neg (by omega), if_neg (by rw [g.light]; simp), if_neg (by omega)]
  refine ⟨he, ?_⟩
  rw [he]
  have hm := hd.may_ok g.two.may
  have hh := half_le g.ok
  have hp := count_pos b.length
  rw [← blocks_length] at hp
  have hbk : (1 - h.bank).toNat ≤ 1 ∧ (first s h.bank + half s ≤ first s (1 - h.bank) ∨ first s (1 - h.bank) + half s ≤ first s h.bank) := by
    rcases bank_cases hm.1 with e | e <;> rw [e]
    · refine ⟨by decide, .inl ?_⟩
      show 2 + 0 * half s + half s ≤ 2 + 1 * half s
      omega
    · refine ⟨by decide, .inr ?_⟩
      show 2 + 0 * half s + half s ≤ 2 + 1 * half s
      omega
  have hf := first_le g.ok hbk.1
  have hfits := g.fits
  refine lay_cases g (blocks_len b) (first_ge _ _) (by omega) (by rcases hbk.2 with e | e; exact .inl (by omega); exact .inr (by omega)) hn ?_ hroom ?_
  · exact may_of hbk.1 (show (blocks b).length ≤ 4096 by omega) (show 1 ≤ (blocks b).length by omega)
  · intro S1 ha hput hlen
    show parse 1 (bytesS S1 (first s (1 - h.bank)) (blocks b).length) = _
    rw [bytesS_blocks hput, blocks_flatten]
    exact parse_only b hb
end jn
end Go.Proofs.YtknndmhkfonfmaaGreatDoor

/-
  contracts of cardexref04.Disk's methods that write no blocks: Blocks, Dark, Steps, Loose, asks, step, Arm, Sure, Read.
-/
namespace Go.Proofs.YtknndmhkfonfmaaGreatDoor
open Go.RowKit

/-- cardexref04's disk -/
abbrev RM := dk.M 64 43 76
variable {w : World} {p g c : Nat} {r : List Value} {v : Value} {s : dk.St}

namespace dk
theorem M.own_len {T E P : TypeId} {w : World} {p g c : Nat} {r : List Value} {v : Value} {s : dk.St} (h : M T E P w p g c r v s) : ∃ A cap, v = .slice A s.L.length cap ∧ s.L.length ≤ cap ∧ cap ≤ 9223372036854775807 := by
  rcases h.loose.2 with ⟨rfl, h0⟩ | ⟨k, cap, _, rfl, _, _, h1, h2, _⟩
  · exact ⟨none, 0, by rw [h0], by omega, by omega⟩
  · exact ⟨_, cap, rfl, h1, by rw [maxLen_eq] at h2; exact h2⟩
theorem M.cut {T E P : TypeId} {w : World} {p g c : Nat} {r : List Value} {v : Value} {s : dk.St} (h : M T E P w p g c r v s) (n : Int) (hn : 0 ≤ n ∧ n ≤ 9223372036854775807) : M T E P (w.setCell ⟨p, 2, none⟩ (.int .i64 n)) p g c r v { s with cut := n } := by
  have hs : Same w (w.setCell ⟨p, 2, none⟩ (.int .i64 n)) (g :: v.ownBlock.toList) := fun k hk => Below.heap_setCell w _ _ k (by
    simp only [List.mem_cons, Option.mem_toList] at hk
    rcases hk with rfl | hk
    · exact fun e => h.ne1 e.symm
    · exact fun e => h.ne2 (by rw [hk, e]))
  exact ⟨(block_set h.obj _).trans rfl, (hs g (by simp)).trans h.row, h.cap, h.max, own_keep h.loose (fun k hk => hs k (by simp [hk])), ⟨h.ok.lenS, h.ok.some, h.ok.most, h.ok.lenL, h.ok.inL⟩, h.ne1, h.ne2, h.ne3, hn, h.manyR⟩
theorem M.black {T E P : TypeId} {w : World} {p g c : Nat} {r : List Value} {v : Value} {s : dk.St} (h : M T E P w p g c r v s) (n : Bool) : M T E P (w.setCell ⟨p, 3, none⟩ (.bool n)) p g c r v { s with black := n } := by
  have hs : Same w (w.setCell ⟨p, 3, none⟩ (.bool n)) (g :: v.ownBlock.toList) := fun k hk => Below.heap_setCell w _ _ k (by
    simp only [List.mem_cons, Option.mem_toList] at hk
    rcases hk with rfl | hk
    · exact fun e => h.ne1 e.symm
    · exact fun e => h.ne2 (by rw [hk, e]))
  exact ⟨(block_set h.obj _).trans rfl, (hs g (by simp)).trans h.row, h.cap, h.max, own_keep h.loose (fun k hk => hs k (by simp [hk])), ⟨h.ok.lenS, h.ok.some, h.ok.most, h.ok.lenL, h.ok.inL⟩, h.ne1, h.ne2, h.ne3, h.cutR, h.manyR⟩
theorem M.many {T E P : TypeId} {w : World} {p g c : Nat} {r : List Value} {v : Value} {s : dk.St} (h : M T E P w p g c r v s) (n : Int) (hn : 0 ≤ n ∧ n ≤ 4611686018427387904) : M T E P (w.setCell ⟨p, 4, none⟩ (.int .i64 n)) p g c r v { s with many := n } := by
  have hs : Same w (w.setCell ⟨p, 4, none⟩ (.int .i64 n)) (g :: v.ownBlock.toList) := fun k hk => Below.heap_setCell w _ _ k (by
    simp only [List.mem_cons, Option.mem_toList] at hk
    rcases hk with rfl | hk
    · exact fun e => h.ne1 e.symm
    · exact fun e => h.ne2 (by rw [hk, e]))
  exact ⟨(block_set h.obj _).trans rfl, (hs g (by simp)).trans h.row, h.cap, h.max, own_keep h.loose (fun k hk => hs k (by simp [hk])), ⟨h.ok.lenS, h.ok.some, h.ok.most, h.ok.lenL, h.ok.inL⟩, h.ne1, h.ne2, h.ne3, h.cutR, hn⟩
end dk

theorem rblocks_any (h : RM w p g c r v s) : Calls Tryz.prog 75 #[.pointer (some ⟨p, 0, none⟩)] w fun e w' => e = .returned (.int .i64 s.S.length) ∧ w = w' := by
  have c0 := h.c0
  go_enter Tryz.func75, Tryz.ntmps75
  go_wp2
  go_ret
  exact ⟨rfl, rfl⟩
theorem rdark_any (h : RM w p g c r v s) : Calls Tryz.prog 9 #[.pointer (some ⟨p, 0, none⟩)] w fun e w' => e = .returned (.bool s.black) ∧ w = w' := by
  have c3 := h.c3
  go_enter Tryz.func9, Tryz.ntmps9
  go_wp2
  go_ret
  exact ⟨rfl, rfl⟩
theorem rsteps_any (h : RM w p g c r v s) : Calls Tryz.prog 17 #[.pointer (some ⟨p, 0, none⟩)] w fun e w' => e = .returned (.int .i64 s.many) ∧ w = w' := by
  have c4 := h.c4
  go_enter Tryz.func17, Tryz.ntmps17
  go_wp2
  go_ret
  exact ⟨rfl, rfl⟩
theorem rasks_any (n : Int) (h : RM w p g c r v s) : Calls Tryz.prog 48 #[.pointer (some ⟨p, 0, none⟩), .int .i64 n] w fun e w' => e = .returned (.int .i64 (dk.asks s n)) ∧ w = w' := by
  have c0 := h.c0
  have c3 := h.c3
  have hm := h.ok.most
  cases hb : s.black with
  | true =>
    rw [hb] at c3
    go_enter Tryz.func48, Tryz.ntmps48
    go_wp2
    go_ret
    exact ⟨ret_int (by simp [dk.asks, hb]), rfl⟩
  | false =>
    rw [hb] at c3
    by_cases h0 : n < 0
    · go_enter Tryz.func48, Tryz.ntmps48
      go_wp2
      go_ret
      exact ⟨ret_int (by simp [dk.asks, hb, h0]), rfl⟩
    · by_cases h1 : (s.S.length : Int) ≤ n
      · go_enter Tryz.func48, Tryz.ntmps48
        go_wp2
        go_ret
        exact ⟨ret_int (by simp [dk.asks, hb, h1]), rfl⟩
      · go_enter Tryz.func48, Tryz.ntmps48
        go_wp2
        go_ret
        exact ⟨ret_int (by simp [dk.asks, hb, h0, h1]), rfl⟩
theorem rstep_any (h : RM w p g c r v s) (hm : s.many < 4611686018427387904) : Calls Tryz.prog 49 #[.pointer (some ⟨p, 0, none⟩)] w fun e w' => e = .returned (.int .i64 (dk.step s).1) ∧ RM w' p g c r v (dk.step s).2 ∧ Chg w w' [p] := by
  have c2 := h.c2
  have f2 := h.fz 2
  have f3 := h.fz 3
  have f4 := h.fz 4
  have c3 := h.c3
  have c4 := h.c4
  obtain ⟨h0, h1⟩ := h.cutR
  obtain ⟨m0, m1⟩ := h.manyR
  by_cases hc : s.cut = 1
  · have hr : dk.step s = (9, { s with black := true }) := if_pos hc
    have hn := h.black true
    rw [hc] at c2
    rw [hr]
    clear hr hc
    go_enter Tryz.func49, Tryz.ntmps49
    go_wp2
    go_ret
    exact ⟨rfl, hn, Chg.setCell _ _ _ _⟩
  · by_cases hc2 : 1 < s.cut
    · have hr : dk.step s = (0, { s with cut := s.cut - 1, many := s.many + 1 }) := by rw [dk.step, if_neg hc, if_pos hc2]
      have hn1 := h.cut (s.cut - 1) (by omega)
      have hn := hn1.many (s.many + 1) (by omega)
      have d4 := hn1.c4
      have e4 := hn1.fz 4
      simp only at d4
      rw [hr]
      have hb : (s.cut == 1) = false := by simpa using hc
      clear hr hc
      go_enter Tryz.func49, Tryz.ntmps49
      go_wp2
      go_ret
      exact ⟨rfl, hn, (Chg.setCell _ _ _ _).trans (Chg.setCell _ _ _ _) (Sub.refl _ _)⟩
    · have hr : dk.step s = (0, { s with many := s.many + 1 }) := by rw [dk.step, if_neg hc, if_neg hc2]
      have hn := h.many (s.many + 1) (by omega)
      rw [hr]
      have hb : (s.cut == 1) = false := by simpa using hc
      clear hr hc
      go_enter Tryz.func49, Tryz.ntmps49
      go_wp2
      go_ret
      exact ⟨rfl, hn, Chg.setCell _ _ _ _⟩
theorem rarm_any (n : Int) (hn : n ≤ 9223372036854775807) (h : RM w p g c r v s) : Calls Tryz.prog 29 #[.pointer (some ⟨p, 0, none⟩), .int .i64 n] w fun e w' => e = .returned (.int .i64 (dk.arm s n).1) ∧ RM w' p g c r v (dk.arm s n).2 ∧ Chg w w' [p] := by
  have c3 := h.c3
  have c2 := h.c2
  have f2 := h.fz 2
  cases hb : s.black with
  | true =>
    have hr : dk.arm s n = (9, s) := by simp [dk.arm, hb]
    rw [hb] at c3
    rw [hr]
    clear hr
    go_enter Tryz.func29, Tryz.ntmps29
    go_wp2
    go_ret
    exact ⟨rfl, h, Chg.refl _ _⟩
  | false =>
    rw [hb] at c3
    by_cases h0 : n < 0
    · have hr : dk.arm s n = (2, s) := by simp [dk.arm, hb, h0]
      rw [hr]
      clear hr
      go_enter Tryz.func29, Tryz.ntmps29
      go_wp2
      go_ret
      exact ⟨rfl, h, Chg.refl _ _⟩
    · have hr : dk.arm s n = (0, { s with cut := n }) := by unfold dk.arm; rw [if_neg (by simp [hb]), if_neg h0]
      have hN := h.cut n (by omega)
      rw [hr]
      clear hb
      clear hr
      go_enter Tryz.func29, Tryz.ntmps29
      go_wp2
      go_ret
      exact ⟨rfl, hN, Chg.setCell _ _ _ _⟩

set_option maxRecDepth 100000 in
theorem rsure_any (n : Int) (h : RM w p g c r v s) : Calls Tryz.prog 15 #[.pointer (some ⟨p, 0, none⟩), .int .i64 n] w fun e w' => e = .returned (.tuple #[dk.val (dk.sure s n).1, .int .i64 (dk.sure s n).2]) ∧ Below w.heap.size w w' := by
  have h' := h.alloc (.cells (dk.cells dk.zero).toArray 43)
  have d0 := h'.c0
  have hm := h.ok.most
  obtain ⟨hz, -⟩ := zero_of_info zero_blk
  have hrow := heap_alloc_new w (.cells (dk.cells dk.zero).toArray 43)
  by_cases hin : n < 0 ∨ (s.S.length : Int) ≤ n
  · have hr : dk.sure s n = (dk.zero, 2) := if_pos hin
    have HR := Lib.hid hr
    clear hr
    rcases hin with h0 | h0
    · go_enter Tryz.func15, Tryz.ntmps15
      go_wp2_with (refine wp_st0 (.tmp 4) (.tmp 17) dk.zero hrow zero_len zero_len rfl rfl rfl rfl ?_; intro W hW hc)
      refine bodyPost_ret (results_cell_tmp rfl rfl (blk_load (blk_range hW) zero_len)) rfl ⟨?_, new_chg hc⟩
      rw [HR.out]
      rfl
    · have h1 : ¬ n < 0 := by omega
      go_enter Tryz.func15, Tryz.ntmps15
      go_wp2_with (refine wp_st0 (.tmp 4) (.tmp 17) dk.zero hrow zero_len zero_len rfl rfl rfl rfl ?_; intro W hW hc)
      refine bodyPost_ret (results_cell_tmp rfl rfl (blk_load (blk_range hW) zero_len)) rfl ⟨?_, new_chg hc⟩
      rw [HR.out]
      rfl
  · obtain ⟨i, rfl⟩ : ∃ i : Nat, n = i := ⟨n.toNat, by omega⟩
    have hi : i < s.S.length := by omega
    have hb := h.ok.lenS _ (List.getElem_mem hi)
    have hr : dk.sure s i = (s.S[i], 0) := by
      rw [dk.sure, if_neg hin, Int.toNat_natCast, List.getD_eq_getElem?_getD, List.getElem?_eq_getElem hi]
      rfl
    have hrange := h'.block hi
    generalize s.S[i] = b at *
    have HR := Lib.hid hr
    have h0 : ¬ (i : Int) < 0 := by omega
    clear hr hin
    go_enter Tryz.func15, Tryz.ntmps15
    go_wp2_with (first | refine wp_ld (.tmp 23) b hrange hb rfl rfl rfl ?_ | (refine wp_st0 (.tmp 4) (.tmp 24) b hrow zero_len hb rfl rfl rfl rfl ?_; intro W hW hc))
    refine bodyPost_ret (results_cell_tmp rfl rfl (blk_load (blk_range hW) hb)) rfl ⟨?_, new_chg hc⟩
    rw [HR.out]
    rfl
set_option maxHeartbeats 4000000 in
set_option maxRecDepth 100000 in
theorem rread_any (n : Int) (h : RM w p g c r v s) : Calls Tryz.prog 97 #[.pointer (some ⟨p, 0, none⟩), .int .i64 n] w fun e w' => e = .returned (.tuple #[dk.val (dk.read s n).1, .int .i64 (dk.read s n).2]) ∧ Below w.heap.size w w' := by
  have h1 := h.alloc (.cells (dk.cells dk.zero).toArray 43)
  obtain ⟨hz, -⟩ := zero_of_info zero_blk
  have hrow := heap_alloc_new w (.cells (dk.cells dk.zero).toArray 43)
  have ha := rasks_any n h1
  obtain ⟨q, hq⟩ : ∃ q, dk.asks s n = q := ⟨_, rfl⟩
  rw [hq] at ha
  have HA := Lib.hid ha
  by_cases h0 : q = 0
  · subst h0
    obtain ⟨hbl, hn0, hn1⟩ := dk.asks_in hq
    obtain ⟨i, rfl⟩ : ∃ i : Nat, n = i := ⟨n.toNat, by omega⟩
    have hi : i < s.S.length := by omega
    have hm := h.ok.most
    have hb0 := h.ok.lenS _ (List.getElem_mem hi)
    have hread : dk.read s i = (dk.look s.S[i] i s.L, 0) := by
      rw [dk.read, if_pos hq, Int.toNat_natCast, List.getD_eq_getElem?_getD, List.getElem?_eq_getElem hi]
      rfl
    have HR := Lib.hid hread
    have hrange := h1.block hi
    generalize s.S[i] = b0 at *
    have d0 := h1.c0
    have hk := h1.there
    have HL := Lib.hid h.ok.lenL
    clear ha hq hbl hread hn0 hn1
    go_enter Tryz.func97, Tryz.ntmps97
    go_wp2_with fail
    refine HA.out.mono ?_
    rintro e w1 ⟨rfl, rfl⟩
    have hr2 := heap_alloc_new (w.alloc (.cells (dk.cells dk.zero).toArray 43)) (.cells (dk.cells dk.zero).toArray 43)
    rw [show (w.alloc (.cells (dk.cells dk.zero).toArray 43)).heap.size = w.heap.size + 1 from by simp] at hr2
    go_wp2_with (first | refine wp_ld (.tmp 21) b0 hrange hb0 rfl rfl rfl ?_ | (refine wp_st0 (.tmp 7) (.tmp 22) b0 hr2 zero_len hb0 rfl rfl rfl rfl ?_; intro W hW hc))
    have hbW : Below w.heap.size w W := (((Chg.alloc w _ [w.heap.size + 1]).trans (Chg.alloc _ _ [w.heap.size + 1]) (Sub.refl _ _)).trans hc (Sub.refl _ _)).below (Nat.le_refl _) (fun k hk => by simp at hk; omega)
    have hW0 : W.heap[w.heap.size]? = some (.cells (dk.cells dk.zero).toArray 43 (0, 0)) := by
      rw [hc.block _ (by simp; omega) (by simp), Below.heap_alloc _ _ _ (by simp)]
      exact hrow
    clear hr2 hc hrow hrange d0 hk h1
    obtain ⟨Lv, hLv⟩ : ∃ l, s.L = l := ⟨_, rfl⟩
    have hlen : ∀ j (hj : j < s.L.length), s.L[j].2.length = 128 := fun j hj => HL.out _ (List.getElem_mem hj)
    have HLn := Lib.hid hlen
    clear hLv Lv hlen
    go_loopw [8] (fun t wr => ∃ j : Nat, j ≤ s.L.length ∧ t = .int .i64 j ∧ wr.heap[w.heap.size]? = some (.cells (dk.cells dk.zero).toArray 43 (0, 0)) ∧ wr.heap[w.heap.size + 1]? = some (.cells (dk.cells (dk.look b0 i (s.L.take j))).toArray 43 (0, 0)) ∧ Below w.heap.size w wr) (fun t _ => s.L.length - (intOf t).toNat)
    case atStart => exact ⟨0, by omega, rfl, hW0, hW, hbW⟩
    case round =>
      clear hW hW0 hbW
      obtain ⟨j, hj, rfl, hW0, hW, hb⟩ := hrel
      have hM := h.below hb
      have d1 := hM.c1
      have hcl : (dk.look b0 i (s.L.take j)).length = 128 := dk.look_len _ (fun x hx => HL.out x (List.mem_of_mem_take hx)) _ _ hb0
      by_cases hlt : j < s.L.length
      · obtain ⟨k, cap, hv, hcap, hmax, dN, dB⟩ := hM.put_ hlt
        have hbl := HLn.out j hlt
        have hst : dk.look b0 i (s.L.take (j + 1)) = if s.L[j].1 = (i : Int) then s.L[j].2 else dk.look b0 i (s.L.take j) := by
          rw [List.take_succ_eq_append_getElem hlt, dk.look_snoc]
        rw [hv] at d1
        have hM2 := hM.ok.inL _ (List.getElem_mem hlt)
        generalize hx : s.L[j] = x at *
        obtain ⟨xn, xb⟩ := x
        simp only at hst dN dB hbl hM2
        have HST := Lib.hid hst
        clear hst hx hM
        obtain ⟨hx0, hx1⟩ := hM2
        by_cases he : xn = (i : Int)
        · subst he
          go_wp2_with (first | refine wp_ld (.tmp 48) xb dB hbl rfl rfl rfl ?_ | (refine wp_st0 (.tmp 7) (.tmp 49) xb hW hcl hbl rfl rfl rfl rfl ?_; intro W2 hW2 hc2))
          go_roundw
          case rel =>
            refine ⟨j + 1, by omega, by go_num, by rw [hc2.block _ (Nat.lt_of_lt_of_le (Array.getElem?_eq_some_iff.1 hW0).1 (Nat.le_refl _)) (by simp)]; exact hW0, by rw [HST.out, if_pos rfl]; exact hW2, (Chg.of_below hb [w.heap.size + 1]).trans hc2 (Sub.refl _ _) |>.below (Nat.le_refl _) (fun k hk => by simp at hk; omega)⟩
          case measure => simp [intOf]; omega
        · have hne : (xn == (i : Int)) = false := by simpa using he
          rw [if_neg he] at HST
          go_wp2
          go_roundw
          case rel => exact ⟨j + 1, by omega, by go_num, hW0, by rw [HST.out]; exact hW, hb⟩
          case measure => simp [intOf]; omega
      · obtain ⟨A, cap, hv, hcap, hmax⟩ := hM.own_len
        rw [hv] at d1
        have hj' : j = s.L.length := by omega
        rw [List.take_of_length_le (by omega)] at hW hcl
        have hrg := blk_range hW
        clear hj
        go_wp2_with (first | refine wp_ld (.tmp 7) _ hrg hcl rfl rfl rfl ?_ | (refine wp_st0 (.tmp 4) (.tmp 50) _ hW0 zero_len hcl rfl rfl rfl rfl ?_; intro W2 hW2 hc2))
        refine bodyPost_ret (results_cell_tmp rfl rfl (blk_load (blk_range hW2) hcl)) rfl ⟨?_, (Chg.of_below hb [w.heap.size]).trans hc2 (Sub.refl _ _) |>.below (Nat.le_refl _) (fun k hk => by simp at hk; omega)⟩
        rw [HR.out]
        rfl
  · have hr : dk.read s n = (dk.zero, q) := by
      rw [dk.read, hq, if_neg h0]
    have HR := Lib.hid hr
    have hqb : (q == 0) = false := by simpa using h0
    clear hr hq ha
    go_enter Tryz.func97, Tryz.ntmps97
    go_wp2_with fail
    refine HA.out.mono ?_
    rintro e w1 ⟨rfl, rfl⟩
    go_wp2_with (refine wp_st0 (.tmp 4) (.tmp 14) dk.zero hrow zero_len zero_len rfl rfl rfl rfl ?_; intro W hW hc)
    refine bodyPost_ret (results_cell_tmp rfl rfl (blk_load (blk_range hW) zero_len)) rfl ⟨?_, new_chg hc⟩
    rw [HR.out]
    rfl
end Go.Proofs.YtknndmhkfonfmaaGreatDoor

/-
  contract of cardexref04.New.
-/
namespace Go.Proofs.YtknndmhkfonfmaaGreatDoor
open Go.RowKit
variable {w : World}

theorem cells_zero : dk.cells dk.zero = List.replicate 128 (bv 0) := by
  unfold dk.cells dk.zero
  rw [List.map_replicate]
theorem made_same (m k : Nat) (x : Value) (hm : 0 < m) : madeCells (List.replicate m x).toArray k = (List.replicate k x).toArray := by
  apply Array.ext_getElem?
  intro i
  by_cases hi : i < k
  · have hlt : i % m < m := Nat.mod_lt _ hm
    simp [madeCells, hi, hlt]
  · simp [madeCells, hi]
theorem made_blocks (n : Nat) : madeCells (dk.val dk.zero).cells (n * 128) = (dk.cellsS (List.replicate n dk.zero)).toArray := by
  have e : dk.cellsS (List.replicate n dk.zero) = List.replicate (n * 128) (bv 0) := by
    unfold dk.cellsS
    rw [List.map_replicate, cells_zero, List.flatten_replicate_replicate]
  rw [e]
  have hv : (dk.val dk.zero).cells = (List.replicate 128 (bv 0)).toArray := by rw [← cells_zero]; rfl
  rw [hv]
  exact made_same 128 _ _ (by omega)
def fresh (n : Nat) : dk.St := ⟨List.replicate n dk.zero, [], 0, false, 0⟩
theorem fresh_ok {n : Nat} (h : 64 ≤ n) (h2 : n ≤ 4096) : (fresh n).Ok :=
  ⟨fun b hb => by rw [(List.mem_replicate.1 hb).2]; exact zero_len, by simpa [fresh] using h, by simpa [fresh] using h2, fun x hx => by simp [fresh] at hx, fun x hx => by simp [fresh] at hx⟩

theorem info_blk3 : (Tryz.prog.info? 43).map (fun i => (i.zero, i.size, i.bytes)) = some (some (dk.val dk.zero), 128, 128) := by kernel_rfl
theorem info_parts4 {e : TypeId} {z : Value} {sz bt : Nat} (h : (Tryz.prog.info? e).map (fun i => (i.zero, i.size, i.bytes)) = some (some z, sz, bt)) : ∃ i, Tryz.prog.info? e = some i ∧ i.zero = some z ∧ i.size = sz ∧ i.bytes = bt := by
  cases hq : Tryz.prog.info? e with
  | none => simp [hq] at h
  | some i =>
    simp only [hq, Option.map_some, Option.some.injEq, Prod.mk.injEq] at h
    exact ⟨i, rfl, h.1, h.2.1, h.2.2⟩

set_option maxRecDepth 100000 in
theorem rnew_yes (n : Nat) (h : 64 ≤ n) (h2 : n ≤ 4096) : Calls Tryz.prog 6 #[.int .i64 n] w fun e w' => ∃ p g, e = .returned (.tuple #[.pointer (some ⟨p, 0, none⟩), .int .i64 0]) ∧
    RM w' p g n [] (.slice none 0 0) (fresh n) ∧ Chg w w' [] ∧ w.heap.size ≤ p ∧ w.heap.size ≤ g := by
  obtain ⟨i0, hi0, hz0, hs0, hb0⟩ := info_parts4 info_blk3
  have hmk := fun W => run_make (P := Tryz.prog) W 58 43 i0 _ Tryz.underlying58 hi0 hz0 .i64 .i64 (n : Int) (n : Int) (by omega) (by omega) (by rw [hb0]; omega) (by omega)
  rw [hs0, Int.toNat_natCast] at hmk
  simp only [made_blocks] at hmk
  obtain ⟨C, hC⟩ : ∃ C, (dk.cellsS (List.replicate n dk.zero)).toArray = C := ⟨_, rfl⟩
  rw [hC] at hmk
  have HC := Lib.hid hC
  clear hC
  go_enter Tryz.func6, Tryz.ntmps6
  go_wp2_with fail
  go_ret2
  have e0 := heap_alloc_new w (.cells C 43)
  have e1 := heap_alloc_new (w.alloc (.cells C 43)) (.cells #[.slice (some ⟨w.heap.size, 0, none⟩) n n, .slice none 0 0, .int .i64 0, .bool false, .int .i64 0] 64)
  rw [show (w.alloc (.cells C 43)).heap.size = w.heap.size + 1 from by simp] at e1
  refine ⟨w.heap.size + 1, w.heap.size, rfl, ⟨?_, ?_, ?_, by omega, World.ownsRow_nil _ _ _ _, fresh_ok h h2, by omega, by simp [Value.ownBlock], by simp [Value.ownBlock], by simp [fresh], by simp [fresh]⟩, (Chg.alloc w _ []).trans (Chg.alloc _ _ []) (Sub.refl _ _), by omega, Nat.le_refl _⟩
  · rw [e1]
    simp [fresh]
  · rw [Below.heap_alloc _ _ _ (by simp), e0, ← HC.out]
    simp [fresh]
  · simp [fresh]
theorem rnew_no (n : Int) (h : n < 64 ∨ 4096 < n) : Calls Tryz.prog 6 #[.int .i64 n] w fun e w' => e = .returned (.tuple #[.pointer none, .int .i64 2]) ∧ w = w' := by
  have hcs : n < 64 ∨ (¬ n < 64 ∧ 4096 < n) := by omega
  rcases hcs with h0 | ⟨h0, h1⟩
  all_goals
    go_enter Tryz.func6, Tryz.ntmps6
    go_wp2_with fail
    go_ret2
    exact ⟨rfl, rfl⟩
end Go.Proofs.YtknndmhkfonfmaaGreatDoor

/-
  PURE: a journal where no cut is to come: nothing fails; a journal that is made; what is refused for room.
-/
namespace Go.Proofs.YtknndmhkfonfmaaGreatDoor
namespace jn
/-- in the light, and no cut is to come -/
structure Calm (s : St) : Prop where
  light : s.black = false
  cut : s.cut = 0
theorem step_calm {s : St} (h : Calm s) : (dk.step s).1 = 0 ∧ Calm (dk.step s).2 := by
  have e : dk.step s = (0, { s with cut := 0, many := s.many + 1 }) := by
    unfold dk.step
    rw [h.cut, if_neg (by decide), if_neg (by decide)]
  rw [e]
  exact ⟨rfl, h.light, rfl⟩
theorem write_calm {s : St} (h : Calm s) (n : Int) (b : Blk) : (dk.write s n b).1 ≠ 9 ∧ Calm (dk.write s n b).2 := by
  have hs := step_calm h
  unfold dk.write
  split
  · rw [if_pos hs.1]
    exact ⟨show (0 : Int) ≠ 9 by decide, hs.2.light, hs.2.cut⟩
  · next hq =>
    refine ⟨?_, h⟩
    unfold dk.asks at hq ⊢
    rw [if_neg (by rw [h.light]; decide)] at hq ⊢
    split
    · exact show (2 : Int) ≠ 9 by decide
    · next h2 => rw [if_neg h2] at hq; exact absurd rfl hq
theorem flush_calm {s : St} (h : Calm s) : (dk.flush s).1 ≠ 9 ∧ Calm (dk.flush s).2 := by
  have hs := step_calm h
  unfold dk.flush
  rw [if_neg (by rw [h.light]; decide), if_pos hs.1]
  exact ⟨show (0 : Int) ≠ 9 by decide, hs.2.light, hs.2.cut⟩
theorem writes_calm : ∀ (l : List Blk) {s : St} (at_ : Nat), Calm s → (writes s at_ l).1 ≠ 9 ∧ Calm (writes s at_ l).2
  | [], _, _, h => ⟨by simp [jn.writes], h⟩
  | b :: r, s, at_, h => by
    have hw := write_calm h (at_ : Int) b
    simp only [jn.writes]
    split
    · exact writes_calm r (at_ + 1) hw.2
    · exact hw
theorem layH_calm {t : St} (h : Calm t) (k : hd.H) : (layH t k).1 ≠ 9 ∧ Calm (layH t k).2 := by
  have hw := write_calm h (sl.next (rd t 0) (rd t 1)) (hd.put ((jn.newest t).1 + 1) k).1
  unfold jn.layH
  split
  · exact flush_calm hw.2
  · exact hw
theorem lay_calm {s : St} (h : Calm s) (at_ : Nat) (l : List Blk) (k : hd.H) : (lay s at_ l k).1 ≠ 9 ∧ Calm (lay s at_ l k).2 := by
  have h1 := writes_calm l at_ h
  have h2 := flush_calm h1.2
  unfold jn.lay
  split
  · split
    · exact layH_calm h2.2 k
    · exact h2
  · exact h1
/-- what there is room for is laid behind the others -/
theorem append_calm {s : St} {c N : Nat} {h : hd.H} {was : List (List UInt8)} (g : Good s c N h was) (hc : s.cut = 0) (hn : hd.num (N + 1) = true) (b : List UInt8) (hb : b.length ≤ 1048576) (hroom : h.blocks + (blocks b).length ≤ half s) :
    (append s h b).1 = 0 ∧ Good (append s h b).2 (1 - c) (N + 1) (appendH h b) (was ++ [b]) ∧ (append s h b).2.S.length = s.S.length ∧ (append s h b).2.many = s.many + (blocks b).length + 3 ∧ (append s h b).2.cut = 0 := by
  obtain ⟨e, h1 | h1⟩ := append_cases g hn b hb hroom
  · have h2 := lay_calm ⟨g.light, hc⟩ (first s h.bank + h.blocks) (blocks b) (appendH h b)
    rw [← e] at h2
    exact ⟨h1.1, h1.2.1, h1.2.2.1, h1.2.2.2, h2.2.cut⟩
  · have h2 := lay_calm ⟨g.light, hc⟩ (first s h.bank + h.blocks) (blocks b) (appendH h b)
    rw [← e] at h2
    exact absurd h1.1 h2.1
/-- what there is no room for is refused -/
theorem append_full {s : St} {c N : Nat} {h : hd.H} {was : List (List UInt8)} (g : Good s c N h was) (b : List UInt8) (hb : b.length ≤ 1048576) (hroom : half s < h.blocks + (blocks b).length) : append s h b = (10, s) := by
  unfold jn.append
  rw [if_neg (by omega), if_neg (by rw [g.light]; simp), if_pos hroom]
theorem replace_calm {s : St} {c N : Nat} {h : hd.H} {was : List (List UInt8)} (g : Good s c N h was) (hc : s.cut = 0) (hn : hd.num (N + 1) = true) (b : List UInt8) (hb : b.length ≤ 1048576) (hroom : (blocks b).length ≤ half s) :
    (replace s h b).1 = 0 ∧ Good (replace s h b).2 (1 - c) (N + 1) (replaceH h b) [b] ∧ (replace s h b).2.S.length = s.S.length ∧ (replace s h b).2.many = s.many + (blocks b).length + 3 ∧ (replace s h b).2.cut = 0 := by
  obtain ⟨e, h1 | h1⟩ := replace_cases g hn b hb hroom
  · have h2 := lay_calm ⟨g.light, hc⟩ (first s (1 - h.bank)) (blocks b) (replaceH h b)
    rw [← e] at h2
    exact ⟨h1.1, h1.2.1, h1.2.2.1, h1.2.2.2, h2.2.cut⟩
  · have h2 := lay_calm ⟨g.light, hc⟩ (first s (1 - h.bank)) (blocks b) (replaceH h b)
    rw [← e] at h2
    exact absurd h1.1 h2.1
theorem replace_full {s : St} {c N : Nat} {h : hd.H} {was : List (List UInt8)} (g : Good s c N h was) (b : List UInt8) (hb : b.length ≤ 1048576) (hroom : half s < (blocks b).length) : replace s h b = (10, s) := by
  unfold jn.replace
  rw [if_neg (by omega), if_neg (by rw [g.light]; simp), if_pos hroom]
theorem newest_zero : hd.newest dk.zero dk.zero = (0, hd.zero, 7) := hd.newest_none (by decide +kernel) (by decide +kernel)
theorem next_zero : sl.next dk.zero dk.zero = 0 := by decide +kernel
/-- a journal that is made -/
theorem make_good {s : St} (ok : s.Ok) (hL : s.L = []) (hq : Calm s) :
    (make s).1 = 0 ∧ Good (make s).2 0 1 hd.zero [] ∧ (make s).2.S.length = s.S.length ∧ (make s).2.many = s.many + 5 ∧ (make s).2.cut = 0 := by
  have h64 := ok.some
  have he : make s = lay s 0 [dk.zero, dk.zero] hd.zero := by
    unfold jn.make
    rw [if_neg (by rw [hq.light]; simp)]
  have hzz : ∀ b ∈ [dk.zero, dk.zero], b.length = 128 := fun b hb => by
    simp at hb
    rw [hb]
    exact List.length_replicate
  have hok : (make s).2.Ok := by rw [he]; exact Ok.lay ok 0 hzz hd.zero
  have hcalm := lay_calm hq 0 [dk.zero, dk.zero] hd.zero
  rw [← he] at hcalm
  have hwc := writes_calm [dk.zero, dk.zero] 0 hq
  have hw : (writes s 0 [dk.zero, dk.zero]).1 = 0 ∧ (writes s 0 [dk.zero, dk.zero]).2.black = false ∧ (writes s 0 [dk.zero, dk.zero]).2.S = s.S ∧ (writes s 0 [dk.zero, dk.zero]).2.L = [(0, dk.zero), (1, dk.zero)] ∧ (writes s 0 [dk.zero, dk.zero]).2.many = s.many + 2 := by
    rcases writes_cases [dk.zero, dk.zero] s 0 hq.light (by simp; omega) hzz with ⟨w1, w2, w3, w4, w5⟩ | ⟨w1, _⟩
    · exact ⟨w1, w2, w3, by rw [w4, hL]; rfl, by rw [w5]; rfl⟩
    · exact absurd w1 hwc.1
  have hfc := flush_calm hwc.2
  have hf : (dk.flush (writes s 0 [dk.zero, dk.zero]).2).1 = 0 ∧ (dk.flush (writes s 0 [dk.zero, dk.zero]).2).2.S = (s.S.set 0 dk.zero).set 1 dk.zero ∧ (dk.flush (writes s 0 [dk.zero, dk.zero]).2).2.L = [] ∧ (dk.flush (writes s 0 [dk.zero, dk.zero]).2).2.many = s.many + 3 := by
    rcases flush_cases hw.2.1 with ⟨f1, f2, f3, f4, f5⟩ | ⟨f1, _⟩
    · exact ⟨f1, by rw [f3, hw.2.2.1, hw.2.2.2.1]; rfl, f4, by rw [f5, hw.2.2.2.2]; omega⟩
    · exact absurd f1 hfc.1
  have hl : make s = layH (dk.flush (writes s 0 [dk.zero, dk.zero]).2).2 hd.zero := by
    rw [he]
    unfold jn.lay
    rw [if_pos hw.1, if_pos hf.1]
  obtain ⟨-, f3, f4, f5⟩ := hf
  have hcf := hfc.2
  rw [hl] at hok hcalm ⊢
  generalize (dk.flush (writes s 0 [dk.zero, dk.zero]).2).2 = t at *
  have ht64 : t.S.length = s.S.length := by rw [f3]; simp
  have g0 : t.S.getD 0 dk.zero = dk.zero := by
    rw [f3, getD_set_ne (by decide), getD_set_eq (by omega)]
  have g1 : t.S.getD 1 dk.zero = dk.zero := by
    rw [f3, getD_set_eq (by simp; omega)]
  have e0 : rd t 0 = dk.zero := (rd_sure hcf.light f4 (k := 0) (by omega)).trans g0
  have e1 : rd t 1 = dk.zero := (rd_sure hcf.light f4 (k := 1) (by omega)).trans g1
  have en : jn.newest t = (0, hd.zero, 7) := by rw [jn.newest, e0, e1]; exact newest_zero
  have ep : hd.put ((jn.newest t).1 + 1) hd.zero = (sl.sealB 1 (hd.bodyOf hd.zero), 0) := by rw [en]; exact hd.put_yes (n := 1) (by decide) (by decide)
  have ex : sl.next (rd t 0) (rd t 1) = ((0 : Nat) : Int) := by rw [e0, e1]; exact next_zero
  unfold jn.layH at hok hcalm ⊢
  rw [ep, ex] at hok hcalm ⊢
  simp only at hok hcalm ⊢
  have hwc2 := write_calm hcf ((0 : Nat) : Int) (sl.sealB 1 (hd.bodyOf hd.zero))
  rcases write_cases hcf.light (n := 0) (by omega) (sl.sealB 1 (hd.bodyOf hd.zero)) with ⟨w1, w2, w3, w4, w5⟩ | ⟨w1, _⟩
  · rw [if_pos w1] at hok hcalm ⊢
    rw [f4, List.nil_append] at w4
    have hfc2 := flush_calm hwc2.2
    rcases flush_cases w2 with ⟨a1, a2, a3, a4, a5⟩ | ⟨a1, _⟩
    · have hS : (dk.flush (dk.write t ((0 : Nat) : Int) (sl.sealB 1 (hd.bodyOf hd.zero))).2).2.S = t.S.set 0 (sl.sealB 1 (hd.bodyOf hd.zero)) := by rw [a3, w3, w4]; rfl
      refine ⟨a1, ⟨hok, a2, a4, ?_, Nat.zero_le _, rfl⟩, by rw [hS, List.length_set, ht64], by rw [a5, w5, f5]; omega, hcalm.2.cut⟩
      have h2 : (dk.flush (dk.write t ((0 : Nat) : Int) (sl.sealB 1 (hd.bodyOf hd.zero))).2).2.S.getD 1 dk.zero = dk.zero := by rw [hS, getD_set_ne (by decide), g1]
      have h0 : (dk.flush (dk.write t ((0 : Nat) : Int) (sl.sealB 1 (hd.bodyOf hd.zero))).2).2.S.getD 0 dk.zero = sl.sealB 1 (hd.bodyOf hd.zero) := by rw [hS, getD_set_eq (by omega)]
      exact ⟨by omega, by decide, by decide, h0, by show sl.Away (List.getD _ 1 dk.zero) _; rw [h2]; exact sl.away_zero (by omega), by show sl.worth (List.getD _ 1 dk.zero) < 1; rw [h2]; decide +kernel⟩
    · exact absurd a1 hfc2.1
  · exact absurd w1 hwc2.1
end jn
end Go.Proofs.YtknndmhkfonfmaaGreatDoor

/-
  PURE: a journal goes by its newest head, whatever the other block is (spoilt disks): what is laid is the newest; Make, Append, Replace, Open. No program is named here.
-/
namespace Go.Proofs.YtknndmhkfonfmaaGreatDoor
namespace jn
theorem newest_ge (x y : Blk) : (hd.get x).1 ≤ (hd.newest x y).1 ∧ (hd.get y).1 ≤ (hd.newest x y).1 := by
  unfold hd.newest
  split
  · rename_i h
    rw [(hd.get_err h.1).1, (hd.get_err h.2).1]
    exact ⟨Nat.le_refl _, Nat.le_refl _⟩
  · split
    · exact ⟨by show _ ≤ (hd.get y).1; omega, Nat.le_refl _⟩
    · exact ⟨Nat.le_refl _, by show _ ≤ (hd.get x).1; omega⟩
theorem newest_put {x y : Blk} {M : Nat} {h : hd.H} (hM : (hd.newest x y).1 < M) (hn : hd.num M = true) (hm : hd.may h = true) :
    hd.newest (hd.put M h).1 y = (M, h, 0) ∧ hd.newest x (hd.put M h).1 = (M, h, 0) := by
  have hg := hd.get_put (hd.may_Ok hm) hn hm
  have hx := newest_ge x y
  constructor
  · unfold hd.newest
    simp only [hg]
    rw [if_neg (by simp), if_neg (by omega)]
  · unfold hd.newest
    simp only [hg]
    rw [if_neg (by simp), if_pos (by omega)]
theorem next_two (x y : Blk) : sl.next x y = ((0 : Nat) : Int) ∨ sl.next x y = ((1 : Nat) : Int) := by
  unfold sl.next
  repeat (first | split | exact .inl rfl | exact .inr rfl)
/-- A JOURNAL IN THE LIGHT, ALL OF IT SURE, BY ITS NEWEST HEAD -/
structure Fit (s : St) (N : Nat) (h : hd.H) : Prop where
  ok : s.Ok
  light : s.black = false
  sure : s.L = []
  new : newest s = (N, h, 0)
  fits : h.blocks ≤ half s
theorem Good.fit {s : St} {c N : Nat} {h : hd.H} {was : List (List UInt8)} (g : Good s c N h was) : Fit s N h := ⟨g.ok, g.light, g.sure, g.newest, g.fits⟩
theorem Fit.may {s : St} {N : Nat} {h : hd.H} (f : Fit s N h) : hd.may h = true := by
  have hg : ∀ x : Blk, hd.may (hd.get x).2.1 = true := fun x => by
    by_cases h : (hd.get x).2.2 = 0
    · exact (hd.get_num h).2.2
    · rw [(hd.get_err h).2]; rfl
  have hall : hd.may (newest s).2.1 = true := by
    unfold jn.newest hd.newest
    split
    · rfl
    · split
      · exact hg _
      · exact hg _
  rw [f.new] at hall
  exact hall
/-- what came of a call: the disk is as large, of not many more steps -/
structure Near (s s' : St) : Prop where
  ok : s'.Ok
  len : s'.S.length = s.S.length
  many : s'.many ≤ s.many + 4200
theorem layH_new {t : St} (ok : t.Ok) (hb : t.black = false) (hL : t.L = []) {N : Nat} (hN : (newest t).1 = N) {h' : hd.H} (hn : hd.num (N + 1) = true) (hm : hd.may h' = true) :
    ((layH t h').1 = 0 ∧ (layH t h').2.black = false ∧ (layH t h').2.L = [] ∧ newest (layH t h').2 = (N + 1, h', 0) ∧ (layH t h').2.S.length = t.S.length ∧ (layH t h').2.many = t.many + 2) ∨
    ((layH t h').1 = 9 ∧ (layH t h').2.black = true ∧ (layH t h').2.S.length = t.S.length ∧ (layH t h').2.many ≤ t.many + 2) := by
  have h64 := ok.some
  have e0 : rd t 0 = t.S.getD 0 dk.zero := rd_sure hb hL (k := 0) (by omega)
  have e1 : rd t 1 = t.S.getD 1 dk.zero := rd_sure hb hL (k := 1) (by omega)
  have hx := next_two (rd t 0) (rd t 1)
  have hset : ∀ k, (k = 0 ∨ k = 1) → ∀ u : St, u.S = t.S.set k (hd.put (N + 1) h').1 → u.black = false → u.L = [] → newest u = (N + 1, h', 0) := fun k hk u hu hub huL => by
    have hl : u.S.length = t.S.length := by rw [hu, List.length_set]
    have u0 : rd u 0 = u.S.getD 0 dk.zero := rd_sure hub huL (k := 0) (by omega)
    have u1 : rd u 1 = u.S.getD 1 dk.zero := rd_sure hub huL (k := 1) (by omega)
    have hp := newest_put (x := rd t 0) (y := rd t 1) (M := N + 1) (h := h') (by rw [← hN]; exact Nat.lt_succ_self _) hn hm
    rw [e0, e1] at hp
    unfold jn.newest
    rw [u0, u1, hu]
    rcases hk with rfl | rfl
    · rw [getD_set_eq (by omega), getD_set_ne (by decide)]
      exact hp.1
    · rw [getD_set_ne (by decide), getD_set_eq (by omega)]
      exact hp.2
  unfold jn.layH
  rw [hN]
  generalize (hd.put (N + 1) h').1 = Y at *
  obtain ⟨k, hk, hkx⟩ : ∃ k : Nat, (k = 0 ∨ k = 1) ∧ sl.next (rd t 0) (rd t 1) = (k : Int) := by
    rcases hx with e | e
    · exact ⟨0, .inl rfl, e⟩
    · exact ⟨1, .inr rfl, e⟩
  rw [hkx]
  rcases write_cases hb (n := k) (by omega) Y with ⟨w1, w2, w3, w4, w5⟩ | ⟨w1, w2, w3, w4, w5⟩
  · rw [if_pos w1]
    rw [hL, List.nil_append] at w4
    rcases flush_cases w2 with ⟨f1, f2, f3, f4, f5⟩ | ⟨f1, f2, f3, f4, f5⟩
    · have hS : (dk.flush (dk.write t (k : Int) Y).2).2.S = t.S.set k Y := by
        rw [f3, w3, w4]
        simp only [dk.lay, Int.toNat_natCast]
      exact .inl ⟨f1, f2, f4, hset k hk _ hS f2 f4, by rw [hS, List.length_set], by omega⟩
    · exact .inr ⟨f1, f2, by rw [f3, w3], by rw [f5, w5]; omega⟩
  · rw [if_neg (by rw [w1]; decide)]
    exact .inr ⟨w1, w2, by rw [w3], by omega⟩
theorem lay_new {s : St} (ok : s.Ok) (hb : s.black = false) (hL : s.L = []) {at_ : Nat} {l : List Blk} (hl : ∀ b ∈ l, b.length = 128) (hat : at_ + l.length ≤ s.S.length) {N : Nat}
    (hN : (hd.newest ((dk.lay s.S (zipAt at_ l)).getD 0 dk.zero) ((dk.lay s.S (zipAt at_ l)).getD 1 dk.zero)).1 = N) {h' : hd.H} (hn : hd.num (N + 1) = true) (hm : hd.may h' = true) (hfit : h'.blocks ≤ half s) :
    (lay s at_ l h').2.Ok ∧ (lay s at_ l h').2.S.length = s.S.length ∧ (lay s at_ l h').2.many ≤ s.many + l.length + 3 ∧
    (((lay s at_ l h').1 = 0 ∧ Fit (lay s at_ l h').2 (N + 1) h') ∨ ((lay s at_ l h').1 = 9 ∧ (lay s at_ l h').2.black = true)) := by
  have hok := Ok.lay ok at_ hl h'
  have hokw := Ok.writes l at_ ok hl
  have h64 := ok.some
  refine ⟨hok, ?_⟩
  unfold jn.lay at hok ⊢
  rcases writes_cases l s at_ hb hat hl with ⟨w1, w2, w3, w4, w5⟩ | ⟨w1, w2, w3, ⟨M, w4, w5, _⟩, w6⟩
  · rw [if_pos w1] at hok ⊢
    rw [hL, List.nil_append] at w4
    rcases flush_cases w2 with ⟨f1, f2, f3, f4, f5⟩ | ⟨f1, f2, f3, f4, f5⟩
    · rw [if_pos f1] at hok ⊢
      have hokf := dk.Ok.flush hokw
      rw [w3, w4] at f3
      have hlen : (dk.flush (writes s at_ l).2).2.S.length = s.S.length := by rw [f3]; exact (agree_lay _ _ (zipAt_in l at_ hl)).len
      rw [w5] at f5
      generalize (dk.flush (writes s at_ l).2).2 = t at *
      have e0 : rd t 0 = t.S.getD 0 dk.zero := rd_sure f2 f4 (k := 0) (by omega)
      have e1 : rd t 1 = t.S.getD 1 dk.zero := rd_sure f2 f4 (k := 1) (by omega)
      have hNt : (newest t).1 = N := by
        unfold jn.newest
        rw [e0, e1, f3]
        exact hN
      rcases layH_new hokf f2 f4 hNt hn hm with ⟨a1, a2, a3, a4, a5, a6⟩ | ⟨a1, a2, a3, a4⟩
      · refine ⟨by omega, by omega, .inl ⟨a1, hok, a2, a3, a4, ?_⟩⟩
        unfold half
        rw [a5, hlen]
        exact hfit
      · exact ⟨by omega, by omega, .inr ⟨a1, a2⟩⟩
    · rw [if_neg (by rw [f1]; decide)] at hok ⊢
      exact ⟨by rw [f3, w3], by rw [f5, w5]; omega, .inr ⟨f1, f2⟩⟩
  · rw [if_neg (by rw [w1]; decide)] at hok ⊢
    exact ⟨by rw [w3], by omega, .inr ⟨w1, w2⟩⟩
/-- what is laid behind the heads leaves them -/
theorem Fit.behind {s : St} {N : Nat} {h : hd.H} (f : Fit s N h) {at_ : Nat} {l : List Blk} (hl : ∀ b ∈ l, b.length = 128) (h2 : 2 ≤ at_) :
    (hd.newest ((dk.lay s.S (zipAt at_ l)).getD 0 dk.zero) ((dk.lay s.S (zipAt at_ l)).getD 1 dk.zero)).1 = N := by
  have ha := agree_lay _ s.S (zipAt_in l at_ hl)
  rw [ha.get 0 (.inl (by omega)), ha.get 1 (.inl (by omega))]
  have h64 := f.ok.some
  have e0 : rd s 0 = s.S.getD 0 dk.zero := rd_sure f.light f.sure (k := 0) (by omega)
  have e1 : rd s 1 = s.S.getD 1 dk.zero := rd_sure f.light f.sure (k := 1) (by omega)
  have hn := f.new
  unfold jn.newest at hn
  rw [e0, e1] at hn
  rw [hn]
theorem first_most {s : St} (h : s.Ok) {bank : UInt8} (hb : bank.toNat ≤ 1) : 2 ≤ first s bank ∧ first s bank + half s ≤ s.S.length := ⟨first_ge s bank, first_le h hb⟩
/-- WHAT APPEND COMES TO -/
theorem append_fit {s : St} {N : Nat} {h : hd.H} (f : Fit s N h) (hn : hd.num (N + 1) = true) (b : List UInt8) :
    Near s (append s h b).2 ∧ (((append s h b).2 = s ∧ ((append s h b).1 = 3 ∨ (append s h b).1 = 10)) ∨ ((append s h b).1 = 0 ∧ Fit (append s h b).2 (N + 1) (appendH h b)) ∨ ((append s h b).1 = 9 ∧ (append s h b).2.black = true)) := by
  have hhalf := half_le f.ok
  have hm := hd.may_ok f.may
  have hp := count_pos b.length
  rw [← blocks_length] at hp
  unfold jn.append
  split
  · exact ⟨⟨f.ok, rfl, show s.many ≤ s.many + 4200 by omega⟩, .inl ⟨rfl, .inl rfl⟩⟩
  · rw [if_neg (by rw [f.light]; simp)]
    split
    · exact ⟨⟨f.ok, rfl, show s.many ≤ s.many + 4200 by omega⟩, .inl ⟨rfl, .inr rfl⟩⟩
    · rename_i hroom
      obtain ⟨g1, g2⟩ := first_most f.ok hm.1
      have hr := lay_new f.ok f.light f.sure (at_ := first s h.bank + h.blocks) (l := blocks b) (blocks_len b) (by omega) (f.behind (blocks_len b) (by omega)) hn
        (may_of (h := appendH h b) hm.1 (show h.blocks + (blocks b).length ≤ 4096 by omega) (show h.batches + 1 ≤ h.blocks + (blocks b).length by omega)) (show h.blocks + (blocks b).length ≤ half s by omega)
      obtain ⟨r1, r2, r3, r4⟩ := hr
      refine ⟨⟨r1, r2, by omega⟩, .inr ?_⟩
      exact r4
/-- WHAT REPLACE COMES TO -/
theorem replace_fit {s : St} {N : Nat} {h : hd.H} (f : Fit s N h) (hn : hd.num (N + 1) = true) (b : List UInt8) :
    Near s (replace s h b).2 ∧ (((replace s h b).2 = s ∧ ((replace s h b).1 = 3 ∨ (replace s h b).1 = 10)) ∨ ((replace s h b).1 = 0 ∧ Fit (replace s h b).2 (N + 1) (replaceH h b)) ∨ ((replace s h b).1 = 9 ∧ (replace s h b).2.black = true)) := by
  have hhalf := half_le f.ok
  have hm := hd.may_ok f.may
  have hp := count_pos b.length
  rw [← blocks_length] at hp
  have hbk : (1 - h.bank).toNat ≤ 1 := by rcases bank_cases hm.1 with e | e <;> rw [e] <;> decide
  unfold jn.replace
  split
  · exact ⟨⟨f.ok, rfl, show s.many ≤ s.many + 4200 by omega⟩, .inl ⟨rfl, .inl rfl⟩⟩
  · rw [if_neg (by rw [f.light]; simp)]
    split
    · exact ⟨⟨f.ok, rfl, show s.many ≤ s.many + 4200 by omega⟩, .inl ⟨rfl, .inr rfl⟩⟩
    · rename_i hroom
      obtain ⟨g1, g2⟩ := first_most f.ok hbk
      have hr := lay_new f.ok f.light f.sure (at_ := first s (1 - h.bank)) (l := blocks b) (blocks_len b) (by omega) (f.behind (blocks_len b) (by omega)) hn
        (may_of (h := replaceH h b) hbk (show (blocks b).length ≤ 4096 by omega) (show 1 ≤ (blocks b).length by omega)) (show (blocks b).length ≤ half s by omega)
      obtain ⟨r1, r2, r3, r4⟩ := hr
      exact ⟨⟨r1, r2, by omega⟩, .inr r4⟩
/-- WHAT MAKE COMES TO -/
theorem make_fit {s : St} (ok : s.Ok) (hL : s.L = []) (hb : s.black = false) :
    Near s (make s).2 ∧ (((make s).1 = 0 ∧ Fit (make s).2 1 hd.zero) ∨ ((make s).1 = 9 ∧ (make s).2.black = true)) := by
  have h64 := ok.some
  have hzz : ∀ b ∈ [dk.zero, dk.zero], b.length = 128 := fun b hb => by
    simp at hb
    rw [hb]
    exact List.length_replicate
  have he : make s = lay s 0 [dk.zero, dk.zero] hd.zero := by
    unfold jn.make
    rw [if_neg (by rw [hb]; simp)]
  rw [he]
  obtain ⟨r1, r2, r3, r4⟩ := lay_new ok hb hL (at_ := 0) (l := [dk.zero, dk.zero]) hzz (by simp; omega) (N := 0) (by
    have g0 : (dk.lay s.S (zipAt 0 [dk.zero, dk.zero])).getD 0 dk.zero = dk.zero := lay_zip [dk.zero, dk.zero] 0 s.S (by simp; omega) 0 (by simp)
    have g1 : (dk.lay s.S (zipAt 0 [dk.zero, dk.zero])).getD 1 dk.zero = dk.zero := lay_zip [dk.zero, dk.zero] 0 s.S (by simp; omega) 1 (by simp)
    rw [g0, g1, newest_zero]) (h' := hd.zero) (by decide) (by decide) (Nat.zero_le _)
  exact ⟨⟨r1, r2, by simp at r3; omega⟩, r4⟩
/-- what is opened goes by its newest head -/
theorem opens_fit {s : St} (ok : s.Ok) (hL : s.L = []) (h : opens s = 0) : ∃ N k, Fit s N k ∧ N ≤ 2305843009213693952 := by
  unfold jn.opens at h
  split at h
  · cases h
  · rename_i hb
    split at h
    · cases h
    · rename_i hc
      split at h
      · rename_i hbt
        have hfits : (newest s).2.1.blocks ≤ half s := by
          unfold jn.batches at hbt
          split at hbt
          · cases hbt
          · omega
        have he : (newest s).2.2 = 0 ∧ (newest s).1 ≤ 2305843009213693952 := by omega
        exact ⟨(newest s).1, (newest s).2.1, ⟨ok, by simpa using hb, hL, by rw [← he.1], hfits⟩, he.2⟩
      · cases h
theorem opens_light {s : St} (h : opens s = 0) : s.black = false := by
  unfold jn.opens at h
  split at h
  · cases h
  · rename_i hb
    simpa using hb
theorem write_few (s : St) (n : Int) (b : Blk) : (dk.write s n b).2.many ≤ s.many + 1 ∧ (dk.write s n b).2.L.length ≤ s.L.length + 1 := by
  have hs : (dk.step s).2.many ≤ s.many + 1 ∧ (dk.step s).2.L = s.L := by
    unfold dk.step
    split
    · exact ⟨by show s.many ≤ _; omega, rfl⟩
    · exact ⟨Int.le_refl _, rfl⟩
  unfold dk.write
  split
  · split
    · exact ⟨hs.1, by simp⟩
    · exact ⟨hs.1, by show (dk.step s).2.L.length ≤ _; rw [hs.2]; omega⟩
  · exact ⟨by show s.many ≤ _; omega, by show s.L.length ≤ _; omega⟩
theorem flush_few (s : St) : (dk.flush s).2.many ≤ s.many + 1 ∧ (dk.flush s).2.L.length ≤ s.L.length := by
  have hs : (dk.step s).2.many ≤ s.many + 1 ∧ (dk.step s).2.L = s.L := by
    unfold dk.step
    split
    · exact ⟨by show s.many ≤ _; omega, rfl⟩
    · exact ⟨Int.le_refl _, rfl⟩
  unfold dk.flush
  split
  · exact ⟨by show s.many ≤ _; omega, Nat.le_refl _⟩
  · split
    · exact ⟨hs.1, by simp⟩
    · exact ⟨hs.1, by show (dk.step s).2.L.length ≤ _; rw [hs.2]; omega⟩
theorem writes_snoc : ∀ (l : List Blk) (s : St) (at_ : Nat) (b : Blk), (writes s at_ l).1 = 0 → writes s at_ (l ++ [b]) = dk.write (writes s at_ l).2 ((at_ + l.length : Nat) : Int) b
  | [], s, at_, b, _ => by
    simp only [List.nil_append, jn.writes, List.length_nil, Nat.add_zero]
    split
    · rename_i h
      rw [← h]
    · rfl
  | x :: r, s, at_, b, h => by
    simp only [List.cons_append, jn.writes] at h ⊢
    split
    · rename_i h0
      rw [if_pos h0] at h
      rw [writes_snoc r _ _ b h, show at_ + 1 + r.length = at_ + (x :: r).length from by simp only [List.length_cons]; omega]
    · rename_i h0
      rw [if_neg h0] at h
      exact absurd h h0
theorem writes_stop : ∀ (l : List Blk) (r : List Blk) (s : St) (at_ : Nat), ¬ (writes s at_ l).1 = 0 → writes s at_ (l ++ r) = writes s at_ l
  | [], r, s, at_, h => absurd rfl h
  | x :: l, r, s, at_, h => by
    simp only [List.cons_append, jn.writes] at h ⊢
    split
    · rename_i h0
      rw [if_pos h0] at h
      exact writes_stop l r _ _ h
    · rfl
theorem writes_few : ∀ (l : List Blk) (s : St) (at_ : Nat), (writes s at_ l).2.many ≤ s.many + l.length ∧ (writes s at_ l).2.L.length ≤ s.L.length + l.length
  | [], s, _ => by simp [jn.writes]
  | x :: r, s, at_ => by
    have h1 := write_few s at_ x
    simp only [jn.writes, List.length_cons]
    split
    · have h2 := writes_few r (dk.write s at_ x).2 (at_ + 1)
      omega
    · omega
end jn
end Go.Proofs.YtknndmhkfonfmaaGreatDoor

/-
  THE PROGRAM's seal: contracts of part, sum, numberIn, layNumber.
-/
namespace Go.Proofs.YtknndmhkfonfmaaGreatDoor
open Go.RowKit

theorem bs_mid_row {e : TypeId} {w : World} {g : Nat} {bl : List UInt8} (h : RowB e w g bl) {at_ k : Nat} (hk : at_ + k ≤ bl.length) (hs : k ≤ 281474976710656) : BS w (some ⟨g, at_, none⟩) k k ((bl.drop at_).take k) :=
  ⟨by rw [List.length_take, List.length_drop]; omega, Nat.le_refl _, by omega, hs, fun _ => ⟨g, at_, rfl, h.lt, fun i hi => by
    rw [List.length_take, List.length_drop] at hi
    rw [h.cell (i := at_ + i) (by omega), List.getElem_take, List.getElem_drop]⟩⟩
theorem chg_setRow (w : World) (g : Nat) (cs : Array Value) : Chg w (w.setRow g cs) [g] :=
  ⟨rfl, rfl, rfl, by simp [World.setRow], fun k _ hn => setRow_other w g k cs (fun e => hn (by rw [List.mem_singleton]; exact e))⟩
theorem splice_map (bl l : List UInt8) (off : Nat) : splice (bl.map bv) off (l.map bv) = (splice bl off l).map bv := by
  simp [splice]
/-- BYTES ARE COPIED INTO A BLOCK OF BYTES: as many as there is room for -/
theorem wpList_copy_bytes {P : Program} {w : World} {ops : Array Oper} {rest : List Oper} {o : Oper} {a : Act} {Q : Exit → Act → World → Prop} (hgd : o.guard = none) (d s : Operand) (dT sT : TypeId)
    (ho : o.op = .call { callee := .builtin .copy, args := #[d, s], argTypes := #[dT, sT] }) (elem : TypeId) (hu : P.underlying dT = some (.slice elem)) (hsz : (P.info? elem).map (·.size) = some 1)
    {E : TypeId} {g off dLen dCap sLen sCap : Nat} {sp : Option Addr} {bl l : List UInt8} (hr : RowB E w g bl) (hd : a.eval d = .slice (some ⟨g, off, none⟩) dLen dCap) (hs : a.eval s = .slice sp sLen sCap) (hb : BS w sp sLen sCap l)
    (hfit : off + dLen ≤ bl.length)
    (h : ∀ w', RowB E w' g (splice bl off (l.take dLen)) → Chg w w' [g] → wpList P ops Q rest (a.put o.dst (goInt (l.take dLen).length)) w') :
    wpList P ops Q (o :: rest) a w := by
  have hl := hb.len
  have hm : (l.take dLen).length = Nat.min sLen dLen := by rw [List.length_take, hl]; exact Nat.min_comm _ _
  have hle : Nat.min sLen dLen ≤ dLen := Nat.min_le_right _ _
  by_cases h0 : Nat.min sLen dLen = 0
  · have hn : l.take dLen = [] := List.eq_nil_of_length_eq_zero (hm.trans h0)
    refine wpList_copy_nothing hgd d s dT sT ho elem hu hsz _ sp dLen dCap sLen sCap hd hs h0 ?_
    have := h w (by rw [hn]; simpa [splice] using hr) (Chg.refl _ _)
    rwa [hn] at this
  · have hpos : 0 < sLen := by
      rcases Nat.eq_zero_or_pos sLen with h1 | h1
      · exact absurd (by rw [h1]; exact Nat.zero_min _) h0
      · exact h1
    obtain ⟨b, o2, rfl, _, hc⟩ := hb.has hpos
    have hlen : ((l.take dLen).map bv).length = (l.take dLen).length := List.length_map ..
    refine wpList_copy_own hgd d s dT sT ho elem hu hsz g off dLen dCap ⟨b, o2, none⟩ sLen sCap hd hs _ _ hr ((l.take dLen).map bv) (by rw [hlen, hm]) ?_ ?_ (bvs_one _) ?_
    · intro j v hv
      rw [List.getElem?_map] at hv
      obtain ⟨y, hy, rfl⟩ := Option.map_eq_some_iff.1 hv
      have hj : j < l.length := by
        have := (List.getElem?_eq_some_iff.1 hy).1
        rw [List.length_take] at this
        omega
      have hy2 : l[j]? = some y := by
        rw [List.getElem?_take] at hy
        split at hy
        · exact hy
        · cases hy
      obtain ⟨_, rfl⟩ := List.getElem?_eq_some_iff.1 hy2
      rw [Addr.add_lit]
      exact hc j hj
    · rw [hlen, hm, List.size_toArray, List.length_map]
      omega
    · have h1 := setRow_heap w g _ ((((bl.map bv).toArray.toList.take off ++ ((l.take dLen).map bv ++ (bl.map bv).toArray.toList.drop (off + ((l.take dLen).map bv).length)))).toArray) E _ hr
      rw [hlen]
      refine h _ ?_ (chg_setRow _ _ _)
      rw [hlen] at h1
      refine h1.trans ?_
      simp only [splice, List.map_append, List.map_take, List.map_drop]

theorem blk_array : Tryz.prog.underlying 43 = some (.array (Tryz.prog.arrayLen 43) (Tryz.prog.elem 43)) := by kernel_rfl
theorem blk_len : Tryz.prog.arrayLen 43 = 128 := by kernel_rfl
theorem blk_elem : Tryz.prog.elem 43 = 5 := by kernel_rfl
theorem run_cut_blk (W : World) (g at_ k : Nat) (hk : 0 < k) (hat : at_ + k ≤ 128) :
    (Instr.sliceAt 43 (.pointer (some ⟨g, 0, none⟩)) (some (.int .i64 at_)) (some (.int .i64 ((at_ : Int) + (k : Int)))) (some (.int .i64 ((at_ : Int) + (k : Int))))).run Tryz.prog W = .ok (.slice (some ⟨g, at_, none⟩) k k) W := by
  obtain ⟨i0, hi, hz0, hz1, hz2⟩ := info_parts info_u8
  rw [run_sliceAt_array_lhm W 43 _ blk_array .i64 .i64 .i64 at_ (at_ + k) (at_ + k) (by omega) (by omega) (Int.le_refl _) (by rw [blk_len]; omega), blk_elem]
  have e1 : ((at_ : Int) + (k : Int)).toNat = at_ + k := by omega
  have e2 : (at_ : Int).toNat = at_ := by omega
  have e3 : at_ + k ≠ at_ := by omega
  simp only [sizeOf, typeInfo, Sem.run_bind, slicedAt, e1, e2, if_neg e3, Addr.add_lit, Nat.zero_add, Nat.add_sub_cancel_left]
  simp [hi, hz1, Result.andThen]

/-- part: the block's own bytes -/
theorem part_any (g at_ k : Nat) (w : World) (hk : 0 < k) (hat : at_ + k ≤ 128) :
    Calls Tryz.prog 116 #[.pointer (some ⟨g, 0, none⟩), .int .i64 at_, .int .i64 k] w fun e w' => e = .returned (.slice (some ⟨g, at_, none⟩) k k) ∧ w = w' := by
  have hc := run_cut_blk w g at_ k hk hat
  have h1 : ¬ at_ + k = at_ := by omega
  go_enter Tryz.func116, Tryz.ntmps116
  go_wp2
  go_ret
  exact ⟨rfl, rfl⟩

/-- numberIn: the number that stands at a place -/
theorem numberIn_any (E : TypeId) (g at_ k : Nat) (b : dk.Blk) (hb : b.length = 128) (w : World) (hr : RowB E w g b) (hz : isSz k = true) (hat : at_ + k ≤ 128) :
    Calls Tryz.prog 119 #[.pointer (some ⟨g, 0, none⟩), .int .i64 at_, .int .i64 k] w fun e w' => e = .returned (.int .u64 (leVal ((b.drop at_).take k))) ∧ w = w' := by
  have hk : 0 < k ∧ k ≤ 8 := by rcases isSz_cases hz with h | h | h | h <;> omega
  have hp := part_any g at_ k w hk.1 hat
  have hg := get_yes _ k k ((b.drop at_).take k) 0 k w (bs_mid_row hr (at_ := at_) (k := k) (by omega) (by omega)) hz (by omega)
  rw [List.drop_zero, List.take_take, Nat.min_self] at hg
  generalize leVal ((b.drop at_).take k) = V at *
  have HP := Lib.hid hp
  have HG := Lib.hid hg
  clear hp hg
  go_enter Tryz.func119, Tryz.ntmps119
  go_wp2_with fail
  refine HP.out.mono ?_
  rintro e w1 ⟨rfl, rfl⟩
  go_wp2_with fail
  refine HG.out.mono ?_
  rintro e w1 ⟨rfl, rfl⟩
  go_wp2_with fail
  go_ret
  exact ⟨rfl, rfl⟩

/-- sum: of the number and the body -/
theorem sum_any (E : TypeId) (g : Nat) (b : dk.Blk) (hb : b.length = 128) (w : World) (hr : RowB E w g b) (ht : Tab w) :
    Calls Tryz.prog 117 #[.pointer (some ⟨g, 0, none⟩)] w fun e w' => e = .returned (wv (crc.of (b.take 116))) ∧ w = w' := by
  have hp := part_any g 0 116 w (by omega) (by omega)
  have ho := of_any _ 116 116 _ w (bs_mid_row hr (at_ := 0) (k := 116) (by omega) (by omega)) ht
  rw [List.drop_zero] at ho
  generalize crc.of (b.take 116) = V at *
  have HP := Lib.hid hp
  have HO := Lib.hid ho
  clear hp ho
  go_enter Tryz.func117, Tryz.ntmps117
  go_wp2_with fail
  refine HP.out.mono ?_
  rintro e w1 ⟨rfl, rfl⟩
  go_wp2_with fail
  refine HO.out.mono ?_
  rintro e w1 ⟨rfl, rfl⟩
  go_wp2_with fail
  go_ret
  exact ⟨rfl, rfl⟩

/-- layNumber: a number's bytes are laid -/
theorem layNumber_any (E : TypeId) (g at_ k n : Nat) (b : dk.Blk) (hb : b.length = 128) (w : World) (hr : RowB E w g b) (hz : isSz k = true) (hat : at_ + k ≤ 128) (hn : putOk n k = true) :
    Calls Tryz.prog 115 #[.pointer (some ⟨g, 0, none⟩), .int .i64 at_, .int .i64 k, .int .u64 n] w fun e w' => e = .returned (.tuple #[]) ∧ RowB E w' g (splice b at_ (leBytes n k)) ∧ Chg w w' [g] := by
  have hk : 0 < k ∧ k ≤ 8 := by rcases isSz_cases hz with h | h | h | h <;> omega
  have hput := put_yes n k w hn
  have hll := leBytes_length n k
  have hlt : (leBytes n k).take k = leBytes n k := List.take_of_length_le (by rw [hll]; exact Nat.le_refl _)
  have HT := Lib.hid hlt
  have HLL := Lib.hid hll
  have HP := Lib.hid hput
  clear hput hlt hll
  go_enter Tryz.func115, Tryz.ntmps115
  go_wp2_with fail
  refine HP.out.mono ?_
  rintro e w1 ⟨v, rfl, ho, hb1⟩
  obtain ⟨A1, c1, rfl, hB⟩ := ho.form
  rw [HLL.out] at hB ho ⊢
  have hr1 := hr.below hb1 hr.lt
  go_wp2_with fail
  refine (part_any g at_ k _ hk.1 hat).mono ?_
  rintro e w2 ⟨rfl, rfl⟩
  go_wp2_with (refine wpList_copy_bytes rfl (.tmp 19) (.tmp 20) 36 36 rfl 5 Tryz.underlying36 (by kernel_rfl) hr1 rfl rfl hB (by omega) ?_; intro w3 hr3 hc3; rw [HT.out] at hr3)
  go_end0
  exact ⟨rfl, hr3, (Chg.of_below hb1 [g]).trans hc3 (Sub.refl _ _)⟩
end Go.Proofs.YtknndmhkfonfmaaGreatDoor

/-
  THE PROGRAM's seal: contracts of Put, Get, Newest, Next.
-/
namespace Go.Proofs.YtknndmhkfonfmaaGreatDoor
open Go.RowKit

theorem splice_at {α : Type} (p m r x : List α) (hx : x.length = m.length) (k : Nat) (hk : k = p.length) : splice (p ++ (m ++ r)) k x = p ++ (x ++ r) := by
  subst hk
  unfold splice
  rw [List.take_left' rfl, hx, List.drop_append, List.drop_of_length_le (by omega), List.nil_append, Nat.add_sub_cancel_left, List.drop_left' rfl]
theorem splice_length {α : Type} (L : List α) (off : Nat) (cs : List α) (h : off + cs.length ≤ L.length) : (splice L off cs).length = L.length := Go.length_splice L off cs h
namespace sl
theorem rep_split (a b : Nat) : List.replicate (a + b) (0 : UInt8) = List.replicate a 0 ++ List.replicate b 0 := List.replicate_append_replicate.symm
/-- how a block is laid -/
theorem lay1 (n : Nat) : splice dk.zero 0 (leBytes n 8) = leBytes n 8 ++ List.replicate 120 0 := by
  have h := splice_at [] (List.replicate 8 (0 : UInt8)) (List.replicate 120 0) (leBytes n 8) (by rw [leBytes_length, List.length_replicate]) 0 rfl
  rw [← rep_split] at h
  exact h
theorem lay2 (n : Nat) {body : List UInt8} (h : body.length ≤ 108) : splice (leBytes n 8 ++ List.replicate 120 0) 8 body = head n body ++ List.replicate 12 0 := by
  have h1 := splice_at (leBytes n 8) (List.replicate body.length (0 : UInt8)) (List.replicate (120 - body.length) 0) body (by rw [List.length_replicate]) 8 (leBytes_length n 8).symm
  rw [← rep_split, show body.length + (120 - body.length) = 120 from by omega] at h1
  rw [h1, head, show 120 - body.length = (108 - body.length) + 12 from by omega, rep_split, List.append_assoc, List.append_assoc]
theorem lay3 (n : Nat) {body : List UInt8} (h : body.length ≤ 108) (s : Nat) : splice (head n body ++ List.replicate 12 0) 116 (leBytes s 4) = head n body ++ (leBytes s 4 ++ List.replicate 8 0) := by
  have h1 := splice_at (head n body) (List.replicate 4 (0 : UInt8)) (List.replicate 8 0) (leBytes s 4) (by rw [leBytes_length, List.length_replicate]) 116 (head_length n h).symm
  rw [← rep_split] at h1
  exact h1
theorem lay4 (n : Nat) {body : List UInt8} (h : body.length ≤ 108) (s m : Nat) : splice (head n body ++ (leBytes s 4 ++ List.replicate 8 0)) 120 (leBytes m 8) = head n body ++ (leBytes s 4 ++ leBytes m 8) := by
  have h1 := splice_at (head n body ++ leBytes s 4) (List.replicate 8 (0 : UInt8)) [] (leBytes m 8) (by rw [leBytes_length, List.length_replicate]) 120 (by rw [List.length_append, head_length n h, leBytes_length])
  rw [List.append_nil, List.append_nil, List.append_assoc, List.append_assoc] at h1
  exact h1
end sl
theorem u64_not (n : Nat) (hn : n < 18446744073709551616) : bits .xor .u64 IntKind.u64.max (n : Int) = ((18446744073709551615 - n : Nat) : Int) := by
  have e : (IntKind.u64.max : Int) = ((18446744073709551615 : Nat) : Int) := rfl
  rw [e, u64_xor_nat _ _ (by omega) hn]
  congr 1
  have h1 : (BitVec.allOnes 64 ^^^ BitVec.ofNat 64 n).toNat = 18446744073709551615 - n := by
    rw [BitVec.allOnes_xor, BitVec.toNat_not, BitVec.toNat_ofNat, Nat.mod_eq_of_lt (by omega)]
  rw [BitVec.toNat_xor, BitVec.toNat_ofNat, Nat.mod_eq_of_lt (by omega)] at h1
  exact h1

set_option maxHeartbeats 4000000 in
set_option maxRecDepth 100000 in
theorem cs_put (n : Nat) (hn : n < 18446744073709551616) (A : Option Addr) (k c : Nat) (body : List UInt8) (w : World) (h : BS w A k c body) (ht : Tab w) : Calls Tryz.prog 101 #[.int .u64 n, .slice A k c] w fun e w' =>
    e = .returned (.tuple #[dk.val (sl.put n body).1, .int .i64 (sl.put n body).2]) ∧ Below w.heap.size w w' := by
  obtain ⟨hz, -⟩ := zero_of_info zero_blk
  have hk := h.len
  have h1 := heap_alloc_new w (.cells (dk.cells dk.zero).toArray 43)
  have hb1 : Below w.heap.size w (w.alloc (.cells (dk.cells dk.zero).toArray 43)) := (Below.refl _ _).alloc (Nat.le_refl _) _
  by_cases h0 : n = 0
  · have hp : sl.put n body = (dk.zero, 2) := if_pos h0
    have HP := Lib.hid hp
    have h0' : ((n : Int) == 0) = true := by simp [h0]
    clear hp h0
    go_enter Tryz.func101, Tryz.ntmps101
    go_wp2_with (refine wp_st0 (.tmp 4) (.tmp 9) dk.zero h1 zero_len zero_len rfl rfl rfl rfl ?_; intro W hW hc)
    refine bodyPost_ret (results_cell_tmp rfl rfl (blk_load (blk_range hW) zero_len)) rfl ⟨?_, (Chg.of_below hb1 [w.heap.size]).trans hc (Sub.refl _ _) |>.below (Nat.le_refl _) (fun k hk => by simp at hk; omega)⟩
    rw [HP.out]
    rfl
  · have h0' : ((n : Int) == 0) = false := by simp [h0]
    by_cases hlen : 108 < body.length
    · have hp : sl.put n body = (dk.zero, 3) := by rw [sl.put, if_neg h0, if_pos hlen]
      have HP := Lib.hid hp
      have hlen' : (108 : Int) < (k : Int) := by omega
      clear hp
      go_enter Tryz.func101, Tryz.ntmps101
      go_wp2_with (refine wp_st0 (.tmp 4) (.tmp 13) dk.zero h1 zero_len zero_len rfl rfl rfl rfl ?_; intro W hW hc)
      refine bodyPost_ret (results_cell_tmp rfl rfl (blk_load (blk_range hW) zero_len)) rfl ⟨?_, (Chg.of_below hb1 [w.heap.size]).trans hc (Sub.refl _ _) |>.below (Nat.le_refl _) (fun k hk => by simp at hk; omega)⟩
      rw [HP.out]
      rfl
    · have hp : sl.put n body = (sl.sealB n body, 0) := by rw [sl.put, if_neg h0, if_neg hlen]
      have HP := Lib.hid hp
      have hlen' : ¬ (108 : Int) < (k : Int) := by omega
      have hbl : body.length ≤ 108 := by omega
      have h1' := (Below.heap_alloc (w.alloc (.cells (dk.cells dk.zero).toArray 43)) (.cells (dk.cells dk.zero).toArray 43) w.heap.size (by simp)).trans h1
      have h2 := heap_alloc_new (w.alloc (.cells (dk.cells dk.zero).toArray 43)) (.cells (dk.cells dk.zero).toArray 43)
      rw [show (w.alloc (.cells (dk.cells dk.zero).toArray 43)).heap.size = w.heap.size + 1 from by simp] at h2
      have hb2 : Below w.heap.size w ((w.alloc (.cells (dk.cells dk.zero).toArray 43)).alloc (.cells (dk.cells dk.zero).toArray 43)) := hb1.alloc (by simp) _
      have hsz2 : w.heap.size + 1 < ((w.alloc (.cells (dk.cells dk.zero).toArray 43)).alloc (.cells (dk.cells dk.zero).toArray 43)).heap.size := by simp
      obtain ⟨W2, hW2⟩ : ∃ W2, (w.alloc (.cells (dk.cells dk.zero).toArray 43)).alloc (.cells (dk.cells dk.zero).toArray 43) = W2 := ⟨_, rfl⟩
      clear hp hlen h1
      go_enter Tryz.func101, Tryz.ntmps101
      go_wp2_with fail
      rw [hW2] at h1' h2 hb2 hsz2
      have r2 : RowB 43 W2 (w.heap.size + 1) dk.zero := h2
      refine (layNumber_any _ (w.heap.size + 1) 0 8 n dk.zero zero_len W2 r2 (by rfl) (by omega) (put8 n hn)).mono ?_
      rintro e w3 ⟨rfl, r3, c3⟩
      rw [sl.lay1] at r3
      have b3 := (Chg.of_below hb2 [w.heap.size + 1]).trans c3 (Sub.refl _ _) |>.below (Nat.le_refl _) (fun k hk => by simp at hk; omega)
      have z3 := (c3.block w.heap.size (by omega) (by simp)).trans h1'
      clear c3 r2 h2 hW2 hb2 h1' hsz2
      go_wp2_with fail
      refine (part_any (w.heap.size + 1) 8 108 _ (by omega) (by omega)).mono ?_
      rintro e w4 ⟨rfl, rfl⟩
      have hB3 := h.below b3
      have htk : body.take 108 = body := List.take_of_length_le hbl
      have HTK := Lib.hid htk
      have hl3 : 8 + 108 ≤ (leBytes n 8 ++ List.replicate 120 0 : List UInt8).length := by rw [List.length_append, leBytes_length, List.length_replicate]; omega
      clear htk
      go_wp2_with (refine wpList_copy_bytes rfl (.tmp 16) (.tmp 17) 36 36 rfl 5 Tryz.underlying36 (by kernel_rfl) r3 rfl rfl hB3 hl3 ?_; intro w5 r5 c5; rw [HTK.out, sl.lay2 n hbl] at r5)
      have b5 := (Chg.of_below b3 [w.heap.size + 1]).trans c5 (Sub.refl _ _) |>.below (Nat.le_refl _) (fun k hk => by simp at hk; omega)
      have z5 := (c5.block w.heap.size (by have := r3.lt; omega) (by simp)).trans z3
      have hd5 := sl.head_length n hbl
      have hl5 : (sl.head n body ++ List.replicate 12 0 : List UInt8).length = 128 := by rw [List.length_append, hd5, List.length_replicate]
      have ht5 : (sl.head n body ++ List.replicate 12 0 : List UInt8).take 116 = sl.head n body := List.take_left' hd5
      have hsum := sum_any _ (w.heap.size + 1) _ hl5 w5 r5 (ht.below b5)
      rw [ht5] at hsum
      obtain ⟨s, hs⟩ : ∃ s, crc.of (sl.head n body) = s := ⟨_, rfl⟩
      rw [hs] at hsum
      have hslt := s.isLt
      have HSUM := Lib.hid hsum
      have HS := Lib.hid hs
      have hlay := layNumber_any _ (w.heap.size + 1) 116 4 s.toNat _ hl5 w5 r5 (by rfl) (by omega) (put4 s.toNat (by omega))
      rw [sl.lay3 n hbl] at hlay
      have HLAY := Lib.hid hlay
      clear hsum hs hlay ht5 c5 hl3 HTK hB3 z3 r3 b3
      refine HSUM.out.mono ?_
      rintro e w6 ⟨rfl, rfl⟩
      go_wp2_with fail
      refine HLAY.out.mono ?_
      rintro e w7 ⟨rfl, r7, c7⟩
      have b7 := (Chg.of_below b5 [w.heap.size + 1]).trans c7 (Sub.refl _ _) |>.below (Nat.le_refl _) (fun k hk => by simp at hk; omega)
      have z7 := (c7.block w.heap.size (by have := r5.lt; omega) (by simp)).trans z5
      have hl7 : (sl.head n body ++ (leBytes s.toNat 4 ++ List.replicate 8 0) : List UInt8).length = 128 := by rw [List.length_append, hd5, List.length_append, leBytes_length, List.length_replicate]
      have hlay := layNumber_any _ (w.heap.size + 1) 120 8 (18446744073709551615 - n) _ hl7 w7 r7 (by rfl) (by omega) (put8 _ (by omega))
      rw [sl.lay4 n hbl, ← u64_not n hn] at hlay
      have HLAY2 := Lib.hid hlay
      clear hlay HLAY HSUM c7 z5 b5
      go_wp2_with fail
      refine HLAY2.out.mono ?_
      rintro e w8 ⟨rfl, r8, c8⟩
      have b8 := (Chg.of_below b7 [w.heap.size + 1]).trans c8 (Sub.refl _ _) |>.below (Nat.le_refl _) (fun k hk => by simp at hk; omega)
      have z8 := (c8.block w.heap.size (by have := r7.lt; omega) (by simp)).trans z7
      have hfin : sl.head n body ++ (leBytes s.toNat 4 ++ leBytes (18446744073709551615 - n) 8) = sl.sealB n body := by rw [sl.sealB, HS.out, sl.last]
      rw [hfin] at r8
      have hsl := sl.seal_length n hbl
      have hrg := blk_range r8
      clear hfin HLAY2 c8 z7 b7 hl7 r7 hd5
      go_wp2_with (first | refine wp_ld (.tmp 6) (sl.sealB n body) hrg hsl rfl rfl rfl ?_ | (refine wp_st0 (.tmp 4) (.tmp 25) (sl.sealB n body) z8 zero_len hsl rfl rfl rfl rfl ?_; intro W hW hc))
      refine bodyPost_ret (results_cell_tmp rfl rfl (blk_load (blk_range hW) hsl)) rfl ⟨?_, (Chg.of_below b8 [w.heap.size]).trans hc (Sub.refl _ _) |>.below (Nat.le_refl _) (fun k hk => by simp at hk; omega)⟩
      rw [HP.out]
      rfl

set_option maxHeartbeats 4000000 in
set_option maxRecDepth 100000 in
theorem cs_get (b : dk.Blk) (hb : b.length = 128) (w : World) (ht : Tab w) : Calls Tryz.prog 103 #[dk.val b] w fun e w' =>
    ∃ v, e = .returned (.tuple #[.int .u64 (sl.get b).1, v, .int .i64 (sl.get b).2.2]) ∧ OwnB 5 w' w.heap.size v (sl.get b).2.1 ∧ Below w.heap.size w w' := by
  have hr1 : RowB 43 (w.alloc (.cells (dk.cells b).toArray 43)) w.heap.size b := heap_alloc_new w _
  have hb1 : Below w.heap.size w (w.alloc (.cells (dk.cells b).toArray 43)) := (Below.refl _ _).alloc (Nat.le_refl _) _
  obtain ⟨W, hW⟩ : ∃ W, w.alloc (.cells (dk.cells b).toArray 43) = W := ⟨_, rfl⟩
  rw [hW] at hr1 hb1
  obtain ⟨N, hN⟩ : ∃ N, sl.number b = N := ⟨_, rfl⟩
  have hNlt := sl.number_lt b
  rw [hN] at hNlt
  have g1 := numberIn_any _ w.heap.size 0 8 b hb W hr1 (by rfl) (by omega)
  rw [List.drop_zero, show leVal (b.take 8) = N from hN] at g1
  have G1 := Lib.hid g1
  obtain ⟨L, hL⟩ : ∃ L, leVal (b.drop 120) = L := ⟨_, rfl⟩
  have g2 := numberIn_any _ w.heap.size 120 8 b hb W hr1 (by rfl) (by omega)
  rw [List.take_of_length_le (by rw [List.length_drop]; omega), hL] at g2
  have G2 := Lib.hid g2
  have hlast : L = 18446744073709551615 - N ↔ b.drop 120 = sl.last N := by
    rw [← hL, sl.last]
    constructor
    · intro e
      rw [← e]
      exact (leBytes_val _ _ (by rw [List.length_drop]; omega)).symm
    · intro e
      rw [e, leVal_bytes]
      exact Nat.mod_eq_of_lt (by omega)
  have hnot := u64_not N hNlt
  have HW := Lib.hid hW
  clear g1 g2 hW
  go_enter Tryz.func103, Tryz.ntmps103
  go_wp2_with fail
  rw [HW.out]
  refine G1.out.mono ?_
  rintro e w1 ⟨rfl, rfl⟩
  by_cases h0 : N = 0
  · have hget : sl.get b = (0, [], 5) := by unfold sl.get; rw [if_pos (.inl (hN.trans h0))]
    have HG := Lib.hid hget
    have h0' : ((N : Int) == 0) = true := by simp [h0]
    clear hget G1 G2 HW hnot
    go_wp2_with fail
    go_ret3
    exact ⟨_, by rw [HG.out]; rfl, by rw [HG.out]; exact OwnB.nil_ _ _ _, hb1⟩
  · have h0' : ((N : Int) == 0) = false := by simp [h0]
    clear G1 HW
    go_wp2_with fail
    refine G2.out.mono ?_
    rintro e w1 ⟨rfl, rfl⟩
    obtain ⟨M, hM⟩ : ∃ M, 18446744073709551615 - N = M := ⟨_, rfl⟩
    rw [hM] at hlast hnot
    have hnot' : bits .xor .u64 (if IntKind.u64.signed = true then -1 else IntKind.u64.max) (N : Int) = (M : Int) := by rw [if_neg (by decide)]; exact hnot
    by_cases hl : L = M
    · have hne : ((L : Int) != (M : Int)) = false := by simp [hl]
      have hdl := hlast.1 hl
      obtain ⟨V, hV⟩ : ∃ V, leVal ((b.drop 116).take 4) = V := ⟨_, rfl⟩
      have g3 := numberIn_any _ w.heap.size 116 4 b hb W hr1 (by rfl) (by omega)
      rw [hV] at g3
      obtain ⟨s, hs⟩ : ∃ s, crc.of (b.take 116) = s := ⟨_, rfl⟩
      have g4 := sum_any _ w.heap.size b hb W hr1 (ht.below hb1)
      rw [hs] at g4
      have hslt := s.isLt
      have G3 := Lib.hid g3
      have G4 := Lib.hid g4
      have HV := Lib.hid hV
      have HS := Lib.hid hs
      clear g3 g4 hV hs G2 hlast
      by_cases hsum : V = s.toNat
      · have hget : sl.get b = (N, (b.drop 8).take 108, 0) := by
          unfold sl.get
          rw [if_neg (by rw [hN, hdl]; simpa using h0), if_neg (by rw [HV.out, HS.out]; simpa using hsum), hN]
        have HG := Lib.hid hget
        have hne2 : ((V : Int) != (s.toNat : Int)) = false := by simp [hsum]
        have hcl := clone_any _ 108 108 _ W (bs_mid_row hr1 (at_ := 8) (k := 108) (by omega) (by omega)) (by omega)
        have HCL := Lib.hid hcl
        clear hget hsum hcl hl hdl hN hL
        go_wp2_with fail
        refine G3.out.mono ?_
        rintro e w1 ⟨rfl, rfl⟩
        go_wp2_with fail
        refine G4.out.mono ?_
        rintro e w1 ⟨rfl, rfl⟩
        go_wp2_with fail
        refine (part_any w.heap.size 8 108 _ (by omega) (by omega)).mono ?_
        rintro e w1 ⟨rfl, rfl⟩
        go_wp2_with fail
        refine HCL.out.mono ?_
        rintro e w2 ⟨v, rfl, ho, hb2⟩
        go_wp2_with fail
        go_ret3
        exact ⟨_, by rw [HG.out]; rfl, by rw [HG.out]; exact ho.mono hb1.size, hb1.trans (hb2.mono hb1.size)⟩
      · have hget : sl.get b = (0, [], 6) := by
          unfold sl.get
          rw [if_neg (by rw [hN, hdl]; simpa using h0), if_pos (by rw [HV.out, HS.out]; simpa using hsum)]
        have HG := Lib.hid hget
        have hne2 : ((V : Int) != (s.toNat : Int)) = true := by rw [bne_iff_ne]; omega
        clear hget hl hdl hN hL
        go_wp2_with fail
        refine G3.out.mono ?_
        rintro e w1 ⟨rfl, rfl⟩
        go_wp2_with fail
        refine G4.out.mono ?_
        rintro e w1 ⟨rfl, rfl⟩
        go_wp2_with fail
        go_ret3
        exact ⟨_, by rw [HG.out]; rfl, by rw [HG.out]; exact OwnB.nil_ _ _ _, hb1⟩
    · have hget : sl.get b = (0, [], 5) := by
        unfold sl.get
        rw [if_pos (.inr (by rw [hN]; exact fun e => hl (hlast.2 e)))]
      have HG := Lib.hid hget
      have hne : ((L : Int) != (M : Int)) = true := by rw [bne_iff_ne]; omega
      clear hget hlast G2 hN hL
      go_wp2_with fail
      go_ret3
      exact ⟨_, by rw [HG.out]; rfl, by rw [HG.out]; exact OwnB.nil_ _ _ _, hb1⟩
end Go.Proofs.YtknndmhkfonfmaaGreatDoor

/-
  THE PROGRAM's head: the table of sizes, May, bodyOf, headIn.
-/
namespace Go.Proofs.YtknndmhkfonfmaaGreatDoor
open Go.RowKit

/-- the table of a head's sizes -/
structure Siz (w : World) : Prop where
  lt : 0 < w.heap.size
  c0 : w.cell? ⟨0, 0, none⟩ = some (.int .i64 1)
  c1 : w.cell? ⟨0, 1, none⟩ = some (.int .i64 4)
  c2 : w.cell? ⟨0, 2, none⟩ = some (.int .i64 4)
theorem Siz.below {w w' : World} (h : Siz w) (hb : Below w.heap.size w w') : Siz w' :=
  ⟨Nat.lt_of_lt_of_le h.lt hb.size, (hb.cell h.lt).trans h.c0, (hb.cell h.lt).trans h.c1, (hb.cell h.lt).trans h.c2⟩
theorem Siz.drew {w : World} (h : Siz w) : Siz w.drew := ⟨h.lt, h.c0, h.c1, h.c2⟩
theorem Siz.drewN {w : World} (h : Siz w) (k : Nat) : Siz (w.drewN k) := ⟨h.lt, h.c0, h.c1, h.c2⟩
theorem Siz.alloc {w : World} (h : Siz w) (o : Obj) : Siz (w.alloc o) := h.below ((Below.refl _ _).alloc (Nat.le_refl _) o)
/-- the program's tables, laid -/
structure Tabs (w : World) : Prop where
  tab : Tab w
  siz : Siz w
theorem Tabs.below {w w' : World} (h : Tabs w) (hb : Below w.heap.size w w') : Tabs w' := ⟨h.tab.below hb, h.siz.below hb⟩
theorem Tabs.drew {w : World} (h : Tabs w) : Tabs w.drew := ⟨h.tab.drew, h.siz.drew⟩
theorem Tabs.drewN {w : World} (h : Tabs w) (k : Nat) : Tabs (w.drewN k) := ⟨h.tab.drewN k, h.siz.drewN k⟩
theorem Tabs.alloc {w : World} (h : Tabs w) (o : Obj) : Tabs (w.alloc o) := ⟨h.tab.alloc o, h.siz.alloc o⟩

set_option maxRecDepth 100000 in
set_option maxHeartbeats 1000000 in
theorem ch_may (h : hd.H) (_hok : h.Ok) (w : World) : Calls Tryz.prog 100 #[hd.val h] w fun e w' => e = .returned (.bool (hd.may h)) ∧ Below w.heap.size w w' := by
  have m := HM.new w 53 h
  have hb : Below w.heap.size w (w.alloc (.cells #[bv h.bank, .int .u32 h.blocks, .int .u32 h.batches] 53)) := (Below.refl _ _).alloc (Nat.le_refl _) _
  have q0 := m.c0
  have q1 := m.c1
  have q2 := m.c2
  by_cases h1 : h.bank.toNat ≤ 1
  · by_cases h2 : h.blocks ≤ 4096
    · by_cases h3 : h.batches ≤ h.blocks
      · have hm : hd.may h = true := by simp [hd.may, h1, h2, h3]
        have HM' := Lib.hid hm
        have i1 : (h.bank.toNat : Int) ≤ 1 := by omega
        have i2 : (h.blocks : Int) ≤ 4096 := by omega
        have i3 : (h.batches : Int) ≤ (h.blocks : Int) := by omega
        clear hm
        go_enter Tryz.func100, Tryz.ntmps100
        go_wp2_with fail
        go_ret
        exact ⟨by rw [HM'.out]; rfl, hb⟩
      · have hm : hd.may h = false := by simp [hd.may, h3]
        have HM' := Lib.hid hm
        have i1 : (h.bank.toNat : Int) ≤ 1 := by omega
        have i2 : (h.blocks : Int) ≤ 4096 := by omega
        have i3 : ¬ (h.batches : Int) ≤ (h.blocks : Int) := by omega
        clear hm
        go_enter Tryz.func100, Tryz.ntmps100
        go_wp2_with fail
        go_ret
        exact ⟨by rw [HM'.out]; rfl, hb⟩
    · have hm : hd.may h = false := by simp [hd.may, h2]
      have HM' := Lib.hid hm
      have i1 : (h.bank.toNat : Int) ≤ 1 := by omega
      have i2 : ¬ (h.blocks : Int) ≤ 4096 := by omega
      clear hm
      go_enter Tryz.func100, Tryz.ntmps100
      go_wp2_with fail
      go_ret
      exact ⟨by rw [HM'.out]; rfl, hb⟩
  · have hm : hd.may h = false := by simp [hd.may, h1]
    have HM' := Lib.hid hm
    have i1 : ¬ (h.bank.toNat : Int) ≤ 1 := by omega
    clear hm
    go_enter Tryz.func100, Tryz.ntmps100
    go_wp2_with fail
    go_ret
    exact ⟨by rw [HM'.out]; rfl, hb⟩

namespace hd
/-- the first j numbers of a body -/
def part (h : H) : Nat → List UInt8
  | 0 => []
  | 1 => [h.bank]
  | 2 => [h.bank] ++ leBytes h.blocks 4
  | _ => bodyOf h
def nth (h : H) : Nat → Nat
  | 0 => h.bank.toNat
  | 1 => h.blocks
  | _ => h.batches
def siz : Nat → Nat
  | 0 => 1
  | _ => 4
theorem part_step (h : H) {j : Nat} (hj : j < 3) : part h j ++ leBytes (nth h j) (siz j) = part h (j + 1) := by
  have : j = 0 ∨ j = 1 ∨ j = 2 := by omega
  rcases this with rfl | rfl | rfl
  · simp [part, nth, siz, leBytes]
  · rfl
  · rfl
end hd
set_option maxHeartbeats 4000000 in
set_option maxRecDepth 100000 in
theorem hbody_any (h : hd.H) (hok : h.Ok) (w : World) (ht : Siz w) : Calls Tryz.prog 102 #[hd.val h] w (OwnEnd 5 (hd.bodyOf h) w) := by
  obtain ⟨i0, hi, hz0, hz1, hz2⟩ := info_parts info_u8
  have m := HM.new w 53 h
  have hb : Below w.heap.size w (w.alloc (.cells #[bv h.bank, .int .u32 h.blocks, .int .u32 h.batches] 53)) := (Below.refl _ _).alloc (Nat.le_refl _) _
  have ht1 := ht.below hb
  have q0 := m.c0
  have q1 := m.c1
  have q2 := m.c2
  have hw0 : IntKind.u64.wrap (h.bank.toNat : Int) = (h.bank.toNat : Int) := IntWalk.u64_in _ ⟨by omega, by have := h.bank.toNat_lt; omega⟩
  have hw1 : IntKind.u64.wrap (h.blocks : Int) = (h.blocks : Int) := IntWalk.u64_in _ ⟨by omega, by have := hok.blocks; omega⟩
  have hw2 : IntKind.u64.wrap (h.batches : Int) = (h.batches : Int) := IntWalk.u64_in _ ⟨by omega, by have := hok.batches; omega⟩
  go_enter Tryz.func102, Tryz.ntmps102
  go_wp2_with fail
  go_loopw [3, 18] (fun v t wr => ∃ j : Nat, t = .int .i64 j ∧ j ≤ 3 ∧ OwnB 5 wr w.heap.size v (hd.part h j) ∧ Below w.heap.size w wr) (fun _ t _ => 3 - (intOf t).toNat)
  case atStart => exact ⟨0, rfl, by omega, OwnB.nil_ _ _ _, hb⟩
  case round =>
    obtain ⟨j, rfl, hj, o, hbr⟩ := hrel
    by_cases hlt : j < 3
    · have hidx : ∀ W, (Instr.index 147 (.agg #[.int .u64 (h.bank.toNat : Int), .int .u64 (h.blocks : Int), .int .u64 (h.batches : Int)]) (.int .i64 (j : Int))).run Tryz.prog W = .ok (.int .u64 (hd.nth h j : Int)) W := fun W => by
        have : j = 0 ∨ j = 1 ∨ j = 2 := by omega
        rcases this with rfl | rfl | rfl <;> rfl
      have hcl : ∀ W : World, Siz W → W.cell? ⟨0, j, none⟩ = some (.int .i64 (hd.siz j : Int)) := fun W hW => by
        have : j = 0 ∨ j = 1 ∨ j = 2 := by omega
        rcases this with rfl | rfl | rfl
        · exact hW.c0
        · exact hW.c1
        · exact hW.c2
      have htr := ht.below hbr
      have hcr := hcl wr htr
      have hok1 : putOk (hd.nth h j) (hd.siz j) = true := by
        have : j = 0 ∨ j = 1 ∨ j = 2 := by omega
        have h0 := h.bank.toNat_lt
        have h1 := hok.blocks
        have h2 := hok.batches
        rcases this with rfl | rfl | rfl <;> simp [putOk, isSz, hd.nth, hd.siz] <;> omega
      have hput := put_yes (hd.nth h j) (hd.siz j) wr hok1
      have HPUT := Lib.hid hput
      have hst := hd.part_step h hlt
      have HST := Lib.hid hst
      have hlen : (hd.part h j).length ≤ 9 := by
        have : j = 0 ∨ j = 1 ∨ j = 2 := by omega
        rcases this with rfl | rfl | rfl <;> simp [hd.part, leBytes_length]
      have hs9 : hd.siz j ≤ 4 := by unfold hd.siz; split <;> omega
      generalize hd.nth h j = x at *
      generalize hd.siz j = y at *
      clear hput hst hcl hok1
      obtain ⟨A, c, rfl, hB⟩ := o.form
      go_wp2_with fail
      refine HPUT.out.mono ?_
      rintro e w1 ⟨v1, rfl, o1, b1⟩
      obtain ⟨A1, c1, rfl, hB1⟩ := o1.form
      rw [leBytes_length] at hB1
      have o0 := o.below b1 (Nat.le_refl _)
      have hbr1 := hbr.trans (b1.mono hbr.size)
      clear HPUT b1 hB
      rw [leBytes_length]
      go_wp2_with (at_builtin; refine wpList_append_bytes _ rfl (.tmp 30) (.tmp 31) 36 rfl 5 i0 Tryz.underlying36 hi hz0 hz1 hz2 w.heap.size _ _ rfl o0 A1 y c1 _ rfl hB1 (by omega) hbr1.size ?_; intro v2 w2 o2 hg2 _ _)
      go_roundw
      case rel => exact ⟨j + 1, by go_num, by omega, HST.out ▸ o2, OwnB.step hbr1 o0 hg2 hbr1.size⟩
      case measure => simp [intOf]; omega
    · obtain rfl : j = 3 := by omega
      go_wp2_with fail
      go_ret
      exact ⟨_, rfl, o, hbr⟩
namespace hd
/-- where the number j stands -/
def pos : Nat → Nat
  | 0 => 0
  | 1 => 1
  | 2 => 5
  | _ => 9
def nthIn (l : List UInt8) (j : Nat) : Nat := leVal ((l.drop (pos j)).take (siz j))
def got (l : List UInt8) (j i : Nat) : Nat := if i < j then nthIn l i else 0
theorem got_set (l : List UInt8) {j : Nat} (hj : j < 3) : (#[Value.int .u64 (got l j 0 : Int), .int .u64 (got l j 1 : Int), .int .u64 (got l j 2 : Int)]).setIfInBounds j (.int .u64 (nthIn l j : Int)) = #[.int .u64 (got l (j + 1) 0 : Int), .int .u64 (got l (j + 1) 1 : Int), .int .u64 (got l (j + 1) 2 : Int)] := by
  have : j = 0 ∨ j = 1 ∨ j = 2 := by omega
  rcases this with rfl | rfl | rfl <;> simp [got]
theorem headOf_nth (l : List UInt8) (hl : 9 ≤ l.length) : (headOf l).bank.toNat = nthIn l 0 ∧ (headOf l).blocks = nthIn l 1 ∧ (headOf l).batches = nthIn l 2 := by
  refine ⟨?_, rfl, rfl⟩
  obtain ⟨x, r, rfl⟩ : ∃ x r, l = x :: r := by
    cases l with
    | nil => simp at hl
    | cons x r => exact ⟨x, r, rfl⟩
  simp [headOf, nthIn, pos, siz, leVal]
end hd
theorem size_sizes : (Tryz.prog.info? 148).map (·.size) = some 3 := by kernel_rfl
set_option maxHeartbeats 4000000 in
set_option maxRecDepth 100000 in
theorem hin_any (A : Option Addr) (n c : Nat) (l : List UInt8) (w : World) (hB : BS w A n c l) (hn : 9 ≤ n) (ht : Siz w) : Calls Tryz.prog 104 #[.slice A n c] w fun e w' => e = .returned (hd.val (hd.headOf l)) ∧ Below w.heap.size w w' := by
  have m := HM.new w 53 hd.zero
  have b1 : Below w.heap.size w (w.alloc (.cells #[bv hd.zero.bank, .int .u32 hd.zero.blocks, .int .u32 hd.zero.batches] 53)) := (Below.refl _ _).alloc (Nat.le_refl _) _
  have m2 := m.alloc (.cells #[.int .u64 0, .int .u64 0, .int .u64 0] 147)
  have b2 := b1.alloc b1.size (.cells #[.int .u64 0, .int .u64 0, .int .u64 0] 147)
  have r2 := heap_alloc_new (w.alloc (.cells #[bv hd.zero.bank, .int .u32 hd.zero.blocks, .int .u32 hd.zero.batches] 53)) (.cells #[.int .u64 0, .int .u64 0, .int .u64 0] 147)
  rw [show (w.alloc (.cells #[bv hd.zero.bank, .int .u32 hd.zero.blocks, .int .u32 hd.zero.batches] 53)).heap.size = w.heap.size + 1 from by simp] at r2
  have hl := hB.len
  have ht2 := ht.below b2
  have hrg : ((w.alloc (.cells #[bv hd.zero.bank, .int .u32 hd.zero.blocks, .int .u32 hd.zero.batches] 53)).alloc (.cells #[.int .u64 0, .int .u64 0, .int .u64 0] 147)).rangeAt 0 0 [.int .i64 1, .int .i64 4, .int .i64 4] := fun j v hj => by
    match j with
    | 0 => exact ht2.c0.trans hj
    | 1 => exact ht2.c1.trans hj
    | 2 => exact ht2.c2.trans hj
    | j + 3 => simp at hj
  go_enter Tryz.func104, Tryz.ntmps104
  go_wp2_with (refine wpList_load_mid rfl _ _ rfl 0 0 rfl _ _ hrg Tryz.underlying148 rfl size_sizes ?_)
  clear hrg
  go_loopw [4, 8] (fun a t wr => ∃ j : Nat, t = .int .i64 j ∧ j ≤ 3 ∧ a = .int .i64 (hd.pos j : Int) ∧ HM 53 wr w.heap.size hd.zero ∧ wr.heap[w.heap.size + 1]? = some (.cells #[Value.int .u64 (hd.got l j 0 : Int), .int .u64 (hd.got l j 1 : Int), .int .u64 (hd.got l j 2 : Int)] 147 (0, 0)) ∧ Below w.heap.size w wr) (fun _ t _ => 3 - (intOf t).toNat)
  case atStart => exact ⟨0, rfl, by omega, rfl, m2, r2, b2⟩
  case round =>
    clear m m2 r2 b1 b2 ht2
    obtain ⟨j, rfl, hj, rfl, m, r, hbr⟩ := hrel
    by_cases hlt : j < 3
    · have hidx : ∀ W, (Instr.index 148 (.agg #[.int .i64 1, .int .i64 4, .int .i64 4]) (.int .i64 (j : Int))).run Tryz.prog W = .ok (.int .i64 (hd.siz j : Int)) W := fun W => by
        have : j = 0 ∨ j = 1 ∨ j = 2 := by omega
        rcases this with rfl | rfl | rfl <;> rfl
      have hat : hd.pos j + hd.siz j ≤ n ∧ isSz (hd.siz j) = true ∧ hd.pos j + hd.siz j = hd.pos (j + 1) ∧ hd.pos j ≤ 9 ∧ hd.siz j ≤ 4 := by
        have : j = 0 ∨ j = 1 ∨ j = 2 := by omega
        rcases this with rfl | rfl | rfl <;> simp [hd.pos, hd.siz, isSz] <;> omega
      obtain ⟨hat1, hat2, hat3, hat4, hat5⟩ := hat
      have hget := get_yes A n c l (hd.pos j) (hd.siz j) wr (hB.below hbr) hat2 hat1
      rw [show leVal ((l.drop (hd.pos j)).take (hd.siz j)) = hd.nthIn l j from rfl] at hget
      have HG := Lib.hid hget
      have hset := hd.got_set l hlt
      have hcx : wr.cell? ⟨w.heap.size + 1, j, none⟩ = some (.int .u64 (hd.got l j j : Int)) := by
        rw [cell_of_row _ _ j _ _ _ r]
        have : j = 0 ∨ j = 1 ∨ j = 2 := by omega
        rcases this with rfl | rfl | rfl <;> rfl
      have hfx : wr.frozen? ⟨w.heap.size + 1, j, none⟩ = false := by simp [World.frozen?, r]
      have hblk := block_set (i := j) r (.int .u64 (hd.nthIn l j : Int))
      rw [hset] at hblk
      have HBLK := Lib.hid hblk
      have hch := Chg.setCell wr (w.heap.size + 1) j (.int .u64 (hd.nthIn l j : Int))
      have HCH := Lib.hid hch
      have HAT := Lib.hid hat3
      generalize hd.nthIn l j = x at *
      generalize hd.siz j = y at *
      generalize hd.got l j j = z at *
      clear hget hset hblk hch hat3
      go_wp2_with fail
      refine HG.out.mono ?_
      rintro e w1 ⟨rfl, rfl⟩
      go_wp2_with fail
      go_roundw
      case rel => exact ⟨j + 1, by go_num, by omega, by rw [← HAT.out]; go_num, m.chg HCH.out (by simp), HBLK.out, hbr.trans (HCH.out.below hbr.size (fun k hk => by simp at hk; omega))⟩
      case measure => simp [intOf]; omega
    · obtain rfl : j = 3 := by omega
      obtain ⟨g0, g1, g2⟩ := hd.headOf_nth l (by omega)
      have hOk := hd.headOf_Ok l
      have k0 : wr.cell? ⟨w.heap.size + 1, 0, none⟩ = some (.int .u64 ((hd.headOf l).bank.toNat : Int)) := by rw [cell_of_row _ _ 0 _ _ _ r, g0]; rfl
      have k1 : wr.cell? ⟨w.heap.size + 1, 1, none⟩ = some (.int .u64 ((hd.headOf l).blocks : Int)) := by rw [cell_of_row _ _ 1 _ _ _ r, g1]; rfl
      have k2 : wr.cell? ⟨w.heap.size + 1, 2, none⟩ = some (.int .u64 ((hd.headOf l).batches : Int)) := by rw [cell_of_row _ _ 2 _ _ _ r, g2]; rfl
      have hb0 := (hd.headOf l).bank.toNat_lt
      have hb1 := hOk.blocks
      have hb2 := hOk.batches
      have hw0 : IntKind.u8.wrap ((hd.headOf l).bank.toNat : Int) = ((hd.headOf l).bank.toNat : Int) := IntWalk.u8_in _ ⟨by omega, by omega⟩
      have hw1 : IntKind.u32.wrap ((hd.headOf l).blocks : Int) = ((hd.headOf l).blocks : Int) := IntWalk.u32_in _ ⟨by omega, by omega⟩
      have hw2 : IntKind.u32.wrap ((hd.headOf l).batches : Int) = ((hd.headOf l).batches : Int) := IntWalk.u32_in _ ⟨by omega, by omega⟩
      clear g0 g1 g2 hOk r
      obtain ⟨h, hh⟩ : ∃ h, hd.headOf l = h := ⟨_, rfl⟩
      rw [hh] at k0 k1 k2 hb0 hb1 hb2 hw0 hw1 hw2
      have HH := Lib.hid hh
      clear hh
      go_wp2_with (refine wp_sth (.tmp 2) (.tmp 34) h hd.zero m rfl rfl rfl rfl ?_; intro w7 m7 hc7)
      refine bodyPost_ret (results_cell rfl rfl (head_load m7)) rfl ⟨by rw [HH.out], (Chg.of_below hbr [w.heap.size]).trans hc7 (Sub.refl _ _) |>.below (Nat.le_refl _) (fun k hk => by simp at hk; omega)⟩
end Go.Proofs.YtknndmhkfonfmaaGreatDoor
