/-
  cardexlaw08: lives.
-/
import Derived.Test.YtlchfadfbepapaaBatchI
import Derived.Test.YtlchfadfbepapaaCore
import Derived.Test.YtlchfadfbepapaaBatchL2
import Derived.Test.YtlchfadfbepapaaBatchG2
import Derived.Test.YtlchfadfbepapaaBatchLit
namespace Go.Proofs.Ytlchfadfbepapaa
open Go.RowKit
/-- what lies in memory where Apply is called -/
theorem live_apply (w : World) : ∃ W, (((w.alloc (.cells #[.int .u8 7] 5)).alloc (.cells #[.string ⟨#[97]⟩, .slice (some ⟨w.heap.size, 0, none⟩) 1 1] 51)).alloc (.cells #[.int .u8 8] 5)).alloc
      (.cells #[.string ⟨#[97]⟩, .slice none 0 0, .bool true, .string ⟨#[98]⟩, .slice (some ⟨w.heap.size + 1 + 1, 0, none⟩) 1 1, .bool false] 39) = W ∧
    Below w.heap.size w W ∧ TS W (some ⟨w.heap.size + 1, 0, none⟩) 1 1 [bt.ro1] ∧ CS W (some ⟨w.heap.size + 1 + 1 + 1, 0, none⟩) 2 2 [bt.ch2, bt.ch3] := by
  have q1 : BS (w.alloc (.cells #[.int .u8 7] 5)) (some ⟨w.heap.size, 0, none⟩) 1 1 [7] := BS.lit w _ [7] #[.int .u8 7] (by rfl) 1 rfl (by omega)
  have b1 : Below w.heap.size w (w.alloc (.cells #[.int .u8 7] 5)) := (Below.refl _ _).alloc (Nat.le_refl _) _
  have s1 : (w.alloc (.cells #[.int .u8 7] 5)).heap.size = w.heap.size + 1 := by simp
  obtain ⟨W1, hW1⟩ : ∃ W, w.alloc (.cells #[.int .u8 7] 5) = W := ⟨_, rfl⟩
  rw [hW1] at q1 b1 s1 ⊢
  have n2 := heap_alloc_new W1 (.cells #[.string ⟨#[97]⟩, .slice (some ⟨w.heap.size, 0, none⟩) 1 1] 51)
  have a2 : Below W1.heap.size W1 (W1.alloc (.cells #[.string ⟨#[97]⟩, .slice (some ⟨w.heap.size, 0, none⟩) 1 1] 51)) := (Below.refl _ _).alloc (Nat.le_refl _) _
  have s2 : (W1.alloc (.cells #[.string ⟨#[97]⟩, .slice (some ⟨w.heap.size, 0, none⟩) 1 1] 51)).heap.size = w.heap.size + 1 + 1 := by simp [s1]
  obtain ⟨W2, hW2⟩ : ∃ W, W1.alloc (.cells #[.string ⟨#[97]⟩, .slice (some ⟨w.heap.size, 0, none⟩) 1 1] 51) = W := ⟨_, rfl⟩
  rw [hW2] at n2 a2 s2 ⊢
  rw [s1] at n2
  have T2 : TS W2 (some ⟨w.heap.size + 1, 0, none⟩) 1 1 [bt.ro1] := TS.lit1 (k := [97]) (v := [7]) n2 (q1.below a2)
  have q3 : BS (W2.alloc (.cells #[.int .u8 8] 5)) (some ⟨W2.heap.size, 0, none⟩) 1 1 [8] := BS.lit W2 _ [8] #[.int .u8 8] (by rfl) 1 rfl (by omega)
  have a3 : Below W2.heap.size W2 (W2.alloc (.cells #[.int .u8 8] 5)) := (Below.refl _ _).alloc (Nat.le_refl _) _
  have s3 : (W2.alloc (.cells #[.int .u8 8] 5)).heap.size = w.heap.size + 1 + 1 + 1 := by simp [s2]
  obtain ⟨W3, hW3⟩ : ∃ W, W2.alloc (.cells #[.int .u8 8] 5) = W := ⟨_, rfl⟩
  rw [hW3] at q3 a3 s3 ⊢
  rw [s2] at q3
  have n4 := heap_alloc_new W3 (.cells #[.string ⟨#[97]⟩, .slice none 0 0, .bool true, .string ⟨#[98]⟩, .slice (some ⟨w.heap.size + 1 + 1, 0, none⟩) 1 1, .bool false] 39)
  have a4 : Below W3.heap.size W3 (W3.alloc (.cells #[.string ⟨#[97]⟩, .slice none 0 0, .bool true, .string ⟨#[98]⟩, .slice (some ⟨w.heap.size + 1 + 1, 0, none⟩) 1 1, .bool false] 39)) := (Below.refl _ _).alloc (Nat.le_refl _) _
  rw [s3] at n4
  refine ⟨_, rfl, ?_, (T2.below a3).below a4, CS.lit2 (k := [97]) (v := []) (k2 := [98]) (v2 := [8]) n4 (BS.nil_ _) (q3.below a4)⟩
  exact ((b1.trans (a2.mono (by omega))).trans (a3.mono (by omega))).trans (a4.mono (by omega))
/-- what lies in memory where the last rows are compared -/
theorem live_row (w : World) : ∃ W, (w.alloc (.cells #[.int .u8 8] 5)).alloc (.cells #[.string ⟨#[98]⟩, .slice (some ⟨w.heap.size, 0, none⟩) 1 1] 51) = W ∧
    Below w.heap.size w W ∧ TS W (some ⟨w.heap.size + 1, 0, none⟩) 1 1 [bt.ro2] := by
  have q1 : BS (w.alloc (.cells #[.int .u8 8] 5)) (some ⟨w.heap.size, 0, none⟩) 1 1 [8] := BS.lit w _ [8] #[.int .u8 8] (by rfl) 1 rfl (by omega)
  have b1 : Below w.heap.size w (w.alloc (.cells #[.int .u8 8] 5)) := (Below.refl _ _).alloc (Nat.le_refl _) _
  have s1 : (w.alloc (.cells #[.int .u8 8] 5)).heap.size = w.heap.size + 1 := by simp
  obtain ⟨W1, hW1⟩ : ∃ W, w.alloc (.cells #[.int .u8 8] 5) = W := ⟨_, rfl⟩
  rw [hW1] at q1 b1 s1 ⊢
  have n2 := heap_alloc_new W1 (.cells #[.string ⟨#[98]⟩, .slice (some ⟨w.heap.size, 0, none⟩) 1 1] 51)
  have a2 : Below W1.heap.size W1 (W1.alloc (.cells #[.string ⟨#[98]⟩, .slice (some ⟨w.heap.size, 0, none⟩) 1 1] 51)) := (Below.refl _ _).alloc (Nat.le_refl _) _
  rw [s1] at n2
  exact ⟨_, rfl, b1.trans (a2.mono (by omega)), TS.lit1 (k := [98]) (v := [8]) n2 (q1.below a2)⟩
set_option maxHeartbeats 4000000 in
set_option maxRecDepth 100000 in
theorem lives08_any (w : World) : Calls Try.prog 15 #[] w fun e w' => e = .returned (.bool true) ∧ Below w.heap.size w w' := by
  obtain ⟨i0, hi, hz0, hz1, hz2⟩ := info_parts info_u8
  obtain ⟨hzc, -⟩ := zero_of_info zero_chg
  obtain ⟨hzr, -⟩ := zero_of_info zero_row
  have b1 : Below w.heap.size w (w.alloc (.cells #[.int .u8 7] 5)) := (Below.refl _ _).alloc (Nat.le_refl _) _
  have b2 := b1.alloc b1.size (.cells #[str [97], .slice (some ⟨w.heap.size, 0, none⟩) 1 1, .bool false] 39)
  have n2 := heap_alloc_new (w.alloc (.cells #[.int .u8 7] 5)) (.cells #[str [97], .slice (some ⟨w.heap.size, 0, none⟩) 1 1, .bool false] 39)
  rw [show (w.alloc (.cells #[.int .u8 7] 5)).heap.size = w.heap.size + 1 from by simp] at n2
  have q1 : BS (w.alloc (.cells #[.int .u8 7] 5)) (some ⟨w.heap.size, 0, none⟩) 1 1 [7] := BS.lit w _ [7] #[.int .u8 7] (by rfl) 1 rfl (by omega)
  have C2 : CS _ _ 1 1 [bt.ch1] := CS.lit1 (v := [7]) n2 (q1.below ((Below.refl _ _).alloc (Nat.le_refl _) _))
  obtain ⟨W2, hW2⟩ : ∃ W, (w.alloc (.cells #[.int .u8 7] 5)).alloc (.cells #[str [97], .slice (some ⟨w.heap.size, 0, none⟩) 1 1, .bool false] 39) = W := ⟨_, rfl⟩
  rw [hW2] at b2 C2
  have HW2 := Lib.hid hW2
  clear b1 n2 q1 hW2
  have hlk : ∀ r ∈ [bt.ch1], r.key.length ≤ 9223372036854775807 := by intro r hr; rw [List.mem_singleton] at hr; rw [hr]; decide
  have HP := Lib.hid (cb_put [bt.ch1] C2 hlk (by omega) (fun _ => by rw [bt.live2]; decide))
  rw [bt.live1, if_pos rfl, if_pos rfl] at HP
  go_enter Try.func15, Try.ntmps15
  go_wp2_with fail
  have e2 := HW2.out
  change (w.alloc (.cells #[.int .u8 7] 5)).alloc (.cells #[.string ⟨#[97]⟩, .slice (some ⟨w.heap.size, 0, none⟩) 1 1, .bool false] 39) = W2 at e2
  rw [e2]
  clear e2
  refine HP.out.mono ?_
  rintro e w3 ⟨⟨v3, rfl, o3⟩, b3⟩
  have b23 := b2.trans (b3.mono b2.size)
  have C3 := C2.below b3
  obtain ⟨A3, c3, rfl, B3⟩ := o3.form
  clear HP C2 HW2 b2
  go_wp2_with fail
  have hg := cb_get _ B3 (by rw [bt.live2]; decide)
  rw [bt.live3] at hg
  refine hg.mono ?_
  rintro e w4 ⟨v4, rfl, G4, b4⟩
  have b24 := b23.trans (b4.mono b23.size)
  have C4 := C3.below b4
  have B4 := B3.below b4
  clear C3 B3 o3 hg b23
  go_wp2_with fail
  obtain ⟨W5, hW5, b5, T5, C5⟩ := live_apply w4
  rw [hW5]
  have ha := cb_apply _ _ T5 C5 (TO.all _ _ _) (CO.all _ _ _) (fun _ _ => trivial) (by intro r hr; rw [List.mem_singleton] at hr; rw [hr]; decide) (by intro r hr; simp only [List.mem_cons, List.not_mem_nil, or_false] at hr; rcases hr with rfl | rfl <;> decide) (by omega)
  rw [bt.live4] at ha
  have b25 := b24.trans (b5.mono b24.size)
  have C5' := C4.below b5
  have B5 := B4.below b5
  have G5 := G4.below b5
  clear hW5 C4 B4 G4 b5
  refine ha.mono ?_
  rintro e w6 ⟨⟨A6, c6, rfl, T6, -⟩, b6⟩
  have b26 := b25.trans (b6.mono b25.size)
  have C6 := C5'.below b6
  have B6 := B5.below b6
  have G6 := G5.below b6
  clear ha T5 C5 C5' B5 G5 b6 b25
  have n7 := heap_alloc_new w6 (.cells #[.string ⟨#[98]⟩, .slice none 0 0, .bool false, .string ⟨#[97]⟩, .slice none 0 0, .bool false] 39)
  have a7 : Below w6.heap.size w6 (w6.alloc (.cells #[.string ⟨#[98]⟩, .slice none 0 0, .bool false, .string ⟨#[97]⟩, .slice none 0 0, .bool false] 39)) := (Below.refl _ _).alloc (Nat.le_refl _) _
  obtain ⟨W7, hW7⟩ : ∃ W, w6.alloc (.cells #[.string ⟨#[98]⟩, .slice none 0 0, .bool false, .string ⟨#[97]⟩, .slice none 0 0, .bool false] 39) = W := ⟨_, rfl⟩
  rw [hW7] at n7 a7
  have C7 : CS W7 (some ⟨w6.heap.size, 0, none⟩) 2 2 [bt.ch4, bt.ch5] := CS.lit2 (k := [98]) (v := []) (k2 := [97]) (v2 := []) n7 (BS.nil_ _) (BS.nil_ _)
  have hp := cb_put _ C7 (by intro r hr; simp only [List.mem_cons, List.not_mem_nil, or_false] at hr; rcases hr with rfl | rfl <;> decide) (by omega) (fun _ => by decide)
  rw [bt.live5, if_neg (by decide), if_neg (by decide)] at hp
  have HP := Lib.hid hp
  have HW7 := Lib.hid hW7
  have b27 := b26.trans (a7.mono b26.size)
  have C8 := C6.below a7
  have B8 := B6.below a7
  have G8 := G6.below a7
  have T8 := T6.below a7
  clear hp hW7 n7 C7 C6 B6 G6 T6 a7 b26
  go_wp2_with fail
  rw [HW7.out]
  refine HP.out.mono ?_
  rintro e w9 ⟨⟨v9, rfl, -⟩, b9⟩
  have b29 := b27.trans (b9.mono b27.size)
  have C9 := C8.below b9
  have B9 := B8.below b9
  have G9 := G8.below b9
  have T9 := T8.below b9
  clear HP HW7 C8 B8 G8 T8 b9 b27
  obtain ⟨A4, c4, rfl, D9, -⟩ := G9
  go_wp2_with fail
  have q10 : BS (w9.alloc (.cells #[.int .u8 1, .int .u8 0, .int .u8 0, .int .u8 0, .int .u8 1, .int .u8 0, .int .u8 0, .int .u8 0, .int .u8 97, .int .u8 0, .int .u8 1, .int .u8 0, .int .u8 0, .int .u8 0, .int .u8 7] 5)) (some ⟨w9.heap.size, 0, none⟩) 15 15 [1, 0, 0, 0, 1, 0, 0, 0, 97, 0, 1, 0, 0, 0, 7] := BS.lit w9 _ [1, 0, 0, 0, 1, 0, 0, 0, 97, 0, 1, 0, 0, 0, 7] #[.int .u8 1, .int .u8 0, .int .u8 0, .int .u8 0, .int .u8 1, .int .u8 0, .int .u8 0, .int .u8 0, .int .u8 97, .int .u8 0, .int .u8 1, .int .u8 0, .int .u8 0, .int .u8 0, .int .u8 7] (by rfl) 15 rfl (by omega)
  have a10 : Below w9.heap.size w9 (w9.alloc (.cells #[.int .u8 1, .int .u8 0, .int .u8 0, .int .u8 0, .int .u8 1, .int .u8 0, .int .u8 0, .int .u8 0, .int .u8 97, .int .u8 0, .int .u8 1, .int .u8 0, .int .u8 0, .int .u8 0, .int .u8 7] 5)) := (Below.refl _ _).alloc (Nat.le_refl _) _
  generalize w9.alloc (.cells #[.int .u8 1, .int .u8 0, .int .u8 0, .int .u8 0, .int .u8 1, .int .u8 0, .int .u8 0, .int .u8 0, .int .u8 97, .int .u8 0, .int .u8 1, .int .u8 0, .int .u8 0, .int .u8 0, .int .u8 7] 5) = W10 at *
  have b10 := b29.trans (a10.mono b29.size)
  have C10 := C9.below a10
  have D10 := D9.below a10
  have T10 := T9.below a10
  refine (same_any _ _ _ _ _ _ _ _ W10 (B9.below a10) q10).mono ?_
  rintro e w11 ⟨rfl, rfl⟩
  rw [show decide (bt.bytes [bt.ch1] = [1, 0, 0, 0, 1, 0, 0, 0, 97, 0, 1, 0, 0, 0, 7]) = true from decide_eq_true bt.live2]
  clear C9 D9 T9 B9 a10 q10 b29
  go_wp2_with fail
  refine (changes_any D10 C10).mono ?_
  rintro e w12 ⟨rfl, b12⟩
  rw [decide_eq_true (rfl : [bt.ch1] = [bt.ch1])]
  have b112 := b10.trans (b12.mono b10.size)
  have T12 := T10.below b12
  clear C10 D10 T10 b12 b10
  go_wp2_with fail
  obtain ⟨W13, hW13, b13, T13⟩ := live_row w12
  rw [hW13]
  refine (rows_any (T12.below b13) T13).mono ?_
  rintro e w14 ⟨rfl, b14⟩
  rw [decide_eq_true (rfl : [bt.ro2] = [bt.ro2])]
  have b114 := (b112.trans (b13.mono b112.size)).trans (b14.mono (b112.trans (b13.mono b112.size)).size)
  clear T12 T13 b13 b14 hW13 b112
  go_wp2_with fail
  go_ret
  exact ⟨rfl, b114⟩
end Go.Proofs.Ytlchfadfbepapaa
