/-
  cardexlaw08: BatchWay.
-/
import Derived.Test.YtlchfadfbepapaaLives08
namespace Go.Proofs.Ytlchfadfbepapaa
open Go.RowKit
namespace bt
theorem away_next {a b : List R} {i : Nat} (h : i < a.length) : away (a.take (i + 1)) b = away (a.take i) b + if find b a[i].key = some a[i].val then 0 else 1 := by
  unfold away
  rw [List.take_succ_eq_append_getElem h, List.countP_append, List.countP_singleton]
  by_cases hf : find b a[i].key = some a[i].val
  · rw [if_pos hf]; simp [hf]
  · rw [if_neg hf]; simp [hf]
theorem new_next {a b : List R} {i : Nat} (h : i < b.length) : new a (b.take (i + 1)) = new a (b.take i) + if (find a b[i].key).isSome then 0 else 1 := by
  unfold new
  rw [List.take_succ_eq_append_getElem h, List.countP_append, List.countP_singleton]
  cases hf : find a b[i].key with
  | none => simp
  | some v => simp
theorem away_le (a b : List R) : away a b ≤ a.length := List.countP_le_length
theorem new_le (a b : List R) : new a b ≤ b.length := List.countP_le_length
theorem findR_may {t : List R} (h : may t = true) (k : Key) : findR t k = find t k := by unfold findR; rw [if_pos h]
end bt
set_option maxHeartbeats 4000000 in
set_option maxRecDepth 100000 in
theorem way_no (A : Option Addr) (n c : Nat) (a : List bt.R) (B : Option Addr) (m d : Nat) (b : List bt.R) (w : World) (h : TS w A n c a) (h2 : TS w B m d b) (hk1 : ∀ r ∈ a, r.key.length ≤ 9223372036854775807) (hk2 : ∀ r ∈ b, r.key.length ≤ 9223372036854775807) (hn : n + m ≤ 1099511627774) (hno : (bt.may a && bt.may b) = false) :
    Calls Try.prog 7 #[.slice A n c, .slice B m d] w fun e w' => e = .returned (.bool true) ∧ Below w.heap.size w w' := by
  have PB := Lib.hid (cb_between a b h h2 hk1 hk2 hn)
  have PM := Lib.hid (fun W (x : Below w.heap.size w W) => cb_may a (h.below x) hk1 (by omega))
  have PM2 := Lib.hid (fun W (x : Below w.heap.size w W) => cb_may b (h2.below x) hk2 (by omega))
  have hb : bt.between a b = ([], 2) := by unfold bt.between; rw [hno]; rfl
  rw [hb] at PB
  cases ha : bt.may a with
  | false =>
    rw [ha] at PM
    clear hno hb ha
    go_enter Try.func7, Try.ntmps7
    go_wp2_with fail
    refine PB.out.mono ?_
    rintro e w1 ⟨⟨A1, c1, rfl, -⟩, b1⟩
    go_wp2_with fail
    refine (PM.out w1 b1).mono ?_
    rintro e w2 ⟨rfl, b2⟩
    have b12 := b1.trans (b2.mono b1.size)
    go_wp2_with fail
    refine (lives08_any w2).mono ?_
    rintro e w3 ⟨rfl, b3⟩
    go_wp2_with fail
    go_ret
    exact ⟨rfl, b12.trans (b3.mono b12.size)⟩
  | true =>
    have hbb : bt.may b = false := by rw [ha] at hno; simpa using hno
    rw [ha] at PM
    rw [hbb] at PM2
    clear hno hb ha hbb
    go_enter Try.func7, Try.ntmps7
    go_wp2_with fail
    refine PB.out.mono ?_
    rintro e w1 ⟨⟨A1, c1, rfl, -⟩, b1⟩
    go_wp2_with fail
    refine (PM.out w1 b1).mono ?_
    rintro e w2 ⟨rfl, b2⟩
    have b12 := b1.trans (b2.mono b1.size)
    go_wp2_with fail
    refine (PM2.out w2 b12).mono ?_
    rintro e w4 ⟨rfl, b4⟩
    have b14 := b12.trans (b4.mono b12.size)
    go_wp2_with fail
    refine (lives08_any w4).mono ?_
    rintro e w3 ⟨rfl, b3⟩
    go_wp2_with fail
    go_ret
    exact ⟨rfl, b14.trans (b3.mono b14.size)⟩
set_option maxHeartbeats 4000000 in
set_option maxRecDepth 100000 in
theorem walk_BatchWay (A : Option Addr) (n c : Nat) (a : List bt.R) (B : Option Addr) (m d : Nat) (b : List bt.R) (w : World)
    (h : TS w A n c a) (hn : n ≤ 1048576) (hs : ∀ r ∈ a, r.key.length ≤ 1048576 ∧ r.val.length ≤ 1048576) (h2 : TS w B m d b) (hm : m ≤ 1048576) (hs2 : ∀ r ∈ b, r.key.length ≤ 1048576 ∧ r.val.length ≤ 1048576) :
    Calls Try.prog 7 #[.slice A n c, .slice B m d] w fun e w' => e = .returned (.bool true) ∧ Below w.heap.size w w' := by
  have hk1 : ∀ r ∈ a, r.key.length ≤ 9223372036854775807 := fun r hr => Nat.le_trans (hs r hr).1 (by omega)
  have hk2 : ∀ r ∈ b, r.key.length ≤ 9223372036854775807 := fun r hr => Nat.le_trans (hs2 r hr).1 (by omega)
  by_cases hno : (bt.may a && bt.may b) = false
  · exact way_no A n c a B m d b w h h2 hk1 hk2 (by omega) hno
  have hyes : bt.may a = true ∧ bt.may b = true := by simpa using hno
  obtain ⟨ma, mb⟩ := hyes
  have hna := h.len
  have hnb := h2.len
  have hca := h.cap
  have hcb := h2.cap
  have hmxa := h.max
  have hmxb := h2.max
  obtain ⟨w1, e1⟩ := bt.apply_way ma mb
  obtain ⟨w2, e2⟩ := bt.apply_way (a := []) rfl mb
  have hbt : (bt.between a b).1 = bt.betweenL a b := by unfold bt.between; rw [ma, mb]; rfl
  have hbt2 : (bt.between [] b).1 = bt.betweenL [] b := by unfold bt.between; rw [mb]; rfl
  have hlen := bt.between_length a b (bt.may_sorted ma) (bt.may_sorted mb)
  have hlen2 := bt.between_length [] b List.Pairwise.nil (bt.may_sorted mb)
  have l1 := bt.away_le a b
  have l2 := bt.new_le a b
  have l3 := bt.away_le [] b
  have l4 := bt.new_le [] b
  simp only [List.length_nil] at l3
  have hc1 := bt.mayC_all _ none (bt.mayC_between a b none ma mb)
  have hc2 := bt.mayC_all _ none (bt.mayC_between [] b none rfl mb)
  have PB := Lib.hid (cb_between a b h h2 hk1 hk2 (by omega))
  have PM := Lib.hid (fun W (x : Below w.heap.size w W) => cb_may a (h.below x) hk1 (by omega))
  have PM2 := Lib.hid (fun W (x : Below w.heap.size w W) => cb_may b (h2.below x) hk2 (by omega))
  have PF1 := Lib.hid (fun W (x : Below w.heap.size w W) k => cb_find b k (h2.below x) hk2 (by omega))
  have PF2 := Lib.hid (fun W (x : Below w.heap.size w W) k => cb_find a k (h.below x) hk1 (by omega))
  have PW := Lib.hid (fun W (x : Below w.heap.size w W) => cb_whole b (h2.below x) hk2 (by omega))
  rw [hbt] at w1
  rw [hbt2] at w2
  simp only [hbt, e1] at PB
  simp only [hbt2, e2] at PW
  simp only [ma] at PM
  simp only [mb] at PM2
  simp only [bt.findR_may mb] at PF1
  simp only [bt.findR_may ma] at PF2
  have AP1 := Lib.hid (fun W (x : Below w.heap.size w W) (A' : Option Addr) (c' : Nat) (y : CS W A' (bt.betweenL a b).length c' (bt.betweenL a b)) => cb_apply a _ (h.below x) y (TO.all _ _ _) (CO.all _ _ _) (fun _ _ => trivial) hk1 (fun r hr => Nat.le_trans (hc1 r hr).1 (by omega)) (by omega))
  have AP2 := Lib.hid (fun W (A' : Option Addr) (c' : Nat) (y : CS W A' (bt.betweenL [] b).length c' (bt.betweenL [] b)) => cb_apply [] _ (TS.nil_ W) y (TO.all _ _ _) (CO.all _ _ _) (fun _ _ => trivial) (by simp) (fun r hr => Nat.le_trans (hc2 r hr).1 (by omega)) (by omega))
  rw [w1] at AP1
  rw [w2] at AP2
  obtain ⟨X1, hX1⟩ : ∃ X, bt.betweenL a b = X := ⟨_, rfl⟩
  obtain ⟨X2, hX2⟩ : ∃ X, bt.betweenL [] b = X := ⟨_, rfl⟩
  rw [hX1] at PB AP1 hlen
  rw [hX2] at PW AP2
  have HL := Lib.hid hlen
  clear hX1 hX2 hc1 hc2 hbt hbt2 w1 w2 e1 e2 hlen hlen2 l3 l4 hno ma mb hk1 hk2 hs hs2
  go_enter Try.func7, Try.ntmps7
  go_wp2_with fail
  refine PB.out.mono ?_
  rintro e w1 ⟨⟨A1, c1, rfl, C1⟩, b1⟩
  go_wp2_with fail
  refine (PM.out w1 b1).mono ?_
  rintro e w2 ⟨rfl, b2⟩
  have b12 := b1.trans (b2.mono b1.size)
  go_wp2_with fail
  refine (PM2.out w2 b12).mono ?_
  rintro e w4 ⟨rfl, b4⟩
  have b14 := b12.trans (b4.mono b12.size)
  have C4 := (C1.below b2).below b4
  clear PB PM PM2 C1 b1 b2 b4 b12
  go_wp2_with fail
  go_loopw [7, 8] (fun u t wr => ∃ i : Nat, t = .int .i64 i ∧ i ≤ n ∧ u = .int .i64 ((bt.away (a.take i) b : Nat) : Int) ∧ Below w.heap.size w wr ∧ Below w4.heap.size w4 wr) (fun _ t _ => n - (intOf t).toNat)
  case atStart => exact ⟨0, rfl, by omega, rfl, b14, Below.refl _ _⟩
  case round =>
    clear b14
    obtain ⟨i, rfl, hi, rfl, bb, bc⟩ := hrel
    have hle := bt.away_le (a.take i) b
    rw [List.length_take] at hle
    by_cases hlt : i < n
    · have hil : i < a.length := by omega
      obtain ⟨ga, oa, rfl, hga, hrow⟩ := h.has (by omega)
      obtain ⟨k0, Ai, ci, k1, kB⟩ := hrow i hil
      have hnx := bt.away_next (b := b) hil
      obtain ⟨x, hx⟩ : ∃ x, a[i] = x := ⟨_, rfl⟩
      rw [hx] at k0 k1 kB hnx
      obtain ⟨kk, vv⟩ := x
      simp only at k0 k1 kB hnx
      have q0 := (bb.cell (p := ⟨ga, oa + i * 2, none⟩) hga).trans k0
      have hvl := kB.len
      have HF := Lib.hid (PF1.out wr bb kk)
      have HN := Lib.hid hnx
      clear hx hrow hnx
      cases hf : bt.find b kk with
      | none =>
        rw [hf] at HF HN
        go_wp2_with fail
        refine HF.out.mono ?_
        rintro e w5 ⟨⟨v5, rfl, o5⟩, b5⟩
        have b15 := bb.trans (b5.mono bb.size)
        simp only [Option.isSome_none]
        go_wp2_with fail
        go_roundw
        case rel => exact ⟨i + 1, by go_num, by omega, by rw [HN.out, if_neg (by simp)]; go_num, b15, bc.trans (b5.mono bc.size)⟩
        case measure => simp [intOf]; omega
      | some v =>
        rw [hf] at HF HN
        go_wp2_with fail
        refine HF.out.mono ?_
        rintro e w5 ⟨⟨v5, rfl, o5⟩, b5⟩
        have b15 := bb.trans (b5.mono bb.size)
        simp only [Option.isSome_some]
        obtain ⟨A5, c5, rfl, B5⟩ := o5.form
        have q1 := (b15.cell (p := ⟨ga, oa + i * 2 + 1, none⟩) hga).trans k1
        have kB5 := kB.below b15
        go_wp2_with fail
        refine (same_any _ _ _ _ _ _ _ _ w5 B5 kB5).mono ?_
        rintro e w6 ⟨rfl, rfl⟩
        simp only [Option.getD_some]
        by_cases hv : v = vv
        · rw [decide_eq_true hv]
          go_wp2_with fail
          go_roundw
          case rel => exact ⟨i + 1, by go_num, by omega, by rw [HN.out, if_pos (by rw [hv]), Nat.add_zero], b15, bc.trans (b5.mono bc.size)⟩
          case measure => simp [intOf]; omega
        · rw [decide_eq_false hv]
          go_wp2_with fail
          go_roundw
          case rel => exact ⟨i + 1, by go_num, by omega, by rw [HN.out, if_neg (by simpa using hv)]; go_num, b15, bc.trans (b5.mono bc.size)⟩
          case measure => simp [intOf]; omega
    · obtain rfl : i = n := by omega
      rw [List.take_of_length_le (by omega)]
      have C5 := C4.below bc
      obtain ⟨U, hU⟩ : ∃ U, bt.away a b = U := ⟨_, rfl⟩
      have hUl : U ≤ i := by omega
      rw [hU] at HL ⊢
      clear C4 bc hle PF1 hlt l1 hU
      go_wp2_with fail
      go_loopw [7, 11] (fun u t w7 => ∃ j : Nat, t = .int .i64 j ∧ j ≤ m ∧ u = .int .i64 ((U + bt.new a (b.take j) : Nat) : Int) ∧ Below w.heap.size w w7 ∧ Below wr.heap.size wr w7) (fun _ t _ => m - (intOf t).toNat)
      case atStart => exact ⟨0, rfl, by omega, rfl, bb, Below.refl _ _⟩
      case round =>
        clear bb
        obtain ⟨j, rfl, hj, rfl, bb, bc⟩ := hrel
        have hle := bt.new_le a (b.take j)
        rw [List.length_take] at hle
        by_cases hlt : j < m
        · have hjl : j < b.length := by omega
          obtain ⟨gb, ob, rfl, hgb, hrow⟩ := h2.has (by omega)
          obtain ⟨k0, -⟩ := hrow j hjl
          have hnx := bt.new_next (a := a) hjl
          obtain ⟨kk, hkk⟩ : ∃ x, b[j].key = x := ⟨_, rfl⟩
          rw [hkk] at k0 hnx
          have q0 := (bb.cell (p := ⟨gb, ob + j * 2, none⟩) hgb).trans k0
          have HF := Lib.hid (PF2.out wr bb kk)
          have HN := Lib.hid hnx
          clear hkk hrow hnx
          cases hf : (bt.find a kk).isSome with
          | false =>
            rw [hf] at HF HN
            go_wp2_with fail
            refine HF.out.mono ?_
            rintro e w8 ⟨⟨v8, rfl, o8⟩, b8⟩
            have b18 := bb.trans (b8.mono bb.size)
            go_wp2_with fail
            go_roundw
            case rel => exact ⟨j + 1, by go_num, by omega, by rw [HN.out, if_neg (by simp)]; go_num, b18, bc.trans (b8.mono bc.size)⟩
            case measure => simp [intOf]; omega
          | true =>
            rw [hf] at HF HN
            go_wp2_with fail
            refine HF.out.mono ?_
            rintro e w8 ⟨⟨v8, rfl, o8⟩, b8⟩
            have b18 := bb.trans (b8.mono bb.size)
            go_wp2_with fail
            go_roundw
            case rel => exact ⟨j + 1, by go_num, by omega, by rw [HN.out, if_pos trivial, Nat.add_zero]; go_num, b18, bc.trans (b8.mono bc.size)⟩
            case measure => simp [intOf]; omega
        · obtain rfl : j = m := by omega
          rw [List.take_of_length_le (by omega)]
          have C7 := C5.below bc
          have hX := HL.out
          obtain ⟨V, hV⟩ : ∃ V, bt.new a b = V := ⟨_, rfl⟩
          rw [hV] at hX ⊢
          have hq : ((X1.length : Int) == (U : Int) + (V : Int)) = true := by rw [hX]; simp
          clear C5 bc hle PF2 hlt hV HL hX
          go_wp2_with fail
          refine (AP1.out wr bb _ _ C7).mono ?_
          rintro e w8 ⟨⟨A8, c8, rfl, T8, -⟩, b8⟩
          have b18 := bb.trans (b8.mono bb.size)
          go_wp2_with fail
          refine (PW.out w8 b18).mono ?_
          rintro e w9 ⟨⟨A9, c9, rfl, C9⟩, b9⟩
          have b19 := b18.trans (b9.mono b18.size)
          go_wp2_with fail
          refine (AP2.out w9 _ _ C9).mono ?_
          rintro e w10 ⟨⟨A10, c10, rfl, T10, -⟩, b10⟩
          have b110 := b19.trans (b10.mono b19.size)
          have T8' := (T8.below b9).below b10
          have TB := h2.below b110
          rw [hnb] at T8' T10 ⊢
          go_wp2_with fail
          refine (rows_any T8' TB).mono ?_
          rintro e w11 ⟨rfl, b11⟩
          rw [decide_eq_true (rfl : b = b)]
          have b111 := b110.trans (b11.mono b110.size)
          have T11 := T10.below b11
          have TB2 := h2.below b111
          clear AP1 AP2 PW T8 T8' TB T10 C9 C7 b8 b9 b10 b11 bb b18 b19
          go_wp2_with fail
          refine (rows_any T11 TB2).mono ?_
          rintro e w12 ⟨rfl, b12⟩
          rw [decide_eq_true (rfl : b = b)]
          have b112 := b111.trans (b12.mono b111.size)
          go_wp2_with fail
          refine (lives08_any w12).mono ?_
          rintro e w13 ⟨rfl, b13⟩
          go_wp2_with fail
          go_ret
          exact ⟨rfl, b112.trans (b13.mono b112.size)⟩
end Go.Proofs.Ytlchfadfbepapaa
