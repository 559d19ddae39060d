/-
  cardexref08's Put.
-/
import Derived.Test.YtlchfadfbepapaaBatchM2
import Derived.Test.YtlchfadfbepapaaRowz
import Derived.WalkMore
namespace Go.Proofs.Ytlchfadfbepapaa
open Go.RowKit
namespace bt
/-- a change's bytes -/
def chgB (x : C) : List UInt8 := leBytes x.key.length 4 ++ x.key ++ (if x.gone then [1] else 0 :: (leBytes x.val.length 4 ++ x.val))
/-- a batch's bytes -/
def bytes (l : List C) : List UInt8 := leBytes l.length 4 ++ l.flatMap chgB
theorem chgs_next {l : List C} {i : Nat} (h : i < l.length) : (l.take (i + 1)).flatMap chgB = (l.take i).flatMap chgB ++ chgB l[i] := by
  rw [List.take_add_one, List.getElem?_eq_getElem h, Option.toList_some, List.flatMap_append]
  simp
theorem chgs_le (l : List C) (i : Nat) : ((l.take i).flatMap chgB).length ≤ (l.flatMap chgB).length := by
  have h : l.flatMap chgB = (l.take i).flatMap chgB ++ (l.drop i).flatMap chgB := by rw [← List.flatMap_append, List.take_append_drop]
  rw [h, List.length_append]
  omega
theorem keyOk_len {k : Key} (h : keyOk k = true) : k.length ≤ 16 := by
  unfold keyOk at h
  simp only [Bool.and_eq_true, decide_eq_true_eq] at h
  exact h.2
theorem mayC_all : ∀ (l : List C) (p : Option Key), mayCFrom p l = true → ∀ x ∈ l, x.key.length ≤ 16 ∧ x.val.length ≤ 1048576
  | [], _, _, x, hx => by cases hx
  | y :: l, p, h, x, hx => by
    unfold mayCFrom at h
    simp only [Bool.and_eq_true, decide_eq_true_eq] at h
    rcases List.mem_cons.1 hx with rfl | hx
    · exact ⟨keyOk_len h.1.1.1.1, h.1.1.1.2⟩
    · exact mayC_all l _ h.2 x hx
end bt
set_option maxHeartbeats 4000000 in
set_option maxRecDepth 100000 in
theorem rputB_any (A : Option Addr) (n c : Nat) (l : List bt.C) (w : World) (h : CS w A n c l) (hk1 : ∀ r ∈ l, r.key.length ≤ 9223372036854775807) (hn : n < 4294967296) (hsz : bt.mayC l = true → (bt.bytes l).length ≤ 140737480000000) : Calls Try.prog 9 #[.slice A n c] w fun e w' => (∃ v, e = .returned (.tuple #[v, .int .i64 (if bt.mayC l then 0 else 2)]) ∧ OwnB 5 w' w.heap.size v (if bt.mayC l then bt.bytes l else [])) ∧ Below w.heap.size w w' := by
  have hlen := h.len
  have hcap := h.cap
  have hmax := h.max
  have HMAY := Lib.hid (fun W (g : CS W A n c l) => rmayC_any A n c l W g hk1)
  have H1 := Lib.hid h
  clear h hk1
  by_cases c1 : bt.mayC l = true
  · rw [c1] at HMAY
    have hsm := bt.mayC_all l none c1
    have hsz := hsz c1
    rw [if_pos c1, if_pos c1]
    clear c1
    obtain ⟨i0, hi0, hz0, hz1, hz2⟩ := info_parts info_u8
    have hp : putOk n 4 = true := by simp [putOk, isSz]; omega
    have HPUT := Lib.hid (fun W => (rput_any n 4 W (by omega)).mono fun e w' h => (⟨h.2.1 hp, h.2.2⟩ : (∃ v, e = .returned (.tuple #[v, .int .i64 0]) ∧ OwnB 5 w' W.heap.size v (leBytes n 4)) ∧ Below W.heap.size W w'))
    have hwr : IntKind.u64.wrap (n : Int) = n := by
      have := IntWalk.u64_in (n : Int) ⟨by omega, by omega⟩
      exact this
    clear hp
    go_enter Try.func9, Try.ntmps9
    go_wp2_with (first
      | (go_at_call 13; refine (HMAY.out _ H1.out).mono ?_; rintro e w1 ⟨rfl, hb1⟩)
      | (go_at_call 35; refine (HPUT.out _).mono ?_; rintro e w2 ⟨⟨v2, rfl, ho2⟩, hb2⟩))
    clear HMAY HPUT
    have hb3 := hb1.trans (hb2.mono hb1.size)
    have hov := ho2.mono hb1.size
    have hlt := bt.chgs_le l
    have hbl : (bt.bytes l).length = 4 + (l.flatMap bt.chgB).length := by simp [bt.bytes, leBytes_length]
    go_loopw [4, 6] (fun v s wr => ∃ i : Nat, s = .int .i64 i ∧ i ≤ n ∧ OwnB 5 wr w.heap.size v (leBytes n 4 ++ (l.take i).flatMap bt.chgB) ∧ Below w.heap.size w wr) (fun _ s _ => n - (intOf s).toNat)
    case atStart => exact ⟨0, rfl, by omega, by simpa using hov, hb3⟩
    case round =>
      clear hb1 hb2 hb3 hov ho2
      obtain ⟨i, rfl, hin, ho, hb⟩ := hrel
      by_cases hi : i < n
      · have hil : i < l.length := by omega
        have hN := bt.chgs_next hil
        obtain ⟨hk1, hv1⟩ := hsm _ (List.getElem_mem hil)
        have hpl : (leBytes n 4 ++ (l.take i).flatMap bt.chgB).length ≤ 140737480000000 := by
          have := hlt i
          simp only [List.length_append, leBytes_length]
          omega
        obtain ⟨b1, o1, rfl, ha1, hr1⟩ := H1.out.has (by omega)
        obtain ⟨p1, r1, X1, c1, q1, g1⟩ := hr1 i hil
        have p2 := (hb.cell (p := ⟨b1, o1 + i * 3, none⟩) ha1).trans p1
        have q2 := (hb.cell (p := ⟨b1, o1 + i * 3 + 1, none⟩) ha1).trans q1
        have r2 := (hb.cell (p := ⟨b1, o1 + i * 3 + 2, none⟩) ha1).trans r1
        obtain ⟨x, hx⟩ : ∃ r, l[i] = r := ⟨_, rfl⟩
        rw [hx] at p1 q1 g1 r1 p2 q2 r2 hN hk1 hv1
        clear hx hr1
        obtain ⟨kk, vv, gn⟩ := x
        simp only at p1 q1 g1 r1 p2 q2 r2 hk1 hv1
        have hN2 : leBytes n 4 ++ (l.take (i + 1)).flatMap bt.chgB = (leBytes n 4 ++ (l.take i).flatMap bt.chgB) ++ bt.chgB ⟨kk, vv, gn⟩ := by rw [hN, List.append_assoc]
        have HN := Lib.hid hN2
        obtain ⟨pre, hpre⟩ : ∃ q, leBytes n 4 ++ (l.take i).flatMap bt.chgB = q := ⟨_, rfl⟩
        rw [hpre] at ho hpl HN
        have kc := fun W => run_convert_str (P := Try.prog) W 9 24 5 kk Try.underlying9 Try.underlying24 Try.underlying5
        have HRK := Lib.hid (rrow_any (some ⟨wr.heap.size, 0, none⟩) kk.length (bytesC 5 wr kk) kk (bytesW 5 wr kk) (bytesW_bs _ wr kk (by omega)) (by omega))
        have HRV := Lib.hid (fun W (hB : Below w.heap.size w W) => rrow_any X1 vv.length c1 vv W (g1.below hB) (by omega))
        have hrkl : (leBytes kk.length 4 ++ kk).length ≤ 20 := by rw [List.length_append, leBytes_length]; omega
        have hrvl : (leBytes vv.length 4 ++ vv).length ≤ 1048580 := by rw [List.length_append, leBytes_length]; omega
        obtain ⟨rk, hrk⟩ : ∃ q, leBytes kk.length 4 ++ kk = q := ⟨_, rfl⟩
        obtain ⟨rv, hrv⟩ : ∃ q, leBytes vv.length 4 ++ vv = q := ⟨_, rfl⟩
        have HCH := Lib.hid (show bt.chgB ⟨kk, vv, gn⟩ = rk ++ (if gn then [1] else 0 :: rv) by unfold bt.chgB; rw [← hrk, ← hrv])
        rw [hrk] at HRK hrkl
        rw [hrv] at HRV hrvl
        have hbW := hb.trans ((bytesW_below 5 wr kk _ (Nat.le_refl _)).mono hb.size)
        have hoW := ho.below (bytesW_below 5 wr kk _ (Nat.le_refl _)) (Nat.le_refl _)
        obtain ⟨mv, hmv⟩ : ∃ m, vv.length = m := ⟨_, rfl⟩
        rw [hmv] at q1 q2 g1 HRV
        have q0 := q1
        have r0 := r1
        clear hN hN2 hpre hrk hrv hmv hlt hbl hsm p1 q1 r1 ho
        cases gn with
        | true =>
          go_wp2_with (first
            | (go_at_call 36; refine HRK.out.mono ?_; rintro e w3 ⟨v3, rfl, ho3, hb3⟩; obtain ⟨A3, c3, rfl, hB3⟩ := ho3.form; have hbb := hbW.trans (hb3.mono hbW.size); have hov := hoW.below hb3 (Nat.le_refl _))
            | (at_builtin; refine wpList_append_bytes _ rfl (.tmp 23) (.tmp 30) 24 rfl 5 i0 Try.underlying24 hi0 hz0 hz1 hz2 w.heap.size _ _ rfl hov A3 _ c3 _ rfl hB3 (by first | omega | (simp only [List.length_append, List.length_cons, List.length_nil]; omega)) hbb.size ?_; intro v4 w4 ho4 hg4 _ _; have hb4 := OwnB.step hbb hov hg4 hbb.size; have q4 := (hb4.cell (p := ⟨b1, o1 + i * 3 + 1, none⟩) ha1).trans q0; have r4 := (hb4.cell (p := ⟨b1, o1 + i * 3 + 2, none⟩) ha1).trans r0)
            | (at_builtin; refine wpList_append_bytes _ rfl (.tmp 37) (.tmp 38) 24 rfl 5 i0 Try.underlying24 hi0 hz0 hz1 hz2 w.heap.size _ _ rfl (ho4.alloc _) _ 1 1 [1] rfl (BS.lit w4 _ [1] #[.int .u8 1] (by rfl) 1 rfl (by omega)) (by rw [List.length_append]; omega) (hb4.alloc hb4.size (.cells #[.int .u8 1] 5)).size ?_; intro v5 w5 ho5 hg5 _ _; have hb5 := OwnB.step (hb4.alloc hb4.size (.cells #[.int .u8 1] 5)) (ho4.alloc _) hg5 (hb4.alloc hb4.size (.cells #[.int .u8 1] 5)).size))
          go_roundw
          case rel => exact ⟨i + 1, by go_num, by omega, by rw [HN.out, HCH.out]; simpa using ho5, hb5⟩
          case measure => simp [intOf]; omega
        | false =>
          go_wp2_with (first
            | (go_at_call 36; refine (HRV.out _ hb5).mono ?_; rintro e w6 ⟨v6, rfl, ho6, hb6⟩; obtain ⟨A6, c6, rfl, hB6⟩ := ho6.form; have hbb6 := hb5.trans (hb6.mono hb5.size); have hov6 := ho5.below hb6 (Nat.le_refl _))
            | (go_at_call 36; refine HRK.out.mono ?_; rintro e w3 ⟨v3, rfl, ho3, hb3⟩; obtain ⟨A3, c3, rfl, hB3⟩ := ho3.form; have hbb := hbW.trans (hb3.mono hbW.size); have hov := hoW.below hb3 (Nat.le_refl _); obtain ⟨q3, r3⟩ := (⟨(hbb.cell (p := ⟨b1, o1 + i * 3 + 1, none⟩) ha1).trans q0, (hbb.cell (p := ⟨b1, o1 + i * 3 + 2, none⟩) ha1).trans r0⟩ : w3.cell? ⟨b1, o1 + i * 3 + 1, none⟩ = _ ∧ w3.cell? ⟨b1, o1 + i * 3 + 2, none⟩ = _))
            | (at_builtin; refine wpList_append_bytes _ rfl (.tmp 23) (.tmp 30) 24 rfl 5 i0 Try.underlying24 hi0 hz0 hz1 hz2 w.heap.size _ _ rfl hov A3 _ c3 _ rfl hB3 (by first | omega | (simp only [List.length_append, List.length_cons, List.length_nil]; omega)) hbb.size ?_; intro v4 w4 ho4 hg4 _ _; have hb4 := OwnB.step hbb hov hg4 hbb.size; have q4 := (hb4.cell (p := ⟨b1, o1 + i * 3 + 1, none⟩) ha1).trans q0; have r4 := (hb4.cell (p := ⟨b1, o1 + i * 3 + 2, none⟩) ha1).trans r0)
            | (at_builtin; refine wpList_append_bytes _ rfl (.tmp 40) (.tmp 41) 24 rfl 5 i0 Try.underlying24 hi0 hz0 hz1 hz2 w.heap.size _ _ rfl (ho4.alloc _) _ 1 1 [0] rfl (BS.lit w4 _ [0] #[.int .u8 0] (by rfl) 1 rfl (by omega)) (by rw [List.length_append]; omega) (hb4.alloc hb4.size (.cells #[.int .u8 0] 5)).size ?_; intro v5 w5 ho5 hg5 _ _; have hb5 := OwnB.step (hb4.alloc hb4.size (.cells #[.int .u8 0] 5)) (ho4.alloc _) hg5 (hb4.alloc hb4.size (.cells #[.int .u8 0] 5)).size; have q5 := (hb5.cell (p := ⟨b1, o1 + i * 3 + 1, none⟩) ha1).trans q0)
            | (at_builtin; refine wpList_append_bytes _ rfl (.tmp 43) (.tmp 49) 24 rfl 5 i0 Try.underlying24 hi0 hz0 hz1 hz2 w.heap.size _ _ rfl hov6 A6 _ c6 _ rfl hB6 (by first | omega | (simp only [List.length_append, List.length_cons, List.length_nil]; omega)) hbb6.size ?_; intro v7 w7 ho7 hg7 _ _; have hb7 := OwnB.step hbb6 hov6 hg7 hbb6.size))
          go_roundw
          case rel => exact ⟨i + 1, by go_num, by omega, by rw [HN.out, HCH.out]; simpa using ho7, hb7⟩
          case measure => simp [intOf]; omega
      · have hie : i = n := by omega
        rw [List.take_of_length_le (by omega)] at ho
        have hres : bt.bytes l = leBytes n 4 ++ l.flatMap bt.chgB := by unfold bt.bytes; rw [hlen]
        rw [← hres] at ho
        clear hie hres hsm hlt hbl
        go_wp2_with fail
        go_ret2
        exact ⟨⟨_, rfl, ho⟩, hb⟩
  · have c1' : bt.mayC l = false := by simpa using c1
    rw [c1'] at HMAY
    rw [if_neg c1, if_neg c1]
    clear c1 c1'
    go_enter Try.func9, Try.ntmps9
    go_wp2_with (first
      | (go_at_call 13; refine (HMAY.out _ H1.out).mono ?_; rintro e w1 ⟨rfl, hb1⟩))
    go_ret2
    exact ⟨⟨_, rfl, OwnB.nil_ _ _ _⟩, hb1⟩
end Go.Proofs.Ytlchfadfbepapaa
