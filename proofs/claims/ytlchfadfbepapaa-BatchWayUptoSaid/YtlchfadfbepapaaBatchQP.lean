/-
  THE PROGRAM's batch: the bytes of changes (Put).
-/
import Derived.Test.YtlchfadfbepapaaBatchX
import Derived.Test.YtlchfadfbepapaaBatchP
namespace Go.Proofs.Ytlchfadfbepapaa
open Go.RowKit Go.Shelf
theorem grown_cellP {w w' : World} {row : Option Nat} (h : w.grownBy w' row) {b o : Nat} (hb : b < w.heap.size) (hr : row ≠ some b) : w'.cell? ⟨b, o, none⟩ = w.cell? ⟨b, o, none⟩ :=
  World.cell?_of_block (w := w) (h.block b hb (fun e => hr e.symm))
set_option maxHeartbeats 4000000 in
set_option maxRecDepth 100000 in
theorem putP_any (A : Option Addr) (n c : Nat) (l : List bt.C) (w : World) (h : CS w A n c l) (hk1 : ∀ r ∈ l, r.key.length ≤ 9223372036854775807) (hn : n < 4294967296) (hsz : bt.mayC l = true → (bt.bytes l).length ≤ 140737480000000) : Calls Try.prog 8 #[.slice A n c] w fun e w' => (∃ v, e = .returned (.tuple #[v, .int .i64 (if bt.mayC l then 0 else 2)]) ∧ OwnB 5 w' w.heap.size v (if bt.mayC l then bt.bytes l else [])) ∧ Below w.heap.size w w' := by
  obtain ⟨hzc, -⟩ := zero_of_info (show (Try.prog.info? 39).map (fun i => (i.zero, i.size)) = some (some (.agg #[str [], .slice none 0 0, .bool false]), 3) by kernel_rfl)
  have hlen := h.len
  have hcap := h.cap
  have hmax := h.max
  have HMAY := Lib.hid (fun W (g : CS W A n c l) => mayq_any A n c l W g hk1 (by omega))
  have H1 := Lib.hid h
  clear h hk1
  obtain ⟨i0, hi0, hz0, hz1, hz2⟩ := info_parts info_u8
  have hp : putOk n 4 = true := by simp [putOk, isSz]; omega
  have HPUT := Lib.hid (fun W => (put_any n 4 W).mono fun e w' h => (⟨h.2.1 hp, h.2.2⟩ : (∃ v, e = .returned (.tuple #[v, .int .i64 0]) ∧ OwnB 5 w' W.heap.size v (leBytes n 4)) ∧ Below W.heap.size W w'))
  have hwr : IntKind.u64.wrap (n : Int) = n := IntWalk.u64_in (n : Int) ⟨by omega, by omega⟩
  clear hp
  by_cases c1 : bt.mayC l = true
  · rw [c1] at HMAY
    have hsm := bt.mayC_all l none c1
    have hsz := hsz c1
    rw [if_pos c1, if_pos c1]
    clear c1
    go_enter Try.func8, Try.ntmps8
    go_wp2_with (first
      | (go_at_call 12; refine (HMAY.out _ (H1.out.below hb2)).mono ?_; rintro e w3 ⟨rfl, hb3⟩; have hb4 := hb2.trans (hb3.mono hb2.size); have hov := ho2.below hb3 (Nat.le_refl _))
      | (go_at_call 33; refine (HPUT.out _).mono ?_; rintro e w2 ⟨⟨v2, rfl, ho2⟩, hb2⟩))
    clear HMAY HPUT
    have hlt := bt.chgs_le l
    have hbl : (bt.bytes l).length = 4 + (l.flatMap bt.chgB).length := by simp [bt.bytes, leBytes_length]
    go_loopw [4, 24] (fun v s wr => ∃ i : Nat, s = .int .i64 i ∧ i ≤ n ∧ OwnB 5 wr w.heap.size v (leBytes n 4 ++ (l.take i).flatMap bt.chgB) ∧ Below w.heap.size w wr) (fun _ s _ => n - (intOf s).toNat)
    case atStart => exact ⟨0, rfl, by omega, by simpa using hov, hb4⟩
    case round =>
      clear hb2 hb3 hb4 hov ho2
      obtain ⟨i, rfl, hin, ho, hb⟩ := hrel
      by_cases hi : i < n
      · have hil : i < l.length := by omega
        have hN := bt.chgs_next hil
        obtain ⟨hk1, hv1⟩ := hsm _ (List.getElem_mem hil)
        have hpl : (leBytes n 4 ++ (l.take i).flatMap bt.chgB).length ≤ 140737480000000 := by
          have := hlt i
          simp only [List.length_append, leBytes_length]
          omega
        obtain ⟨b1, o1, rfl, ha1, hr1⟩ := H1.out.has (by omega)
        obtain ⟨p1, r1, X1, c1, q1, g1⟩ := hr1 i hil
        have p2 := (hb.cell (p := ⟨b1, o1 + i * 3, none⟩) ha1).trans p1
        have q2 := (hb.cell (p := ⟨b1, o1 + i * 3 + 1, none⟩) ha1).trans q1
        have r2 := (hb.cell (p := ⟨b1, o1 + i * 3 + 2, none⟩) ha1).trans r1
        obtain ⟨x, hx⟩ : ∃ r, l[i] = r := ⟨_, rfl⟩
        rw [hx] at q1 g1 p2 q2 r2 hN hk1 hv1
        clear hx hr1 p1 r1
        obtain ⟨kk, vv, gn⟩ := x
        simp only at q1 g1 p2 q2 r2 hk1 hv1
        have hN2 : leBytes n 4 ++ (l.take (i + 1)).flatMap bt.chgB = (leBytes n 4 ++ (l.take i).flatMap bt.chgB) ++ bt.chgB ⟨kk, vv, gn⟩ := by rw [hN, List.append_assoc]
        have HN := Lib.hid hN2
        obtain ⟨pre, hpre⟩ : ∃ q, leBytes n 4 ++ (l.take i).flatMap bt.chgB = q := ⟨_, rfl⟩
        rw [hpre] at ho hpl HN
        obtain ⟨mv, hmv⟩ : ∃ m, vv.length = m := ⟨_, rfl⟩
        have HRV := Lib.hid (fun W (hB : Below w.heap.size w W) => row_any X1 vv.length c1 vv W (g1.below hB) (by omega))
        have hrvl : (leBytes vv.length 4 ++ vv).length ≤ 1048580 := by rw [List.length_append, leBytes_length]; omega
        obtain ⟨rv, hrv⟩ : ∃ q, leBytes vv.length 4 ++ vv = q := ⟨_, rfl⟩
        obtain ⟨W0, hW0, x0, x1, x2, bW0, sW0⟩ := new3 wr (str kk) (.slice X1 mv c1) (.bool gn) 39
        have kc := fun W => run_convert_str (P := Try.prog) W 9 24 5 kk Try.underlying9 Try.underlying24 Try.underlying5
        have HRK := Lib.hid (row_any (some ⟨W0.heap.size, 0, none⟩) kk.length (bytesC 5 W0 kk) kk (bytesW 5 W0 kk) (bytesW_bs _ W0 kk (by omega)) (by omega))
        have hrkl : (leBytes kk.length 4 ++ kk).length ≤ 20 := by rw [List.length_append, leBytes_length]; omega
        obtain ⟨rk, hrk⟩ : ∃ q, leBytes kk.length 4 ++ kk = q := ⟨_, rfl⟩
        have HCH := Lib.hid (show bt.chgB ⟨kk, vv, gn⟩ = rk ++ (if gn then [1] else 0 :: rv) by unfold bt.chgB; rw [← hrk, ← hrv])
        rw [hrk] at HRK hrkl
        rw [hrv] at HRV hrvl
        rw [hmv] at q2 HRV
        have hbN := bW0.trans ((bytesW_below 5 W0 kk _ (Nat.le_refl _)).mono (by omega))
        have hbY := bytesW_below 5 W0 kk _ (Nat.le_refl _)
        have hbW := hb.trans (hbN.mono hb.size)
        have hoW := ho.below hbN (Nat.le_refl _)
        have hne := ho.lt
        have y1 := (hbY.cell (p := ⟨wr.heap.size, 1, none⟩) (by show wr.heap.size < _; omega)).trans x1
        have y2 := (hbY.cell (p := ⟨wr.heap.size, 2, none⟩) (by show wr.heap.size < _; omega)).trans x2
        have sY : wr.heap.size < (bytesW 5 W0 kk).heap.size := by have := hbY.size; omega
        have HW0 := Lib.hid hW0
        clear hN hN2 hpre hrk hrv hmv hlt hbl hsm ho q1 g1 hW0 x0 x1 x2 hbN hbY
        go_wp2_with fail
        rw [show wr.alloc (.cells #[.string { data := List.toArray kk }, .slice X1 mv c1, .bool gn] 39) = W0 from HW0.out]
        rw [sW0] at HRK
        refine HRK.out.mono ?_
        rintro e w3 ⟨v3, rfl, ho3, hb3⟩
        obtain ⟨A3, c3, rfl, hB3⟩ := ho3.form
        have hbb := hbW.trans (hb3.mono hbW.size)
        have hov := hoW.below hb3 (Nat.le_refl _)
        have s3 := Nat.lt_of_lt_of_le sY hb3.size
        have q3 := (hb3.cell (p := ⟨wr.heap.size, 1, none⟩) sY).trans y1
        have r3 := (hb3.cell (p := ⟨wr.heap.size, 2, none⟩) sY).trans y2
        have hnv : ∀ {u : Value}, (∀ k, u.ownBlock = some k → w.heap.size ≤ k ∧ k < wr.heap.size) → u.ownBlock ≠ some wr.heap.size := fun h e => by have := h _ e; omega
        have hnv := hnv hne
        clear y1 y2 sY hne hoW ho3 hb3 HRK
        cases gn with
        | true =>
          go_wp2_with (first
            | (at_builtin; refine wpList_append_bytes _ rfl (.tmp 28) (.tmp 32) 24 rfl 5 i0 Try.underlying24 hi0 hz0 hz1 hz2 w.heap.size _ _ rfl hov A3 _ c3 _ rfl hB3 (by omega) hbb.size ?_; intro v4 w4 ho4 hg4 hat4 _; have hb4 := OwnB.step hbb hov hg4 hbb.size; have q4 := (grown_cellP (o := 1) hg4 s3 hnv).trans q3; have r4 := (grown_cellP (o := 2) hg4 s3 hnv).trans r3; have s4 := Nat.lt_of_lt_of_le s3 hg4.size; have hl4 : (pre ++ rk).length ≤ 140737480000020 := (by rw [List.length_append]; omega); have hnv4 : v4.ownBlock ≠ some wr.heap.size := (fun e => hat4.elim (fun h => hnv (h.symm.trans e)) (fun h => by rw [h] at e; injection e with e; omega)))
            | (at_builtin; refine wpList_append_bytes _ rfl (.tmp 36) (.tmp 37) 24 rfl 5 i0 Try.underlying24 hi0 hz0 hz1 hz2 w.heap.size _ _ rfl (ho4.alloc _) _ 1 1 [1] rfl (BS.lit w4 _ [1] #[.int .u8 1] (by rfl) 1 rfl (by omega)) (by omega) (hb4.alloc hb4.size (.cells #[.int .u8 1] 5)).size ?_; intro v5 w5 ho5 hg5 _ _; have hb5 := OwnB.step (hb4.alloc hb4.size (.cells #[.int .u8 1] 5)) (ho4.alloc _) hg5 (hb4.alloc hb4.size (.cells #[.int .u8 1] 5)).size))
          go_roundw
          case rel => exact ⟨i + 1, by go_num, by omega, by rw [HN.out, HCH.out]; simpa using ho5, hb5⟩
          case measure => simp [intOf]; omega
        | false =>
          go_wp2_with (first
            | (go_at_call 34; refine (HRV.out _ hb5).mono ?_; rintro e w6 ⟨v6, rfl, ho6, hb6⟩; obtain ⟨A6, c6, rfl, hB6⟩ := ho6.form; have hbb6 := hb5.trans (hb6.mono hb5.size); have hov6 := ho5.below hb6 (Nat.le_refl _))
            | (at_builtin; refine wpList_append_bytes _ rfl (.tmp 28) (.tmp 32) 24 rfl 5 i0 Try.underlying24 hi0 hz0 hz1 hz2 w.heap.size _ _ rfl hov A3 _ c3 _ rfl hB3 (by omega) hbb.size ?_; intro v4 w4 ho4 hg4 hat4 _; have hb4 := OwnB.step hbb hov hg4 hbb.size; have q4 := (grown_cellP (o := 1) hg4 s3 hnv).trans q3; have r4 := (grown_cellP (o := 2) hg4 s3 hnv).trans r3; have s4 := Nat.lt_of_lt_of_le s3 hg4.size; have hl4 : (pre ++ rk).length ≤ 140737480000020 := (by rw [List.length_append]; omega); have hnv4 : v4.ownBlock ≠ some wr.heap.size := (fun e => hat4.elim (fun h => hnv (h.symm.trans e)) (fun h => by rw [h] at e; injection e with e; omega)))
            | (at_builtin; refine wpList_append_bytes _ rfl (.tmp 39) (.tmp 40) 24 rfl 5 i0 Try.underlying24 hi0 hz0 hz1 hz2 w.heap.size _ _ rfl (ho4.alloc _) _ 1 1 [0] rfl (BS.lit w4 _ [0] #[.int .u8 0] (by rfl) 1 rfl (by omega)) (by omega) (hb4.alloc hb4.size (.cells #[.int .u8 0] 5)).size ?_; intro v5 w5 ho5 hg5 _ _; have hb5 := OwnB.step (hb4.alloc hb4.size (.cells #[.int .u8 0] 5)) (ho4.alloc _) hg5 (hb4.alloc hb4.size (.cells #[.int .u8 0] 5)).size; have q5 := (grown_cellP (o := 1) hg5 (by simp; omega) hnv4).trans ((World.cell?_alloc_lt w4 (.cells #[.int .u8 0] 5) ⟨wr.heap.size, 1, none⟩ s4).trans q4); have hl5 : (pre ++ rk ++ [0]).length ≤ 140737480000021 := (by rw [List.length_append]; simp; omega))
            | (at_builtin; refine wpList_append_bytes _ rfl (.tmp 42) (.tmp 45) 24 rfl 5 i0 Try.underlying24 hi0 hz0 hz1 hz2 w.heap.size _ _ rfl hov6 A6 _ c6 _ rfl hB6 (by omega) hbb6.size ?_; intro v7 w7 ho7 hg7 _ _; have hb7 := OwnB.step hbb6 hov6 hg7 hbb6.size))
          go_roundw
          case rel => exact ⟨i + 1, by go_num, by omega, by rw [HN.out, HCH.out]; simpa using ho7, hb7⟩
          case measure => simp [intOf]; omega
      · have hie : i = n := by omega
        rw [List.take_of_length_le (by omega)] at ho
        have hres : bt.bytes l = leBytes n 4 ++ l.flatMap bt.chgB := by unfold bt.bytes; rw [hlen]
        rw [← hres] at ho
        clear hie hres hsm hlt hbl
        go_wp2_with fail
        go_ret2
        exact ⟨⟨_, rfl, ho⟩, hb⟩
  · have c1' : bt.mayC l = false := by simpa using c1
    rw [c1'] at HMAY
    rw [if_neg c1, if_neg c1]
    clear c1 c1'
    go_enter Try.func8, Try.ntmps8
    go_wp2_with (first
      | (go_at_call 12; refine (HMAY.out _ (H1.out.below hb2)).mono ?_; rintro e w3 ⟨rfl, hb3⟩; have hb4 := hb2.trans (hb3.mono hb2.size))
      | (go_at_call 33; refine (HPUT.out _).mono ?_; rintro e w2 ⟨⟨v2, rfl, ho2⟩, hb2⟩))
    go_ret2
    exact ⟨⟨_, rfl, OwnB.nil_ _ _ _⟩, hb4⟩
end Go.Proofs.Ytlchfadfbepapaa
