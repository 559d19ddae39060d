/-
  THE PROGRAM's journal: a batch is laid behind those of a head.
-/
import Derived.Test.YtknndmhkfonfmaaGreatDoorM5
import Derived.Test.YtknndmhkfonfmaaGreatDoorM6
import Derived.Test.YtknndmhkfonfmaaGreatDoorM3
import Derived.Test.YtknndmhkfonfmaaGreatDoorM4
namespace Go.Proofs.YtknndmhkfonfmaaGreatDoor
open Go.RowKit Go.Shelf
variable {w w' : World} {F : List Nat} {d : Value} {s : dk.St}
theorem CD.drewN' (h : CD w F d s) (n : Nat) : CD (w.drewN n) F d s := h.keep (fun _ _ => rfl)
theorem JM.drewN {p : Nat} {k : hd.H} (m : JM w p d k) (n : Nat) : JM (w.drewN n) p d k := m
theorem cj_none {p q : Nat} {k : hd.H} (hd0 : d = .pointer (some ⟨q, 0, none⟩)) (m : JM w p d k) : Calls Tryz.prog 50 #[.pointer (some ⟨p, 0, none⟩)] w fun e w' => e = .returned (.bool false) ∧ w = w' := by
  subst hd0
  have c0 := m.c0
  go_enter Tryz.func50, Tryz.ntmps50
  go_wp2_with fail
  go_ret
  exact ⟨rfl, rfl⟩
/-- blocks of other types were written -/
theorem StepsOf.keepT {fs : List FV} {L : List jn.Op} (h : StepsOf w F d fs L) (hk : ∀ (q : Nat) (cs : Array Value) (t : TypeId), w.heap[q]? = some (.cells cs t (0, 0)) → t = 23 ∨ t = 3 ∨ t = 43 → w'.heap[q]? = w.heap[q]?) : StepsOf w' F d fs L :=
  ⟨h.1, fun i hi o ho => by
    have h0 := h.2 i hi o ho
    cases o with
    | fl => exact h0
    | wr n b =>
      obtain ⟨D, T, I, B, a, i, h1, h2, h3, h4, h5, hD, hT, hI, hB, n1, n2, n3, n4⟩ := h0
      exact ⟨D, T, I, B, a, i, h1, h2, h3, h4, h5, (hk _ _ _ hD (.inl rfl)).trans hD, (hk _ _ _ hT (.inr (.inl rfl))).trans hT, (hk _ _ _ hI (.inr (.inl rfl))).trans hI, (hk _ _ _ hB (.inr (.inr rfl))).trans hB, n1, n2, n3, n4⟩⟩
theorem jn.rds_two (s : jn.St) : jn.rds s 0 2 = [jn.rd s 0, jn.rd s 1] := rfl
namespace jn
/-- what a batch laid behind those of a head comes to -/
def addR (s : St) (h : hd.H) (b : List UInt8) : Int × St :=
  if 1048576 < b.length then (3, s) else if s.black then (9, s) else if half s < h.blocks + (blocks b).length then (10, s)
  else runOps s (layOps (rd s 0) (rd s 1) (wrs (first s h.bank + h.blocks) (blocks b) ++ [.fl]) ⟨h.bank, h.blocks + (blocks b).length, h.batches + 1⟩)
end jn
set_option maxHeartbeats 8000000 in
set_option maxRecDepth 100000 in
theorem cj_add {p q : Nat} {k h : hd.H} (hd0 : d = .pointer (some ⟨q, 0, none⟩)) (hm : JM w p d k) (hpF : p ∉ F) (hD : CD w F d s) (ht : Tabs w) (hbk : h.bank.toNat ≤ 1) (hfit : h.blocks ≤ jn.half s) (hba : h.batches ≤ h.blocks)
    {A : Option Addr} {n cp : Nat} {b : List UInt8} (hB : BS w A n cp b) (hmany : s.many + 4200 < 1048576 ∧ s.L.length + 4200 < 1048576)
    (hput : s.black = false → ¬ 1048576 < b.length → ¬ jn.half s < h.blocks + (jn.blocks b).length → (hd.put (jn.nx (jn.rd s 0) (jn.rd s 1)).1 ⟨h.bank, h.blocks + (jn.blocks b).length, h.batches + 1⟩).2 = 0) :
    Calls Tryz.prog 51 #[.pointer (some ⟨p, 0, none⟩), hd.val h, .slice A n cp] w fun e w' =>
      ∃ F', e = .returned (.int .i64 (jn.addR s h b).1) ∧ CD w' F' d (jn.addR s h b).2 ∧ JM w' p d (if (jn.addR s h b).1 = 0 then ⟨h.bank, h.blocks + (jn.blocks b).length, h.batches + 1⟩ else k) ∧ Chg w w' (p :: F) ∧ Sub w F' F := by
  have hok := hD.ok
  have hhalf := jn.half_le hok
  have h64 := hok.some
  have hmost := hok.most
  have hpw := hm.lt
  have hblen := hB.len
  have hbcap := hB.cap
  have hbmax := hB.max
  have hbsm := hB.small
  have m1 := HM.new w 53 h
  have b1 : Below w.heap.size w (w.alloc (.cells #[bv h.bank, .int .u32 h.blocks, .int .u32 h.batches] 53)) := (Below.refl _ _).alloc (Nat.le_refl _) _
  obtain ⟨W1, hW1⟩ : ∃ W1, (w.alloc (.cells #[bv h.bank, .int .u32 h.blocks, .int .u32 h.batches] 53)) = W1 := ⟨_, rfl⟩
  rw [hW1] at m1 b1
  obtain ⟨H, hH⟩ : ∃ H, w.heap.size = H := ⟨_, rfl⟩
  rw [hH] at m1
  have hHw : w.heap.size ≤ H := by omega
  have hm1 := hm.below b1 hm.lt
  have hD1 := hD.below b1
  have hDk := Lib.hid hD
  have hadd : jn.addR s h b = if 1048576 < b.length then (3, s) else if s.black then (9, s) else if jn.half s < h.blocks + (jn.blocks b).length then (10, s)
    else jn.runOps s (jn.layOps (jn.rd s 0) (jn.rd s 1) (jn.wrs (jn.first s h.bank + h.blocks) (jn.blocks b) ++ [.fl]) ⟨h.bank, h.blocks + (jn.blocks b).length, h.batches + 1⟩) := rfl
  have HADD := Lib.hid hadd
  obtain ⟨R, hR⟩ : ∃ R, jn.addR s h b = R := ⟨_, rfl⟩
  rw [hR] at HADD ⊢
  obtain ⟨KK, hKK⟩ : ∃ KK, (if R.1 = 0 then (⟨h.bank, h.blocks + (jn.blocks b).length, h.batches + 1⟩ : hd.H) else k) = KK := ⟨_, rfl⟩
  rw [hKK]
  have HKK := Lib.hid hKK
  clear hadd hR hKK hD
  have c0 := hm1.c0
  have HDARK := Lib.hid (cd_dark hD1)
  obtain ⟨bl, hbl⟩ : ∃ bl, s.black = bl := ⟨_, rfl⟩
  rw [hbl] at HDARK
  by_cases hbig : 1048576 < n
  · have hbig' : (1048576 : Int) < (n : Int) := by omega
    have h1 := HADD.out
    rw [if_pos (by omega)] at h1
    have H1 := Lib.hid h1
    have h2 := HKK.out
    rw [h1, if_neg (show ¬ (3 : Int) = 0 by decide)] at h2
    subst hd0
    subst h2
    clear HADD HDARK hput hbl h1
    go_enter Tryz.func51, Tryz.ntmps51
    go_wp2_with fail
    go_ret
    exact ⟨F, by rw [H1.out]; rfl, by rw [H1.out]; exact hD1, hm1, Chg.of_below b1 _, Sub.refl _ _⟩
  · have hbig' : ¬ (1048576 : Int) < (n : Int) := by omega
    have h1 := HADD.out
    rw [if_neg (by omega)] at h1
    have HADD := Lib.hid h1
    clear h1
    cases bl with
    | true =>
      have h1 := HADD.out
      rw [if_pos hbl] at h1
      have H1 := Lib.hid h1
      have h2 := HKK.out
      rw [h1, if_neg (show ¬ (9 : Int) = 0 by decide)] at h2
      subst hd0
      subst h2
      clear HADD hput hbl h1 hHw
      go_enter Tryz.func51, Tryz.ntmps51
      go_wp2_with fail
      refine HDARK.out.mono ?_
      rintro e w2 ⟨rfl, rfl⟩
      go_wp2_with fail
      go_ret
      exact ⟨F, by rw [H1.out]; rfl, by rw [H1.out]; exact hD1, hm1, Chg.of_below b1 _, Sub.refl _ _⟩
    | false =>
      have h1 := HADD.out
      rw [if_neg (by rw [hbl]; decide)] at h1
      have HADD := Lib.hid h1
      clear h1
      have HROW := Lib.hid (fun W (hb' : Below w.heap.size w W) => row_any A n cp b W (hB.below hb') (by omega))
      have hbl2 := jn.blocks_length b
      have hcp := jn.count_pos b.length
      have hbls := jn.blocks_len b
      have hfb : jn.blocks b = jn.firstB (leBytes n 4 ++ b) (jn.count (n + 4)) := by
        unfold jn.blocks jn.firstB jn.rowOf
        rw [hblen, List.length_append, leBytes_length, hblen, Nat.add_comm 4 n]
      have HFB := Lib.hid hfb
      have hrl : (leBytes n 4 ++ b).length = n + 4 := by rw [List.length_append, leBytes_length, hblen]; omega
      have HRL := Lib.hid hrl
      have HCNT := Lib.hid (show (jn.blocks b).length = jn.count (n + 4) by rw [hbl2, hblen])
      have hcm : (jn.blocks b).length ≤ 8193 := by rw [hbl2, hblen]; unfold jn.count; omega
      have hcm1 : 1 ≤ (jn.blocks b).length := by rw [hbl2]; omega
      obtain ⟨BS_, hBS⟩ : ∃ l, jn.blocks b = l := ⟨_, rfl⟩
      rw [hBS] at HFB HCNT hcm hcm1 hbls HADD HKK hput
      obtain ⟨M, hM⟩ : ∃ M, BS_.length = M := ⟨_, rfl⟩
      rw [hM] at HCNT hcm hcm1 HADD HKK hput
      have HM_ := Lib.hid hM
      have hput := hput hbl (by omega)
      clear hfb hrl hbl2 hcp hBS hM
      have hatl : jn.first s h.bank ≤ 2049 := by
        rw [jn.first]
        have : h.bank.toNat * jn.half s ≤ 1 * 2047 := Nat.mul_le_mul hbk hhalf
        omega
      subst hd0
      have HB0 := Lib.hid hB
      clear hB
      have hww : IntKind.i64.wrap (h.blocks : Int) = (h.blocks : Int) := IntWalk.i64_in _ ⟨by omega, by omega⟩
      have HSIZE := Lib.hid (fun W n (hb' : Below w.heap.size w W) => cj_size ((hDk.out.below hb').drewN' n))
      go_enter Tryz.func51, Tryz.ntmps51
      go_wp2_with fail
      refine HDARK.out.mono ?_
      rintro e w2 ⟨rfl, rfl⟩
      clear HDARK
      go_wp2_with fail
      refine (HROW.out _ b1).mono ?_
      rintro e w2 ⟨v2, rfl, o2, b2⟩
      have b12 := b1.trans (b2.mono b1.size)
      have m2 := m1.below b2 m1.lt
      have hm2 := hm1.below b2 hm1.lt
      rcases o2 with ⟨_, hnil⟩ | ⟨g2, r2, rfl, hg2, ho2, ho3, ho4⟩
      · have := HRL.out
        rw [hnil] at this
        simp at this
      have hB2 : BS w2 (some ⟨g2, 0, none⟩) (leBytes n 4 ++ b).length ((leBytes n 4 ++ b).length + r2.length) (leBytes n 4 ++ b) := OwnB.bs (.inr ⟨g2, r2, rfl, hg2, ho2, ho3, ho4⟩)
      rw [HRL.out] at hB2 ⊢
      generalize n + 4 + r2.length = C2 at *
      generalize leBytes n 4 ++ b = row at *
      clear HROW c0 hm1 m1
      go_wp2_with fail
      refine (cblocks_any g2 (n + 4) C2 row w2 hB2 (by omega) (by omega)).mono ?_
      rintro e w3 ⟨v3, rfl, own3, b3⟩
      rw [← HCNT.out, show jn.firstB row M = BS_ by rw [HFB.out, HCNT.out]] at own3
      obtain ⟨A3, c3, rfl, hbl3⟩ := BlS.of_own own3 hbls HM_.out
      have b13 := b12.trans (b3.mono b12.size)
      have m3 := m2.below b3 m2.lt
      have hm3 := hm2.below b3 hm2.lt
      have k0 := hm3.c0
      have q1 := m3.c1
      clear b1 b12 b2 b3 hB2 ho2 m2 hm2 own3 hW1
      go_wp2_with fail
      go_quiet (first | (go_at_call 62; exact quiet_is (HSIZE.out _ _ b13)))
      have b13q : Below w.heap.size w (w3.drewN nq) := ⟨b13.os, b13.tape, b13.output, b13.size, b13.block⟩
      have m3q : HM 53 (w3.drewN nq) H h := m3
      have hm3q : JM (w3.drewN nq) p (.pointer (some ⟨q, 0, none⟩)) k := hm3
      have hbl3q : BlS (w3.drewN nq) A3 M c3 BS_ := hbl3.below ⟨rfl, rfl, rfl, Nat.le_refl _, fun _ _ => rfl⟩
      have htq := ht.below b13q
      clear b13 m3 hm3 hbl3 k0 q1 HSIZE
      generalize w3.drewN nq = w4 at *
      have hD4 := hDk.out.below b13q
      by_cases hroom : jn.half s < h.blocks + M
      · have hri : (jn.half s : Int) - (h.blocks : Int) < (M : Int) := by omega
        have h1 := HADD.out
        rw [if_pos hroom] at h1
        have H1 := Lib.hid h1
        have h2 := HKK.out
        rw [h1, if_neg (show ¬ (10 : Int) = 0 by decide)] at h2
        subst h2
        clear HADD hput h1
        go_wp2_with fail
        go_ret
        exact ⟨F, by rw [H1.out]; rfl, by rw [H1.out]; exact hD4, hm3q, Chg.of_below b13q _, Sub.refl _ _⟩
      · have hri : ¬ (jn.half s : Int) - (h.blocks : Int) < (M : Int) := by omega
        have h1 := HADD.out
        rw [if_neg hroom] at h1
        have HADD := Lib.hid h1
        have hput := hput hroom
        clear h1
        have k0 := hm3q.c0
        have HREAD := Lib.hid (cj_read 0 2 (by omega) (by omega) hD4 (.inl hbl))
        go_wp2_with fail
        refine HREAD.out.mono ?_
        rintro e w5 ⟨rfl, r5, b5⟩
        have b15 := b13q.trans (b5.mono b13q.size)
        have m5 := m3q.below b5 m3q.lt
        have hm5 := hm3q.below b5 hm3q.lt
        have hbl5 := hbl3q.below b5
        have ht5 := htq.below b5
        have hD5 := hD4.below b5
        have hHgn : H < w4.heap.size := m3q.lt
        generalize w4.heap.size = gn at *
        clear HREAD b5 m3q hm3q hbl3q b13q k0 htq hD4
        go_wp2_with fail
        have b15d := b15.drew
        have m5d := HM.drew m5
        have hm5d : JM w5.drew p (.pointer (some ⟨q, 0, none⟩)) k := hm5
        have r5d : RowBl w5.drew gn (jn.rds s 0 2) := r5
        have hbl5d : BlS w5.drew A3 M c3 BS_ := hbl5.below (Below.refl _ _).drew
        have ht5d : Tabs w5.drew := ht5.below (Below.refl _ _).drew
        have hD5d := hD5.below (Below.refl _ _).drew
        clear b15 m5 hm5 r5 hbl5 ht5 hD5
        refine wp_region_held_drew (S := fun W => JM W p (.pointer (some ⟨q, 0, none⟩)) k ∧ HM 53 W H h) (by kernel_rfl) ⟨hm5d, m5d⟩ (fun hHeld => ?_)
        generalize w5.drew = wd at *
        refine wpAnyH_take (i := 0) (v := ?_) rfl (by kernel_rfl) (by kernel_rfl) (by kernel_rfl) (fun _ _ _ h => h) (Or.inl ⟨by rfl, ?_⟩) hHeld ?_
        rotate_left
        · intro w hSw; clear hSw; go_simp; try rfl
        simp only [List.getElem_toArray, List.getElem_cons_zero, Act.put, List.setIfInBounds_toArray, List.set_cons_zero, List.set_cons_succ]
        refine wpAnyH_take (i := 1) (v := ?_) rfl (by kernel_rfl) (by kernel_rfl) (by kernel_rfl) (fun _ _ _ h => h) (Or.inl ⟨by rfl, ?_⟩) hHeld ?_
        rotate_left
        · intro w hSw; clear hSw; go_simp; try rfl
        simp only [List.getElem_toArray, List.getElem_cons_zero, List.getElem_cons_succ, Act.put, List.setIfInBounds_toArray, List.set_cons_zero, List.set_cons_succ]
        refine wpAnyH_take (i := 2) (v := ?_) rfl (by kernel_rfl) (by kernel_rfl) (by kernel_rfl) (fun _ _ _ h => h) (Or.inl ⟨by rfl, ?_⟩) hHeld ?_
        rotate_left
        · intro w hSw; clear hSw; go_simp; try rfl
        simp only [List.getElem_toArray, List.getElem_cons_zero, List.getElem_cons_succ, Act.put, List.setIfInBounds_toArray, List.set_cons_zero, List.set_cons_succ]
        refine wpAnyH_take (i := 3) (v := ?_) rfl (by kernel_rfl) (by kernel_rfl) (by kernel_rfl) (fun _ _ _ h => h) (Or.inl ⟨by rfl, ?_⟩) hHeld ?_
        rotate_left
        · intro w hSw; have c0 := hSw.1.c0; clear hSw; go_simp; try rfl
        simp only [List.getElem_toArray, List.getElem_cons_zero, List.getElem_cons_succ, Act.put, List.setIfInBounds_toArray, List.set_cons_zero, List.set_cons_succ]
        refine wpAnyH_take (i := 4) (v := ?_) rfl (by kernel_rfl) (by kernel_rfl) (by kernel_rfl) (fun _ _ _ h => h) (Or.inl ⟨by rfl, ?_⟩) hHeld ?_
        rotate_left
        · intro w hSw; clear hSw; go_simp; try rfl
        simp only [List.getElem_toArray, List.getElem_cons_zero, List.getElem_cons_succ, Act.put, List.setIfInBounds_toArray, List.set_cons_zero, List.set_cons_succ]
        refine wpAnyH_take (i := 5) (v := ?_) rfl (by kernel_rfl) (by kernel_rfl) (by kernel_rfl) (fun _ _ _ h => h) (Or.inl ⟨by rfl, ?_⟩) hHeld ?_
        rotate_left
        · intro w hSw; clear hSw; go_simp; try rfl
        simp only [List.getElem_toArray, List.getElem_cons_zero, List.getElem_cons_succ, Act.put, List.setIfInBounds_toArray, List.set_cons_zero, List.set_cons_succ]
        refine wpAnyH_take (i := 6) (v := ?_) rfl (by kernel_rfl) (by kernel_rfl) (by kernel_rfl) (fun _ _ _ h => h) (Or.inl ⟨by rfl, ?_⟩) hHeld ?_
        rotate_left
        · intro w hSw; clear hSw; go_simp; try rfl
        simp only [List.getElem_toArray, List.getElem_cons_zero, List.getElem_cons_succ, Act.put, List.setIfInBounds_toArray, List.set_cons_zero, List.set_cons_succ]
        refine wpAnyH_take (i := 7) (v := ?_) rfl (by kernel_rfl) (by kernel_rfl) (by kernel_rfl) (fun _ _ _ h => h) (Or.inl ⟨by rfl, ?_⟩) hHeld ?_
        rotate_left
        · intro w hSw; have c0 := hSw.1.c0; clear hSw; go_simp; try rfl
        simp only [List.getElem_toArray, List.getElem_cons_zero, List.getElem_cons_succ, Act.put, List.setIfInBounds_toArray, List.set_cons_zero, List.set_cons_succ]
        refine wpAnyH_take (i := 8) (v := ?_) rfl (by kernel_rfl) (by kernel_rfl) (by kernel_rfl) (fun _ _ _ h => h) (Or.inl ⟨by rfl, ?_⟩) hHeld ?_
        rotate_left
        · intro w hSw; clear hSw; go_simp; try rfl
        simp only [List.getElem_toArray, List.getElem_cons_zero, List.getElem_cons_succ, Act.put, List.setIfInBounds_toArray, List.set_cons_zero, List.set_cons_succ]
        refine wpAnyH_take (i := 9) (v := ?_) rfl (by kernel_rfl) (by kernel_rfl) (by kernel_rfl) (fun _ _ _ h => h) (Or.inl ⟨by rfl, ?_⟩) hHeld ?_
        rotate_left
        · intro w hSw; have e0 := hSw.2.c0; clear hSw; go_simp; try rfl
        simp only [List.getElem_toArray, List.getElem_cons_zero, List.getElem_cons_succ, Act.put, List.setIfInBounds_toArray, List.set_cons_zero, List.set_cons_succ]
        refine wpAnyH_take (i := 11) (v := ?_) rfl (by kernel_rfl) (by kernel_rfl) (by kernel_rfl) (fun _ _ _ h => h) (Or.inl ⟨by rfl, ?_⟩) hHeld ?_
        rotate_left
        · intro w hSw; clear hSw; go_simp; try rfl
        simp only [List.getElem_toArray, List.getElem_cons_zero, List.getElem_cons_succ, Act.put, List.setIfInBounds_toArray, List.set_cons_zero, List.set_cons_succ]
        refine wpAnyH_take (i := 12) (v := ?_) rfl (by kernel_rfl) (by kernel_rfl) (by kernel_rfl) (fun _ _ _ h => h) (Or.inl ⟨by rfl, ?_⟩) hHeld ?_
        rotate_left
        · intro w hSw; have e1 := hSw.2.c1; clear hSw; go_simp; try rfl
        simp only [List.getElem_toArray, List.getElem_cons_zero, List.getElem_cons_succ, Act.put, List.setIfInBounds_toArray, List.set_cons_zero, List.set_cons_succ]
        refine wpAnyH_take (i := 13) (v := ?_) rfl (by kernel_rfl) (by kernel_rfl) (by kernel_rfl) (fun _ _ _ h => h) (Or.inl ⟨by rfl, ?_⟩) hHeld ?_
        rotate_left
        · intro w hSw; have hww' := hww; clear hSw; go_simp; try rfl
        simp only [List.getElem_toArray, List.getElem_cons_zero, List.getElem_cons_succ, Act.put, List.setIfInBounds_toArray, List.set_cons_zero, List.set_cons_succ]
        refine wpAnyH_take (i := 15) (v := ?_) rfl (by kernel_rfl) (by kernel_rfl) (by kernel_rfl) (fun _ _ _ h => h) (Or.inl ⟨by rfl, ?_⟩) hHeld ?_
        rotate_left
        · intro w hSw; clear hSw; go_simp; try rfl
        simp only [List.getElem_toArray, List.getElem_cons_zero, List.getElem_cons_succ, Act.put, List.setIfInBounds_toArray, List.set_cons_zero, List.set_cons_succ]
        refine wpAnyH_ready (rs := [10]) (by kernel_rfl) (by simp) ?_
        refine AllReadyH.cons rfl (fun K hK => ?_) AllReadyH.nil
        rw [if_pos (by rfl)]
        go_simp
        refine (cj_at h.bank hD5d).mono ?_
        rintro e w6 ⟨rfl, rfl⟩
        refine hK.out _ _ hHeld (fun hHeld => ?_)
        clear hK K
        have hww2 : IntKind.i64.wrap ((jn.first s h.bank : Int) + (h.blocks : Int)) = (jn.first s h.bank : Int) + (h.blocks : Int) := IntWalk.i64_in _ ⟨by omega, by omega⟩
        refine wpAnyH_take (i := 14) (v := ?_) rfl (by kernel_rfl) (by kernel_rfl) (by kernel_rfl) (fun _ _ _ h => h) (Or.inl ⟨by rfl, ?_⟩) hHeld ?_
        rotate_left
        · intro w hSw; have hai := hww2; clear hSw; go_simp; try rfl
        simp only [List.getElem_toArray, List.getElem_cons_zero, List.getElem_cons_succ, Act.put, List.setIfInBounds_toArray, List.set_cons_zero, List.set_cons_succ]
        have hwr := cwritten_any (F := F) q (jn.first s h.bank + h.blocks) rfl (by omega) hbl5d (by omega) hD5d.there
        rw [Int.natCast_add] at hwr
        have HWR := Lib.hid hwr
        clear hwr
        refine wpAnyH_ready (rs := [16]) (by kernel_rfl) (by simp) ?_
        refine AllReadyH.cons rfl (fun K hK => ?_) AllReadyH.nil
        rw [if_pos (by rfl)]
        go_simp
        refine HWR.out.mono ?_
        rintro e w7 ⟨g7, c7, fs7, rfl, own7, st7, b7⟩
        refine hK.out _ _ ⟨hm5d.below b7 hm5d.lt, m5d.below b7 m5d.lt⟩ (fun hHeld => ?_)
        clear hK K HWR
        refine wpAnyH_take (i := 17) (v := ?_) rfl (by kernel_rfl) (by kernel_rfl) (by kernel_rfl) (fun _ _ _ h => h) (Or.inl ⟨by rfl, ?_⟩) hHeld ?_
        rotate_left
        · intro w hSw; clear hSw; go_simp; try rfl
        simp only [List.getElem_toArray, List.getElem_cons_zero, List.getElem_cons_succ, Act.put, List.setIfInBounds_toArray, List.set_cons_zero, List.set_cons_succ]
        refine wpAnyH_done (by kernel_rfl) ?_ _
        have hm7 := hHeld.1
        have m7 := hHeld.2
        have b17 := b15d.trans (b7.mono b15d.size)
        have r7 := r5d.below b7 r5d.lt
        have ht7 := ht5d.below b7
        have hD7 := hD5d.below b7
        have hg7 := own_base own7 g7 rfl
        have hwd := b15d.size
        have hgd := r5d.lt
        have e1 := m7.c1
        have z1 := m7.fz 1
        have e2 := m7.c2
        have z2 := m7.fz 2
        have hlen7 : fs7.length = M + 1 := by
          have := st7.1
          rw [this, List.length_append, jn.wrs_length, HM_.out]
          rfl
        clear b15d m5d hm5d r5d hbl5d ht5d hD5d b7 hHeld
        have hu1 : IntKind.u32.wrap (M : Int) = (M : Int) := IntWalk.u32_in _ ⟨by omega, by omega⟩
        have hu2 : IntKind.u32.wrap ((h.blocks : Int) + (M : Int)) = (h.blocks : Int) + (M : Int) := IntWalk.u32_in _ ⟨by omega, by omega⟩
        have hu3 : IntKind.u32.wrap ((h.batches : Int) + 1) = (h.batches : Int) + 1 := IntWalk.u32_in _ ⟨by omega, by omega⟩
        have m8 : HM 53 ((w7.setCell ⟨H, 1, none⟩ (.int .u32 ((h.blocks : Int) + (M : Int)))).setCell ⟨H, 2, none⟩ (.int .u32 ((h.batches : Int) + 1))) H ⟨h.bank, h.blocks + M, h.batches + 1⟩ := by
          have x1 := block_set (i := 1) (show w7.heap[H]? = _ from m7) (.int .u32 ((h.blocks : Int) + (M : Int)))
          have x2 := block_set (i := 2) x1 (.int .u32 ((h.batches : Int) + 1))
          rw [HM, x2]
          simp [Int.natCast_add]
        have c8 : Chg w7 ((w7.setCell ⟨H, 1, none⟩ (.int .u32 ((h.blocks : Int) + (M : Int)))).setCell ⟨H, 2, none⟩ (.int .u32 ((h.batches : Int) + 1))) [H] := (Chg.setCell _ _ _ _).trans (Chg.setCell _ _ _ _) (Sub.refl _ _)
        have hHF : H ∉ F := fun hm => by have := hDk.out.there H hm; omega
        have hg7F : g7 ∉ F := fun hm => by have := hDk.out.there g7 hm; omega
        have own8 := ownsRow_base (own_keepB (w' := ((w7.setCell ⟨H, 1, none⟩ (.int .u32 ((h.blocks : Int) + (M : Int)))).setCell ⟨H, 2, none⟩ (.int .u32 ((h.batches : Int) + 1)))) own7 (fun x hx => c8.block x (own_lt own7 x hx) (by simp only [Value.ownBlock, Option.some.injEq] at hx; simp; omega))) (Nat.zero_le _)
        have st8 := st7.keepT (w' := ((w7.setCell ⟨H, 1, none⟩ (.int .u32 ((h.blocks : Int) + (M : Int)))).setCell ⟨H, 2, none⟩ (.int .u32 ((h.batches : Int) + 1)))) (fun x cs t hx hty => c8.block x (Array.getElem?_eq_some_iff.1 hx).1 (fun hm => by
          simp only [List.mem_singleton] at hm
          rw [hm, show w7.heap[H]? = _ from m7] at hx
          have hx2 := Option.some.inj hx
          simp only [Obj.cells.injEq] at hx2
          rcases hty with e | e | e <;> (rw [e] at hx2; exact absurd hx2.2.1 (by decide))))
        have hm8 := hm7.chg c8 (by simp; omega)
        have r8 := r7.chg c8 (by simp; omega)
        have hD8 := hD7.keep (c8.same (fun x hx => by simp at hx; rw [hx]; exact hHF) hD7.there)
        have b18 := b17.trans (c8.below (B := w.heap.size) b17.size (fun x hx => by simp at hx; omega))
        have ht8 := ht.below b18
        generalize hw8 : (w7.setCell ⟨H, 1, none⟩ (.int .u32 ((h.blocks : Int) + (M : Int)))).setCell ⟨H, 2, none⟩ (.int .u32 ((h.batches : Int) + 1)) = w8 at *
        have hl0 := rd_lenP hok 0
        have hl1 := rd_lenP hok 1
        have hnow : BlS w8 (some ⟨gn, 0, none⟩) 2 2 [jn.rd s 0, jn.rd s 1] := RowBl.bls (jn.rds_two s ▸ r8) (by intro x hx; simp at hx; rcases hx with rfl | rfl; exact hl0; exact hl1) rfl (by omega)
        have HLAY := Lib.hid (cj_lay rfl hm8 hpF own8 hg7F (by omega) st8 hlen7 (by omega) hnow hD8 ht8 (h := ⟨h.bank, h.blocks + M, h.batches + 1⟩) ⟨by simp only; omega, by simp only; omega⟩ hput ⟨by omega, by omega⟩)
        rw [← HADD.out] at HLAY
        rw [HKK.out] at HLAY
        clear own7 own8 st7 st8 hm7 hm8 r7 r8 hD7 hD8 ht7 ht8 hnow hput HADD HKK b17 m7 hl0 hl1 c8
        go_wp2_with (refine wp_ldh (.tmp 4) ⟨h.bank, h.blocks + M, h.batches + 1⟩ m8 rfl rfl rfl ?_)
        refine HLAY.out.mono ?_
        rintro e w9 ⟨F', rfl, hD9, hm9, c9, s9⟩
        clear HLAY
        go_wp2_with fail
        go_ret
        exact ⟨F', rfl, hD9, hm9, (Chg.of_below b18 (p :: F)).trans c9 (fun x hx => by
          rcases List.mem_cons.1 hx with rfl | hx
          · exact .inr (by omega)
          · exact .inl hx), fun x hx => (s9 x hx).imp id (fun e => Nat.le_trans b18.size e)⟩
end Go.Proofs.YtknndmhkfonfmaaGreatDoor

/-
  THE PROGRAM's journal: Append, Replace, Batches, Room, Head.
-/
namespace Go.Proofs.YtknndmhkfonfmaaGreatDoor
open Go.RowKit Go.Shelf
variable {w w' : World} {F : List Nat} {d : Value} {s : dk.St} {p q : Nat} {k : hd.H}
set_option maxHeartbeats 4000000 in
set_option maxRecDepth 100000 in
theorem cj_append (hd0 : d = .pointer (some ⟨q, 0, none⟩)) (hm : JM w p d k) (hpF : p ∉ F) (hD : CD w F d s) (ht : Tabs w) (hk : hd.may k = true) (hfit : k.blocks ≤ jn.half s)
    {A : Option Addr} {n cp : Nat} {b : List UInt8} (hB : BS w A n cp b) (hmany : s.many + 4200 < 1048576 ∧ s.L.length + 4200 < 1048576)
    (hput : s.black = false → ¬ 1048576 < b.length → ¬ jn.half s < k.blocks + (jn.blocks b).length → (hd.put (jn.nx (jn.rd s 0) (jn.rd s 1)).1 (jn.appendH k b)).2 = 0) :
    Calls Tryz.prog 22 #[.pointer (some ⟨p, 0, none⟩), .slice A n cp] w fun e w' =>
      ∃ F', e = .returned (.int .i64 (jn.addR s k b).1) ∧ CD w' F' d (jn.addR s k b).2 ∧ JM w' p d (if (jn.addR s k b).1 = 0 then jn.appendH k b else k) ∧ Chg w w' (p :: F) ∧ Sub w F' F := by
  have hmay := hd.may_ok hk
  have HN := Lib.hid (cj_none hd0 hm)
  have HA := Lib.hid (cj_add hd0 hm hpF hD ht hmay.1 hfit hmay.2.2 hB hmany hput)
  obtain ⟨R, hR⟩ : ∃ R, jn.addR s k b = R := ⟨_, rfl⟩
  rw [show jn.appendH k b = ⟨k.bank, k.blocks + (jn.blocks b).length, k.batches + 1⟩ from rfl]
  rw [hR] at HA ⊢
  obtain ⟨K2, hK2⟩ : ∃ K2, (if R.1 = 0 then (⟨k.bank, k.blocks + (jn.blocks b).length, k.batches + 1⟩ : hd.H) else k) = K2 := ⟨_, rfl⟩
  rw [hK2] at HA ⊢
  clear hR hK2 hput hD hB
  go_enter Tryz.func22, Tryz.ntmps22
  go_wp2_with fail
  refine HN.out.mono ?_
  rintro e w1 ⟨rfl, rfl⟩
  go_wp2_with (refine wp_ldj (.tmp 10) k hm rfl rfl rfl ?_)
  refine HA.out.mono ?_
  rintro e w2 ⟨F', rfl, h1, h2, h3, h4⟩
  clear HA HN
  go_wp2_with fail
  go_ret
  exact ⟨F', rfl, h1, h2, h3, h4⟩
set_option maxHeartbeats 4000000 in
set_option maxRecDepth 100000 in
theorem cj_replace (hd0 : d = .pointer (some ⟨q, 0, none⟩)) (hm : JM w p d k) (hpF : p ∉ F) (hD : CD w F d s) (ht : Tabs w) (hk : hd.may k = true)
    {A : Option Addr} {n cp : Nat} {b : List UInt8} (hB : BS w A n cp b) (hmany : s.many + 4200 < 1048576 ∧ s.L.length + 4200 < 1048576)
    (hput : s.black = false → ¬ 1048576 < b.length → ¬ jn.half s < (jn.blocks b).length → (hd.put (jn.nx (jn.rd s 0) (jn.rd s 1)).1 (jn.replaceH k b)).2 = 0) :
    Calls Tryz.prog 24 #[.pointer (some ⟨p, 0, none⟩), .slice A n cp] w fun e w' =>
      ∃ F', e = .returned (.int .i64 (jn.addR s ⟨1 - k.bank, 0, 0⟩ b).1) ∧ CD w' F' d (jn.addR s ⟨1 - k.bank, 0, 0⟩ b).2 ∧ JM w' p d (if (jn.addR s ⟨1 - k.bank, 0, 0⟩ b).1 = 0 then jn.replaceH k b else k) ∧ Chg w w' (p :: F) ∧ Sub w F' F := by
  have hmay := hd.may_ok hk
  have HN := Lib.hid (cj_none hd0 hm)
  have hbk := jn.bank_cases hmay.1
  have hr1 : (1 - k.bank).toNat ≤ 1 := by rcases hbk with e | e <;> rw [e] <;> decide
  have HA := Lib.hid (cj_add (h := ⟨1 - k.bank, 0, 0⟩) hd0 hm hpF hD ht hr1 (Nat.zero_le _) (Nat.le_refl _) hB hmany (by
    simp only [Nat.zero_add]
    exact hput))
  obtain ⟨R, hR⟩ : ∃ R, jn.addR s ⟨1 - k.bank, 0, 0⟩ b = R := ⟨_, rfl⟩
  rw [show jn.replaceH k b = ⟨1 - k.bank, 0 + (jn.blocks b).length, 0 + 1⟩ by rw [Nat.zero_add, Nat.zero_add]; rfl]
  rw [hR] at HA ⊢
  obtain ⟨K2, hK2⟩ : ∃ K2, (if R.1 = 0 then (⟨1 - k.bank, 0 + (jn.blocks b).length, 0 + 1⟩ : hd.H) else k) = K2 := ⟨_, rfl⟩
  rw [hK2] at HA ⊢
  clear hR hK2 hput hD hB hr1
  have k1 := hm.c1
  rcases hbk with e | e
  · rw [e] at k1 HA
    clear e
    go_enter Tryz.func24, Tryz.ntmps24
    go_wp2_with fail
    refine HN.out.mono ?_
    rintro e w1 ⟨rfl, rfl⟩
    go_wp2_with fail
    refine HA.out.mono ?_
    rintro e w2 ⟨F', rfl, h1, h2, h3, h4⟩
    clear HA HN
    go_wp2_with fail
    go_ret
    exact ⟨F', rfl, h1, h2, h3, h4⟩
  · rw [e] at k1 HA
    clear e
    go_enter Tryz.func24, Tryz.ntmps24
    go_wp2_with fail
    refine HN.out.mono ?_
    rintro e w1 ⟨rfl, rfl⟩
    go_wp2_with fail
    refine HA.out.mono ?_
    rintro e w2 ⟨F', rfl, h1, h2, h3, h4⟩
    clear HA HN
    go_wp2_with fail
    go_ret
    exact ⟨F', rfl, h1, h2, h3, h4⟩
set_option maxHeartbeats 4000000 in
set_option maxRecDepth 100000 in
theorem cj_batches0 (hd0 : d = .pointer (some ⟨q, 0, none⟩)) (hm : JM w p d k) (hD : CD w F d s) (hk : hd.may k = true) (hfit : k.blocks ≤ jn.half s) (hl : s.black = false) :
    Calls Tryz.prog 37 #[.pointer (some ⟨p, 0, none⟩)] w fun e w' =>
      ∃ A n c, e = .returned (.slice A n c) ∧ ((jn.batches s k).2 = true → RS w' A n c (jn.batches s k).1) ∧ (¬ (jn.batches s k).2 = true → A = none ∧ n = 0 ∧ c = 0) ∧ Below w.heap.size w w' := by
  have HN := Lib.hid (cj_none hd0 hm)
  have hD1 := hD.below (Below.refl _ _).drew
  have hm1 : JM w.drew p d k := hm
  have HBT := Lib.hid (cj_batches hD1 k hk hfit (.inl hl))
  subst hd0
  suffices H : ∀ (J : World → Option Addr → Nat → Nat → Prop) (E : Int), Hid (∀ w' A n c, ((jn.batches s k).2 = true → RS w' A n c (jn.batches s k).1) → (¬ (jn.batches s k).2 = true → A = none ∧ n = 0 ∧ c = 0) → J w' A n c) → Hid (E = if (jn.batches s k).2 = true then 0 else 5) →
      Calls Tryz.prog 37 #[.pointer (some ⟨p, 0, none⟩)] w fun e w' => ∃ A n c, e = .returned (.slice A n c) ∧ J w' A n c ∧ Below w.heap.size w w' from
    (H (fun w' A n c => ((jn.batches s k).2 = true → RS w' A n c (jn.batches s k).1) ∧ (¬ (jn.batches s k).2 = true → A = none ∧ n = 0 ∧ c = 0)) _ (Lib.hid fun _ _ _ _ h1 h2 => ⟨h1, h2⟩) (Lib.hid rfl)).mono fun e w' ⟨A, n, c, h1, ⟨h2, h3⟩, h4⟩ => ⟨A, n, c, h1, h2, h3, h4⟩
  intro J E HJ HE
  rw [← HE.out] at HBT
  have HBT2 := Lib.hid (HBT.out.mono (R' := fun e w' => ∃ A n c, e = .returned (.tuple #[.slice A n c, .int .i64 E]) ∧ J w' A n c ∧ Below w.drew.heap.size w.drew w') (by
    rintro e w' ⟨A, n, c, h1, h2, h3, h4⟩
    exact ⟨A, n, c, h1, HJ.out _ _ _ _ h2 h3, h4⟩))
  clear HBT HJ HE hD1 hD
  go_enter Tryz.func37, Tryz.ntmps37
  go_wp2_with fail
  refine HN.out.mono ?_
  rintro e w1 ⟨rfl, rfl⟩
  go_wp2_with fail
  refine wp_region_held_drew (S := fun W => JM W p (.pointer (some ⟨q, 0, none⟩)) k) (by kernel_rfl) hm1 (fun hHeld => ?_)
  refine wpAnyH_take (i := 0) (v := ?_) rfl (by kernel_rfl) (by kernel_rfl) (by kernel_rfl) (fun _ _ _ h => h) (Or.inl ⟨by rfl, ?_⟩) hHeld ?_
  rotate_left
  · intro w hSw; clear hSw; go_simp; try rfl
  simp only [List.getElem_toArray, List.getElem_cons_zero, Act.put, List.setIfInBounds_toArray, List.set_cons_zero, List.set_cons_succ]
  refine wpAnyH_take (i := 1) (v := ?_) rfl (by kernel_rfl) (by kernel_rfl) (by kernel_rfl) (fun _ _ _ h => h) (Or.inl ⟨by rfl, ?_⟩) hHeld ?_
  rotate_left
  · intro w hSw; clear hSw; go_simp; try rfl
  simp only [List.getElem_toArray, List.getElem_cons_zero, List.getElem_cons_succ, Act.put, List.setIfInBounds_toArray, List.set_cons_zero, List.set_cons_succ]
  refine wpAnyH_take (i := 2) (v := ?_) rfl (by kernel_rfl) (by kernel_rfl) (by kernel_rfl) (fun _ _ _ h => h) (Or.inl ⟨by rfl, ?_⟩) hHeld ?_
  rotate_left
  · intro w hSw; clear hSw; go_simp; try rfl
  simp only [List.getElem_toArray, List.getElem_cons_zero, List.getElem_cons_succ, Act.put, List.setIfInBounds_toArray, List.set_cons_zero, List.set_cons_succ]
  refine wpAnyH_take (i := 3) (v := ?_) rfl (by kernel_rfl) (by kernel_rfl) (by kernel_rfl) (fun _ _ _ h => h) (Or.inl ⟨by rfl, ?_⟩) hHeld ?_
  rotate_left
  · intro w hSw; have c0 := hSw.c0; clear hSw; go_simp; try rfl
  simp only [List.getElem_toArray, List.getElem_cons_zero, List.getElem_cons_succ, Act.put, List.setIfInBounds_toArray, List.set_cons_zero, List.set_cons_succ]
  refine wpAnyH_take (i := 4) (v := ?_) rfl (by kernel_rfl) (by kernel_rfl) (by kernel_rfl) (fun _ _ _ h => h) (Or.inl ⟨by rfl, ?_⟩) hHeld ?_
  rotate_left
  · intro w hSw; clear hSw; go_simp; try rfl
  simp only [List.getElem_toArray, List.getElem_cons_zero, List.getElem_cons_succ, Act.put, List.setIfInBounds_toArray, List.set_cons_zero, List.set_cons_succ]
  refine wpAnyH_take (i := 5) (v := ?_) rfl (by kernel_rfl) (by kernel_rfl) (by kernel_rfl) (fun _ _ _ h => h) (Or.inl ⟨by rfl, ?_⟩) hHeld ?_
  rotate_left
  · intro w hSw; clear hSw; go_simp; try rfl
  simp only [List.getElem_toArray, List.getElem_cons_zero, List.getElem_cons_succ, Act.put, List.setIfInBounds_toArray, List.set_cons_zero, List.set_cons_succ]
  refine wpAnyH_take (i := 6) (v := ?_) rfl (by kernel_rfl) (by kernel_rfl) (by kernel_rfl) (fun _ _ _ h => h) (Or.inl ⟨by rfl, ?_⟩) hHeld ?_
  rotate_left
  · intro w hSw; clear hSw; go_simp; try rfl
  simp only [List.getElem_toArray, List.getElem_cons_zero, List.getElem_cons_succ, Act.put, List.setIfInBounds_toArray, List.set_cons_zero, List.set_cons_succ]
  refine wpAnyH_take (i := 7) (v := ?_) rfl (by kernel_rfl) (by kernel_rfl) (by kernel_rfl) (fun _ _ _ h => h) (Or.inl ⟨by rfl, ?_⟩) hHeld ?_
  rotate_left
  · intro w hSw; have c1 := hSw.c1; have c2 := hSw.c2; have c3 := hSw.c3; clear hSw; go_simp; try rfl
  simp only [List.getElem_toArray, List.getElem_cons_zero, List.getElem_cons_succ, Act.put, List.setIfInBounds_toArray, List.set_cons_zero, List.set_cons_succ]
  refine wpAnyH_ready (rs := [8]) (by kernel_rfl) (by simp) ?_
  refine AllReadyH.cons rfl (fun K hK => ?_) AllReadyH.nil
  rw [if_pos (by rfl)]
  go_simp
  refine HBT2.out.mono ?_
  rintro e w2 ⟨A, n, c, rfl, hJ, hb⟩
  refine hK.out _ _ (hHeld.below hb hHeld.lt) (fun hHeld => ?_)
  clear hK K HBT2
  refine wpAnyH_take (i := 9) (v := ?_) rfl (by kernel_rfl) (by kernel_rfl) (by kernel_rfl) (fun _ _ _ h => h) (Or.inl ⟨by rfl, ?_⟩) hHeld ?_
  rotate_left
  · intro w hSw; clear hSw; go_simp; try rfl
  simp only [List.getElem_toArray, List.getElem_cons_zero, List.getElem_cons_succ, Act.put, List.setIfInBounds_toArray, List.set_cons_zero, List.set_cons_succ]
  refine wpAnyH_take (i := 10) (v := ?_) rfl (by kernel_rfl) (by kernel_rfl) (by kernel_rfl) (fun _ _ _ h => h) (Or.inl ⟨by rfl, ?_⟩) hHeld ?_
  rotate_left
  · intro w hSw; clear hSw; go_simp; try rfl
  simp only [List.getElem_toArray, List.getElem_cons_zero, List.getElem_cons_succ, Act.put, List.setIfInBounds_toArray, List.set_cons_zero, List.set_cons_succ]
  refine wpAnyH_take (i := 11) (v := ?_) rfl (by kernel_rfl) (by kernel_rfl) (by kernel_rfl) (fun _ _ _ h => h) (Or.inl ⟨by rfl, ?_⟩) hHeld ?_
  rotate_left
  · intro w hSw; clear hSw; go_simp; try rfl
  simp only [List.getElem_toArray, List.getElem_cons_zero, List.getElem_cons_succ, Act.put, List.setIfInBounds_toArray, List.set_cons_zero, List.set_cons_succ]
  refine wpAnyH_take (i := 12) (v := ?_) rfl (by kernel_rfl) (by kernel_rfl) (by kernel_rfl) (fun _ _ _ h => h) (Or.inl ⟨by rfl, ?_⟩) hHeld ?_
  rotate_left
  · intro w hSw; clear hSw; go_simp; try rfl
  simp only [List.getElem_toArray, List.getElem_cons_zero, List.getElem_cons_succ, Act.put, List.setIfInBounds_toArray, List.set_cons_zero, List.set_cons_succ]
  refine wpAnyH_take (i := 13) (v := ?_) rfl (by kernel_rfl) (by kernel_rfl) (by kernel_rfl) (fun _ _ _ h => h) (Or.inl ⟨by rfl, ?_⟩) hHeld ?_
  rotate_left
  · intro w hSw; clear hSw; go_simp; try rfl
  simp only [List.getElem_toArray, List.getElem_cons_zero, List.getElem_cons_succ, Act.put, List.setIfInBounds_toArray, List.set_cons_zero, List.set_cons_succ]
  refine wpAnyH_done (by kernel_rfl) ?_ _
  have hb2 : Below w.heap.size w w2 := (Below.refl _ _).drew.trans hb
  go_wp2_with fail
  go_ret
  exact ⟨A, n, c, rfl, hJ, hb2⟩
set_option maxHeartbeats 4000000 in
set_option maxRecDepth 100000 in
theorem cj_room (hd0 : d = .pointer (some ⟨q, 0, none⟩)) (hm : JM w p d k) (hD : CD w F d s) (hk : hd.may k = true) :
    Calls Tryz.prog 39 #[.pointer (some ⟨p, 0, none⟩)] w fun e w' => e = .returned (.int .i64 ((jn.half s : Int) - (k.blocks : Int))) ∧ Below w.heap.size w w' := by
  have HN := Lib.hid (cj_none hd0 hm)
  have hmay := hd.may_ok hk
  have hhalf := jn.half_le hD.ok
  have HSIZE := Lib.hid (fun n => cj_size (hD.drewN' n))
  obtain ⟨hf, hhf⟩ : ∃ h, jn.half s = h := ⟨_, rfl⟩
  rw [hhf] at HSIZE hhalf ⊢
  obtain ⟨h1, h2, h3⟩ := hmay
  subst hd0
  have c0 := hm.c0
  have c2 := hm.c2
  have hww : IntKind.i64.wrap (k.blocks : Int) = (k.blocks : Int) := IntWalk.i64_in _ ⟨by omega, by omega⟩
  clear hD hhf
  go_enter Tryz.func39, Tryz.ntmps39
  go_wp2_with fail
  refine HN.out.mono ?_
  rintro e w1 ⟨rfl, rfl⟩
  go_wp2_with fail
  go_quiet (first | (go_at_call 62; exact quiet_is (HSIZE.out _)))
  go_wp2_with fail
  go_ret
  exact ⟨rfl, ⟨rfl, rfl, rfl, Nat.le_refl _, fun _ _ => rfl⟩⟩
set_option maxHeartbeats 4000000 in
set_option maxRecDepth 100000 in
theorem cj_head (hd0 : d = .pointer (some ⟨q, 0, none⟩)) (hm : JM w p d k) :
    Calls Tryz.prog 41 #[.pointer (some ⟨p, 0, none⟩)] w fun e w' => e = .returned (hd.val k) ∧ Below w.heap.size w w' := by
  obtain ⟨hzh, -⟩ := zero_of_info info_head
  have n1 := HM.new w 53 hd.zero
  have b1 : Below w.heap.size w (w.alloc (.cells #[bv hd.zero.bank, .int .u32 hd.zero.blocks, .int .u32 hd.zero.batches] 53)) := (Below.refl _ _).alloc (Nat.le_refl _) _
  obtain ⟨W1, hW1⟩ : ∃ W1, w.alloc (.cells #[bv hd.zero.bank, .int .u32 hd.zero.blocks, .int .u32 hd.zero.batches] 53) = W1 := ⟨_, rfl⟩
  rw [hW1] at n1 b1
  have hm1 := hm.below b1 hm.lt
  have HN := Lib.hid (cj_none hd0 hm1)
  subst hd0
  go_enter Tryz.func41, Tryz.ntmps41
  go_wp2_with fail
  refine HN.out.mono ?_
  rintro e w1 ⟨rfl, rfl⟩
  clear hW1 HN
  go_wp2_with (first
    | refine wp_ldj (.tmp 8) k hm1 rfl rfl rfl ?_
    | (refine wp_sth (.tmp 2) (.tmp 9) k hd.zero n1 rfl rfl rfl rfl ?_; intro w2 n2 c2))
  exact bodyPost_ret (results_cell rfl rfl (head_load n2)) rfl ⟨rfl, b1.trans (c2.below (B := w.heap.size) b1.size (fun x hx => by simp at hx; omega))⟩
end Go.Proofs.YtknndmhkfonfmaaGreatDoor

/-
  THE PROGRAM's journal: Make, Open.
-/
namespace Go.Proofs.YtknndmhkfonfmaaGreatDoor
open Go.RowKit Go.Shelf
variable {w w' : World} {F : List Nat} {d : Value} {s : dk.St} {q : Nat}
namespace jn
/-- what Make comes to -/
def makeR (s : St) : Int × St := runOps s (layOps dk.zero dk.zero (wrs 0 [dk.zero, dk.zero] ++ [.fl]) hd.zero)
end jn
theorem row_two (w : World) (g : Nat) (C : Array Value) (hC : (dk.cellsS (List.replicate 2 dk.zero)).toArray = C) (h : w.heap[g]? = some (.cells C 43 (0, 0))) : RowBl w g [dk.zero, dk.zero] := by
  rw [RowBl, h, ← hC]
  rfl
set_option maxHeartbeats 4000000 in
set_option maxRecDepth 100000 in
theorem cj_make (hd0 : d = .pointer (some ⟨q, 0, none⟩)) (hD : CD w F d s) (ht : Tabs w) (hmany : s.many + 4200 < 1048576 ∧ s.L.length + 4200 < 1048576) :
    Calls Tryz.prog 26 #[d] w fun e w' => ∃ v p F', e = .returned (.tuple #[v, .int .i64 (jn.makeR s).1]) ∧ CD w' F' d (jn.makeR s).2 ∧ ((jn.makeR s).1 = 0 → v = .pointer (some ⟨p, 0, none⟩) ∧ JM w' p d hd.zero) ∧ (¬ (jn.makeR s).1 = 0 → v = .pointer none) ∧ w.heap.size ≤ p ∧ p ∉ F' ∧ Chg w w' F ∧ Sub w F' F := by
  have hq := hd0
  subst hd0
  obtain ⟨i0, hi0, hz0, hs0, hb0⟩ := info_parts5 info_blk3'
  have hmk := fun W => run_make (P := Tryz.prog) W 58 43 i0 _ Tryz.underlying58 hi0 hz0 .i64 .i64 (2 : Int) (2 : Int) (by omega) (by omega) (by rw [hb0]; omega) (by omega)
  rw [hs0] at hmk
  simp only [show Int.toNat 2 = 2 from rfl, made_blocks] at hmk
  obtain ⟨C, hC⟩ : ∃ C, (dk.cellsS (List.replicate 2 dk.zero)).toArray = C := ⟨_, rfl⟩
  rw [hC] at hmk
  have r1 := heap_alloc_new w (.cells #[.pointer (some ⟨q, 0, none⟩), Value.int .u8 0, .int .u32 0, .int .u32 0] 86)
  have b1 : Below w.heap.size w (w.alloc (.cells #[.pointer (some ⟨q, 0, none⟩), Value.int .u8 0, .int .u32 0, .int .u32 0] 86)) := (Below.refl _ _).alloc (Nat.le_refl _) _
  have r2 := heap_alloc_new (w.alloc (.cells #[.pointer (some ⟨q, 0, none⟩), Value.int .u8 0, .int .u32 0, .int .u32 0] 86)) (.cells C 43)
  have b2 := b1.alloc b1.size (.cells C 43)
  have r12 := (Below.heap_alloc (w.alloc (.cells #[.pointer (some ⟨q, 0, none⟩), Value.int .u8 0, .int .u32 0, .int .u32 0] 86)) (.cells C 43) w.heap.size (by simp)).trans r1
  rw [show (w.alloc (.cells #[.pointer (some ⟨q, 0, none⟩), Value.int .u8 0, .int .u32 0, .int .u32 0] 86)).heap.size = w.heap.size + 1 from by simp] at r2
  obtain ⟨W2, hW2⟩ : ∃ W2, (w.alloc (.cells #[.pointer (some ⟨q, 0, none⟩), Value.int .u8 0, .int .u32 0, .int .u32 0] 86)).alloc (.cells C 43) = W2 := ⟨_, rfl⟩
  rw [hW2] at r2 b2 r12
  have hrow := row_two W2 (w.heap.size + 1) C hC r2
  have hnow : BlS W2 (some ⟨w.heap.size + 1, 0, none⟩) 2 2 [dk.zero, dk.zero] := RowBl.bls hrow (by intro x hx; simp at hx; rw [hx]; rfl) rfl (by omega)
  have hm2 : JM W2 w.heap.size (.pointer (some ⟨q, 0, none⟩)) hd.zero := r12
  have hD2 := hD.below b2
  have hlt2 : w.heap.size + 1 < W2.heap.size := hrow.lt
  have hwr := cwritten_any (F := F) q 0 rfl (by omega) hnow (by omega) (hD.there.mono b2.size)
  rw [Int.natCast_zero] at hwr
  have HWR := Lib.hid hwr
  clear hwr
  have hpF : w.heap.size ∉ F := fun hm => Nat.lt_irrefl _ (hD.there _ hm)
  have HLAY := Lib.hid (fun (w3 : World) (g c : Nat) (fs : List FV) (hb : Below W2.heap.size W2 w3) (hown : w3.ownsRow W2.heap.size 82 1 (.slice (some ⟨g, 0, none⟩) 3 c) 3 (fs.map FV.val)) (hst : StepsOf w3 F (.pointer (some ⟨q, 0, none⟩)) fs (jn.wrs 0 [dk.zero, dk.zero] ++ [.fl])) =>
    cj_lay (h := hd.zero) rfl (hm2.below hb hm2.lt) hpF (ownsRow_base hown (Nat.zero_le _)) (fun hm => by have := hD.there g hm; have := own_base hown g rfl; omega) (by have := own_base hown g rfl; omega) hst (hst.1.trans rfl) (by omega) (hnow.below hb) (hD2.below hb) (ht.below (b2.trans (hb.mono b2.size))) hd.zero_ok (by
      rw [jn.next_ok, jn.newest_zero]
      rfl) ⟨by omega, by omega⟩)
  rw [show jn.layOps dk.zero dk.zero (jn.wrs 0 [dk.zero, dk.zero] ++ [.fl]) hd.zero = jn.layOps dk.zero dk.zero (jn.wrs 0 [dk.zero, dk.zero] ++ [.fl]) hd.zero from rfl] at HLAY
  have hmr : jn.makeR s = jn.runOps s (jn.layOps dk.zero dk.zero (jn.wrs 0 [dk.zero, dk.zero] ++ [.fl]) hd.zero) := rfl
  obtain ⟨R, hR⟩ : ∃ R, jn.makeR s = R := ⟨_, rfl⟩
  rw [← hmr, hR] at HLAY
  rw [hR]
  simp only [ite_self] at HLAY
  generalize jn.wrs 0 [dk.zero, dk.zero] ++ [jn.Op.fl] = OPS at *
  clear hmr hR hC hD2 r1 r2 r12 hrow hnow hm2 b1 hD
  have HPF := Lib.hid hpF
  clear hpF
  by_cases h0 : R.1 = 0
  · have hr0 : (R.1 != 0) = false := by simp [h0]
    have H0 := Lib.hid h0
    clear h0
    obtain ⟨R1, R2⟩ := R
    simp only at *
    go_enter Tryz.func26, Tryz.ntmps26
    go_wp2_with fail
    refine HWR.out.mono ?_
    rintro e w3 ⟨g, c, fs, rfl, own3, st3, b3⟩
    have hLY := HLAY.out w3 g c fs b3 own3 st3
    have HLY := Lib.hid hLY
    have b23 := b2.trans (b3.mono b2.size)
    have hg3 := own_base own3 g rfl
    have hs3 := b3.size
    clear HLAY HWR hLY own3 st3
    go_wp2_with fail
    refine HLY.out.mono ?_
    rintro e w4 ⟨F', rfl, h1, h2, h3, h4⟩
    clear HLY
    go_wp2_with fail
    go_ret2
    have hsub : ∀ x ∈ F', x ∈ F ∨ w3.heap.size ≤ x := h4
    refine ⟨_, w.heap.size, F', by rw [H0.out]; rfl, h1, fun _ => ⟨rfl, h2⟩, fun h => absurd H0.out h, Nat.le_refl _, fun hm => (hsub _ hm).elim HPF.out (by omega), (Chg.of_below b23 F).trans h3 (fun x hx => ?_), fun x hx => (hsub x hx).imp id (fun e => by omega)⟩
    rcases List.mem_cons.1 hx with rfl | hx
    · exact .inr (by omega)
    · rcases List.mem_cons.1 hx with rfl | hx
      · exact .inr (Nat.le_refl _)
      · exact .inl hx
  · have hr0 : (R.1 != 0) = true := by simp [h0]
    have H0 := Lib.hid h0
    clear h0
    obtain ⟨R1, R2⟩ := R
    simp only at *
    go_enter Tryz.func26, Tryz.ntmps26
    go_wp2_with fail
    refine HWR.out.mono ?_
    rintro e w3 ⟨g, c, fs, rfl, own3, st3, b3⟩
    have hLY := HLAY.out w3 g c fs b3 own3 st3
    have HLY := Lib.hid hLY
    have b23 := b2.trans (b3.mono b2.size)
    have hg3 := own_base own3 g rfl
    have hs3 := b3.size
    clear HLAY HWR hLY own3 st3
    go_wp2_with fail
    refine HLY.out.mono ?_
    rintro e w4 ⟨F', rfl, h1, h2, h3, h4⟩
    clear HLY
    go_wp2_with fail
    go_ret2
    have hsub : ∀ x ∈ F', x ∈ F ∨ w3.heap.size ≤ x := h4
    refine ⟨_, w.heap.size, F', rfl, h1, fun h => absurd h H0.out, fun _ => rfl, Nat.le_refl _, fun hm => (hsub _ hm).elim HPF.out (by omega), (Chg.of_below b23 F).trans h3 (fun x hx => ?_), fun x hx => (hsub x hx).imp id (fun e => by omega)⟩
    rcases List.mem_cons.1 hx with rfl | hx
    · exact .inr (by omega)
    · rcases List.mem_cons.1 hx with rfl | hx
      · exact .inr (Nat.le_refl _)
      · exact .inl hx
theorem dk.range_chg {b o : Nat} {cs : List Value} {G : List Nat} (h : w.rangeAt b o cs) (hc : Chg w w' G) (hb : b < w.heap.size) (hG : b ∉ G) : w'.rangeAt b o cs := fun j v hj => by
  have e : w'.cell? ⟨b, o + j, none⟩ = w.cell? ⟨b, o + j, none⟩ := by simp only [World.cell?, hc.block b hb hG]
  rw [e]
  exact h j v hj
section
variable {o : Oper} {a : Act} {w : World} {K : Act → World → Prop} {Q : Exit → Act → World → Prop}
theorem wpo_sth (x y : Operand) (h old : hd.H) {E : TypeId} {g : Nat} (m : HM E w g old) (ho : o.op = .store 53 x y) (hx : a.eval x = .pointer (some ⟨g, 0, none⟩)) (hy : a.eval y = hd.val h)
    (hk : ∀ W, HM E W g h → Chg w W [g] → K (a.put o.dst undef) W) : o.wp Tryz.prog a w K Q := by
  have h2 := block_sets (hd.cells h) 0 (hd.cells old) w m (by simp)
  refine wp_store_mid _ x y ho g 0 (hd.cells h).toArray hx hy ?_ (by simpa using head_size) (by simp [Value.oneCell']) ?_
  · have := there_of (cs := hd.cells old) m 0 3 (by simp)
    simpa using this
  · exact hk _ (show _ = _ by simpa using h2) (Chg.setCells g _ _ _)
end
set_option maxHeartbeats 8000000 in
set_option maxRecDepth 100000 in
theorem cj_open (hd0 : d = .pointer (some ⟨q, 0, none⟩)) (hD : CD w F d s) (ht : Tabs w) :
    Calls Tryz.prog 34 #[d] w fun e w' => ∃ v p, e = .returned (.tuple #[v, .int .i64 (jn.opens s)]) ∧ (jn.opens s = 0 → v = .pointer (some ⟨p, 0, none⟩) ∧ JM w' p d (jn.newest s).2.1) ∧ (¬ jn.opens s = 0 → v = .pointer none) ∧ w.heap.size ≤ p ∧ Below w.heap.size w w' := by
  have hok := hD.ok
  have h64 := hok.some
  have hmost := hok.most
  have hopen : jn.opens s = if s.black then 9 else if ¬ (jn.newest s).2.2 = 0 ∨ 2305843009213693952 < (jn.newest s).1 then 5 else if (jn.batches s (jn.newest s).2.1).2 then 0 else 5 := rfl
  obtain ⟨R, hR⟩ : ∃ R, jn.opens s = R := ⟨_, rfl⟩
  rw [hR] at hopen ⊢
  by_cases hbl : s.black = true
  · rw [if_pos hbl] at hopen
    have hrd : (dk.read s 0).2 = 9 := by
      have hq : dk.asks s 0 = 9 := by unfold dk.asks; rw [if_pos hbl]
      unfold dk.read
      rw [if_neg (by rw [hq]; decide)]
      exact hq
    have HREAD := Lib.hid (cj_read_no (w := w) d 0 2 (by omega) (by omega) (by omega) 9 (by decide) (fun W hb => (cd_read 0 (hD.below hb)).mono (by
      rintro e w' ⟨h1, h2⟩
      rw [hrd] at h1
      exact ⟨_, rd_lenP hok 0, h1, h2⟩)))
    have HO := Lib.hid hopen
    subst hd0
    clear hopen hD hrd hR
    go_enter Tryz.func34, Tryz.ntmps34
    go_wp2_with fail
    refine HREAD.out.mono ?_
    rintro e w2 ⟨rfl, b2⟩
    clear HREAD
    go_wp2_with fail
    go_ret2
    exact ⟨_, w.heap.size, by rw [HO.out]; rfl, fun h => absurd (HO.out.symm.trans h) (by decide), fun _ => rfl, Nat.le_refl _, b2⟩
  · rw [if_neg hbl] at hopen
    have hbl : s.black = false := by simpa using hbl
    have HREAD := Lib.hid (cj_read 0 2 (by omega) (by omega) hD (.inl hbl))
    have HD := Lib.hid hD
    have hl0 := rd_lenP hok 0
    have hl1 := rd_lenP hok 1
    have HNEW := Lib.hid (fun W (hb : Below w.heap.size w W) => ch_newest (jn.rd s 0) (jn.rd s 1) hl0 hl1 W (ht.below hb))
    rw [show hd.newest (jn.rd s 0) (jn.rd s 1) = jn.newest s from rfl] at HNEW
    have HR2 := Lib.hid (jn.rds_two s)
    generalize jn.rd s 0 = xa at *
    generalize jn.rd s 1 = xb at *
    have uB := Tryz.underlying43
    have iA := info_blk' hl0
    have iB := info_blk' hl1
    obtain ⟨N, hN⟩ : ∃ e, (jn.newest s).1 = e := ⟨_, rfl⟩
    obtain ⟨k, hk⟩ : ∃ e, (jn.newest s).2.1 = e := ⟨_, rfl⟩
    obtain ⟨f, hf⟩ : ∃ e, (jn.newest s).2.2 = e := ⟨_, rfl⟩
    have hmk : hd.may k = true := by
      rw [← hk]
      have hg : ∀ x : dk.Blk, hd.may (hd.get x).2.1 = true := fun x => by
        by_cases h : (hd.get x).2.2 = 0
        · exact (hd.get_num h).2.2
        · rw [(hd.get_err h).2]; rfl
      unfold jn.newest hd.newest
      split
      · rfl
      · split
        · exact hg _
        · exact hg _
    rw [hN, hk, hf] at HNEW hopen
    rw [hk]
    have HO := Lib.hid hopen
    clear hopen hR hN hk hf hD
    obtain ⟨hzh, -⟩ := zero_of_info info_head
    subst hd0
    go_enter Tryz.func34, Tryz.ntmps34
    go_wp2_with fail
    refine HREAD.out.mono ?_
    rintro e w2 ⟨rfl, r2, b2⟩
    rw [HR2.out] at r2
    have hlr : ∀ b ∈ [xa, xb], b.length = 128 := by
      intro x hx
      simp at hx
      rcases hx with rfl | rfl
      · exact hl0
      · exact hl1
    have ra := r2.range hlr (i := 0) (by simp)
    have rb := r2.range hlr (i := 1) (by simp)
    simp only [List.getElem_cons_zero, List.getElem_cons_succ, Nat.zero_mul, Nat.one_mul] at ra rb
    have hgl := r2.lt
    obtain ⟨gn, hgn⟩ : ∃ g, w.heap.size = g := ⟨_, rfl⟩
    rw [hgn] at ra rb hgl
    have HGN := Lib.hid hgn
    rw [hgn]
    clear HREAD r2 hlr hgn
    go_wp2_with fail
    have b2d := b2.drew
    have hgld : gn < w2.drew.heap.size := hgl
    refine wp_region_held_drew (S := fun W => W.rangeAt gn 0 (dk.cells xa) ∧ W.rangeAt gn 128 (dk.cells xb)) (by kernel_rfl) ⟨dk.range_below ra (Below.refl _ _).drew, dk.range_below rb (Below.refl _ _).drew⟩ (fun hHeld => ?_)
    generalize w2.drew = wd at *
    refine wpAnyH_take (i := 0) (v := ?_) rfl (by kernel_rfl) (by kernel_rfl) (by kernel_rfl) (fun _ _ _ h => h) (Or.inl ⟨by rfl, ?_⟩) hHeld ?_
    rotate_left
    · intro w hSw; clear hSw; go_simp; try rfl
    simp only [List.getElem_toArray, List.getElem_cons_zero, Act.put, List.setIfInBounds_toArray, List.set_cons_zero, List.set_cons_succ]
    refine wpAnyH_take (i := 1) (v := ?_) rfl (by kernel_rfl) (by kernel_rfl) (by kernel_rfl) (fun _ _ _ h => h) (Or.inl ⟨by rfl, ?_⟩) hHeld ?_
    rotate_left
    · intro w hSw; clear hSw; go_simp; try rfl
    simp only [List.getElem_toArray, List.getElem_cons_zero, List.getElem_cons_succ, Act.put, List.setIfInBounds_toArray, List.set_cons_zero, List.set_cons_succ]
    refine wpAnyH_take (i := 2) (v := dk.val xa) rfl (by kernel_rfl) (by kernel_rfl) (by kernel_rfl) (fun _ _ _ h => h) (yieldsIf_load_mid (by rfl) 43 (.tmp 20) rfl gn (0) rfl (dk.cells xa) _ (fun w h => h.1) uB rfl iA) hHeld ?_
    simp only [List.getElem_toArray, List.getElem_cons_zero, List.getElem_cons_succ, Act.put, List.setIfInBounds_toArray, List.set_cons_zero, List.set_cons_succ]
    refine wpAnyH_take (i := 3) (v := ?_) rfl (by kernel_rfl) (by kernel_rfl) (by kernel_rfl) (fun _ _ _ h => h) (Or.inl ⟨by rfl, ?_⟩) hHeld ?_
    rotate_left
    · intro w hSw; clear hSw; go_simp; try rfl
    simp only [List.getElem_toArray, List.getElem_cons_zero, List.getElem_cons_succ, Act.put, List.setIfInBounds_toArray, List.set_cons_zero, List.set_cons_succ]
    refine wpAnyH_take (i := 4) (v := ?_) rfl (by kernel_rfl) (by kernel_rfl) (by kernel_rfl) (fun _ _ _ h => h) (Or.inl ⟨by rfl, ?_⟩) hHeld ?_
    rotate_left
    · intro w hSw; clear hSw; go_simp; try rfl
    simp only [List.getElem_toArray, List.getElem_cons_zero, List.getElem_cons_succ, Act.put, List.setIfInBounds_toArray, List.set_cons_zero, List.set_cons_succ]
    refine wpAnyH_take (i := 5) (v := dk.val xb) rfl (by kernel_rfl) (by kernel_rfl) (by kernel_rfl) (fun _ _ _ h => h) (yieldsIf_load_mid (by rfl) 43 (.tmp 23) rfl gn (128) rfl (dk.cells xb) _ (fun w h => h.2) uB rfl iB) hHeld ?_
    simp only [List.getElem_toArray, List.getElem_cons_zero, List.getElem_cons_succ, Act.put, List.setIfInBounds_toArray, List.set_cons_zero, List.set_cons_succ]
    refine wpAnyH_ready (rs := [6, 11]) (by kernel_rfl) (by simp) ?_
    refine AllReadyH.cons rfl (fun K hK => ?_) (AllReadyH.cons rfl (fun K hK => ?_) AllReadyH.nil)
    · rw [if_pos (by rfl)]
      go_simp
      refine (HNEW.out _ b2d).mono ?_
      rintro e w3 ⟨rfl, b3⟩
      have b23 := b2d.trans (b3.mono b2d.size)
      refine hK.out _ _ ⟨dk.range_below hHeld.1 b3, dk.range_below hHeld.2 b3⟩ (fun hHeld => ?_)
      clear hK K
      refine wpAnyH_take (i := 7) (v := ?_) rfl (by kernel_rfl) (by kernel_rfl) (by kernel_rfl) (fun _ _ _ h => h) (Or.inl ⟨by rfl, ?_⟩) hHeld ?_
      rotate_left
      · intro w hSw; clear hSw; go_simp; try rfl
      simp only [List.getElem_toArray, List.getElem_cons_zero, List.getElem_cons_succ, Act.put, List.setIfInBounds_toArray, List.set_cons_zero, List.set_cons_succ]
      refine wpAnyH_take (i := 8) (v := ?_) rfl (by kernel_rfl) (by kernel_rfl) (by kernel_rfl) (fun _ _ _ h => h) (Or.inl ⟨by rfl, ?_⟩) hHeld ?_
      rotate_left
      · intro w hSw; clear hSw; go_simp; try rfl
      simp only [List.getElem_toArray, List.getElem_cons_zero, List.getElem_cons_succ, Act.put, List.setIfInBounds_toArray, List.set_cons_zero, List.set_cons_succ]
      refine wpAnyH_take (i := 9) (v := ?_) rfl (by kernel_rfl) (by kernel_rfl) (by kernel_rfl) (fun _ _ _ h => h) (Or.inl ⟨by rfl, ?_⟩) hHeld ?_
      rotate_left
      · intro w hSw; clear hSw; go_simp; try rfl
      simp only [List.getElem_toArray, List.getElem_cons_zero, List.getElem_cons_succ, Act.put, List.setIfInBounds_toArray, List.set_cons_zero, List.set_cons_succ]
      refine wpAnyH_take (i := 10) (v := ?_) rfl (by kernel_rfl) (by kernel_rfl) (by kernel_rfl) (fun _ _ _ h => h) (Or.inl ⟨by rfl, ?_⟩) hHeld ?_
      rotate_left
      · intro w hSw; clear hSw; go_simp; try rfl
      simp only [List.getElem_toArray, List.getElem_cons_zero, List.getElem_cons_succ, Act.put, List.setIfInBounds_toArray, List.set_cons_zero, List.set_cons_succ]
      have nX := HM.new w3 53 hd.zero
      have b24 := b23.alloc b23.size (.cells #[bv hd.zero.bank, .int .u32 hd.zero.blocks, .int .u32 hd.zero.batches] 53)
      refine wpAnyH_ready (rs := [11]) (by kernel_rfl) (by simp) ?_
      refine AllReadyH.cons rfl (fun K hK => ?_) AllReadyH.nil
      rw [if_pos (by rfl)]
      go_simp
      refine hK.out _ _ ⟨dk.range_below hHeld.1 ((Below.refl _ _).alloc (Nat.le_refl _) _), dk.range_below hHeld.2 ((Below.refl _ _).alloc (Nat.le_refl _) _)⟩ (fun hHeld => ?_)
      clear hK K
      obtain ⟨X, hX⟩ : ∃ X, w3.heap.size = X := ⟨_, rfl⟩
      rw [hX] at nX
      simp only [hX]
      have hgX : gn ≠ X := by have := b3.size; omega
      have hXw : w.heap.size ≤ X := by rw [← hX]; exact b23.size
      have hg4 : gn < (w3.alloc (.cells #[bv hd.zero.bank, .int .u32 hd.zero.blocks, .int .u32 hd.zero.batches] 53)).heap.size := by have := b3.size; simp; omega
      generalize w3.alloc (.cells #[bv hd.zero.bank, .int .u32 hd.zero.blocks, .int .u32 hd.zero.batches] 53) = w4 at *
      refine wpAnyH_take (i := 12) (v := ?_) rfl (by kernel_rfl) (by kernel_rfl) (by kernel_rfl) (fun _ _ _ h => h) (Or.inl ⟨by rfl, ?_⟩) hHeld ?_
      rotate_left
      · intro w hSw; clear hSw; go_simp; try rfl
      simp only [List.getElem_toArray, List.getElem_cons_zero, List.getElem_cons_succ, Act.put, List.setIfInBounds_toArray, List.set_cons_zero, List.set_cons_succ]
      refine wpAnyH_ready (rs := [13]) (by kernel_rfl) (by simp) ?_
      refine AllReadyH.cons rfl (fun K hK => ?_) AllReadyH.nil
      rw [if_pos (by rfl)]
      refine wpo_sth (.tmp 7) (.tmp 27) k hd.zero nX rfl rfl rfl ?_
      intro w5 n5 c5
      refine hK.out _ _ ⟨dk.range_chg hHeld.1 c5 hg4 (by simp; exact hgX), dk.range_chg hHeld.2 c5 hg4 (by simp; exact hgX)⟩ (fun hHeld => ?_)
      clear hK K
      simp only [List.getElem_toArray, List.getElem_cons_zero, List.getElem_cons_succ, Act.put]
      refine wpAnyH_take (i := 14) (v := ?_) rfl (by kernel_rfl) (by kernel_rfl) (by kernel_rfl) (fun _ _ _ h => h) (Or.inl ⟨by rfl, ?_⟩) hHeld ?_
      rotate_left
      · intro w hSw; clear hSw; go_simp; try rfl
      simp only [List.getElem_toArray, List.getElem_cons_zero, List.getElem_cons_succ, Act.put, List.setIfInBounds_toArray, List.set_cons_zero, List.set_cons_succ]
      refine wpAnyH_done (by kernel_rfl) ?_ _
      have b25 := b24.trans (c5.below (B := w.heap.size) b24.size (fun x hx => by simp at hx; rw [hx]; exact hXw))
      clear hHeld c5 nX b24 hg4 HNEW
      have e1 := n5.c1
      have e2 := n5.c2
      have e0 := n5.c0
      by_cases hf0 : f = 0
      · have hf0' : (f != 0) = false := by simp [hf0]
        by_cases hNb : 2305843009213693952 < N
        · have hNd : decide ((2305843009213693952 : Int) < (N : Int)) = true := decide_eq_true (by omega)
          have hNi : (2305843009213693952 : Int) < (N : Int) := by omega
          have ho := HO.out
          rw [if_pos (.inr hNb)] at ho
          have HO5 := Lib.hid ho
          clear ho HO hf0 hNb
          go_wp2_with fail
          go_quiet (fail)
          go_wp2_with fail
          go_ret2
          exact ⟨_, w.heap.size, by rw [HO5.out]; rfl, fun h => absurd (HO5.out.symm.trans h) (by decide), fun _ => rfl, Nat.le_refl _, ⟨b25.os, b25.tape, b25.output, b25.size, b25.block⟩⟩
        · have hNd : decide ((2305843009213693952 : Int) < (N : Int)) = false := decide_eq_false (by omega)
          have hNi : ¬ (2305843009213693952 : Int) < (N : Int) := by omega
          have ho := HO.out
          rw [if_neg (by intro h; rcases h with h | h; exact h hf0; exact hNb h)] at ho
          have HO5 := Lib.hid ho
          have hmay := hd.may_ok hmk
          obtain ⟨hmy1, hmy2, hmy3⟩ := hmay
          have hhalf := jn.half_le hok
          have hww : IntKind.i64.wrap (k.blocks : Int) = (k.blocks : Int) := IntWalk.i64_in _ ⟨by omega, by omega⟩
          have HSIZE := Lib.hid (fun n => cj_size ((HD.out.below b25).drewN' n))
          obtain ⟨hf, hhf⟩ : ∃ h, jn.half s = h := ⟨_, rfl⟩
          rw [hhf] at HSIZE hhalf
          clear ho HO hf0 hNb
          by_cases hbig : hf < k.blocks
          · have hbi : decide ((hf : Int) < (k.blocks : Int)) = true := decide_eq_true (by omega)
            have hbi2 : (hf : Int) < (k.blocks : Int) := by omega
            have h5 : R = 5 := by
              have hb0 : jn.batches s k = ([], false) := by rw [jn.batches, if_pos (by rw [hhf]; exact hbig)]
              rw [HO5.out, hb0]
              rfl
            have H5 := Lib.hid h5
            clear h5 HO5 hbig
            go_wp2_with fail
            go_quiet (first | (go_at_call 62; exact quiet_is (HSIZE.out _)))
            go_wp2_with fail
            go_ret2
            exact ⟨_, w.heap.size, by rw [H5.out]; rfl, fun h => absurd (H5.out.symm.trans h) (by decide), fun _ => rfl, Nat.le_refl _, ⟨b25.os, b25.tape, b25.output, b25.size, b25.block⟩⟩
          · have hbi : decide ((hf : Int) < (k.blocks : Int)) = false := decide_eq_false (by omega)
            have hbi2 : ¬ (hf : Int) < (k.blocks : Int) := by omega
            have HBT := Lib.hid (fun W (hb : Below w.heap.size w W) => cj_batches (HD.out.below hb) k hmk (by omega) (.inl hbl))
            obtain ⟨B2, hB2⟩ : ∃ b, (jn.batches s k).2 = b := ⟨_, rfl⟩
            rw [hB2] at HBT HO5
            clear hB2 hbig
            go_wp2_with fail
            go_quiet (first | (go_at_call 62; exact quiet_is (HSIZE.out _)))
            have b25q : Below w.heap.size w (w5.drewN nq) := ⟨b25.os, b25.tape, b25.output, b25.size, b25.block⟩
            have n5q : HM 53 (w5.drewN nq) X k := n5
            clear b25 n5 e0 e1 e2 HSIZE
            generalize w5.drewN nq = w6 at *
            go_wp2_with (refine wp_ldh (.tmp 7) k n5q rfl rfl rfl ?_)
            refine (HBT.out _ b25q).mono ?_
            rintro e w7 ⟨A, n, c, rfl, _, _, b7⟩
            have b27 := b25q.trans (b7.mono b25q.size)
            have n7 := n5q.below b7 n5q.lt
            clear HBT b25q n5q b7
            cases B2 with
            | true =>
              have H5 := Lib.hid (show R = 0 from HO5.out)
              clear HO5
              have hj := heap_alloc_new w7 (.cells #[.pointer (some ⟨q, 0, none⟩), bv k.bank, .int .u32 k.blocks, .int .u32 k.batches] 86)
              have b28 := b27.alloc b27.size (.cells #[.pointer (some ⟨q, 0, none⟩), bv k.bank, .int .u32 k.blocks, .int .u32 k.batches] 86)
              have hs7 := b27.size
              go_wp2_with (refine wp_ldh (.tmp 7) k n7 rfl rfl rfl ?_)
              go_ret2
              exact ⟨_, w7.heap.size, by rw [H5.out]; rfl, fun _ => ⟨rfl, hj⟩, fun h => absurd H5.out h, hs7, b28⟩
            | false =>
              have H5 := Lib.hid (show R = 5 from HO5.out)
              clear HO5
              go_wp2_with fail
              go_ret2
              exact ⟨_, w.heap.size, by rw [H5.out]; rfl, fun h => absurd (H5.out.symm.trans h) (by decide), fun _ => rfl, Nat.le_refl _, b27⟩
      · have hf0' : (f != 0) = true := by simp [hf0]
        have ho := HO.out
        rw [if_pos (.inl hf0)] at ho
        have HO5 := Lib.hid ho
        clear ho HO hf0
        go_wp2_with fail
        go_quiet (fail)
        go_wp2_with fail
        go_ret2
        exact ⟨_, w.heap.size, by rw [HO5.out]; rfl, fun h => absurd (HO5.out.symm.trans h) (by decide), fun _ => rfl, Nat.le_refl _, ⟨b25.os, b25.tape, b25.output, b25.size, b25.block⟩⟩
    · rw [if_pos (by rfl)]
      have n0 := HM.new wd 53 hd.zero
      have b23 := b2d.alloc b2d.size (.cells #[bv hd.zero.bank, .int .u32 hd.zero.blocks, .int .u32 hd.zero.batches] 53)
      go_simp
      refine hK.out _ _ ⟨dk.range_below hHeld.1 ((Below.refl _ _).alloc (Nat.le_refl _) _), dk.range_below hHeld.2 ((Below.refl _ _).alloc (Nat.le_refl _) _)⟩ (fun hHeld => ?_)
      clear hK K
      obtain ⟨X, hX⟩ : ∃ X, wd.heap.size = X := ⟨_, rfl⟩
      rw [hX] at n0
      simp only [hX]
      have hgX : gn ≠ X := by omega
      have hXw : w.heap.size ≤ X := by rw [← hX]; exact b2d.size
      have hg3 : gn < (wd.alloc (.cells #[bv hd.zero.bank, .int .u32 hd.zero.blocks, .int .u32 hd.zero.batches] 53)).heap.size := by simp; omega
      generalize wd.alloc (.cells #[bv hd.zero.bank, .int .u32 hd.zero.blocks, .int .u32 hd.zero.batches] 53) = w3 at *
      refine wpAnyH_ready (rs := [6]) (by kernel_rfl) (by simp) ?_
      refine AllReadyH.cons rfl (fun K hK => ?_) AllReadyH.nil
      rw [if_pos (by rfl)]
      go_simp
      refine (HNEW.out _ b23).mono ?_
      rintro e w4 ⟨rfl, b4⟩
      have b24 := b23.trans (b4.mono b23.size)
      have nX := n0.below b4 n0.lt
      have hg4 : gn < w4.heap.size := Nat.lt_of_lt_of_le hg3 b4.size
      refine hK.out _ _ ⟨dk.range_below hHeld.1 b4, dk.range_below hHeld.2 b4⟩ (fun hHeld => ?_)
      clear hK K
      refine wpAnyH_take (i := 7) (v := ?_) rfl (by kernel_rfl) (by kernel_rfl) (by kernel_rfl) (fun _ _ _ h => h) (Or.inl ⟨by rfl, ?_⟩) hHeld ?_
      rotate_left
      · intro w hSw; clear hSw; go_simp; try rfl
      simp only [List.getElem_toArray, List.getElem_cons_zero, List.getElem_cons_succ, Act.put, List.setIfInBounds_toArray, List.set_cons_zero, List.set_cons_succ]
      refine wpAnyH_take (i := 8) (v := ?_) rfl (by kernel_rfl) (by kernel_rfl) (by kernel_rfl) (fun _ _ _ h => h) (Or.inl ⟨by rfl, ?_⟩) hHeld ?_
      rotate_left
      · intro w hSw; clear hSw; go_simp; try rfl
      simp only [List.getElem_toArray, List.getElem_cons_zero, List.getElem_cons_succ, Act.put, List.setIfInBounds_toArray, List.set_cons_zero, List.set_cons_succ]
      refine wpAnyH_take (i := 9) (v := ?_) rfl (by kernel_rfl) (by kernel_rfl) (by kernel_rfl) (fun _ _ _ h => h) (Or.inl ⟨by rfl, ?_⟩) hHeld ?_
      rotate_left
      · intro w hSw; clear hSw; go_simp; try rfl
      simp only [List.getElem_toArray, List.getElem_cons_zero, List.getElem_cons_succ, Act.put, List.setIfInBounds_toArray, List.set_cons_zero, List.set_cons_succ]
      refine wpAnyH_take (i := 10) (v := ?_) rfl (by kernel_rfl) (by kernel_rfl) (by kernel_rfl) (fun _ _ _ h => h) (Or.inl ⟨by rfl, ?_⟩) hHeld ?_
      rotate_left
      · intro w hSw; clear hSw; go_simp; try rfl
      simp only [List.getElem_toArray, List.getElem_cons_zero, List.getElem_cons_succ, Act.put, List.setIfInBounds_toArray, List.set_cons_zero, List.set_cons_succ]
      refine wpAnyH_take (i := 12) (v := ?_) rfl (by kernel_rfl) (by kernel_rfl) (by kernel_rfl) (fun _ _ _ h => h) (Or.inl ⟨by rfl, ?_⟩) hHeld ?_
      rotate_left
      · intro w hSw; clear hSw; go_simp; try rfl
      simp only [List.getElem_toArray, List.getElem_cons_zero, List.getElem_cons_succ, Act.put, List.setIfInBounds_toArray, List.set_cons_zero, List.set_cons_succ]
      refine wpAnyH_ready (rs := [13]) (by kernel_rfl) (by simp) ?_
      refine AllReadyH.cons rfl (fun K hK => ?_) AllReadyH.nil
      rw [if_pos (by rfl)]
      refine wpo_sth (.tmp 7) (.tmp 27) k hd.zero nX rfl rfl rfl ?_
      intro w5 n5 c5
      refine hK.out _ _ ⟨dk.range_chg hHeld.1 c5 hg4 (by simp; exact hgX), dk.range_chg hHeld.2 c5 hg4 (by simp; exact hgX)⟩ (fun hHeld => ?_)
      clear hK K
      simp only [List.getElem_toArray, List.getElem_cons_zero, List.getElem_cons_succ, Act.put]
      refine wpAnyH_take (i := 14) (v := ?_) rfl (by kernel_rfl) (by kernel_rfl) (by kernel_rfl) (fun _ _ _ h => h) (Or.inl ⟨by rfl, ?_⟩) hHeld ?_
      rotate_left
      · intro w hSw; clear hSw; go_simp; try rfl
      simp only [List.getElem_toArray, List.getElem_cons_zero, List.getElem_cons_succ, Act.put, List.setIfInBounds_toArray, List.set_cons_zero, List.set_cons_succ]
      refine wpAnyH_done (by kernel_rfl) ?_ _
      have b25 := b24.trans (c5.below (B := w.heap.size) b24.size (fun x hx => by simp at hx; rw [hx]; exact hXw))
      clear hHeld c5 nX b24 hg4 HNEW
      have e1 := n5.c1
      have e2 := n5.c2
      have e0 := n5.c0
      by_cases hf0 : f = 0
      · have hf0' : (f != 0) = false := by simp [hf0]
        by_cases hNb : 2305843009213693952 < N
        · have hNd : decide ((2305843009213693952 : Int) < (N : Int)) = true := decide_eq_true (by omega)
          have hNi : (2305843009213693952 : Int) < (N : Int) := by omega
          have ho := HO.out
          rw [if_pos (.inr hNb)] at ho
          have HO5 := Lib.hid ho
          clear ho HO hf0 hNb
          go_wp2_with fail
          go_quiet (fail)
          go_wp2_with fail
          go_ret2
          exact ⟨_, w.heap.size, by rw [HO5.out]; rfl, fun h => absurd (HO5.out.symm.trans h) (by decide), fun _ => rfl, Nat.le_refl _, ⟨b25.os, b25.tape, b25.output, b25.size, b25.block⟩⟩
        · have hNd : decide ((2305843009213693952 : Int) < (N : Int)) = false := decide_eq_false (by omega)
          have hNi : ¬ (2305843009213693952 : Int) < (N : Int) := by omega
          have ho := HO.out
          rw [if_neg (by intro h; rcases h with h | h; exact h hf0; exact hNb h)] at ho
          have HO5 := Lib.hid ho
          have hmay := hd.may_ok hmk
          obtain ⟨hmy1, hmy2, hmy3⟩ := hmay
          have hhalf := jn.half_le hok
          have hww : IntKind.i64.wrap (k.blocks : Int) = (k.blocks : Int) := IntWalk.i64_in _ ⟨by omega, by omega⟩
          have HSIZE := Lib.hid (fun n => cj_size ((HD.out.below b25).drewN' n))
          obtain ⟨hf, hhf⟩ : ∃ h, jn.half s = h := ⟨_, rfl⟩
          rw [hhf] at HSIZE hhalf
          clear ho HO hf0 hNb
          by_cases hbig : hf < k.blocks
          · have hbi : decide ((hf : Int) < (k.blocks : Int)) = true := decide_eq_true (by omega)
            have hbi2 : (hf : Int) < (k.blocks : Int) := by omega
            have h5 : R = 5 := by
              have hb0 : jn.batches s k = ([], false) := by rw [jn.batches, if_pos (by rw [hhf]; exact hbig)]
              rw [HO5.out, hb0]
              rfl
            have H5 := Lib.hid h5
            clear h5 HO5 hbig
            go_wp2_with fail
            go_quiet (first | (go_at_call 62; exact quiet_is (HSIZE.out _)))
            go_wp2_with fail
            go_ret2
            exact ⟨_, w.heap.size, by rw [H5.out]; rfl, fun h => absurd (H5.out.symm.trans h) (by decide), fun _ => rfl, Nat.le_refl _, ⟨b25.os, b25.tape, b25.output, b25.size, b25.block⟩⟩
          · have hbi : decide ((hf : Int) < (k.blocks : Int)) = false := decide_eq_false (by omega)
            have hbi2 : ¬ (hf : Int) < (k.blocks : Int) := by omega
            have HBT := Lib.hid (fun W (hb : Below w.heap.size w W) => cj_batches (HD.out.below hb) k hmk (by omega) (.inl hbl))
            obtain ⟨B2, hB2⟩ : ∃ b, (jn.batches s k).2 = b := ⟨_, rfl⟩
            rw [hB2] at HBT HO5
            clear hB2 hbig
            go_wp2_with fail
            go_quiet (first | (go_at_call 62; exact quiet_is (HSIZE.out _)))
            have b25q : Below w.heap.size w (w5.drewN nq) := ⟨b25.os, b25.tape, b25.output, b25.size, b25.block⟩
            have n5q : HM 53 (w5.drewN nq) X k := n5
            clear b25 n5 e0 e1 e2 HSIZE
            generalize w5.drewN nq = w6 at *
            go_wp2_with (refine wp_ldh (.tmp 7) k n5q rfl rfl rfl ?_)
            refine (HBT.out _ b25q).mono ?_
            rintro e w7 ⟨A, n, c, rfl, _, _, b7⟩
            have b27 := b25q.trans (b7.mono b25q.size)
            have n7 := n5q.below b7 n5q.lt
            clear HBT b25q n5q b7
            cases B2 with
            | true =>
              have H5 := Lib.hid (show R = 0 from HO5.out)
              clear HO5
              have hj := heap_alloc_new w7 (.cells #[.pointer (some ⟨q, 0, none⟩), bv k.bank, .int .u32 k.blocks, .int .u32 k.batches] 86)
              have b28 := b27.alloc b27.size (.cells #[.pointer (some ⟨q, 0, none⟩), bv k.bank, .int .u32 k.blocks, .int .u32 k.batches] 86)
              have hs7 := b27.size
              go_wp2_with (refine wp_ldh (.tmp 7) k n7 rfl rfl rfl ?_)
              go_ret2
              exact ⟨_, w7.heap.size, by rw [H5.out]; rfl, fun _ => ⟨rfl, hj⟩, fun h => absurd H5.out h, hs7, b28⟩
            | false =>
              have H5 := Lib.hid (show R = 5 from HO5.out)
              clear HO5
              go_wp2_with fail
              go_ret2
              exact ⟨_, w.heap.size, by rw [H5.out]; rfl, fun h => absurd (H5.out.symm.trans h) (by decide), fun _ => rfl, Nat.le_refl _, b27⟩
      · have hf0' : (f != 0) = true := by simp [hf0]
        have ho := HO.out
        rw [if_pos (.inl hf0)] at ho
        have HO5 := Lib.hid ho
        clear ho HO hf0
        go_wp2_with fail
        go_quiet (fail)
        go_wp2_with fail
        go_ret2
        exact ⟨_, w.heap.size, by rw [HO5.out]; rfl, fun h => absurd (HO5.out.symm.trans h) (by decide), fun _ => rfl, Nat.le_refl _, ⟨b25.os, b25.tape, b25.output, b25.size, b25.block⟩⟩
end Go.Proofs.YtknndmhkfonfmaaGreatDoor

/-
  PURE: steps, one behind the other, are what lay, Append, Replace, Make come to; what a journal that goes by its head has of its disk.
-/
namespace Go.Proofs.YtknndmhkfonfmaaGreatDoor
namespace jn
theorem run_one (t : St) (o : Op) : runOps t [o] = opR t o := by
  simp only [runOps]
  split
  · rename_i h
    exact Prod.ext h.symm rfl
  · rfl
theorem ops_lay {s : St} {at_ : Nat} {l : List Blk} {h : hd.H} {a b : Blk}
    (hD : (writes s at_ l).1 = 0 → (dk.flush (writes s at_ l).2).1 = 0 → rd (dk.flush (writes s at_ l).2).2 0 = a ∧ rd (dk.flush (writes s at_ l).2).2 1 = b) :
    runOps s (layOps a b (wrs at_ l ++ [.fl]) h) = lay s at_ l h := by
  unfold layOps
  rw [runOps_app, runOps_app, runOps_wrs]
  by_cases h1 : (writes s at_ l).1 = 0
  · rw [if_pos h1, run_one]
    show (if (dk.flush (writes s at_ l).2).1 = 0 then _ else _) = _
    by_cases h2 : (dk.flush (writes s at_ l).2).1 = 0
    · have h3 := hD h1 h2
      unfold jn.lay
      rw [if_pos h1, if_pos h2, if_pos h2]
      show runOps (dk.flush (writes s at_ l).2).2 _ = _
      generalize (dk.flush (writes s at_ l).2).2 = t at *
      have hp := nx_pos a b
      unfold jn.layH jn.newest
      rw [h3.1, h3.2]
      have e1 : (nx a b).1 = (hd.newest a b).1 + 1 := rfl
      have e2 : (nx a b).2 = sl.next a b := rfl
      rw [← e1, ← e2, hp.1, Int.toNat_natCast]
      show (if (dk.write t _ _).1 = 0 then runOps _ [Op.fl] else dk.write t _ _) = _
      rw [run_one]
      rfl
    · have e : jn.lay s at_ l h = dk.flush (writes s at_ l).2 := by unfold jn.lay; rw [if_pos h1, if_neg h2]
      rw [e, if_neg h2]
      rfl
  · have e : jn.lay s at_ l h = writes s at_ l := by unfold jn.lay; rw [if_neg h1]
    rw [e, if_neg h1, if_neg h1]
theorem asks_zero_light {s : St} {n : Int} (h : dk.asks s n = 0) : s.black = false := by
  unfold dk.asks at h
  by_cases hb : s.black = true
  · rw [if_pos hb] at h; cases h
  · simpa using hb
/-- what stands in the heads behind steps that wrote others -/
theorem rd_behind {s : St} (ok : s.Ok) (hb : s.black = false) (hL : s.L = []) {at_ : Nat} {l : List Blk} (hl : ∀ b ∈ l, b.length = 128) (h2 : 2 ≤ at_) (hat : at_ + l.length ≤ s.S.length)
    (w1 : (writes s at_ l).1 = 0) (f1 : (dk.flush (writes s at_ l).2).1 = 0) : rd (dk.flush (writes s at_ l).2).2 0 = rd s 0 ∧ rd (dk.flush (writes s at_ l).2).2 1 = rd s 1 := by
  have h64 := ok.some
  rcases writes_cases l s at_ hb hat hl with ⟨_, w2, w3, w4, w5⟩ | ⟨w1', _⟩
  · rw [hL, List.nil_append] at w4
    rcases flush_cases w2 with ⟨_, f2, f3, f4, f5⟩ | ⟨f1', _⟩
    · rw [w3, w4] at f3
      have ha := agree_lay _ s.S (zipAt_in l at_ hl)
      generalize (dk.flush (writes s at_ l).2).2 = t at *
      have hlen : t.S.length = s.S.length := by rw [f3]; exact ha.len
      have e0 : rd t 0 = t.S.getD 0 dk.zero := rd_sure f2 f4 (k := 0) (by omega)
      have e1 : rd t 1 = t.S.getD 1 dk.zero := rd_sure f2 f4 (k := 1) (by omega)
      have g0 : rd s 0 = s.S.getD 0 dk.zero := rd_sure hb hL (k := 0) (by omega)
      have g1 : rd s 1 = s.S.getD 1 dk.zero := rd_sure hb hL (k := 1) (by omega)
      rw [e0, e1, g0, g1, f3]
      exact ⟨ha.get 0 (.inl (by omega)), ha.get 1 (.inl (by omega))⟩
    · rw [f1'] at f1; cases f1
  · rw [w1'] at w1; cases w1
theorem addR_append {s : St} (ok : s.Ok) (hL : s.L = []) {k : hd.H} (hbk : k.bank.toNat ≤ 1) (b : List UInt8) : addR s k b = append s k b := by
  unfold addR jn.append
  split
  · rfl
  · split
    · rfl
    · rename_i hb
      have hb : s.black = false := by simpa using hb
      split
      · rfl
      · rename_i hroom
        obtain ⟨g1, g2⟩ := first_most ok hbk
        exact ops_lay (fun w1 f1 => rd_behind ok hb hL (blocks_len b) (by omega) (by omega) w1 f1)
theorem addR_replace {s : St} (ok : s.Ok) (hL : s.L = []) {k : hd.H} (hbk : k.bank.toNat ≤ 1) (b : List UInt8) : addR s ⟨1 - k.bank, 0, 0⟩ b = replace s k b := by
  have hbk2 : (1 - k.bank).toNat ≤ 1 := by rcases bank_cases hbk with e | e <;> rw [e] <;> decide
  unfold addR jn.replace
  simp only [Nat.zero_add, Nat.add_zero]
  split
  · rfl
  · split
    · rfl
    · rename_i hb
      have hb : s.black = false := by simpa using hb
      split
      · rfl
      · rename_i hroom
        obtain ⟨g1, g2⟩ := first_most ok hbk2
        exact ops_lay (fun w1 f1 => rd_behind ok hb hL (blocks_len b) (by omega) (by omega) w1 f1)
theorem lay_app : ∀ (L M : List (Int × Blk)) (S : List Blk), dk.lay S (L ++ M) = dk.lay (dk.lay S L) M
  | [], _, _ => rfl
  | x :: L, M, S => by rw [List.cons_append, dk.lay, dk.lay, lay_app L M]
/-- the heads are 0 behind Make's first steps -/
theorem make_zero {s : St} (ok : s.Ok) (hb : s.black = false) (w1 : (writes s 0 [dk.zero, dk.zero]).1 = 0) (f1 : (dk.flush (writes s 0 [dk.zero, dk.zero]).2).1 = 0) :
    rd (dk.flush (writes s 0 [dk.zero, dk.zero]).2).2 0 = dk.zero ∧ rd (dk.flush (writes s 0 [dk.zero, dk.zero]).2).2 1 = dk.zero ∧ (dk.flush (writes s 0 [dk.zero, dk.zero]).2).2.black = false ∧ (dk.flush (writes s 0 [dk.zero, dk.zero]).2).2.L = [] := by
  have h64 := ok.some
  have hl : ∀ b ∈ [dk.zero, dk.zero], b.length = 128 := by intro x hx; simp at hx; rw [hx]; rfl
  rcases writes_cases [dk.zero, dk.zero] s 0 hb (by simp; omega) hl with ⟨_, w2, w3, w4, w5⟩ | ⟨w1', _⟩
  · rcases flush_cases w2 with ⟨_, f2, f3, f4, f5⟩ | ⟨f1', _⟩
    · rw [w3, w4, lay_app] at f3
      have hll : (dk.lay s.S s.L).length = s.S.length := dk.lay_length _ _
      have z0 := lay_zip [dk.zero, dk.zero] 0 (dk.lay s.S s.L) (by simp; omega) 0 (by simp)
      have z1 := lay_zip [dk.zero, dk.zero] 0 (dk.lay s.S s.L) (by simp; omega) 1 (by simp)
      generalize (dk.flush (writes s 0 [dk.zero, dk.zero]).2).2 = t at *
      have hlen : t.S.length = s.S.length := by rw [f3, dk.lay_length]; exact hll
      have e0 : rd t 0 = t.S.getD 0 dk.zero := rd_sure f2 f4 (k := 0) (by omega)
      have e1 : rd t 1 = t.S.getD 1 dk.zero := rd_sure f2 f4 (k := 1) (by omega)
      rw [e0, e1, f3]
      exact ⟨z0, z1, f2, f4⟩
    · rw [f1'] at f1; cases f1
  · rw [w1'] at w1; cases w1
theorem makeR_make {s : St} (ok : s.Ok) : makeR s = make s := by
  unfold makeR jn.make
  by_cases hb : s.black = true
  · rw [if_pos hb]
    have hq : dk.asks s 0 = 9 := by unfold dk.asks; rw [if_pos hb]
    have hw : dk.write s 0 dk.zero = (9, s) := by unfold dk.write; rw [if_neg (by rw [hq]; decide), hq]
    show (if (dk.write s 0 dk.zero).1 = 0 then _ else dk.write s 0 dk.zero) = _
    rw [hw, if_neg (show ¬ (9 : Int) = 0 by decide)]
  · rw [if_neg hb]
    have hb : s.black = false := by simpa using hb
    exact ops_lay (fun w1 f1 => ⟨(make_zero ok hb w1 f1).1, (make_zero ok hb w1 f1).2.1⟩)
/-- WHAT A JOURNAL THAT GOES BY A HEAD HAS OF ITS DISK, in the light -/
def Link (s : St) (k : hd.H) : Prop := s.black = false → (newest s).2.1 = k ∧ k.blocks ≤ half s ∧ (batches s k).2 = true
theorem Link.same {s s' : St} {k : hd.H} (h : Link s k) (hS : s'.S = s.S) (hL : s'.L = s.L) (hb : s'.black = s.black) : Link s' k := by
  obtain ⟨S, L, cut, black, many⟩ := s
  obtain ⟨S', L', cut', black', many'⟩ := s'
  simp only at hS hL hb
  subst hS hL hb
  intro hl
  have hr : ∀ n, rd ⟨S', L', cut', black', many'⟩ n = rd ⟨S', L', cut, black', many⟩ n := fun n => rfl
  obtain ⟨h1, h2, h3⟩ := h hl
  exact ⟨h1, h2, h3⟩
theorem Link.arm {s : St} {k : hd.H} (h : Link s k) (n : Int) : Link (dk.arm s n).2 k := by
  unfold dk.arm
  split
  · exact h
  · split
    · exact h
    · exact h.same rfl rfl rfl
theorem Good.link {s : St} {c N : Nat} {h : hd.H} {was : List (List UInt8)} (g : Good s c N h was) : Link s h := fun _ => ⟨by rw [g.newest], g.fits, by rw [g.batches]⟩
theorem link_dark {s : St} {k : hd.H} (h : s.black = true) : Link s k := fun hl => by rw [h] at hl; cases hl
theorem make_link {s : St} (ok : s.Ok) (h0 : (make s).1 = 0) : Link (make s).2 hd.zero := by
  unfold jn.make at h0 ⊢
  by_cases hb : s.black = true
  · rw [if_pos hb] at h0; cases h0
  · rw [if_neg hb] at h0 ⊢
    have hb : s.black = false := by simpa using hb
    have hokw : (writes s 0 [dk.zero, dk.zero]).2.Ok := Ok.writes _ 0 ok (by intro x hx; simp at hx; rw [hx]; rfl)
    unfold jn.lay at h0 ⊢
    by_cases w1 : (writes s 0 [dk.zero, dk.zero]).1 = 0
    · rw [if_pos w1] at h0 ⊢
      by_cases f1 : (dk.flush (writes s 0 [dk.zero, dk.zero]).2).1 = 0
      · rw [if_pos f1] at h0 ⊢
        obtain ⟨z0, z1, z2, z3⟩ := make_zero ok hb w1 f1
        have hokf := dk.Ok.flush hokw
        generalize (dk.flush (writes s 0 [dk.zero, dk.zero]).2).2 = t at *
        have hN : (newest t).1 = 0 := by unfold newest; rw [z0, z1, newest_zero]
        rcases layH_new hokf z2 z3 hN (h' := hd.zero) (by decide) (by decide) with ⟨_, a2, a3, a4, a5, a6⟩ | ⟨a1, _⟩
        · intro _
          refine ⟨by rw [a4], Nat.zero_le _, ?_⟩
          unfold batches
          rw [if_neg (by exact Nat.not_lt_zero _)]
          rfl
        · rw [a1] at h0; cases h0
      · rw [if_neg f1] at h0; exact absurd h0 f1
    · rw [if_neg w1] at h0; exact absurd h0 w1
theorem open_link {s : St} (h : opens s = 0) : Link s (newest s).2.1 := fun hl => by
  have h2 : (batches s (newest s).2.1).2 = true := by
    unfold opens at h
    rw [if_neg (by rw [hl]; decide)] at h
    by_cases h1 : ¬ (newest s).2.2 = 0 ∨ 2305843009213693952 < (newest s).1
    · rw [if_pos h1] at h; cases h
    · rw [if_neg h1] at h
      by_cases h3 : (batches s (newest s).2.1).2 = true
      · exact h3
      · rw [if_neg h3] at h; cases h
  refine ⟨rfl, ?_, h2⟩
  unfold batches at h2
  by_cases h3 : half s < (newest s).2.1.blocks
  · rw [if_pos h3] at h2; cases h2
  · omega
end jn
end Go.Proofs.YtknndmhkfonfmaaGreatDoor

/-
  THE PROGRAM's journal: what the laws want of it. JF w0 w F d j s: in w, which the call that began in w0 has made, j is a journal on the disk d, which is s; all that it writes is in the blocks F, which are the call's own. JW, DW: whatever these blocks are.
-/
namespace Go.Proofs.YtknndmhkfonfmaaGreatDoor
open Go.RowKit
/-- a disk of the call's own -/
structure DF (w0 w : World) (F : List Nat) (d : Value) (s : dk.St) : Prop where
  cd : CD w F d s
  under : Below w0.heap.size w0 w
  own : ∀ k ∈ F, w0.heap.size ≤ k
def DW (w0 w : World) (d : Value) (s : dk.St) : Prop := ∃ F, DF w0 w F d s
/-- a journal of the call's own: its struct is in the block p, its disk in Fd; in the light it goes by the newest head -/
def JF (w0 w : World) (F : List Nat) (d j : Value) (s : dk.St) : Prop := ∃ (p : Nat) (Fd : List Nat) (k : hd.H), j = .pointer (some ⟨p, 0, none⟩) ∧ F = p :: Fd ∧ p ∉ Fd ∧ w0.heap.size ≤ p ∧ JM w p d k ∧ DF w0 w Fd d s ∧ jn.Link s k
def JW (w0 w : World) (d j : Value) (s : dk.St) : Prop := ∃ F, JF w0 w F d j s
variable {w0 w w1 w' : World} {F : List Nat} {d j : Value} {s : dk.St}
theorem DF.below (h : DF w0 w F d s) (hb : Below w.heap.size w w') : DF w0 w' F d s := ⟨h.cd.below hb, h.under.trans (hb.mono h.under.size), h.own⟩
theorem DW.below (h : DW w0 w d s) (hb : Below w.heap.size w w') : DW w0 w' d s := h.elim fun F h => ⟨F, h.below hb⟩
theorem DW.form (h : DW w0 w d s) : ∃ p, d = .pointer (some ⟨p, 0, none⟩) := h.elim fun _ h => h.cd.form
theorem DW.under (h : DW w0 w d s) : Below w0.heap.size w0 w := h.elim fun _ h => h.under
theorem dw_step (h : DF w0 w F d s) {F' : List Nat} {s' : dk.St} (hd : CD w' F' d s') (hc : Chg w w' F) (hs : Sub w F' F) : DF w0 w' F' d s' :=
  ⟨hd, ((Chg.of_below (h.under.mono (Nat.le_refl _)) F).trans hc (Sub.refl _ _)).below (Nat.le_refl _) h.own, fun k hk => (hs k hk).elim (h.own k) (fun e => Nat.le_trans h.under.size e)⟩
theorem df_new (n : Nat) (h : 64 ≤ n) (h2 : n ≤ 4096) (w0 : World) (hb : Below w0.heap.size w0 w) : Calls Tryz.prog 5 #[.int .i64 n] w fun e w' => ∃ d F, e = .returned (.tuple #[d, .int .i64 0]) ∧ DF w0 w' F d (fresh n) :=
  (cd_new n h h2).mono fun e w' h => by
    obtain ⟨F, d, h1, h2, h3, h4⟩ := h
    exact ⟨d, F, h1, h2, hb.trans (h3.mono hb.size), fun k hk => Nat.le_trans hb.size (h4 k hk)⟩
theorem dw_new (n : Nat) (h : 64 ≤ n) (h2 : n ≤ 4096) (w0 : World) (hb : Below w0.heap.size w0 w) : Calls Tryz.prog 5 #[.int .i64 n] w fun e w' => ∃ d, e = .returned (.tuple #[d, .int .i64 0]) ∧ DW w0 w' d (fresh n) :=
  (df_new n h h2 w0 hb).mono fun e w' h => by
    obtain ⟨d, F, h1, h2⟩ := h
    exact ⟨d, h1, F, h2⟩
theorem df_dark (h : DF w0 w F d s) : Calls Tryz.prog 8 #[d] w fun e w' => e = .returned (.bool s.black) ∧ w = w' := cd_dark h.cd
theorem df_crash (A : Option Addr) (n cp : Nat) (l : List Int) (hl : IS w A n cp l) (hA : 0 < n → ∀ b o, A = some ⟨b, o, none⟩ → b < w0.heap.size) (h : DF w0 w F d s) : Calls Tryz.prog 10 #[d, .slice A n cp] w fun e w' => ∃ F', e = .returned (.int .i64 0) ∧ DF w0 w' F' d (dk.crash s l) ∧ Chg w w' F ∧ Sub w F' F := by
  refine (cd_crash A n cp l hl (fun h0 b o e hk => by have := hA h0 b o e; have := h.own b hk; omega) h.cd).mono fun e w' h' => ?_
  obtain ⟨F', e1, e2, e3, e4⟩ := h'
  exact ⟨F', e1, dw_step h e2 e3 e4, e3, e4⟩
/-! ### the landed journal -/
theorem JF.df (h : JF w0 w F d j s) : ∃ Fd, DF w0 w Fd d s ∧ ∀ k ∈ Fd, k ∈ F := by
  obtain ⟨p, Fd, k, rfl, rfl, h1, h2, h3, h4, h5⟩ := h
  exact ⟨Fd, h4, fun k hk => List.mem_cons_of_mem _ hk⟩
theorem JF.keep (h : JF w0 w F d j s) (hb : Below w0.heap.size w0 w') (_hs : w.heap.size ≤ w'.heap.size) (hk : Same w w' F) : JF w0 w' F d j s := by
  obtain ⟨p, Fd, k, rfl, rfl, h1, h2, h3, h4, h5⟩ := h
  exact ⟨p, Fd, k, rfl, rfl, h1, h2, (hk p (List.mem_cons_self ..)).trans h3, ⟨h4.cd.keep (hk.sub fun x hx => List.mem_cons_of_mem _ hx), hb, h4.own⟩, h5⟩
theorem JF.there (h : JF w0 w F d j s) : Ther w F := by
  obtain ⟨p, Fd, k, rfl, rfl, h1, h2, h3, h4, h5⟩ := h
  intro x hx
  rcases List.mem_cons.1 hx with rfl | hx
  · exact h3.lt
  · exact h4.cd.there x hx
theorem JF.below (h : JF w0 w F d j s) (hb : Below w.heap.size w w') : JF w0 w' F d j s := by
  have hu : Below w0.heap.size w0 w := by obtain ⟨p, Fd, k, rfl, rfl, h1, h2, h3, h4, h5⟩ := h; exact h4.under
  exact h.keep (hu.trans (hb.mono hu.size)) hb.size (fun x hx => hb.block x (h.there x hx))
theorem JF.form (h : JF w0 w F d j s) : ∃ p, j = .pointer (some ⟨p, 0, none⟩) := by
  obtain ⟨p, Fd, k, rfl, h0⟩ := h
  exact ⟨p, rfl⟩
theorem JF.at_ (h : JF w0 w F d j s) : ∀ k ∈ F, w0.heap.size ≤ k := by
  obtain ⟨p, Fd, k, rfl, rfl, h1, h2, h3, h4, h5⟩ := h
  intro x hx
  rcases List.mem_cons.1 hx with rfl | hx
  · exact h2
  · exact h4.own x hx
/-- behind a call that wrote to the journal and to its disk -/
theorem jf_step {p : Nat} {k' : hd.H} {s' : dk.St} {Fd Fd' : List Nat} (hp : p ∉ Fd) (h2 : w0.heap.size ≤ p) (hpw : p < w.heap.size) (h4 : DF w0 w Fd d s) (hd' : CD w' Fd' d s') (hm : JM w' p d k') (hl : jn.Link s' k') (hc : Chg w w' (p :: Fd)) (hs : Sub w Fd' Fd) :
    JF w0 w' (p :: Fd') d (.pointer (some ⟨p, 0, none⟩)) s' ∧ Sub w (p :: Fd') (p :: Fd) := by
  have hpF : p ∉ Fd' := fun hm => (hs p hm).elim hp (by omega)
  refine ⟨⟨p, Fd', k', rfl, rfl, hpF, h2, hm, ⟨hd', ((Chg.of_below (h4.under.mono (Nat.le_refl _)) (p :: Fd)).trans hc (Sub.refl _ _)).below (Nat.le_refl _) (fun x hx => ?_), fun x hx => ?_⟩, hl⟩, fun x hx => ?_⟩
  · rcases List.mem_cons.1 hx with rfl | hx
    · exact h2
    · exact h4.own x hx
  · exact (hs x hx).elim (h4.own x) (fun e => Nat.le_trans h4.under.size e)
  · rcases List.mem_cons.1 hx with rfl | hx
    · exact .inl (List.mem_cons_self ..)
    · exact (hs x hx).imp (fun e => List.mem_cons_of_mem _ e) id
theorem jf_arm (n : Int) (hn : n ≤ 9223372036854775807) (h : JF w0 w F d j s) : Calls Tryz.prog 28 #[d, .int .i64 n] w fun e w' => ∃ F', e = .returned (.int .i64 (dk.arm s n).1) ∧ JF w0 w' F' d j (dk.arm s n).2 ∧ Chg w w' F ∧ Sub w F' F := by
  obtain ⟨p, Fd, k, rfl, rfl, h1, h2, h3, h4, h5⟩ := h
  refine (cd_arm n hn h4.cd).mono fun e w' h' => ?_
  obtain ⟨F', e1, e2, e3, e4⟩ := h'
  have hm := h3.chg e3 h1
  have hc : Chg w w' (p :: Fd) := e3.mono (fun x hx => .inl (List.mem_cons_of_mem _ hx))
  obtain ⟨g1, g2⟩ := jf_step h1 h2 h3.lt h4 e2 hm (h5.arm n) hc e4
  exact ⟨_, e1, g1, hc, g2⟩
theorem jf_make (h : DF w0 w F d s) (ht : Tabs w0) (hm : s.many + 4200 < 1048576 ∧ s.L.length + 4200 < 1048576) : Calls Tryz.prog 26 #[d] w fun e w' =>
    ∃ v F', e = .returned (.tuple #[v, .int .i64 (jn.make s).1]) ∧ ((jn.make s).1 = 0 → JF w0 w' F' d v (jn.make s).2) ∧ (¬ (jn.make s).1 = 0 → v = .pointer none ∧ DF w0 w' F' d (jn.make s).2) ∧ Chg w w' F ∧ Sub w F' F := by
  obtain ⟨q, hq⟩ := h.cd.form
  have hmk := jn.makeR_make h.cd.ok
  refine (cj_make hq h.cd (ht.below h.under) hm).mono fun e w' h' => ?_
  rw [hmk] at h'
  obtain ⟨v, p, F', e1, e2, e3, e4, e5, e6, e7, e8⟩ := h'
  have hdf := dw_step h e2 e7 e8
  by_cases h0 : (jn.make s).1 = 0
  · obtain ⟨rfl, hj⟩ := e3 h0
    refine ⟨_, p :: F', e1, fun _ => ⟨p, F', hd.zero, rfl, rfl, e6, Nat.le_trans h.under.size e5, hj, hdf, jn.make_link h.cd.ok h0⟩, fun hn => absurd h0 hn, e7, fun x hx => ?_⟩
    rcases List.mem_cons.1 hx with rfl | hx
    · exact .inr e5
    · exact e8 x hx
  · exact ⟨v, F', e1, fun hn => absurd hn h0, fun _ => ⟨e4 h0, hdf⟩, e7, e8⟩
theorem jf_open (h : DF w0 w F d s) (ht : Tabs w0) : Calls Tryz.prog 34 #[d] w fun e w' =>
    ∃ v F', e = .returned (.tuple #[v, .int .i64 (jn.opens s)]) ∧ (jn.opens s = 0 → JF w0 w' F' d v s) ∧ (¬ jn.opens s = 0 → v = .pointer none) ∧ Below w.heap.size w w' ∧ Sub w F' F := by
  obtain ⟨q, hq⟩ := h.cd.form
  refine (cj_open hq h.cd (ht.below h.under)).mono fun e w' h' => ?_
  obtain ⟨v, p, e1, e2, e3, e4, e5⟩ := h'
  by_cases h0 : jn.opens s = 0
  · obtain ⟨rfl, hj⟩ := e2 h0
    have hpF : p ∉ F := fun hm => by have := h.cd.there p hm; omega
    refine ⟨_, p :: F, e1, fun _ => ⟨p, F, _, rfl, rfl, hpF, Nat.le_trans h.under.size e4, hj, h.below e5, jn.open_link h0⟩, fun hn => absurd h0 hn, e5, fun x hx => ?_⟩
    rcases List.mem_cons.1 hx with rfl | hx
    · exact .inr e4
    · exact .inl hx
  · exact ⟨v, F, e1, fun hn => absurd hn h0, e3, e5, Sub.refl _ _⟩
theorem jf_append {c N : Nat} {k : hd.H} {was : List (List UInt8)} (h : JF w0 w F d j s) (ht : Tabs w0) (g : jn.Good s c N k was) (hn : hd.num (N + 1) = true) (hm : s.many + 4200 < 1048576)
    {A : Option Addr} {n cp : Nat} {b : List UInt8} (hB : BS w A n cp b) (_hA : 0 < n → ∀ x o, A = some ⟨x, o, none⟩ → x ∉ F) : Calls Tryz.prog 22 #[j, .slice A n cp] w fun e w' =>
    ∃ F', e = .returned (.int .i64 (jn.append s k b).1) ∧ JF w0 w' F' d j (jn.append s k b).2 ∧ Chg w w' F ∧ Sub w F' F := by
  obtain ⟨p, Fd, k0, rfl, rfl, h1, h2, h3, h4, h5⟩ := h
  obtain ⟨q, hq⟩ := h4.cd.form
  obtain ⟨l1, l2, l3⟩ := h5 g.light
  rw [g.newest] at l1
  simp only at l1
  subst l1
  have hmay := g.fit.may
  have hmy := hd.may_ok hmay
  have hhalf := jn.half_le g.ok
  have h64 := g.ok.some
  have e0 : jn.rd s 0 = s.S.getD 0 dk.zero := jn.rd_sure g.light g.sure (k := 0) (by omega)
  have e1 : jn.rd s 1 = s.S.getD 1 dk.zero := jn.rd_sure g.light g.sure (k := 1) (by omega)
  have hcp := jn.count_pos b.length
  rw [← jn.blocks_length] at hcp
  have hr := jn.addR_append g.ok g.sure hmy.1 b
  refine (cj_append hq h3 h1 h4.cd (ht.below h4.under) hmay g.fits hB ⟨hm, by rw [g.sure]; simp⟩ (fun _ _ hroom => ?_)).mono fun e w' h' => ?_
  · rw [jn.next_ok, e0, e1, g.two.newest]
    exact (hd.put_err _ _).2 (by
      rw [hn, Bool.true_and]
      exact jn.may_of hmy.1 (show k.blocks + (jn.blocks b).length ≤ 4096 by omega) (show k.batches + 1 ≤ k.blocks + (jn.blocks b).length by omega))
  · rw [hr] at h'
    obtain ⟨F', r1, r2, r3, r4, r5⟩ := h'
    have hlink : jn.Link (jn.append s k b).2 (if (jn.append s k b).1 = 0 then jn.appendH k b else k) := by
      by_cases hbig : 1048576 < b.length
      · have ea : jn.append s k b = (3, s) := by rw [jn.append, if_pos hbig]
        rw [ea, if_neg (show ¬ (3 : Int) = 0 by decide)]
        exact g.link
      · by_cases hroom : jn.half s < k.blocks + (jn.blocks b).length
        · rw [jn.append_full g b (by omega) hroom, if_neg (show ¬ (10 : Int) = 0 by decide)]
          exact g.link
        · rcases (jn.append_cases g hn b (by omega) (by omega)).2 with ⟨a1, a2, _⟩ | ⟨a1, a2, _⟩
          · rw [if_pos a1]; exact a2.link
          · exact jn.link_dark a2
    obtain ⟨g1, g2⟩ := jf_step h1 h2 h3.lt h4 r2 r3 hlink r4 r5
    exact ⟨_, r1, g1, r4, g2⟩
theorem jf_replace {c N : Nat} {k : hd.H} {was : List (List UInt8)} (h : JF w0 w F d j s) (ht : Tabs w0) (g : jn.Good s c N k was) (hn : hd.num (N + 1) = true) (hm : s.many + 4200 < 1048576)
    {A : Option Addr} {n cp : Nat} {b : List UInt8} (hB : BS w A n cp b) (_hA : 0 < n → ∀ x o, A = some ⟨x, o, none⟩ → x ∉ F) : Calls Tryz.prog 24 #[j, .slice A n cp] w fun e w' =>
    ∃ F', e = .returned (.int .i64 (jn.replace s k b).1) ∧ JF w0 w' F' d j (jn.replace s k b).2 ∧ Chg w w' F ∧ Sub w F' F := by
  obtain ⟨p, Fd, k0, rfl, rfl, h1, h2, h3, h4, h5⟩ := h
  obtain ⟨q, hq⟩ := h4.cd.form
  obtain ⟨l1, l2, l3⟩ := h5 g.light
  rw [g.newest] at l1
  simp only at l1
  subst l1
  have hmay := g.fit.may
  have hmy := hd.may_ok hmay
  have hhalf := jn.half_le g.ok
  have h64 := g.ok.some
  have e0 : jn.rd s 0 = s.S.getD 0 dk.zero := jn.rd_sure g.light g.sure (k := 0) (by omega)
  have e1 : jn.rd s 1 = s.S.getD 1 dk.zero := jn.rd_sure g.light g.sure (k := 1) (by omega)
  have hcp := jn.count_pos b.length
  rw [← jn.blocks_length] at hcp
  have hbk2 : (1 - k.bank).toNat ≤ 1 := by rcases jn.bank_cases hmy.1 with e | e <;> rw [e] <;> decide
  have hr := jn.addR_replace g.ok g.sure hmy.1 b
  refine (cj_replace hq h3 h1 h4.cd (ht.below h4.under) hmay hB ⟨hm, by rw [g.sure]; simp⟩ (fun _ _ hroom => ?_)).mono fun e w' h' => ?_
  · rw [jn.next_ok, e0, e1, g.two.newest]
    exact (hd.put_err _ _).2 (by
      rw [hn, Bool.true_and]
      exact jn.may_of (h := jn.replaceH k b) hbk2 (show (jn.blocks b).length ≤ 4096 by omega) (show 1 ≤ (jn.blocks b).length by omega))
  · rw [hr] at h'
    obtain ⟨F', r1, r2, r3, r4, r5⟩ := h'
    have hlink : jn.Link (jn.replace s k b).2 (if (jn.replace s k b).1 = 0 then jn.replaceH k b else k) := by
      by_cases hbig : 1048576 < b.length
      · have ea : jn.replace s k b = (3, s) := by rw [jn.replace, if_pos hbig]
        rw [ea, if_neg (show ¬ (3 : Int) = 0 by decide)]
        exact g.link
      · by_cases hroom : jn.half s < (jn.blocks b).length
        · rw [jn.replace_full g b (by omega) hroom, if_neg (show ¬ (10 : Int) = 0 by decide)]
          exact g.link
        · rcases (jn.replace_cases g hn b (by omega) (by omega)).2 with ⟨a1, a2, _⟩ | ⟨a1, a2, _⟩
          · rw [if_pos a1]; exact a2.link
          · exact jn.link_dark a2
    obtain ⟨g1, g2⟩ := jf_step h1 h2 h3.lt h4 r2 r3 hlink r4 r5
    exact ⟨_, r1, g1, r4, g2⟩
theorem link_may {s : dk.St} {k : hd.H} (h : (jn.newest s).2.1 = k) : hd.may k = true := by
  have hg : ∀ x : dk.Blk, hd.may (hd.get x).2.1 = true := fun x => by
    by_cases h : (hd.get x).2.2 = 0
    · exact (hd.get_num h).2.2
    · rw [(hd.get_err h).2]; rfl
  rw [← h]
  unfold jn.newest hd.newest
  split
  · rfl
  · split
    · exact hg _
    · exact hg _
theorem jf_batches (h : JF w0 w F d j s) (hl : s.black = false) : Calls Tryz.prog 37 #[j] w fun e w' =>
    ∃ A n c, e = .returned (.slice A n c) ∧ RS w' A n c (jn.batches s (jn.newest s).2.1).1 ∧ Below w.heap.size w w' := by
  obtain ⟨p, Fd, k, rfl, rfl, h1, h2, h3, h4, h5⟩ := h
  obtain ⟨q, hq⟩ := h4.cd.form
  obtain ⟨l1, l2, l3⟩ := h5 hl
  rw [l1]
  refine (cj_batches0 hq h3 h4.cd (link_may l1) l2 hl).mono fun e w' h' => ?_
  obtain ⟨A, n, c, e1, e2, _, e3⟩ := h'
  exact ⟨A, n, c, e1, e2 l3, e3⟩
theorem jf_room (h : JF w0 w F d j s) (hl : s.black = false) : Calls Tryz.prog 39 #[j] w fun e w' =>
    e = .returned (.int .i64 ((jn.half s : Int) - ((jn.newest s).2.1.blocks : Int))) ∧ Below w.heap.size w w' := by
  obtain ⟨p, Fd, k, rfl, rfl, h1, h2, h3, h4, h5⟩ := h
  obtain ⟨q, hq⟩ := h4.cd.form
  obtain ⟨l1, l2, l3⟩ := h5 hl
  rw [l1]
  exact cj_room hq h3 h4.cd (link_may l1)
theorem jf_head (h : JF w0 w F d j s) (hl : s.black = false) : Calls Tryz.prog 41 #[j] w fun e w' =>
    e = .returned (hd.val (jn.newest s).2.1) ∧ Below w.heap.size w w' := by
  obtain ⟨p, Fd, k, rfl, rfl, h1, h2, h3, h4, h5⟩ := h
  obtain ⟨q, hq⟩ := h4.cd.form
  obtain ⟨l1, l2, l3⟩ := h5 hl
  rw [l1]
  exact cj_head hq h3
/-! ### whatever the blocks are -/
theorem JF.under (h : JF w0 w F d j s) : Below w0.heap.size w0 w := h.df.elim fun _ h => h.1.under
theorem JW.dw (h : JW w0 w d j s) : DW w0 w d s := h.elim fun _ h => h.df.elim fun Fd h => ⟨Fd, h.1⟩
theorem JW.below (h : JW w0 w d j s) (hb : Below w.heap.size w w') : JW w0 w' d j s := h.elim fun F h => ⟨F, h.below hb⟩
theorem JW.form (h : JW w0 w d j s) : ∃ p, j = .pointer (some ⟨p, 0, none⟩) := h.elim fun _ h => h.form
theorem jw_make (h : DW w0 w d s) (ht : Tabs w0) (hm : s.many + 4200 < 1048576 ∧ s.L.length + 4200 < 1048576) : Calls Tryz.prog 26 #[d] w fun e w' =>
    ∃ v, e = .returned (.tuple #[v, .int .i64 (jn.make s).1]) ∧ ((jn.make s).1 = 0 → JW w0 w' d v (jn.make s).2) ∧ (¬ (jn.make s).1 = 0 → v = .pointer none) ∧ DW w0 w' d (jn.make s).2 := by
  obtain ⟨F, h⟩ := h
  refine (jf_make h ht hm).mono fun e w' h' => ?_
  obtain ⟨v, F', e1, e2, e3, _⟩ := h'
  refine ⟨v, e1, fun h0 => ⟨F', e2 h0⟩, fun h0 => (e3 h0).1, ?_⟩
  by_cases h0 : (jn.make s).1 = 0
  · exact JW.dw ⟨F', e2 h0⟩
  · exact ⟨F', (e3 h0).2⟩
theorem jw_open (h : DW w0 w d s) (ht : Tabs w0) : Calls Tryz.prog 34 #[d] w fun e w' =>
    ∃ v, e = .returned (.tuple #[v, .int .i64 (jn.opens s)]) ∧ (jn.opens s = 0 → JW w0 w' d v s) ∧ (¬ jn.opens s = 0 → v = .pointer none) ∧ DW w0 w' d s := by
  obtain ⟨F, h⟩ := h
  refine (jf_open h ht).mono fun e w' h' => ?_
  obtain ⟨v, F', e1, e2, e3, e4, _⟩ := h'
  exact ⟨v, e1, fun h0 => ⟨F', e2 h0⟩, e3, F, h.below e4⟩
theorem jw_append {c N : Nat} {k : hd.H} {was : List (List UInt8)} (h : JW w0 w d j s) (ht : Tabs w0) (g : jn.Good s c N k was) (hn : hd.num (N + 1) = true) (hm : s.many + 4200 < 1048576) (hb : Below w.heap.size w w1)
    {A : Option Addr} {n cp : Nat} {b : List UInt8} (hB : BS w1 A n cp b) (hA : 0 < n → ∀ x o, A = some ⟨x, o, none⟩ → x < w0.heap.size ∨ w.heap.size ≤ x) : Calls Tryz.prog 22 #[j, .slice A n cp] w1 fun e w' =>
    e = .returned (.int .i64 (jn.append s k b).1) ∧ JW w0 w' d j (jn.append s k b).2 := by
  obtain ⟨F, h⟩ := h
  refine (jf_append (h.below hb) ht g hn hm hB (fun h0 x o e hk => by have := h.there x hk; have := h.at_ x hk; have := hA h0 x o e; omega)).mono fun e w' h' => ?_
  obtain ⟨F', e1, e2, _⟩ := h'
  exact ⟨e1, F', e2⟩
theorem jw_replace {c N : Nat} {k : hd.H} {was : List (List UInt8)} (h : JW w0 w d j s) (ht : Tabs w0) (g : jn.Good s c N k was) (hn : hd.num (N + 1) = true) (hm : s.many + 4200 < 1048576) (hb : Below w.heap.size w w1)
    {A : Option Addr} {n cp : Nat} {b : List UInt8} (hB : BS w1 A n cp b) (hA : 0 < n → ∀ x o, A = some ⟨x, o, none⟩ → x < w0.heap.size ∨ w.heap.size ≤ x) : Calls Tryz.prog 24 #[j, .slice A n cp] w1 fun e w' =>
    e = .returned (.int .i64 (jn.replace s k b).1) ∧ JW w0 w' d j (jn.replace s k b).2 := by
  obtain ⟨F, h⟩ := h
  refine (jf_replace (h.below hb) ht g hn hm hB (fun h0 x o e hk => by have := h.there x hk; have := h.at_ x hk; have := hA h0 x o e; omega)).mono fun e w' h' => ?_
  obtain ⟨F', e1, e2, _⟩ := h'
  exact ⟨e1, F', e2⟩
theorem jw_batches (h : JW w0 w d j s) (hl : s.black = false) : Calls Tryz.prog 37 #[j] w fun e w' =>
    ∃ A n c, e = .returned (.slice A n c) ∧ RS w' A n c (jn.batches s (jn.newest s).2.1).1 ∧ Below w.heap.size w w' := h.elim fun _ h => jf_batches h hl
theorem jw_room (h : JW w0 w d j s) (hl : s.black = false) : Calls Tryz.prog 39 #[j] w fun e w' =>
    e = .returned (.int .i64 ((jn.half s : Int) - ((jn.newest s).2.1.blocks : Int))) ∧ Below w.heap.size w w' := h.elim fun _ h => jf_room h hl
theorem jw_head (h : JW w0 w d j s) (hl : s.black = false) : Calls Tryz.prog 41 #[j] w fun e w' =>
    e = .returned (hd.val (jn.newest s).2.1) ∧ Below w.heap.size w w' := h.elim fun _ h => jf_head h hl
end Go.Proofs.YtknndmhkfonfmaaGreatDoor

/-
  contracts of cardexref07: Make, Append, Replace.
-/
namespace Go.Proofs.YtknndmhkfonfmaaGreatDoor
open Go.RowKit
variable {w w' : World} {F : List Nat} {d j : Value} {s : dk.St}
theorem RJ.rd {q p : Nat} (h : RJ w F (.pointer (some ⟨q, 0, none⟩)) s) (hq : w.heap[q]? = some (.cells #[.pointer (some ⟨p, 0, none⟩)] 89 (0, 0))) : RD w F (.pointer (some ⟨p, 0, none⟩)) s := by
  obtain ⟨q', p', e, h1, _, h2⟩ := h
  injection e with e
  injection e with e
  injection e with e
  subst e
  rw [hq] at h1
  injection h1 with h1
  injection h1 with h1
  have h3 := congrArg (fun a : Array Value => a[0]?) h1
  simp only [List.getElem?_toArray, List.getElem?_cons_zero, Option.some.injEq] at h3
  rw [h3]
  exact h2
theorem RJ.there' (h : RJ w F j s) : Ther w F := h.elim fun _ h => h.elim fun _ h => h.2.2.2.there
namespace jn
theorem zz_len : ∀ b ∈ ([dk.zero, dk.zero] : List Blk), b.length = 128 := fun b hb => by
  simp at hb
  rw [hb]
  exact List.length_replicate
end jn
theorem own_two (w : World) (C : Array Value) (hC : (dk.cellsS (List.replicate 2 dk.zero)).toArray = C) : (w.alloc (.cells C 43)).ownsRow 0 43 128 (.slice (some ⟨w.heap.size, 0, none⟩) 2 2) 2 (dk.cellsS [dk.zero, dk.zero]) := by
  have hl : (dk.cellsS [dk.zero, dk.zero]).length = 2 * 128 := by
    simp only [dk.cellsS, List.map_cons, List.map_nil, List.flatten_cons, List.flatten_nil, List.length_append, List.length_map, List.length_nil, dk.cells, zero_len]
  refine ⟨hl, .inr ⟨w.heap.size, 2, C, rfl, Nat.zero_le _, heap_alloc_new w _, Nat.le_refl _, by rw [maxLen_eq]; omega, ?_, ?_⟩⟩
  · rw [← hC, List.size_toArray]; exact hl
  · rw [← hC, List.toList_toArray]; exact List.take_of_length_le (Nat.le_of_eq hl)
set_option maxHeartbeats 4000000 in
set_option maxRecDepth 100000 in
theorem rj_make (h : RD w F d s) (hf : s.many + 10 < 1048576 ∧ s.L.length + 10 < 1048576) : Calls Tryz.prog 27 #[d] w fun e w' =>
    ∃ v F', e = .returned (.tuple #[v, .int .i64 (jn.make s).1]) ∧ ((jn.make s).1 = 0 → RJ w' F' v (jn.make s).2) ∧ (¬ (jn.make s).1 = 0 → v = .pointer none) ∧ RD w' F' d (jn.make s).2 ∧ Chg w w' F ∧ Sub w F' F ∧ NewP w v := by
  obtain ⟨p, rfl⟩ := h.form
  have HD := Lib.hid (rd_dark h)
  by_cases hdark : s.black = true
  · have ho : jn.make s = (9, s) := by rw [jn.make, if_pos hdark]
    rw [hdark] at HD
    rw [ho]
    clear ho hdark
    go_enter Tryz.func27, Tryz.ntmps27
    go_wp2_with fail
    refine HD.out.mono ?_
    rintro e w2 ⟨rfl, rfl⟩
    go_wp2_with fail
    go_ret2
    exact ⟨_, F, rfl, fun h => absurd h (by decide), fun _ => rfl, h, Chg.refl _ _, Sub.refl _ _, newp_none w⟩
  · have hmk0 : jn.make s = jn.lay s 0 [dk.zero, dk.zero] hd.zero := by rw [jn.make, if_neg hdark]
    have hdk : s.black = false := by simpa using hdark
    rw [hdk] at HD
    obtain ⟨i0, hi0, hz0, hs0, hb0⟩ := info_parts4 info_blk3
    have hmk := fun W => run_make (P := Tryz.prog) W 58 43 i0 _ Tryz.underlying58 hi0 hz0 .i64 .i64 (2 : Int) (2 : Int) (by omega) (by omega) (by rw [hb0]; omega) (by omega)
    rw [hs0] at hmk
    simp only [show Int.toNat 2 = 2 from rfl, made_blocks] at hmk
    obtain ⟨C, hC⟩ : ∃ C, (dk.cellsS (List.replicate 2 dk.zero)).toArray = C := ⟨_, rfl⟩
    rw [hC] at hmk
    have b1 : Below w.heap.size w (w.alloc (.cells #[.pointer (some ⟨p, 0, none⟩)] 89)) := (Below.refl _ _).alloc (Nat.le_refl _) _
    have r1 := heap_alloc_new w (.cells #[.pointer (some ⟨p, 0, none⟩)] 89)
    have hlt1 : w.heap.size < (w.alloc (.cells #[.pointer (some ⟨p, 0, none⟩)] 89)).heap.size := (Array.getElem?_eq_some_iff.1 r1).1
    have r2 := (Below.heap_alloc (w.alloc (.cells #[.pointer (some ⟨p, 0, none⟩)] 89)) (.cells C 43) w.heap.size hlt1).trans r1
    have hq : w.heap.size ∉ F := fun hm => Nat.lt_irrefl _ (h.there _ hm)
    have b2 := b1.alloc b1.size (.cells C 43)
    have own := own_two (w.alloc (.cells #[.pointer (some ⟨p, 0, none⟩)] 89)) C hC
    have hj := RJ.of r2 hq (h.below b2)
    have hl := rj_lay hj 0 (by omega) _ [dk.zero, dk.zero] (by simp) jn.zz_len own (fun k hk hm => by simp only [Value.ownBlock, Option.some.injEq] at hk; have := h.there k hm; omega) hd.zero hd.zero_ok (by simp; omega)
    rw [← hmk0] at hl
    have HL := Lib.hid hl
    rw [show (w.alloc (.cells #[.pointer (some ⟨p, 0, none⟩)] 89)).heap.size = w.heap.size + 1 from by simp] at HL
    obtain ⟨r, hr⟩ : ∃ r, (jn.make s).1 = r := ⟨_, rfl⟩
    obtain ⟨t, ht⟩ : ∃ t, (jn.make s).2 = t := ⟨_, rfl⟩
    rw [hr, ht] at HL ⊢
    have HC := Lib.hid hC
    have hrd : ∀ w3, Chg ((w.alloc (.cells #[.pointer (some ⟨p, 0, none⟩)] 89)).alloc (.cells C 43)) w3 F → w3.heap[w.heap.size]? = some (.cells #[.pointer (some ⟨p, 0, none⟩)] 89 (0, 0)) := fun w3 hc => (hc.block _ (Nat.lt_of_lt_of_le hlt1 (by simp)) hq).trans r2
    clear hl own r1 r2 hj hr ht hmk0 hdk hdark hlt1 hC b1
    have hrj : ∀ w3 F3 q, RJ w3 F3 (.pointer (some ⟨q, 0, none⟩)) t → Chg ((w.alloc (.cells #[.pointer (some ⟨p, 0, none⟩)] 89)).alloc (.cells C 43)) w3 F → Sub ((w.alloc (.cells #[.pointer (some ⟨p, 0, none⟩)] 89)).alloc (.cells C 43)) F3 F → Chg w w3 F ∧ Sub w F3 F := fun w3 F3 q _ x1 x2 =>
      ⟨(Chg.of_below b2 F).trans x1 (Sub.refl _ _), fun x hx => (x2 x hx).imp id (fun e => Nat.le_trans b2.size e)⟩
    have HRJ := Lib.hid hrj
    have HRD := Lib.hid hrd
    clear hrj b2 hrd
    by_cases hr0 : r = 0
    · subst hr0
      go_enter Tryz.func27, Tryz.ntmps27
      go_wp2_with fail
      refine HD.out.mono ?_
      rintro e w2 ⟨rfl, rfl⟩
      go_wp2_with fail
      refine HL.out.mono ?_
      rintro e w3 ⟨F3, rfl, hj3, hc3, hs3⟩
      obtain ⟨x1, x2⟩ := HRJ.out w3 F3 _ hj3 hc3 hs3
      go_wp2_with fail
      go_ret2
      exact ⟨_, F3, rfl, fun _ => hj3, fun h => absurd trivial h, hj3.rd (HRD.out w3 hc3), x1, x2, newp_at (Nat.le_refl _)⟩
    · have hne : (r != 0) = true := by simpa using hr0
      have HR0 := Lib.hid hr0
      clear hr0
      go_enter Tryz.func27, Tryz.ntmps27
      go_wp2_with fail
      refine HD.out.mono ?_
      rintro e w2 ⟨rfl, rfl⟩
      go_wp2_with fail
      refine HL.out.mono ?_
      rintro e w3 ⟨F3, rfl, hj3, hc3, hs3⟩
      obtain ⟨x1, x2⟩ := HRJ.out w3 F3 _ hj3 hc3 hs3
      go_wp2_with fail
      go_ret2
      exact ⟨_, F3, rfl, fun h => absurd h HR0.out, fun _ => rfl, hj3.rd (HRD.out w3 hc3), x1, x2, newp_none w⟩
set_option maxHeartbeats 4000000 in
set_option maxRecDepth 100000 in
theorem rj_append (h : RJ w F j s) {A : Option Addr} {n c : Nat} {b : List UInt8} (hB : BS w A n c b) (hn64 : n ≤ 140737488355320) (hf : s.many + 2100 < 1048576 ∧ s.L.length + 2100 < 1048576) :
    Calls Tryz.prog 23 #[j, .slice A n c] w fun e w' => ∃ F', e = .returned (.int .i64 (jn.append s (jn.newest s).2.1 b).1) ∧ RJ w' F' j (jn.append s (jn.newest s).2.1 b).2 ∧ Chg w w' F ∧ Sub w F' F := by
  have hl := hB.len
  obtain ⟨q, p, rfl, hq, hqF, hR⟩ := h
  have h : RJ w F (.pointer (some ⟨q, 0, none⟩)) s := RJ.of hq hqF hR
  by_cases h1 : 1048576 < n
  · have ho : jn.append s (jn.newest s).2.1 b = (3, s) := by rw [jn.append, if_pos (by omega)]
    rw [ho]
    clear ho
    go_enter Tryz.func23, Tryz.ntmps23
    go_wp2_with fail
    go_ret
    exact ⟨F, rfl, h, Chg.refl _ _, Sub.refl _ _⟩
  · have HBK := Lib.hid (rj_blocks A n c b w hB (by omega))
    have h1' : (n : Int) ≤ 1048576 := by omega
    have HD := Lib.hid (fun W (hW : Below w.heap.size w W) => rd_dark (hR.below hW))
    have hnl := h.ok
    cases hdk : s.black with
    | true =>
      have ho : jn.append s (jn.newest s).2.1 b = (9, s) := by rw [jn.append, if_neg (by omega), if_pos hdk]
      rw [ho]
      rw [hdk] at HD
      clear ho hdk
      go_enter Tryz.func23, Tryz.ntmps23
      go_wp2_with fail
      refine HBK.out.mono ?_
      rintro e w2 ⟨v, rfl, own2, b2⟩
      have q2 := (b2.block q (Array.getElem?_eq_some_iff.1 hq).1).trans hq
      have cq : w2.cell? ⟨q, 0, none⟩ = some (.pointer (some ⟨p, 0, none⟩)) := by rw [cell_of_row _ _ 0 _ _ _ q2]; rfl
      go_wp2_with fail
      refine (HD.out w2 b2).mono ?_
      rintro e w3 ⟨rfl, rfl⟩
      go_wp2_with fail
      go_ret
      exact ⟨F, rfl, h.below b2, Chg.of_below b2 F, Sub.refl _ _⟩
    | false =>
      obtain ⟨hzh, -⟩ := zero_of_info info_head
      rw [hdk] at HD
      have hmay := hd.newest_may (jn.rd s 0) (jn.rd s 1)
      rw [show hd.newest (jn.rd s 0) (jn.rd s 1) = jn.newest s from rfl] at hmay
      have hhalf := jn.half_le hnl
      have HN := Lib.hid (fun W (hW : Below w.heap.size w W) => rj_newest (h.below hW))
      have happ : jn.append s (jn.newest s).2.1 b = if jn.half s < (jn.newest s).2.1.blocks + (jn.blocks b).length then (10, s) else jn.lay s (jn.first s (jn.newest s).2.1.bank + (jn.newest s).2.1.blocks) (jn.blocks b) (jn.appendH (jn.newest s).2.1 b) := by
        rw [jn.append, if_neg (by omega), if_neg (by rw [hdk]; simp)]
      obtain ⟨N, hN⟩ : ∃ e, (jn.newest s).1 = e := ⟨_, rfl⟩
      obtain ⟨kk, hkk⟩ : ∃ e, (jn.newest s).2.1 = e := ⟨_, rfl⟩
      obtain ⟨f, hff⟩ : ∃ e, (jn.newest s).2.2 = e := ⟨_, rfl⟩
      rw [hN, hkk, hff] at HN
      rw [hkk] at hmay happ ⊢
      obtain ⟨hb1, hb2, hb3⟩ := hd.may_ok hmay
      have hbl := jn.blocks_len b
      have hcp := jn.count_pos b.length
      rw [← jn.blocks_length] at hcp
      obtain ⟨L, hL⟩ : ∃ L, jn.blocks b = L := ⟨_, rfl⟩
      have hah : jn.appendH kk b = ⟨kk.bank, kk.blocks + L.length, kk.batches + 1⟩ := by rw [jn.appendH, hL]
      rw [hL] at HBK hbl hcp happ
      rw [hah] at happ
      have HAPP := Lib.hid happ
      have HB := Lib.hid (fun W (hW : Below w.heap.size w W) n => rj_bank ((h.below hW).drewN n))
      have HF := Lib.hid (fun W (hW : RJ W F (.pointer (some ⟨q, 0, none⟩)) s) => rj_first kk.bank hW)
      have hfst := jn.first_most hnl hb1
      have hww : IntKind.i64.wrap (kk.blocks : Int) = (kk.blocks : Int) := IntWalk.i64_in _ ⟨by omega, by omega⟩
      have hwd : IntKind.i64.wrap ((jn.half s : Int) - (kk.blocks : Int)) = (jn.half s : Int) - (kk.blocks : Int) := IntWalk.i64_in _ ⟨by omega, by omega⟩
      have hS4096 := hnl.most
      clear happ hN hkk hff hmay hL hah hdk hnl
      go_enter Tryz.func23, Tryz.ntmps23
      go_wp2_with fail
      refine HBK.out.mono ?_
      rintro e w2 ⟨v, rfl, own2, b2⟩
      obtain ⟨A2, c2, rfl, hc21, hc22, hA2⟩ := own_form own2
      have q2 := (b2.block q (Array.getElem?_eq_some_iff.1 hq).1).trans hq
      have cq : w2.cell? ⟨q, 0, none⟩ = some (.pointer (some ⟨p, 0, none⟩)) := by rw [cell_of_row _ _ 0 _ _ _ q2]; rfl
      go_wp2_with fail
      refine (HD.out w2 b2).mono ?_
      rintro e w3 ⟨rfl, rfl⟩
      go_wp2_with fail
      refine (HN.out _ b2).mono ?_
      rintro e w3 ⟨rfl, b3⟩
      have n3 := HM.new w3 53 hd.zero
      obtain ⟨X3, hX3⟩ : ∃ X, w3.heap.size = X := ⟨_, rfl⟩
      rw [hX3] at n3
      have own3 := own_keepB (w' := w3) own2 (fun x hx => b3.block x (own_lt own2 x hx))
      clear HN HD cq q2 HBK
      by_cases hroom : jn.half s < kk.blocks + L.length
      · have ho := HAPP.out
        rw [if_pos hroom] at ho
        have HO := Lib.hid ho
        have hroom' : (L.length : Int) > (jn.half s : Int) - (kk.blocks : Int) := by omega
        clear ho hroom
        go_wp2_with (refine wp_sth (.tmp 7) (.tmp 23) kk hd.zero n3 rfl rfl rfl rfl ?_; intro w4 n4 hc4; rw [← hX3] at hc4; have b4 := new_chg hc4; have b24 := b2.trans ((b3.mono b2.size).trans (b4.mono (Nat.le_trans b2.size b3.size))); have HB4 := Lib.hid (HB.out _ b24); have c1 := n4.c1)
        go_quiet (first | (go_at_call 54; exact quiet_is (HB4.out _)))
        go_wp2_with fail
        go_ret
        exact ⟨F, ret_int (by rw [HO.out]), by rw [HO.out]; exact (h.below b24).drewN _, (Chg.of_below b24 F).trans (Chg.drewN _ _ F) (Sub.refl _ _), Sub.refl _ _⟩
      · have ho := HAPP.out
        rw [if_neg hroom] at ho
        have HO := Lib.hid ho
        have hroom' : (L.length : Int) ≤ (jn.half s : Int) - (kk.blocks : Int) := by omega
        have hwu1 : IntKind.u32.wrap (L.length : Int) = (L.length : Int) := IntWalk.u32_in _ ⟨by omega, by omega⟩
        have hwu2 : IntKind.u32.wrap ((kk.blocks : Int) + (L.length : Int)) = (kk.blocks : Int) + (L.length : Int) := IntWalk.u32_in _ ⟨by omega, by omega⟩
        have hwu3 : IntKind.u32.wrap ((kk.batches : Int) + 1) = (kk.batches : Int) + 1 := IntWalk.u32_in _ ⟨by omega, by omega⟩
        have hwu4 : IntKind.i64.wrap ((jn.first s kk.bank : Int) + (kk.blocks : Int)) = (jn.first s kk.bank : Int) + (kk.blocks : Int) := IntWalk.i64_in _ ⟨by omega, by omega⟩
        clear ho
        go_wp2_with (refine wp_sth (.tmp 7) (.tmp 23) kk hd.zero n3 rfl rfl rfl rfl ?_; intro w4 n4 hc4; rw [← hX3] at hc4; have b4 := new_chg hc4; have b24 := b2.trans ((b3.mono b2.size).trans (b4.mono (Nat.le_trans b2.size b3.size))); have HB4 := Lib.hid (HB.out _ b24); have c1 := n4.c1)
        go_quiet (first | (go_at_call 54; exact quiet_is (HB4.out _)))
        have own4 := own_keepB (w' := w4) own3 (fun x hx => b4.block x (own_lt own3 x hx))
        have hlt4 := own_lt own4
        have k0 : (w4.drewN nq).cell? ⟨X3, 0, none⟩ = some (bv kk.bank) := n4.c0
        have k1 : (w4.drewN nq).cell? ⟨X3, 1, none⟩ = some (.int .u32 kk.blocks) := n4.c1
        have k2 : (w4.drewN nq).cell? ⟨X3, 2, none⟩ = some (.int .u32 kk.batches) := n4.c2
        have hj5 : RJ (w4.drewN nq) F (.pointer (some ⟨q, 0, none⟩)) s := (h.below b24).drewN nq
        have b25 : Below w.heap.size w (w4.drewN nq) := ⟨b24.os, b24.tape, b24.output, b24.size, b24.block⟩
        have own5 : (w4.drewN nq).ownsRow w.heap.size 43 128 (.slice A2 L.length c2) L.length (dk.cellsS L) := own4
        have hlt5 : ∀ k, (Value.slice A2 L.length c2).ownBlock = some k → k ∉ F := fun k hk hm => by
          have := h.there' k hm
          rcases own2.2 with ⟨e, _⟩ | ⟨g, _, _, e, hg, _⟩
          · injection e with e1 _ _; rw [e1] at hk; simp [Value.ownBlock] at hk
          · injection e with e1 _ _; rw [e1] at hk; simp only [Value.ownBlock, Option.some.injEq] at hk; omega
        generalize w4.drewN nq = w5 at *
        have C1 : ∀ W, W = w5.drew → Calls Tryz.prog 56 #[.pointer (some ⟨q, 0, none⟩), bv kk.bank] W fun e w'' => e = .returned (.int .i64 (jn.first s kk.bank)) ∧ w'' = W := by
          rintro W rfl
          exact (HF.out _ hj5.drew).mono fun e w' h => ⟨h.1, h.2.symm⟩
        have HC1 := Lib.hid C1
        have hlay := rj_lay (hj5.drew) (jn.first s kk.bank + kk.blocks) (by omega) (.slice A2 L.length c2) L (by omega) hbl (ownsRow_base (w := w5.drew) own5 (Nat.zero_le _)) hlt5 ⟨kk.bank, kk.blocks + L.length, kk.batches + 1⟩ ⟨by show kk.blocks + L.length < 4294967296; omega, by show kk.batches + 1 < 4294967296; omega⟩ (by omega)
        rw [← HO.out] at hlay
        simp only [hd.val] at hlay
        rw [show ((kk.batches + 1 : Nat) : Int) = (kk.batches : Int) + 1 from by omega, show ((kk.blocks + L.length : Nat) : Int) = (kk.blocks : Int) + (L.length : Int) from by omega, show ((jn.first s kk.bank + kk.blocks : Nat) : Int) = (jn.first s kk.bank : Int) + (kk.blocks : Int) from by omega] at hlay
        have HLAY := Lib.hid hlay
        clear hlay C1 hc4 n4 HB4 c1 hroom b4 own4 hlt4 HB HF
        go_wp2_with fail
        refine wp_region_still_tail 22 (by kernel_rfl) (by kernel_rfl) ?_
        simp only [List.take_succ_cons, List.take_zero, List.drop_succ_cons, List.drop_zero]
        iterate 4 still_step
        still_call (HC1.out _ rfl)
        repeat still_step
        refine wpStill_nil ?_
        change wpList _ _ _ _ _ w5.drew
        clear k0 k1 k2 HC1 hwu1 hwu2 hwu3 hwu4
        go_wp2_with fail
        refine HLAY.out.mono ?_
        rintro e w6 ⟨F6, rfl, hj6, hc6, hs6⟩
        go_wp2_with fail
        go_ret
        exact ⟨F6, rfl, hj6, ((Chg.of_below b25 F).trans (Chg.drew w5 F) (Sub.refl _ _)).trans hc6 (Sub.refl _ _), fun x hx => (hs6 x hx).imp id (fun e => Nat.le_trans b25.size e)⟩
set_option maxHeartbeats 4000000 in
set_option maxRecDepth 100000 in
theorem rj_replace (h : RJ w F j s) {A : Option Addr} {n c : Nat} {b : List UInt8} (hB : BS w A n c b) (hn64 : n ≤ 140737488355320) (hf : s.many + 2100 < 1048576 ∧ s.L.length + 2100 < 1048576) :
    Calls Tryz.prog 25 #[j, .slice A n c] w fun e w' => ∃ F', e = .returned (.int .i64 (jn.replace s (jn.newest s).2.1 b).1) ∧ RJ w' F' j (jn.replace s (jn.newest s).2.1 b).2 ∧ Chg w w' F ∧ Sub w F' F := by
  have hl := hB.len
  obtain ⟨q, p, rfl, hq, hqF, hR⟩ := h
  have h : RJ w F (.pointer (some ⟨q, 0, none⟩)) s := RJ.of hq hqF hR
  by_cases h1 : 1048576 < n
  · have ho : jn.replace s (jn.newest s).2.1 b = (3, s) := by rw [jn.replace, if_pos (by omega)]
    rw [ho]
    clear ho
    go_enter Tryz.func25, Tryz.ntmps25
    go_wp2_with fail
    go_ret
    exact ⟨F, rfl, h, Chg.refl _ _, Sub.refl _ _⟩
  · have HBK := Lib.hid (rj_blocks A n c b w hB (by omega))
    have h1' : (n : Int) ≤ 1048576 := by omega
    have HD := Lib.hid (fun W (hW : Below w.heap.size w W) => rd_dark (hR.below hW))
    have hnl := h.ok
    cases hdk : s.black with
    | true =>
      have ho : jn.replace s (jn.newest s).2.1 b = (9, s) := by rw [jn.replace, if_neg (by omega), if_pos hdk]
      rw [ho]
      rw [hdk] at HD
      clear ho hdk
      go_enter Tryz.func25, Tryz.ntmps25
      go_wp2_with fail
      refine HBK.out.mono ?_
      rintro e w2 ⟨v, rfl, own2, b2⟩
      have q2 := (b2.block q (Array.getElem?_eq_some_iff.1 hq).1).trans hq
      have cq : w2.cell? ⟨q, 0, none⟩ = some (.pointer (some ⟨p, 0, none⟩)) := by rw [cell_of_row _ _ 0 _ _ _ q2]; rfl
      go_wp2_with fail
      refine (HD.out w2 b2).mono ?_
      rintro e w3 ⟨rfl, rfl⟩
      go_wp2_with fail
      go_ret
      exact ⟨F, rfl, h.below b2, Chg.of_below b2 F, Sub.refl _ _⟩
    | false =>
      obtain ⟨hzh, -⟩ := zero_of_info info_head
      rw [hdk] at HD
      have hmay := hd.newest_may (jn.rd s 0) (jn.rd s 1)
      rw [show hd.newest (jn.rd s 0) (jn.rd s 1) = jn.newest s from rfl] at hmay
      have hhalf := jn.half_le hnl
      have HN := Lib.hid (fun W (hW : Below w.heap.size w W) => rj_newest (h.below hW))
      have happ : jn.replace s (jn.newest s).2.1 b = if jn.half s < (jn.blocks b).length then (10, s) else jn.lay s (jn.first s (1 - (jn.newest s).2.1.bank)) (jn.blocks b) (jn.replaceH (jn.newest s).2.1 b) := by
        rw [jn.replace, if_neg (by omega), if_neg (by rw [hdk]; simp)]
      obtain ⟨N, hN⟩ : ∃ e, (jn.newest s).1 = e := ⟨_, rfl⟩
      obtain ⟨kk, hkk⟩ : ∃ e, (jn.newest s).2.1 = e := ⟨_, rfl⟩
      obtain ⟨f, hff⟩ : ∃ e, (jn.newest s).2.2 = e := ⟨_, rfl⟩
      rw [hN, hkk, hff] at HN
      rw [hkk] at hmay happ ⊢
      obtain ⟨hb1, hb2, hb3⟩ := hd.may_ok hmay
      have hbl := jn.blocks_len b
      have hcp := jn.count_pos b.length
      rw [← jn.blocks_length] at hcp
      obtain ⟨L, hL⟩ : ∃ L, jn.blocks b = L := ⟨_, rfl⟩
      have hah : jn.replaceH kk b = ⟨1 - kk.bank, L.length, 1⟩ := by rw [jn.replaceH, hL]
      rw [hL] at HBK hbl hcp happ
      rw [hah] at happ
      have HAPP := Lib.hid happ
      have HB := Lib.hid (fun W (hW : Below w.heap.size w W) => rj_bank (h.below hW))
      have hbk : (1 - kk.bank).toNat ≤ 1 ∧ ((1 - kk.bank).toNat : Int) = 1 - (kk.bank.toNat : Int) := by
        rcases jn.bank_cases hb1 with e | e <;> rw [e] <;> decide
      have HF := Lib.hid (fun W (hW : RJ W F (.pointer (some ⟨q, 0, none⟩)) s) => rj_first (1 - kk.bank) hW)
      have hfst := jn.first_most hnl hbk.1
      have hw8 : IntKind.u8.wrap (1 - (kk.bank.toNat : Int)) = 1 - (kk.bank.toNat : Int) := IntWalk.u8_in _ ⟨by omega, by omega⟩
      have hS4096 := hnl.most
      clear happ hN hkk hff hmay hL hah hdk hnl
      go_enter Tryz.func25, Tryz.ntmps25
      go_wp2_with fail
      refine HBK.out.mono ?_
      rintro e w2 ⟨v, rfl, own2, b2⟩
      obtain ⟨A2, c2, rfl, hc21, hc22, hA2⟩ := own_form own2
      have q2 := (b2.block q (Array.getElem?_eq_some_iff.1 hq).1).trans hq
      have cq : w2.cell? ⟨q, 0, none⟩ = some (.pointer (some ⟨p, 0, none⟩)) := by rw [cell_of_row _ _ 0 _ _ _ q2]; rfl
      go_wp2_with fail
      refine (HD.out w2 b2).mono ?_
      rintro e w3 ⟨rfl, rfl⟩
      clear HD cq q2 HBK
      by_cases hroom : jn.half s < L.length
      · have ho := HAPP.out
        rw [if_pos hroom] at ho
        have HO := Lib.hid ho
        have hroom' : (jn.half s : Int) < (L.length : Int) := by omega
        clear ho hroom
        go_wp2_with fail
        refine (HB.out _ b2).mono ?_
        rintro e w3 ⟨rfl, rfl⟩
        go_wp2_with fail
        go_ret
        exact ⟨F, ret_int (by rw [HO.out]), by rw [HO.out]; exact h.below b2, Chg.of_below b2 F, Sub.refl _ _⟩
      · have ho := HAPP.out
        rw [if_neg hroom] at ho
        have HO := Lib.hid ho
        have hroom' : (L.length : Int) ≤ (jn.half s : Int) := by omega
        have hwu1 : IntKind.u32.wrap (L.length : Int) = (L.length : Int) := IntWalk.u32_in _ ⟨by omega, by omega⟩
        clear ho
        go_wp2_with fail
        refine (HB.out _ b2).mono ?_
        rintro e w3 ⟨rfl, rfl⟩
        go_wp2_with fail
        refine (HN.out _ b2).mono ?_
        rintro e w3 ⟨rfl, b3⟩
        have n3 := HM.new w3 53 hd.zero
        obtain ⟨X3, hX3⟩ : ∃ X, w3.heap.size = X := ⟨_, rfl⟩
        rw [hX3] at n3
        have own3 := own_keepB (w' := w3) own2 (fun x hx => b3.block x (own_lt own2 x hx))
        clear HN
        go_wp2_with (refine wp_sth (.tmp 7) (.tmp 28) kk hd.zero n3 rfl rfl rfl rfl ?_; intro w4 n4 hc4; rw [← hX3] at hc4; have b4 := new_chg hc4; have b24 := b2.trans ((b3.mono b2.size).trans (b4.mono (Nat.le_trans b2.size b3.size))))
        have own5 := own_keepB (w' := w4) own3 (fun x hx => b4.block x (own_lt own3 x hx))
        have k0 := n4.c0
        have k1 := n4.c1
        have k2 := n4.c2
        have hj5 := h.below b24
        have hlt5 : ∀ k, (Value.slice A2 L.length c2).ownBlock = some k → k ∉ F := fun k hk hm => by
          have := h.there' k hm
          rcases own2.2 with ⟨e, _⟩ | ⟨g, _, _, e, hg, _⟩
          · injection e with e1 _ _; rw [e1] at hk; simp [Value.ownBlock] at hk
          · injection e with e1 _ _; rw [e1] at hk; simp only [Value.ownBlock, Option.some.injEq] at hk; omega
        have C1 : ∀ W, W = w4.drew → Calls Tryz.prog 56 #[.pointer (some ⟨q, 0, none⟩), .int .u8 (1 - (kk.bank.toNat : Int))] W fun e w'' => e = .returned (.int .i64 (jn.first s (1 - kk.bank))) ∧ w'' = W := by
          rintro W rfl
          have := HF.out _ hj5.drew
          rw [bv, hbk.2] at this
          exact this.mono fun e w' h => ⟨h.1, h.2.symm⟩
        have HC1 := Lib.hid C1
        have hlay := rj_lay (hj5.drew) (jn.first s (1 - kk.bank)) (by omega) (.slice A2 L.length c2) L (by omega) hbl (ownsRow_base (w := w4.drew) own5 (Nat.zero_le _)) hlt5 ⟨1 - kk.bank, L.length, 1⟩ ⟨by show L.length < 4294967296; omega, by show 1 < 4294967296; omega⟩ (by omega)
        rw [← HO.out] at hlay
        simp only [hd.val, bv, hbk.2] at hlay
        have HLAY := Lib.hid hlay
        clear hlay C1 hc4 n4 hroom b4 HB HF
        refine wp_region_still_tail 14 (by kernel_rfl) (by kernel_rfl) ?_
        simp only [List.take_succ_cons, List.take_zero, List.drop_succ_cons, List.drop_zero]
        iterate 5 still_step
        still_call (HC1.out _ rfl)
        repeat still_step
        refine wpStill_nil ?_
        change wpList _ _ _ _ _ w4.drew
        clear k0 k1 k2 HC1 hwu1 hw8
        go_wp2_with fail
        refine HLAY.out.mono ?_
        rintro e w6 ⟨F6, rfl, hj6, hc6, hs6⟩
        go_wp2_with fail
        go_ret
        exact ⟨F6, rfl, hj6, ((Chg.of_below b24 F).trans (Chg.drew w4 F) (Sub.refl _ _)).trans hc6 (Sub.refl _ _), fun x hx => (hs6 x hx).imp id (fun e => Nat.le_trans b24.size e)⟩
end Go.Proofs.YtknndmhkfonfmaaGreatDoor
