/-
  cardexlaw03's walk: CrcTells.
-/
import Derived.Test.YtjlkhemdahahpaaDoorLaw03
namespace Go.Proofs.YtjlkhemdahahpaaDoor
open Go.RowKit

theorem quiet_eq {P : Program} {f : FuncId} {args : Array Value} {w : World} {n : Nat} {v : Value}
    (h : Calls P f args (w.drewN n) fun e w' => e = .returned v ∧ w.drewN n = w') : Calls P f args (w.drewN n) fun e w'' => e = .returned v ∧ ∃ m, w'' = w.drewN m :=
  h.mono fun _ _ ⟨he, hm⟩ => ⟨he, n, hm.symm⟩

set_option maxHeartbeats 4000000 in
set_option maxRecDepth 100000 in
theorem walk_CrcTells (a s t : Int) (A : Option Addr) (n c : Nat) (l : List UInt8) (w : World) (wa : (Lit.int .u32 a).wf = true) (ws : (Lit.int .u32 s).wf = true) (wt : (Lit.int .i64 t).wf = true) (h : BS w A n c l) (hn : n ≤ 140737488351232) (ht : Tab w) :
    Calls Tryd.prog 3 #[.int .u32 a, .int .u32 s, .int .i64 t, .slice A n c] w fun e w' => e = .returned (.bool true) ∧ Below w.heap.size w w' := by
  obtain ⟨x, rfl⟩ := u32_word wa
  obtain ⟨z, rfl⟩ := u32_word ws
  have hw := i64_range wt
  clear wa ws wt
  obtain ⟨r, hr⟩ : ∃ r, Int.tmod t 3000 = r := ⟨_, rfl⟩
  have hr' : r < 3000 := by
    rw [← hr]
    exact Int.tmod_lt_of_pos _ (by omega)
  obtain ⟨y, hy⟩ : ∃ y, crc.on (8 * r.toNat) x = y := ⟨_, rfl⟩
  obtain ⟨j, hj⟩ : ∃ y, crc.join x z r.toNat = y := ⟨_, rfl⟩
  have ho' := fun W => on_any x r W (by omega)
  have hr'' := fun W => ron_any x r W (by omega)
  have hj' := fun W => join_any x z r W (by omega)
  have hk' := fun W => rjoin_any x z r W (by omega)
  simp only [hy, hj] at ho' hr'' hj' hk'
  have HO := Lib.hid ho'
  have HR := Lib.hid hr''
  have HJ := Lib.hid hj'
  have HK := Lib.hid hk'
  clear hy hj ho' hr'' hj' hk'
  have hcap := h.cap
  go_enter Tryd.func3, Tryd.ntmps3
  go_wp2_with fail
  refine (wide_any _ _ _ l _ h (by omega)).mono ?_
  rintro e w1 ⟨rfl, ho, hb⟩
  have h1 := h.below hb
  have ht1 := ht.below hb
  go_wp2_with fail
  refine (HO.out _).mono ?_
  rintro e w2 ⟨rfl, rfl⟩
  go_wp2_with fail
  refine (HR.out _).mono ?_
  rintro e w2 ⟨rfl, rfl⟩
  go_wp2_with fail
  refine (HJ.out _).mono ?_
  rintro e w2 ⟨rfl, rfl⟩
  go_wp2_with fail
  refine (HK.out _).mono ?_
  rintro e w2 ⟨rfl, rfl⟩
  go_wp2_with fail
  clear HO HR HJ HK hw hr'
  go_loopw [10] (fun i wr => ∃ j : Nat, i = .int .i64 j ∧ j ≤ n ∧ BS wr A n c l ∧ Tab wr ∧ RowB 5 wr w.heap.size (l ++ [7, 7, 7]) ∧ Below w.heap.size w wr) (fun i _ => n - (intOf i).toNat)
  case atStart => exact ⟨0, rfl, by omega, h1, ht1, ho, hb⟩
  case round =>
    clear h h1 ht ht1 ho hb
    obtain ⟨j, rfl, hjn, h, ht, ho, hb⟩ := hrel
    by_cases hin : j < n ∧ j < 50
    · obtain ⟨hlt, h50⟩ := hin
      · obtain ⟨b, o, rfl, hbl, hcell⟩ := h.has (by omega)
        have hx := hcell j (by rw [h.len]; exact hlt)
        generalize hy : l[j]'(by rw [h.len]; exact hlt) = q at hx
        clear hy hcell
        obtain ⟨u, hu⟩ : ∃ u, crc.into x q = u := ⟨_, rfl⟩
        have h1' := fun k => into_any x q (wr.drewN k) (ht.drewN k)
        have h2' := fun k => rinto_any x q (wr.drewN k)
        simp only [hu] at h1' h2'
        have H1 := Lib.hid h1'
        have H2 := Lib.hid h2'
        clear hu h1' h2'
        go_wp2_with fail
        go_quiet (first
          | (go_at_call 12; exact quiet_eq (H1.out _))
          | (go_at_call 13; exact quiet_eq (H2.out _)))
        go_wp2_with fail
        go_roundw
        case rel => exact ⟨j + 1, by go_num, by omega, h.drewN nq, ht.drewN nq, ho.drewN nq, ⟨hb.os, hb.tape, hb.output, hb.size, hb.block⟩⟩
        case measure => simp [intOf]; omega
    · have hout : j = n ∨ (j < n ∧ 50 ≤ j) := by omega
      clear hin
      have hS : BS wr (some ⟨w.heap.size, 0, none⟩) n (n + 3) l := ⟨h.len, by omega, by omega, h.small, fun _ => ⟨w.heap.size, 0, rfl, ho.lt, fun i hi => by
        have := ho.cell (i := i) (by simp; omega)
        rw [Nat.zero_add, this, List.getElem_append_left hi]⟩⟩
      obtain ⟨u1, hu1⟩ : ∃ u, crc.more z l = u := ⟨_, rfl⟩
      obtain ⟨u2, hu2⟩ : ∃ u, crc.of l = u := ⟨_, rfl⟩
      have h1' := more_any z _ _ _ l wr hS ht
      have h2' := rmore_any z _ _ _ l wr h
      have h3' := of_any _ _ _ l wr hS ht
      have h4' := rof_any _ _ _ l wr h
      rw [hu1] at h1' h2'
      rw [hu2] at h3' h4'
      have H1 := Lib.hid h1'
      have H2 := Lib.hid h2'
      have H3 := Lib.hid h3'
      have H4 := Lib.hid h4'
      have H5 := Lib.hid (left_any _ _ _ _ l wr ho h (by omega))
      clear h1' h2' h3' h4' hu1 hu2 hS ho h
      rcases hout with rfl | ⟨hlt, h50⟩
      all_goals
        go_wp2_with fail
        refine H1.out.mono ?_
        rintro e w2 ⟨rfl, rfl⟩
        go_wp2_with fail
        refine H2.out.mono ?_
        rintro e w2 ⟨rfl, rfl⟩
        go_wp2_with fail
        refine H3.out.mono ?_
        rintro e w2 ⟨rfl, rfl⟩
        go_wp2_with fail
        refine H4.out.mono ?_
        rintro e w2 ⟨rfl, rfl⟩
        go_wp2_with fail
        refine H5.out.mono ?_
        rintro e w2 ⟨rfl, rfl⟩
        go_wp2_with fail
        refine (lives_any _ ht).mono ?_
        rintro e w2 ⟨rfl, hb2⟩
        go_wp2_with fail
        go_ret
        exact ⟨rfl, hb.trans (hb2.mono hb.size)⟩
end Go.Proofs.YtjlkhemdahahpaaDoor
