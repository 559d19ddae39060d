/-
  contracts of cardexref07: Batches, Room, Head, Open, Same.
-/
import Derived.Test.YtknndmhkfonfmaaGreatDoorM5
import Derived.StillTailTactics
import Derived.BigQuiet
import Derived.Test.YtknndmhkfonfmaaGreatDoorM3
import Derived.Test.YtknndmhkfonfmaaGreatDoorM4
import Derived.Deep.RegionHeldLaw
import Derived.Test.YtknndmhkfonfmaaGreatDoorM1
namespace Go.Proofs.YtknndmhkfonfmaaGreatDoor
open Go.RowKit

theorem hd.newest_may (a b : dk.Blk) : hd.may (hd.newest a b).2.1 = true := by
  have hg : ∀ x : dk.Blk, hd.may (hd.get x).2.1 = true := fun x => by
    by_cases h : (hd.get x).2.2 = 0
    · exact (hd.get_num h).2.2
    · rw [(hd.get_err h).2]; rfl
  unfold hd.newest
  split
  · rfl
  · split
    · exact hg b
    · exact hg a
theorem hd.newest_lt (a b : dk.Blk) : (hd.newest a b).1 ≤ 4611686018427387904 := by
  unfold hd.newest
  split
  · exact Nat.zero_le _
  · split
    · exact hd.get_lt b
    · exact hd.get_lt a
/-- a pointer to what the call made -/
def NewP (w : World) (v : Value) : Prop := ∀ k, v = .pointer (some ⟨k, 0, none⟩) → w.heap.size ≤ k
theorem newp_none (w : World) : NewP w (.pointer none) := fun k e => by simp at e
theorem newp_at {w : World} {g : Nat} (h : w.heap.size ≤ g) : NewP w (.pointer (some ⟨g, 0, none⟩)) := fun k e => by
  injection e with e
  injection e with e
  injection e with e
  omega
variable {w w' : World} {F : List Nat} {j : Value} {s : dk.St}
set_option maxHeartbeats 1000000 in
set_option maxRecDepth 100000 in
theorem rj_head (h : RJ w F j s) : Calls Tryz.prog 42 #[j] w fun e w' => e = .returned (hd.val (jn.newest s).2.1) ∧ Below w.heap.size w w' := by
  obtain ⟨hzh, -⟩ := zero_of_info info_head
  have m1 := HM.new w 53 hd.zero
  have b1 : Below w.heap.size w (w.alloc (.cells #[bv hd.zero.bank, .int .u32 hd.zero.blocks, .int .u32 hd.zero.batches] 53)) := (Below.refl _ _).alloc (Nat.le_refl _) _
  obtain ⟨W1, hW1⟩ : ∃ W1, w.alloc (.cells #[bv hd.zero.bank, .int .u32 hd.zero.blocks, .int .u32 hd.zero.batches] 53) = W1 := ⟨_, rfl⟩
  rw [hW1] at m1 b1
  have HN := Lib.hid (rj_newest (h.below b1))
  obtain ⟨N, hN⟩ : ∃ e, (jn.newest s).1 = e := ⟨_, rfl⟩
  obtain ⟨k, hk⟩ : ∃ e, (jn.newest s).2.1 = e := ⟨_, rfl⟩
  obtain ⟨f, hf⟩ : ∃ e, (jn.newest s).2.2 = e := ⟨_, rfl⟩
  rw [hN, hk, hf] at HN
  rw [hk]
  obtain ⟨q, p, rfl, -⟩ := h
  clear hN hk hf
  go_enter Tryz.func42, Tryz.ntmps42
  go_wp2_with fail
  refine HN.out.mono ?_
  rintro e w2 ⟨rfl, b2⟩
  have b12 := b1.trans (b2.mono b1.size)
  have m2 := m1.below b2 m1.lt
  have n2 := HM.new w2 53 hd.zero
  have c2 : Below w2.heap.size w2 (w2.alloc (.cells #[bv hd.zero.bank, .int .u32 hd.zero.blocks, .int .u32 hd.zero.batches] 53)) := (Below.refl _ _).alloc (Nat.le_refl _) _
  have s2 := m2.lt
  obtain ⟨X, hX⟩ : ∃ X, w2.heap.size = X := ⟨_, rfl⟩
  rw [hX] at n2
  clear b1 b2 m1 HN
  go_wp2_with (first
    | (refine wp_sth (.tmp 4) (.tmp 10) k hd.zero n2 rfl rfl rfl rfl ?_; intro w3 m3 c3; rw [← hX] at c3; have d3 := new_chg c3; have b3 := b12.trans (d3.mono b12.size); have m31 := m2.below d3 s2)
    | refine wp_ldh (.tmp 4) k m3 rfl rfl rfl ?_
    | (refine wp_sth (.tmp 2) (.tmp 12) k hd.zero m31 rfl rfl rfl rfl ?_; intro w4 m4 c4))
  exact bodyPost_ret (results_cell rfl rfl (head_load m4)) rfl ⟨rfl, (Chg.of_below b3 [w.heap.size]).trans c4 (Sub.refl _ _) |>.below (Nat.le_refl _) (fun k hk => by simp at hk; omega)⟩
set_option maxHeartbeats 1000000 in
set_option maxRecDepth 100000 in
theorem rj_all (h : RJ w F j s) : Calls Tryz.prog 38 #[j] w fun e w' => ∃ A n c, e = .returned (.slice A n c) ∧ RS w' A n c (jn.batches s (jn.newest s).2.1).1 ∧ Below w.heap.size w w' := by
  obtain ⟨hzh, -⟩ := zero_of_info info_head
  have hmay := hd.newest_may (jn.rd s 0) (jn.rd s 1)
  rw [show hd.newest (jn.rd s 0) (jn.rd s 1) = jn.newest s from rfl] at hmay
  have HN := Lib.hid (rj_newest h)
  have HB := Lib.hid (fun W (hb : Below w.heap.size w W) => rj_batches (h.below hb) (jn.newest s).2.1 hmay)
  obtain ⟨N, hN⟩ : ∃ e, (jn.newest s).1 = e := ⟨_, rfl⟩
  obtain ⟨k, hk⟩ : ∃ e, (jn.newest s).2.1 = e := ⟨_, rfl⟩
  obtain ⟨f, hf⟩ : ∃ e, (jn.newest s).2.2 = e := ⟨_, rfl⟩
  rw [hN, hk, hf] at HN
  rw [hk] at HB ⊢
  obtain ⟨q, p, rfl, -⟩ := h
  obtain ⟨L, hL⟩ : ∃ e, jn.batches s k = e := ⟨_, rfl⟩
  rw [hL] at HB ⊢
  clear hN hk hf hmay hL
  go_enter Tryz.func38, Tryz.ntmps38
  go_wp2_with fail
  refine HN.out.mono ?_
  rintro e w2 ⟨rfl, b2⟩
  have n2 := HM.new w2 53 hd.zero
  have s2 := b2.size
  obtain ⟨X, hX⟩ : ∃ X, w2.heap.size = X := ⟨_, rfl⟩
  rw [hX] at n2
  clear HN
  go_wp2_with (first
    | (refine wp_sth (.tmp 4) (.tmp 12) k hd.zero n2 rfl rfl rfl rfl ?_; intro w3 m3 c3; rw [← hX] at c3; have d3 := new_chg c3; have b3 := b2.trans (d3.mono b2.size))
    | refine wp_ldh (.tmp 4) k m3 rfl rfl rfl ?_)
  refine (HB.out _ b3).mono ?_
  rintro e w4 ⟨A, n, c, rfl, hR, b4⟩
  have b14 := b3.trans (b4.mono b3.size)
  clear HB
  go_wp2_with fail
  go_ret
  exact ⟨A, n, c, rfl, hR, b14⟩
set_option maxHeartbeats 1000000 in
set_option maxRecDepth 100000 in
theorem rj_room (h : RJ w F j s) : Calls Tryz.prog 40 #[j] w fun e w' => e = .returned (.int .i64 ((jn.half s : Int) - ((jn.newest s).2.1.blocks : Int))) ∧ Below w.heap.size w w' := by
  obtain ⟨hzh, -⟩ := zero_of_info info_head
  have hmay := hd.newest_may (jn.rd s 0) (jn.rd s 1)
  rw [show hd.newest (jn.rd s 0) (jn.rd s 1) = jn.newest s from rfl] at hmay
  have hle := (hd.may_ok hmay).2.1
  have hhalf := jn.half_le h.ok
  have HN := Lib.hid (rj_newest h)
  have HB := Lib.hid (fun W (hb : Below w.heap.size w W) n => rj_bank ((h.below hb).drewN n))
  obtain ⟨N, hN⟩ : ∃ e, (jn.newest s).1 = e := ⟨_, rfl⟩
  obtain ⟨k, hk⟩ : ∃ e, (jn.newest s).2.1 = e := ⟨_, rfl⟩
  obtain ⟨f, hf⟩ : ∃ e, (jn.newest s).2.2 = e := ⟨_, rfl⟩
  rw [hN, hk, hf] at HN
  rw [hk] at hle ⊢
  obtain ⟨q, p, rfl, -⟩ := h
  have hww : IntKind.i64.wrap (k.blocks : Int) = (k.blocks : Int) := IntWalk.i64_in _ ⟨by omega, by omega⟩
  have hwd : IntKind.i64.wrap ((jn.half s : Int) - (k.blocks : Int)) = (jn.half s : Int) - (k.blocks : Int) := IntWalk.i64_in _ ⟨by omega, by omega⟩
  clear hN hk hf hmay
  go_enter Tryz.func40, Tryz.ntmps40
  go_wp2_with fail
  refine HN.out.mono ?_
  rintro e w2 ⟨rfl, b2⟩
  have n2 := HM.new w2 53 hd.zero
  have s2 := b2.size
  obtain ⟨X, hX⟩ : ∃ X, w2.heap.size = X := ⟨_, rfl⟩
  rw [hX] at n2
  clear HN
  go_wp2_with (refine wp_sth (.tmp 4) (.tmp 10) k hd.zero n2 rfl rfl rfl rfl ?_; intro w3 m3 c3; rw [← hX] at c3; have d3 := new_chg c3; have b3 := b2.trans (d3.mono b2.size); have HB3 := Lib.hid (HB.out _ b3); have q1 := m3.c1)
  go_quiet (first | (go_at_call 54; exact quiet_is (HB3.out _)))
  go_wp2_with fail
  go_ret
  exact ⟨rfl, ⟨b3.os, b3.tape, b3.output, b3.size, b3.block⟩⟩
set_option maxHeartbeats 2000000 in
set_option maxRecDepth 100000 in
theorem rj_open {d : Value} (h : RD w F d s) : Calls Tryz.prog 35 #[d] w fun e w' => ∃ v, e = .returned (.tuple #[v, .int .i64 (jn.opens s)]) ∧ (jn.opens s = 0 → RJ w' F v s) ∧ (¬ jn.opens s = 0 → v = .pointer none) ∧ Below w.heap.size w w' ∧ NewP w v := by
  obtain ⟨hzh, -⟩ := zero_of_info info_head
  obtain ⟨p, rfl⟩ := h.form
  have HD := Lib.hid (rd_dark h)
  by_cases hdark : s.black = true
  · have ho : jn.opens s = 9 := by rw [jn.opens, if_pos hdark]
    rw [ho]
    rw [hdark] at HD
    clear h ho
    go_enter Tryz.func35, Tryz.ntmps35
    go_wp2_with fail
    refine HD.out.mono ?_
    rintro e w2 ⟨rfl, rfl⟩
    go_wp2_with fail
    go_ret2
    exact ⟨_, rfl, fun e => absurd e (by decide), fun _ => rfl, Below.refl _ _, newp_none w⟩
  · have hdark : s.black = false := by simpa using hdark
    rw [hdark] at HD
    have b1 : Below w.heap.size w (w.alloc (.cells #[.pointer (some ⟨p, 0, none⟩)] 89)) := (Below.refl _ _).alloc (Nat.le_refl _) _
    have hJ : RJ (w.alloc (.cells #[.pointer (some ⟨p, 0, none⟩)] 89)) F (.pointer (some ⟨w.heap.size, 0, none⟩)) s := RJ.of (heap_alloc_new w _) (fun hq => absurd (h.there _ hq) (by omega)) (h.below b1)
    obtain ⟨g, hg⟩ : ∃ g, w.heap.size = g := ⟨_, rfl⟩
    have HJ := Lib.hid hJ
    obtain ⟨W1, hW1⟩ : ∃ W1, w.alloc (.cells #[.pointer (some ⟨p, 0, none⟩)] 89) = W1 := ⟨_, rfl⟩
    rw [hW1, hg] at HJ hJ
    rw [hW1] at b1
    have hmay := hd.newest_may (jn.rd s 0) (jn.rd s 1)
    have hnlt := hd.newest_lt (jn.rd s 0) (jn.rd s 1)
    rw [show hd.newest (jn.rd s 0) (jn.rd s 1) = jn.newest s from rfl] at hmay hnlt
    have HN := Lib.hid (rj_newest hJ)
    have HB := Lib.hid (fun W (hb : Below W1.heap.size W1 W) => rj_batches (hJ.below hb) (jn.newest s).2.1 hmay)
    have ho : jn.opens s = if ¬ (jn.newest s).2.2 = 0 ∨ 2305843009213693952 < (jn.newest s).1 then 5 else if (jn.batches s (jn.newest s).2.1).2 then 0 else 5 := by
      rw [jn.opens, if_neg (by simp [hdark])]
    obtain ⟨N, hN⟩ : ∃ e, (jn.newest s).1 = e := ⟨_, rfl⟩
    obtain ⟨k, hk⟩ : ∃ e, (jn.newest s).2.1 = e := ⟨_, rfl⟩
    obtain ⟨f, hf⟩ : ∃ e, (jn.newest s).2.2 = e := ⟨_, rfl⟩
    rw [hN, hk, hf] at HN ho
    rw [hN] at hnlt
    rw [hk] at HB
    obtain ⟨L, hL⟩ : ∃ e, jn.batches s k = e := ⟨_, rfl⟩
    rw [hL] at HB ho
    have HO := Lib.hid ho
    clear hN hk hf hmay hL ho hJ h
    go_enter Tryz.func35, Tryz.ntmps35
    go_wp2_with fail
    refine HD.out.mono ?_
    rintro e w2 ⟨rfl, rfl⟩
    go_wp2_with fail
    refine HN.out.mono ?_
    rintro e w2 ⟨rfl, b2⟩
    have b12 := b1.trans (b2.mono b1.size)
    have n2 := HM.new w2 53 hd.zero
    have s2 := b2.size
    have HJ2 := Lib.hid (HJ.out.below b2)
    obtain ⟨X, hX⟩ : ∃ X, w2.heap.size = X := ⟨_, rfl⟩
    rw [hX] at n2
    clear HN b1
    by_cases hf0 : f = 0
    · have hf1 : (f != 0) = false := by rw [hf0]; rfl
      by_cases hN1 : 2305843009213693952 < N
      · have hN2 : (2305843009213693952 : Int) < (N : Int) := by omega
        have ho := HO.out
        rw [if_pos (.inr hN1)] at ho
        have HO5 := Lib.hid ho
        clear HO ho HB
        go_wp2_with (refine wp_sth (.tmp 6) (.tmp 19) k hd.zero n2 rfl rfl rfl rfl ?_; intro w3 m3 c3; rw [← hX] at c3; have d3 := new_chg c3; have b3 := b12.trans (d3.mono b12.size))
        go_ret2
        rw [HO5.out]
        exact ⟨_, rfl, fun e => absurd e (by decide), fun _ => rfl, hg ▸ b3, newp_none w⟩
      · have hN2 : ¬ (2305843009213693952 : Int) < (N : Int) := by omega
        have ho := HO.out
        rw [if_neg (by rintro (h | h) <;> contradiction)] at ho
        have HO5 := Lib.hid ho
        obtain ⟨z, hz⟩ : ∃ z, L.2 = z := ⟨_, rfl⟩
        rw [hz] at HO5 HB
        clear HO ho
        go_wp2_with (first
          | (refine wp_sth (.tmp 6) (.tmp 19) k hd.zero n2 rfl rfl rfl rfl ?_; intro w3 m3 c3; rw [← hX] at c3; have d3 := new_chg c3; have b3 := b12.trans (d3.mono b12.size); have d13 := b2.trans (d3.mono b2.size); have HJ3 := Lib.hid (HJ2.out.below d3))
          | refine wp_ldh (.tmp 6) k m3 rfl rfl rfl ?_)
        refine (HB.out _ d13).mono ?_
        rintro e w4 ⟨A, n, c, rfl, hR, b4⟩
        have b14 := b3.trans (b4.mono b3.size)
        have HJ4 := Lib.hid (HJ3.out.below b4)
        clear HB
        cases z
        · go_wp2_with fail
          go_ret2
          rw [HO5.out]
          exact ⟨_, rfl, fun e => absurd e (by decide), fun _ => rfl, hg ▸ b14, newp_none w⟩
        · go_wp2_with fail
          go_ret2
          rw [HO5.out]
          exact ⟨_, rfl, fun _ => HJ4.out, fun e => absurd rfl e, hg ▸ b14, newp_at (by omega)⟩
    · have hf1 : (f != 0) = true := by simp [hf0]
      have ho := HO.out
      rw [if_pos (.inl hf0)] at ho
      have HO5 := Lib.hid ho
      clear HO ho HB
      go_wp2_with (refine wp_sth (.tmp 6) (.tmp 19) k hd.zero n2 rfl rfl rfl rfl ?_; intro w3 m3 c3; rw [← hX] at c3; have d3 := new_chg c3; have b3 := b12.trans (d3.mono b12.size))
      go_ret2
      rw [HO5.out]
      exact ⟨_, rfl, fun e => absurd e (by decide), fun _ => rfl, hg ▸ b3, newp_none w⟩
theorem rs_at {w : World} {b o : Nat} {n c : Nat} {ll : List (List UInt8)} (h : RS w (some ⟨b, o, none⟩) n c ll) {i : Nat} (hi : i < n) : ∃ A' c', w.cell? ⟨b, o + i, none⟩ = some (.slice A' (ll.getD i []).length c') ∧ BS w A' (ll.getD i []).length c' (ll.getD i []) := by
  obtain ⟨b', o', e, hb, hc⟩ := h.has (by omega)
  injection e with e
  injection e with e1 e2
  subst e1 e2
  obtain ⟨A', c', e1, e2⟩ := hc i (by rw [h.len]; exact hi)
  have he : ll.getD i [] = ll[i]'(by rw [h.len]; exact hi) := by rw [List.getD_eq_getElem?_getD, List.getElem?_eq_getElem (by rw [h.len]; exact hi)]; rfl
  rw [he]
  exact ⟨A', c', e1, e2⟩
set_option maxHeartbeats 2000000 in
set_option maxRecDepth 100000 in
/-- the same rows of bytes? -/
theorem same_rows {A1 A2 : Option Addr} {n1 c1 n2 c2 : Nat} {l1 l2 : List (List UInt8)} {w : World} (h1 : RS w A1 n1 c1 l1) (h2 : RS w A2 n2 c2 l2) : Calls Tryz.prog 36 #[.slice A1 n1 c1, .slice A2 n2 c2] w fun e w' => e = .returned (.bool (decide (l1 = l2))) ∧ Below w.heap.size w w' := by
  have hlen1 := h1.len
  have hlen2 := h2.len
  by_cases hn : n1 = n2
  · subst hn
    have hnb : ((n1 : Int) != (n1 : Int)) = false := by simp
    have H1 := Lib.hid h1
    have H2 := Lib.hid h2
    have hcap1 := h1.cap
    have hmax1 := h1.max
    have hcap2 := h2.cap
    have hmax2 := h2.max
    clear h1 h2
    go_enter Tryz.func36, Tryz.ntmps36
    go_wp2_with fail
    go_loopw [5] (fun t wr => ∃ (i : Nat), t = .int .i64 i ∧ i ≤ n1 ∧ Hid (∀ k, k < i → l1.getD k [] = l2.getD k []) ∧ Below w.heap.size w wr) (fun t _ => n1 - (intOf t).toNat)
    case atStart => exact ⟨0, rfl, by omega, fun k hk => by omega, Below.refl _ _⟩
    case round =>
      obtain ⟨i, rfl, hin, hz, hb⟩ := hrel
      by_cases hi : i < n1
      · have hi' : (i : Int) < (n1 : Int) := by omega
        have r1 := H1.out.below hb
        have r2 := H2.out.below hb
        obtain ⟨b1, o1, rfl, -⟩ := r1.has (by omega)
        obtain ⟨b2, o2, rfl, -⟩ := r2.has (by omega)
        obtain ⟨X1, k1, e1, g1⟩ := rs_at r1 hi
        obtain ⟨X2, k2, e2, g2⟩ := rs_at r2 hi
        obtain ⟨a1, ha1⟩ : ∃ a, l1.getD i [] = a := ⟨_, rfl⟩
        obtain ⟨a2, ha2⟩ : ∃ a, l2.getD i [] = a := ⟨_, rfl⟩
        rw [ha1] at e1 g1
        rw [ha2] at e2 g2
        have HS := Lib.hid (fun n => same_any _ _ _ _ _ _ a1 a2 (wr.drewN n) (show BS (wr.drewN n) X1 a1.length k1 a1 from ⟨g1.len, g1.cap, g1.max, g1.small, g1.has⟩) (show BS (wr.drewN n) X2 a2.length k2 a2 from ⟨g2.len, g2.cap, g2.max, g2.small, g2.has⟩))
        by_cases ha : a1 = a2
        · rw [decide_eq_true ha] at HS
          have hz2 : Hid (∀ k, k < i + 1 → l1.getD k [] = l2.getD k []) := fun k hk => by
            by_cases hk2 : k < i
            · exact hz.out k hk2
            · obtain rfl : k = i := by omega
              rw [ha1, ha2, ha]
          clear r1 r2 g1 g2 ha1 ha2 ha
          go_wp2_with fail
          go_quiet (first | (go_at_call 44; exact quiet_is (HS.out _)))
          go_wp2_with fail
          go_roundw
          case rel => exact ⟨i + 1, by go_num, by omega, hz2, ⟨hb.os, hb.tape, hb.output, hb.size, hb.block⟩⟩
          case measure => simp [intOf]; omega
        · rw [decide_eq_false ha] at HS
          have hd : decide (l1 = l2) = false := by
            rw [decide_eq_false_iff_not]
            intro e
            rw [e] at ha1
            exact ha (ha1.symm.trans ha2)
          have HDD := Lib.hid hd
          clear r1 r2 g1 g2 ha1 ha2 ha hd
          go_wp2_with fail
          go_quiet (first | (go_at_call 44; exact quiet_is (HS.out _)))
          go_wp2_with fail
          go_ret
          exact ⟨by rw [HDD.out]; rfl, ⟨hb.os, hb.tape, hb.output, hb.size, hb.block⟩⟩
      · have hi' : ¬ (i : Int) < (n1 : Int) := by omega
        have hd : decide (l1 = l2) = true := by
          rw [decide_eq_true_eq]
          refine List.ext_getElem (by omega) fun k h1 h2 => ?_
          have := hz.out k (by omega)
          rw [List.getD_eq_getElem?_getD, List.getD_eq_getElem?_getD, List.getElem?_eq_getElem h1, List.getElem?_eq_getElem h2] at this
          exact this
        have HDD := Lib.hid hd
        clear hd
        go_wp2_with fail
        go_ret
        exact ⟨by rw [HDD.out]; rfl, hb⟩
  · have hnb : ((n1 : Int) != (n2 : Int)) = true := by rw [bne_iff_ne]; omega
    have hd : decide (l1 = l2) = false := by
      rw [decide_eq_false_iff_not]
      intro e
      rw [e] at hlen1
      omega
    rw [hd]
    clear h1 h2
    go_enter Tryz.func36, Tryz.ntmps36
    go_wp2_with fail
    go_ret
    exact ⟨rfl, Below.refl _ _⟩
end Go.Proofs.YtknndmhkfonfmaaGreatDoor

/-
  contracts of cardexref07: blocks, lay, Make, Append, Replace.
-/
namespace Go.Proofs.YtknndmhkfonfmaaGreatDoor
open Go.RowKit
namespace jn
/-- a block under way: the first i bytes behind the place at_ of a row -/
def part (row : List UInt8) (at_ i : Nat) : Blk := (row.drop at_).take i ++ List.replicate (128 - i) 0
theorem part_length {row : List UInt8} {at_ i : Nat} (h : at_ + i ≤ row.length) (hi : i ≤ 128) : (part row at_ i).length = 128 := by
  rw [part, List.length_append, List.length_take, List.length_drop, List.length_replicate]
  omega
theorem part_zero (row : List UInt8) (at_ : Nat) : part row at_ 0 = dk.zero := rfl
theorem part_set {row : List UInt8} {at_ i : Nat} (h : at_ + i < row.length) (hi : i < 128) : (part row at_ i).set i (row[at_ + i]'h) = part row at_ (i + 1) := by
  unfold part
  rw [List.set_append_right _ _ (by rw [List.length_take]; omega)]
  have e1 : i - ((row.drop at_).take i).length = 0 := by rw [List.length_take, List.length_drop]; omega
  rw [e1, show 128 - i = (128 - (i + 1)) + 1 from by omega, List.replicate_succ, List.set_cons_zero, List.take_add_one, List.getElem?_drop, List.getElem?_eq_getElem h]
  simp
theorem part_blk {row : List UInt8} {k i : Nat} (hi : i ≤ 128) (hend : i = 128 ∨ row.length ≤ k * 128 + i) (hle : k * 128 + i ≤ row.length) : part row (k * 128) i = blk row k := by
  unfold part blk
  rcases hend with rfl | he
  · have hl : ((row.drop (k * 128)).take 128).length = 128 := by rw [List.length_take, List.length_drop]; omega
    rw [hl]
  · have e1 : (row.drop (k * 128)).take i = row.drop (k * 128) := List.take_of_length_le (by rw [List.length_drop]; omega)
    have e2 : (row.drop (k * 128)).take 128 = row.drop (k * 128) := List.take_of_length_le (by rw [List.length_drop]; omega)
    rw [e1, e2, List.length_drop]
    congr 2
    omega
/-- the first k blocks of a row -/
def firstB (row : List UInt8) (k : Nat) : List Blk := (List.range k).map (blk row)
theorem firstB_snoc (row : List UInt8) (k : Nat) : firstB row k ++ [blk row k] = firstB row (k + 1) := by simp [firstB, List.range_succ]
theorem firstB_length (row : List UInt8) (k : Nat) : (firstB row k).length = k := by simp [firstB]
end jn
set_option maxHeartbeats 4000000 in
set_option maxRecDepth 100000 in
theorem rj_blocks (A : Option Addr) (n c : Nat) (b : List UInt8) (w : World) (h : BS w A n c b) (hn : n ≤ 1048576) :
    Calls Tryz.prog 52 #[.slice A n c] w fun e w' => ∃ v, e = .returned v ∧ w'.ownsRow w.heap.size 43 128 v (jn.blocks b).length (dk.cellsS (jn.blocks b)) ∧ Below w.heap.size w w' := by
  obtain ⟨hz, -⟩ := zero_of_info zero_blk
  have hl := h.len
  have HR := Lib.hid (rrow_any A n c b w h (by omega))
  obtain ⟨row, hrow⟩ : ∃ row, leBytes n 4 ++ b = row := ⟨_, rfl⟩
  rw [hrow] at HR
  have hrl : row.length = n + 4 := by rw [← hrow, List.length_append, leBytes_length, hl]; omega
  have hbl : jn.blocks b = jn.firstB row (jn.count (n + 4)) := by
    unfold jn.blocks jn.firstB jn.rowOf
    rw [hl, hrow, hrl]
  have HBL := Lib.hid hbl
  obtain ⟨m, hm⟩ : ∃ m, row.length = m := ⟨_, rfl⟩
  have hmn : m = n + 4 := by omega
  have hm0 : m ≤ 1048580 := by omega
  have HMN := Lib.hid hmn
  clear hrow hbl hrl hmn
  go_enter Tryz.func52, Tryz.ntmps52
  go_wp2_with fail
  refine HR.out.mono ?_
  rintro e w1 ⟨v1, rfl, o1, b1⟩
  obtain ⟨A1, c1, rfl, hB1⟩ := o1.form
  rw [hm] at hB1 ⊢
  have hcap := hB1.cap
  have hmax := hB1.max
  have hA1 : ∀ q o, A1 = some ⟨q, o, none⟩ → q < w1.heap.size := fun q o e => by
    obtain ⟨gb, go, e2, hgl, _⟩ := hB1.has (by have := HMN.out; omega)
    rw [e] at e2
    injection e2 with e2
    injection e2 with e2 _ _
    omega
  clear HR h
  go_wp2_with fail
  go_loopw [4, 5] (fun v t wr => ∃ k T : Nat, t = .int .i64 (T : Int) ∧ Hid (T = k * 128) ∧ T ≤ m + 127 ∧ wr.ownsRow w.heap.size 43 128 v k (dk.cellsS (jn.firstB row k)) ∧ (∀ q, v.ownBlock = some q → w1.heap.size ≤ q) ∧ BS wr A1 m c1 row ∧ w1.heap.size ≤ wr.heap.size ∧ Below w.heap.size w wr) (fun _ t _ => m + 128 - (intOf t).toNat)
  case atStart => exact ⟨0, 0, rfl, rfl, by omega, World.ownsRow_nil _ _ _ _, fun q hq => by simp [Value.ownBlock] at hq, hB1, Nat.le_refl _, b1⟩
  case round =>
    clear hB1 o1
    obtain ⟨k, T, rfl, HT, hTm, hown, hfar, hB, hws, hbr⟩ := hrel
    generalize wr = wo at *
    by_cases hlt : T < m
    · have hX := heap_alloc_new wo (.cells (dk.cells dk.zero).toArray 43)
      have hbX : Below wo.heap.size wo (wo.alloc (.cells (dk.cells dk.zero).toArray 43)) := (Below.refl _ _).alloc (Nat.le_refl _) _
      obtain ⟨X, hXs⟩ : ∃ X, wo.heap.size = X := ⟨_, rfl⟩
      rw [hXs] at hX hbX
      have hlo := own_lt hown
      go_wp2_with fail
      have HXS := Lib.hid hXs
      clear hXs
      go_loopw [7] (fun t w3 => ∃ i : Nat, t = .int .i64 i ∧ i ≤ 128 ∧ T + i ≤ m ∧ w3.heap[X]? = some (.cells (dk.cells (jn.part row T i)).toArray 43 (0, 0)) ∧ Below X wo w3) (fun t _ => 128 - (intOf t).toNat)
      case atStart => exact ⟨0, rfl, by omega, by omega, by rw [jn.part_zero]; exact hX, hbX⟩
      case round =>
        clear hX hbX
        obtain ⟨i, rfl, hi, him, h3, hb3⟩ := hrel
        have hB3 := hB.below (HXS.out ▸ hb3)
        have hpl : (jn.part row T i).length = 128 := jn.part_length (by omega) hi
        by_cases hin : i < 128 ∧ T + i < m
        · obtain ⟨q1, q2⟩ := hin
          obtain ⟨gb, go, rfl, hgl, hcell⟩ := hB3.has (by omega)
          have hc := hcell (T + i) (by omega)
          have hset := jn.part_set (row := row) (at_ := T) (i := i) (by omega) q1
          have hrx := RowB.cell (e := 43) (l := jn.part row T i) h3 (i := i) (by omega)
          have hfz := RowB.frozen (e := 43) (l := jn.part row T i) h3 i
          have hnew := RowB.set_ (e := 43) (l := jn.part row T i) h3 i (row[T + i]'(by omega))
          rw [hset] at hnew
          have HN := Lib.hid hnew
          have hbs := hb3.trans ((Chg.setCell wr X i (bv (row[T + i]'(by omega)))).below (B := X) (Nat.le_of_lt (Array.getElem?_eq_some_iff.1 h3).1) (fun q hq => by simp at hq; omega))
          have HBS := Lib.hid hbs
          generalize row[T + i]'(by omega) = x at *
          generalize (jn.part row T i)[i]'(by omega) = y at *
          clear hset hnew hbs hcell h3 hb3 hB3
          go_wp2_with fail
          go_roundw
          case rel => exact ⟨i + 1, by go_num, by omega, by omega, HN.out, HBS.out⟩
          case measure => simp [intOf]; omega
        · have hblk : jn.part row T i = jn.blk row k := by
            rw [HT.out]
            exact jn.part_blk hi (by have := HT.out; omega) (by have := HT.out; omega)
          rw [hblk] at h3 hpl
          have hs3 := hb3.size
          have hown3 := own_keepB (w' := wr) hown (fun q hq => hb3.block q (by have := hlo q hq; have := HXS.out; omega))
          have hcase : (¬ i < 128) ∨ (i < 128 ∧ ¬ T + i < m) := by omega
          have hfs := jn.firstB_snoc row k
          have HFS := Lib.hid hfs
          have hbr3 := hbr.trans (hb3.mono (HXS.out ▸ hbr.size))
          have hg3 := blk_range h3
          have hown4 := own_keepB (w' := wr.alloc (.cells (dk.cells (jn.blk row k)).toArray 43)) hown3 (fun q hq => Below.heap_alloc wr _ q (own_lt hown3 q hq))
          have hnb := heap_alloc_new wr (.cells (dk.cells (jn.blk row k)).toArray 43)
          generalize jn.blk row k = x at *
          clear hblk hfs hown hown3 hin
          rcases hcase with hge | ⟨hlt2, hge⟩
          all_goals
            go_wp2_with (first
              | refine wp_ld (.tmp 6) x hg3 hpl rfl rfl rfl ?_
              | refine wp_bs1 (.tmp 37) x hpl rfl rfl rfl ?_
              | (refine wp_apb (.tmp 36) (.tmp 38) hown4 (by have := hbr3.size; simp; omega) hnb hpl (by have := HT.out; omega) rfl rfl rfl rfl ?_; intro g cap w5 hown5 hg5 hat5 hlt5))
            go_roundw
            case rel =>
              have hsz := hbr3.size
              have hbX := hB.below (HXS.out ▸ hb3)
              have e1 := HXS.out
              refine ⟨k + 1, T + 128, by go_num, by have := HT.out; show T + 128 = (k + 1) * 128; omega, by omega, HFS.out ▸ hown5, ?_, ?_, ?_, ?_⟩
              · intro q hq
                simp only [Value.ownBlock, Option.some.injEq] at hq
                rcases hat5 with e | e
                · exact hfar q (by rw [e, hq])
                · simp at e; omega
              · exact (hbX.alloc _).grown hg5 (fun q o e hq => by have := hA1 q o e; have := hfar q hq; omega)
              · have := hg5.size; simp at this; omega
              · exact (hbr3.alloc hbr3.size _).grown hg5 (by simp; omega) (fun q hq => Nat.le_trans b1.size (hfar q hq))
            case measure => simp [intOf]; omega
    · have hke : k = jn.count m := by have := HT.out; unfold jn.count; omega
      go_wp2_with fail
      go_ret
      rw [HBL.out, jn.firstB_length, ← HMN.out, ← hke]
      exact ⟨_, rfl, hown, hbr⟩
namespace jn
theorem lay_w {s : St} {at_ : Nat} {L : List Blk} (k : hd.H) (h : ¬ (writes s at_ L).1 = 0) : lay s at_ L k = writes s at_ L := by unfold jn.lay; rw [if_neg h]
theorem lay_f {s : St} {at_ : Nat} {L : List Blk} (k : hd.H) (h : (writes s at_ L).1 = 0) (h2 : ¬ (dk.flush (writes s at_ L).2).1 = 0) : lay s at_ L k = dk.flush (writes s at_ L).2 := by unfold jn.lay; rw [if_pos h, if_neg h2]
theorem lay_h {s : St} {at_ : Nat} {L : List Blk} (k : hd.H) (h : (writes s at_ L).1 = 0) (h2 : (dk.flush (writes s at_ L).2).1 = 0) : lay s at_ L k = layH (dk.flush (writes s at_ L).2).2 k := by unfold jn.lay; rw [if_pos h, if_pos h2]
theorem writes_at {s : St} {at_ : Nat} {L : List Blk} {i : Nat} (hi : i < L.length) (h : (writes s at_ (L.take i)).1 = 0) :
    writes s at_ (L.take (i + 1)) = dk.write (writes s at_ (L.take i)).2 ((at_ : Int) + (i : Int)) L[i] := by
  have e : L.take (i + 1) = L.take i ++ [L[i]] := by rw [List.take_add_one, List.getElem?_eq_getElem hi]; rfl
  rw [e, writes_snoc _ _ _ _ h, List.length_take]
  congr 1
  omega
theorem writes_end {s : St} {at_ : Nat} {L : List Blk} {i : Nat} (h : ¬ (writes s at_ (L.take i)).1 = 0) : writes s at_ L = writes s at_ (L.take i) := by
  conv => lhs; rw [← List.take_append_drop i L]
  exact writes_stop _ _ _ _ h
end jn
theorem own_form {w : World} {base n size : Nat} {e : TypeId} {v : Value} {xs : List Value} (h : w.ownsRow base e size v n xs) : ∃ A c, v = .slice A n c ∧ n ≤ c ∧ c ≤ 9223372036854775807 ∧ (0 < n → ∃ g, A = some ⟨g, 0, none⟩) := by
  rcases h.2 with ⟨rfl, rfl⟩ | ⟨g, cap, cur, rfl, _, _, h1, h2, _⟩
  · exact ⟨none, 0, rfl, Nat.le_refl _, by omega, fun h => by omega⟩
  · exact ⟨_, cap, rfl, h1, by rw [maxLen_eq] at h2; exact h2, fun _ => ⟨g, rfl⟩⟩
variable {w w' : World} {F : List Nat} {j : Value} {s : dk.St}
set_option maxHeartbeats 4000000 in
set_option maxRecDepth 100000 in
theorem rj_lay (h : RJ w F j s) (at_ : Nat) (hat : at_ ≤ 1048576) (v : Value) (L : List dk.Blk) (hLn : L.length ≤ 1048576) (hL : ∀ b ∈ L, b.length = 128) (hown : w.ownsRow 0 43 128 v L.length (dk.cellsS L)) (hv : ∀ k, v.ownBlock = some k → k ∉ F)
    (k : hd.H) (hk : k.Ok) (hf : s.many + L.length + 4 < 1048576 ∧ s.L.length + L.length + 4 < 1048576) :
    Calls Tryz.prog 55 #[j, .int .i64 at_, v, hd.val k] w fun e w' => ∃ F', e = .returned (.int .i64 (jn.lay s at_ L k).1) ∧ RJ w' F' j (jn.lay s at_ L k).2 ∧ Chg w w' F ∧ Sub w F' F := by
  obtain ⟨q, p, rfl, hq, hqF, hR⟩ := h
  obtain ⟨A, c, rfl, hcap, hmax, hA⟩ := own_form hown
  have hqlt := (Array.getElem?_eq_some_iff.1 hq).1
  have hTh := hR.there
  have m1 := HM.new w 53 k
  have b1 : Below w.heap.size w (w.alloc (.cells #[bv k.bank, .int .u32 k.blocks, .int .u32 k.batches] 53)) := (Below.refl _ _).alloc (Nat.le_refl _) _
  have hvl := own_lt hown
  obtain ⟨H, hH⟩ : ∃ H, w.heap.size = H := ⟨_, rfl⟩
  have HHH := Lib.hid hH
  rw [hH] at m1
  have hR1 := hR.below b1
  have hown1 := own_keepB (w' := w.alloc (.cells #[bv k.bank, .int .u32 k.blocks, .int .u32 k.batches] 53)) hown (fun x hx => b1.block x (hvl x hx))
  have hq1 := (b1.block q hqlt).trans hq
  have hfew := jn.writes_few
  have e0 : (jn.writes s at_ (L.take 0)) = (0, s) := rfl
  go_enter Tryz.func55, Tryz.ntmps55
  go_wp2_with fail
  have hs1 : (w.alloc (.cells #[bv k.bank, .int .u32 k.blocks, .int .u32 k.batches] 53)).heap.size = w.heap.size + 1 := by simp
  generalize w.alloc (.cells #[bv k.bank, .int .u32 k.blocks, .int .u32 k.batches] 53) = W1 at *
  have HS1 := Lib.hid hs1
  clear hs1 hH
  go_loopw [9] (fun t wr => ∃ (i : Nat) (F' : List Nat), t = .int .i64 i ∧ i ≤ L.length ∧ Hid ((jn.writes s at_ (L.take i)).1 = 0) ∧ RD wr F' (.pointer (some ⟨p, 0, none⟩)) (jn.writes s at_ (L.take i)).2 ∧ Chg W1 wr F ∧ Sub W1 F' F) (fun t _ => L.length - (intOf t).toNat)
  case atStart => exact ⟨0, F, rfl, Nat.zero_le _, rfl, hR1, Chg.refl _ _, Sub.refl _ _⟩
  case round =>
    obtain ⟨i, F', rfl, hi, HW, hRi, hc, hs⟩ := hrel
    have hqF' : q ∉ F' := fun hm => (hs q hm).elim hqF (fun h => by have := HS1.out; omega)
    have hqi := (hc.block q (by have := HS1.out; omega) hqF).trans hq1
    have hmi := m1.chg hc (fun hm => by have := hTh _ hm; have := HHH.out; omega)
    by_cases hlt : i < L.length
    · have hni := jn.writes_at hlt HW.out
      obtain ⟨g, rfl⟩ := hA (by omega)
      have howni := own_keepB (w' := wr) hown1 (fun x hx => hc.block x (by have := hvl x hx; have := HS1.out; omega) (hv x hx))
      have hrg := own_blk howni rfl hL hlt
      have hbl := hL _ (List.getElem_mem hlt)
      have hfw := hfew (L.take i) s at_
      rw [List.length_take] at hfw
      have hRd : RD wr.drew F' (.pointer (some ⟨p, 0, none⟩)) (jn.writes s at_ (L.take i)).2 := hRi.below (Below.refl _ _).drew
      have hfw2 : (jn.writes s at_ (L.take i)).2.Few := by
        have : min i L.length = i := Nat.min_eq_left hi
        rw [this] at hfw
        exact ⟨by omega, by omega⟩
      have hwr := rd_write ((at_ : Int) + (i : Int)) L[i] hbl hRd hfw2
      rw [← hni] at hwr
      have HWR := Lib.hid hwr
      generalize L[i] = xb at *
      have cq : wr.cell? ⟨q, 0, none⟩ = some (.pointer (some ⟨p, 0, none⟩)) := by rw [cell_of_row _ _ 0 _ _ _ hqi]; rfl
      have hwrap : IntKind.i64.wrap ((at_ : Int) + (i : Int)) = (at_ : Int) + (i : Int) := IntWalk.i64_in _ ⟨by omega, by omega⟩
      clear hwr hni hfw hfw2 hown1 howni hmi hfew e0
      go_wp2_with fail
      refine wp_region_still_tail 11 (by kernel_rfl) (by kernel_rfl) ?_
      simp only [List.take_succ_cons, List.take_zero, List.drop_succ_cons, List.drop_zero]
      iterate 10 still_step
      refine still_ld (.tmp 33) xb (show wr.drew.rangeAt g (i * 128) (dk.cells xb) from hrg) hbl rfl rfl (by rfl) ?_
      simp only [Act.put, List.setIfInBounds_toArray, List.set_cons_zero, List.set_cons_succ]
      refine wpStill_nil ?_
      change wpList _ _ _ _ _ wr.drew
      clear hrg cq
      have hrest : ∀ w2 F2, RD w2 F2 (.pointer (some ⟨p, 0, none⟩)) (jn.writes s at_ (L.take (i + 1))).2 → Chg wr.drew w2 F' → Sub wr.drew F2 F' → Chg W1 w2 F ∧ Sub W1 F2 F := fun w2 F2 _ h2 h3 =>
        ⟨(hc.trans (Chg.drew wr F) (Sub.refl _ _)).trans h2 hs, fun x hx => (h3 x hx).elim (hs x) (fun e => .inr (Nat.le_trans hc.size e))⟩
      have HREST := Lib.hid hrest
      clear hrest
      by_cases he : (jn.writes s at_ (L.take (i + 1))).1 = 0
      · go_wp2_with fail
        refine HWR.out.mono ?_
        rintro e w2 ⟨F2, rfl, hR2, hC2, hS2⟩
        rw [he]
        have HE := Lib.hid he
        clear he
        go_wp2_with fail
        obtain ⟨x1, x2⟩ := HREST.out w2 F2 hR2 hC2 hS2
        go_roundw
        case rel => exact ⟨i + 1, F2, by go_num, by omega, HE, hR2, x1, x2⟩
        case measure => simp [intOf]; omega
      · have hlay := jn.lay_w (L := L) k (by rw [jn.writes_end he]; exact he)
        rw [jn.writes_end he] at hlay
        have HLAY := Lib.hid hlay
        clear hlay
        obtain ⟨r, hr⟩ : ∃ r, (jn.writes s at_ (L.take (i + 1))).1 = r := ⟨_, rfl⟩
        rw [hr] at he HWR
        have hne : (r != 0) = true := by simpa using he
        have HR := Lib.hid hr
        clear he hr
        go_wp2_with fail
        refine HWR.out.mono ?_
        rintro e w2 ⟨F2, rfl, hR2, hC2, hS2⟩
        go_wp2_with fail
        obtain ⟨x1, x2⟩ := HREST.out w2 F2 hR2 hC2 hS2
        go_ret
        exact ⟨F2, ret_int (by rw [HLAY.out]; exact HR.out.symm), by rw [HLAY.out]; exact RJ.of ((x1.block q (by have := HS1.out; omega) hqF).trans hq1) (fun hm => (x2 q hm).elim hqF (fun h => by have := HS1.out; omega)) hR2, (Chg.of_below b1 F).trans x1 (Sub.refl _ _), fun x hx => (x2 x hx).imp id (fun e => by have := HS1.out; omega)⟩
    · have hiL : i = L.length := by omega
      have htk : L.take i = L := by rw [hiL, List.take_length]
      rw [htk] at HW hRi
      have hfw := hfew L s at_
      have hrj1 : ∀ w2 F2 t, RD w2 F2 (.pointer (some ⟨p, 0, none⟩)) t → Chg W1 w2 F → Sub W1 F2 F → RJ w2 F2 (.pointer (some ⟨q, 0, none⟩)) t ∧ Chg w w2 F ∧ Sub w F2 F ∧ (w2.heap[q]? = some (.cells #[.pointer (some ⟨p, 0, none⟩)] 89 (0, 0))) ∧ HM 53 w2 H k := fun w2 F2 t hRt x1 x2 => by
        have e1 := HS1.out
        have e2 := HHH.out
        have h1 := (x1.block q (by omega) hqF).trans hq1
        exact ⟨RJ.of h1 (fun hm => (x2 q hm).elim hqF (fun h => by omega)) hRt, (Chg.of_below b1 F).trans x1 (Sub.refl _ _), fun x hx => (x2 x hx).imp id (fun e => by omega), h1, m1.chg x1 (fun hm => by have := hTh _ hm; omega)⟩
      have HRJ := Lib.hid hrj1
      have cq : wr.cell? ⟨q, 0, none⟩ = some (.pointer (some ⟨p, 0, none⟩)) := by rw [cell_of_row _ _ 0 _ _ _ hqi]; rfl
      have hff := jn.flush_few (jn.writes s at_ L).2
      have hfl := rd_flush hRi ⟨by omega, by omega⟩
      have HFL := Lib.hid hfl
      have HLF := Lib.hid (fun h => jn.lay_f (L := L) k HW.out h)
      have HLH := Lib.hid (fun h => jn.lay_h (L := L) k HW.out h)
      obtain ⟨u, hu⟩ : ∃ u, dk.flush (jn.writes s at_ L).2 = u := ⟨_, rfl⟩
      rw [hu] at HFL hff HLF HLH
      have hmany : u.2.many + 2 < 1048576 ∧ u.2.L.length + 2 < 1048576 := ⟨by omega, by omega⟩
      clear hrj1 hfl hu hff hfw hfew e0 htk hiL hmi hown1 hvl hv hA hown hL
      go_wp2_with fail
      refine HFL.out.mono ?_
      rintro e w2 ⟨F2, rfl, hR2, hC2, hS2⟩
      obtain ⟨hj2, hch2, hsu2, hq2, hm2⟩ := HRJ.out w2 F2 _ hR2 (hc.trans hC2 hs) (fun x hx => (hS2 x hx).elim (hs x) (fun e => .inr (Nat.le_trans hc.size e)))
      have x1 := hc.trans hC2 hs
      have x2 : Sub W1 F2 F := fun x hx => (hS2 x hx).elim (hs x) (fun e => .inr (Nat.le_trans hc.size e))
      clear cq hC2 hS2 hc hs hqi hRi hqF'
      obtain ⟨r, hr⟩ : ∃ r, u.1 = r := ⟨_, rfl⟩
      obtain ⟨t, ht⟩ : ∃ t, u.2 = t := ⟨_, rfl⟩
      by_cases hr0 : r = 0
      · have hlay := HLH.out (hr.trans hr0)
        rw [ht] at hlay hmany hR2 hj2
        obtain ⟨l0, l1⟩ : (jn.rd t 0).length = 128 ∧ (jn.rd t 1).length = 128 := ⟨rd_len hj2.ok 0, rd_len hj2.ok 1⟩
        have hnl := hd.newest_lt (jn.rd t 0) (jn.rd t 1)
        have HN := Lib.hid (rj_newest hj2)
        have hlh : jn.layH t k = if (dk.write t (sl.next (jn.rd t 0) (jn.rd t 1)) (hd.put ((jn.newest t).1 + 1) k).1).1 = 0 then dk.flush (dk.write t (sl.next (jn.rd t 0) (jn.rd t 1)) (hd.put ((jn.newest t).1 + 1) k).1).2 else dk.write t (sl.next (jn.rd t 0) (jn.rd t 1)) (hd.put ((jn.newest t).1 + 1) k).1 := rfl
        rw [show hd.newest (jn.rd t 0) (jn.rd t 1) = jn.newest t from rfl] at hnl
        obtain ⟨N, hN⟩ : ∃ e, (jn.newest t).1 = e := ⟨_, rfl⟩
        obtain ⟨kk, hkk⟩ : ∃ e, (jn.newest t).2.1 = e := ⟨_, rfl⟩
        obtain ⟨f, hf2⟩ : ∃ e, (jn.newest t).2.2 = e := ⟨_, rfl⟩
        rw [hN] at hnl hlh
        rw [hN, hkk, hf2] at HN
        have hput := fun W => rput6_any (N + 1) (by omega) k hk W
        have hYl := hd.put_len (N + 1) k
        rw [show ((N + 1 : Nat) : Int) = (N : Int) + 1 from by omega] at hput
        obtain ⟨Y, hY⟩ : ∃ e, (hd.put (N + 1) k).1 = e := ⟨_, rfl⟩
        obtain ⟨ye, hye⟩ : ∃ e, (hd.put (N + 1) k).2 = e := ⟨_, rfl⟩
        simp only [hY, hye] at hput
        rw [hY] at hYl hlh
        have HPUT := Lib.hid hput
        have HNX := Lib.hid (fun W => rnext_any (jn.rd t 0) (jn.rd t 1) l0 l1 W)
        obtain ⟨nx, hnx⟩ : ∃ e, sl.next (jn.rd t 0) (jn.rd t 1) = e := ⟨_, rfl⟩
        rw [hnx] at HNX hlh
        rw [hlh] at hlay
        have HLAY := Lib.hid hlay
        have HWR := Lib.hid (fun W G (h : RD W G (.pointer (some ⟨p, 0, none⟩)) t) => rd_write nx Y hYl h ⟨by omega, by omega⟩)
        have iY := info_blk' hYl
        have uB := Tryz.underlying43
        have hw1 : IntKind.u64.wrap ((N : Int) + 1) = (N : Int) + 1 := IntWalk.u64_in _ ⟨by omega, by omega⟩
        rw [hr, hr0]
        have hxlt := hm2.lt
        clear hlay hput hN hkk hf2 hY hye hnx hlh hr hr0 ht HLF HLH HRJ HFL
        obtain ⟨hzh, -⟩ := zero_of_info info_head
        obtain ⟨hzb, -⟩ := zero_of_info zero_blk
        go_wp2_with fail
        refine HN.out.mono ?_
        rintro e w3 ⟨rfl, b3⟩
        have hR3 := hR2.below b3
        have q3 := (b3.block q (Array.getElem?_eq_some_iff.1 hq2).1).trans hq2
        have m3 := hm2.below b3 hm2.lt
        have n3 := HM.new w3 53 hd.zero
        obtain ⟨X3, hX3⟩ : ∃ X, w3.heap.size = X := ⟨_, rfl⟩
        rw [hX3] at n3
        clear HN hq2
        go_wp2_with (first
          | (refine wp_sth (.tmp 13) (.tmp 51) kk hd.zero n3 rfl rfl rfl rfl ?_; intro w4 n4 hc4; rw [← hX3] at hc4; have b4 := new_chg hc4; have m4 := m3.below b4 m3.lt)
          | refine wp_ldh (.tmp 7) k m4 rfl rfl rfl ?_)
        have hR4 := hR3.below b4
        have q4 := (b4.block q (Array.getElem?_eq_some_iff.1 q3).1).trans q3
        have b24 := b3.trans (b4.mono b3.size)
        clear n3 n4 hc4 q3 hR3 m3 m4
        refine (HPUT.out w4).mono ?_
        rintro e w5 ⟨rfl, b5⟩
        have hR5 := hR4.below b5
        have q5 := (b5.block q (Array.getElem?_eq_some_iff.1 q4).1).trans q4
        have b25 := b24.trans (b5.mono b24.size)
        have n5 := heap_alloc_new w5 (.cells (dk.cells dk.zero).toArray 43)
        obtain ⟨X5, hX5⟩ : ∃ X, w5.heap.size = X := ⟨_, rfl⟩
        rw [hX5] at n5
        clear q4 hR4 b24 b4 HPUT hX3
        go_wp2_with (refine wp_st0 (.tmp 15) (.tmp 58) Y n5 zero_len hYl rfl rfl rfl rfl ?_; intro w6 W6 hc6; rw [← hX5] at hc6; have b6 := new_chg hc6)
        have hR6 := hR5.below b6
        have q6 := (b6.block q (Array.getElem?_eq_some_iff.1 q5).1).trans q5
        have b26 := b25.trans (b6.mono b25.size)
        have hqF2 : q ∉ F2 := fun hm => by obtain ⟨_, _, e, _, h2, _⟩ := hj2; injection e with e; injection e with e; injection e with e; exact h2 (e ▸ hm)
        have hj6d : RJ w6.drew F2 (.pointer (some ⟨q, 0, none⟩)) t := (RJ.of q6 hqF2 hR6).drew
        have hX5l : w2.heap.size ≤ X5 := by have := b25.size; omega
        clear n5 hc6 q5 hR5 b25 b6 b5
        refine wp_region_held_drew (S := fun W => W.heap[q]? = some (.cells #[.pointer (some ⟨p, 0, none⟩)] 89 (0, 0)) ∧ W.heap[X5]? = some (.cells (dk.cells Y).toArray 43 (0, 0))) (by kernel_rfl) ⟨q6, W6⟩ (fun hHeld => ?_)
        refine wpAnyH_take (i := 0) (v := ?_) rfl (by kernel_rfl) (by kernel_rfl) (by kernel_rfl) (fun _ _ _ h => h) (Or.inl ⟨by rfl, ?_⟩) hHeld ?_
        rotate_left
        · intro w hSw; clear hSw; go_simp; try rfl
        simp only [List.getElem_toArray, List.getElem_cons_zero, Act.put, List.setIfInBounds_toArray, List.set_cons_zero, List.set_cons_succ]
        refine wpAnyH_take (i := 1) (v := ?_) rfl (by kernel_rfl) (by kernel_rfl) (by kernel_rfl) (fun _ _ _ h => h) (Or.inl ⟨by rfl, ?_⟩) hHeld ?_
        rotate_left
        · intro w hSw; clear hSw; go_simp; try rfl
        simp only [List.getElem_toArray, List.getElem_cons_zero, List.getElem_cons_succ, Act.put, List.setIfInBounds_toArray, List.set_cons_zero, List.set_cons_succ]
        refine wpAnyH_take (i := 2) (v := ?_) rfl (by kernel_rfl) (by kernel_rfl) (by kernel_rfl) (fun _ _ _ h => h) (Or.inl ⟨by rfl, ?_⟩) hHeld ?_
        rotate_left
        · intro w hSw; clear hSw; go_simp; try rfl
        simp only [List.getElem_toArray, List.getElem_cons_zero, List.getElem_cons_succ, Act.put, List.setIfInBounds_toArray, List.set_cons_zero, List.set_cons_succ]
        refine wpAnyH_take (i := 3) (v := ?_) rfl (by kernel_rfl) (by kernel_rfl) (by kernel_rfl) (fun _ _ _ h => h) (Or.inl ⟨by rfl, ?_⟩) hHeld ?_
        rotate_left
        · intro w hSw; have cq := cell_of_row _ _ 0 _ _ _ hSw.1; clear hSw; go_simp; try rfl
        simp only [List.getElem_toArray, List.getElem_cons_zero, List.getElem_cons_succ, Act.put, List.setIfInBounds_toArray, List.set_cons_zero, List.set_cons_succ]
        refine wpAnyH_take (i := 4) (v := ?_) rfl (by kernel_rfl) (by kernel_rfl) (by kernel_rfl) (fun _ _ _ h => h) (Or.inl ⟨by rfl, ?_⟩) hHeld ?_
        rotate_left
        · intro w hSw; clear hSw; go_simp; try rfl
        simp only [List.getElem_toArray, List.getElem_cons_zero, List.getElem_cons_succ, Act.put, List.setIfInBounds_toArray, List.set_cons_zero, List.set_cons_succ]
        refine wpAnyH_take (i := 6) (v := ?_) rfl (by kernel_rfl) (by kernel_rfl) (by kernel_rfl) (fun _ _ _ h => h) (Or.inl ⟨by rfl, ?_⟩) hHeld ?_
        rotate_left
        · intro w hSw; clear hSw; go_simp; try rfl
        simp only [List.getElem_toArray, List.getElem_cons_zero, List.getElem_cons_succ, Act.put, List.setIfInBounds_toArray, List.set_cons_zero, List.set_cons_succ]
        refine wpAnyH_take (i := 9) (v := dk.val Y) rfl (by kernel_rfl) (by kernel_rfl) (by kernel_rfl) (fun _ _ _ h => h) (yieldsIf_load_mid (by rfl) 43 (.tmp 15) rfl X5 (0) rfl (dk.cells Y) _ (fun w h => blk_range h.2) uB rfl iY) hHeld ?_
        simp only [List.getElem_toArray, List.getElem_cons_zero, List.getElem_cons_succ, Act.put, List.setIfInBounds_toArray, List.set_cons_zero, List.set_cons_succ]
        refine wpAnyH_ready (rs := [5]) (by kernel_rfl) (by simp) ?_
        refine AllReadyH.cons rfl (fun K hK => ?_) AllReadyH.nil
        rw [if_pos (by rfl)]
        go_simp
        refine (rj_read 0 hj6d).mono ?_
        rintro e w7 ⟨rfl, b7⟩
        have hS7 := And.intro ((b7.block q (Array.getElem?_eq_some_iff.1 hHeld.1).1).trans hHeld.1) ((b7.block X5 (Array.getElem?_eq_some_iff.1 hHeld.2).1).trans hHeld.2)
        refine hK.out _ _ hS7 (fun hHeld => ?_)
        clear hK K hS7
        refine wpAnyH_ready (rs := [7]) (by kernel_rfl) (by simp) ?_
        refine AllReadyH.cons rfl (fun K hK => ?_) AllReadyH.nil
        rw [if_pos (by rfl)]
        go_simp
        refine (rj_read 1 (hj6d.below b7)).mono ?_
        rintro e w8 ⟨rfl, b8⟩
        have hS8 := And.intro ((b8.block q (Array.getElem?_eq_some_iff.1 hHeld.1).1).trans hHeld.1) ((b8.block X5 (Array.getElem?_eq_some_iff.1 hHeld.2).1).trans hHeld.2)
        refine hK.out _ _ hS8 (fun hHeld => ?_)
        clear hK K hS8
        refine wpAnyH_ready (rs := [8]) (by kernel_rfl) (by simp) ?_
        refine AllReadyH.cons rfl (fun K hK => ?_) AllReadyH.nil
        rw [if_pos (by rfl)]
        go_simp
        refine (HNX.out _).mono ?_
        rintro e w9 ⟨rfl, b9⟩
        have hS9 := And.intro ((b9.block q (Array.getElem?_eq_some_iff.1 hHeld.1).1).trans hHeld.1) ((b9.block X5 (Array.getElem?_eq_some_iff.1 hHeld.2).1).trans hHeld.2)
        refine hK.out _ _ hS9 (fun hHeld => ?_)
        clear hK K hS9
        have hR9 := ((hR6.below (Below.refl _ _).drew).below b7).below b8
        have hR9 := hR9.below b9
        refine wpAnyH_ready (rs := [10]) (by kernel_rfl) (by simp) ?_
        refine AllReadyH.cons rfl (fun K hK => ?_) AllReadyH.nil
        rw [if_pos (by rfl)]
        go_simp
        refine (HWR.out _ _ hR9).mono ?_
        rintro e w10 ⟨F3, rfl, hR10, hC10, hS10⟩
        have hX5F : X5 ∉ F2 := fun hm => by have := hR2.there X5 hm; omega
        have hS10' := And.intro ((hC10.block q (Array.getElem?_eq_some_iff.1 hHeld.1).1 hqF2).trans hHeld.1) ((hC10.block X5 (Array.getElem?_eq_some_iff.1 hHeld.2).1 hX5F).trans hHeld.2)
        refine hK.out _ _ hS10' (fun hHeld => ?_)
        clear hK K hS10'
        refine wpAnyH_take (i := 11) (v := ?_) rfl (by kernel_rfl) (by kernel_rfl) (by kernel_rfl) (fun _ _ _ h => h) (Or.inl ⟨by rfl, ?_⟩) hHeld ?_
        rotate_left
        · intro w hSw; clear hSw; go_simp; try rfl
        simp only [List.getElem_toArray, List.getElem_cons_zero, List.getElem_cons_succ, Act.put, List.setIfInBounds_toArray, List.set_cons_zero, List.set_cons_succ]
        refine wpAnyH_done (by kernel_rfl) ?_ _
        have hb29 : Below w2.heap.size w2 w9 := ((b26.drew.trans (b7.mono b26.size)).trans (b8.mono (Nat.le_trans b26.size b7.size))).trans (b9.mono (Nat.le_trans (Nat.le_trans b26.size b7.size) b8.size))
        have hX : Chg w2 w10 F2 := (Chg.of_below hb29 F2).trans hC10 (Sub.refl _ _)
        have hS : Sub w2 F3 F2 := fun x hx => (hS10 x hx).imp id (fun e => Nat.le_trans hb29.size e)
        have hq10 := hHeld.1
        have hqF3 : q ∉ F3 := fun hm => (hS q hm).elim hqF2 (fun e => by have := HS1.out; have := x1.size; omega)
        have hj10 := RJ.of hq10 hqF3 hR10
        have hch3 : Chg w w10 F := hch2.trans hX hsu2
        have hsu3 : Sub w F3 F := fun x hx => (hS x hx).elim (hsu2 x) (fun e => .inr (Nat.le_trans hch2.size e))
        have hwf := jn.write_few t nx Y
        obtain ⟨r2, hr2⟩ : ∃ r, (dk.write t nx Y).1 = r := ⟨_, rfl⟩
        rw [hr2]
        clear hS10 hC10 hHeld b7 b8 b9 b26 hb29 hR9 HWR HNX hj6d W6 q6 hR6 hX hS hX5F hX5l
        by_cases he : r2 = 0
        · have hfl := rd_flush hR10 ⟨by omega, by omega⟩
          have HFL := Lib.hid hfl
          have HR2 := Lib.hid hr2
          have cq : w10.cell? ⟨q, 0, none⟩ = some (.pointer (some ⟨p, 0, none⟩)) := by rw [cell_of_row _ _ 0 _ _ _ hq10]; rfl
          rw [he] at HR2 ⊢
          clear hfl hr2 he
          go_wp2_with fail
          refine HFL.out.mono ?_
          rintro e w11 ⟨F4, rfl, hR11, hC11, hS11⟩
          have hl2 := HLAY.out
          rw [if_pos HR2.out] at hl2
          have HL2 := Lib.hid hl2
          have hqF4 : q ∉ F4 := fun hm => (hS11 q hm).elim hqF3 (fun e => by have := (Array.getElem?_eq_some_iff.1 hq10).1; omega)
          have hj11 := RJ.of ((hC11.block q (Array.getElem?_eq_some_iff.1 hq10).1 hqF3).trans hq10) hqF4 hR11
          have hch4 : Chg w w11 F := hch3.trans hC11 hsu3
          have hsu4 : Sub w F4 F := fun x hx => (hS11 x hx).elim (hsu3 x) (fun e => .inr (Nat.le_trans hch3.size e))
          clear hl2 hC11 hS11 cq
          go_wp2_with fail
          go_ret
          exact ⟨F4, ret_int (by rw [HL2.out]), by rw [HL2.out]; exact hj11, hch4, hsu4⟩
        · have hne : (r2 != 0) = true := by simpa using he
          have hl2 := HLAY.out
          rw [if_neg (by rw [hr2]; exact he)] at hl2
          have HL2 := Lib.hid hl2
          have HR2 := Lib.hid hr2
          clear hl2 hr2 he
          go_wp2_with fail
          go_ret
          exact ⟨F3, ret_int (by rw [HL2.out]; exact HR2.out.symm), by rw [HL2.out]; exact hj10, hch3, hsu3⟩
      · have hlay := HLF.out (fun h => hr0 (hr.symm.trans h))
        have HLAY := Lib.hid hlay
        have hne : (r != 0) = true := by simpa using hr0
        rw [hr]
        have HR := Lib.hid hr
        clear hlay hr hr0 hm2 hq2
        go_wp2_with fail
        go_ret
        exact ⟨F2, ret_int (by rw [HLAY.out]; exact HR.out.symm), by rw [HLAY.out]; exact hj2, hch2, hsu2⟩
end Go.Proofs.YtknndmhkfonfmaaGreatDoor

/-
  THE PROGRAM's journal: the blocks of a row.
-/
namespace Go.Proofs.YtknndmhkfonfmaaGreatDoor
open Go.RowKit Go.Shelf
attribute [local go_sem] Oper.semAt_some
theorem chunk_any (A : Option Addr) (L C : Nat) (w : World) : Calls Tryz.prog 94 #[.slice A L C, .int .i64 128] w fun e w' =>
    e = .returned (.func (.func 112) #[] #[.pointer (some ⟨w.heap.size, 0, none⟩), .pointer (some ⟨w.heap.size + 1, 0, none⟩)]) ∧
      w' = (w.alloc (.cells #[.slice A L C] 36)).alloc (.cells #[.int .i64 128] 3) := by
  have c1 : ((w.alloc (.cells #[.slice A L C] 36)).alloc (.cells #[.int .i64 128] 3)).cell? ⟨w.heap.size + 1, 0, none⟩ = some (.int .i64 128) := by
    have h := heap_alloc_new (w.alloc (.cells #[.slice A L C] 36)) (.cells #[.int .i64 128] 3)
    rw [show (w.alloc (.cells #[.slice A L C] 36)).heap.size = w.heap.size + 1 from by simp] at h
    rw [cell_of_row _ _ 0 _ _ _ h]
    rfl
  go_enter Tryz.func94, Tryz.ntmps94
  go_wp2_with fail
  go_ret
  exact ⟨rfl, rfl⟩
theorem piece_bs {w : World} {g L C : Nat} {row : List UInt8} (h : BS w (some ⟨g, 0, none⟩) L C row) (x : Nat) : BS w (some ⟨g, x * 128, none⟩) (pieceL L x) (pieceL L x) ((row.drop (x * 128)).take (pieceL L x)) := by
  have hc := h.cap
  have hm := h.max
  by_cases hx : x * 128 < L
  · have h1 := h.cut (at_ := x * 128) (k := pieceL L x) (c' := pieceL L x) (by unfold pieceL; omega) (Nat.le_refl _) (by unfold pieceL; omega) (by unfold pieceL; omega)
    have e : (some (⟨g, 0, none⟩ : Addr)).map (fun y => y.add (x * 128)) = some ⟨g, x * 128, none⟩ := by
      simp only [Option.map_some, Addr.add]
      split <;> simp_all
    rw [e] at h1
    exact h1
  · have h0 : pieceL L x = 0 := by unfold pieceL; omega
    rw [h0, List.take_zero]
    exact BS.empty (by omega)
theorem piece_blk {L : Nat} {row : List UInt8} (hl : row.length = L) (x : Nat) : splice dk.zero 0 (((row.drop (x * 128)).take (pieceL L x)).take 128) = jn.blk row x := by
  have e : ((row.drop (x * 128)).take (pieceL L x)).take 128 = (row.drop (x * 128)).take 128 := by
    rw [List.take_take]
    by_cases h : 128 ≤ L - x * 128
    · rw [show min 128 (pieceL L x) = 128 from by unfold pieceL; omega]
    · rw [show min 128 (pieceL L x) = L - x * 128 from by unfold pieceL; omega, List.take_of_length_le (by rw [List.length_drop]; omega), List.take_of_length_le (by rw [List.length_drop]; omega)]
  rw [e]
  unfold splice jn.blk
  rw [List.take_zero, List.nil_append, Nat.zero_add, show dk.zero = List.replicate 128 0 from rfl, List.drop_replicate]
theorem frozen_of_row {w : World} {b : Nat} {cs : Array Value} {t : TypeId} (h : w.heap[b]? = some (.cells cs t (0, 0))) (i : Nat) : w.frozen? ⟨b, i, none⟩ = false := by simp [World.frozen?, h]
set_option maxHeartbeats 4000000 in
set_option maxRecDepth 100000 in
theorem cblocks_any (g L C : Nat) (row : List UInt8) (w : World) (hB : BS w (some ⟨g, 0, none⟩) L C row) (h0 : 0 < L) (hL : L ≤ 1048584) :
    Calls Tryz.prog 69 #[.slice (some ⟨g, 0, none⟩) L C] w fun e w' => ∃ v, e = .returned v ∧ w'.ownsRow w.heap.size 43 128 v (jn.count L) (dk.cellsS (jn.firstB row (jn.count L))) ∧ Below w.heap.size w w' := by
  refine (callsIn_wide (n := 5)).1 ?_
  refine callsIn_of_wp_marks Tryz.func69 rfl trivial ?_ rfl
  simp only [Tryz.ntmps69, List.size_toArray, List.length_cons, List.length_nil, Nat.reduceAdd, Nat.reduceSub, Array.replicate_succ, Array.replicate_zero, List.push_toArray, List.append_toArray, List.nil_append, List.cons_append]
  gi_wp2
  refine ⟨trivial, (callsIn_wide.2 (chunk_any _ _ _ _)).mono ?_⟩
  rintro e w1 ⟨rfl, hw1⟩
  rw [show (w.alloc (.cells #[.slice none 0 0] 58)).heap.size = w.heap.size + 1 from by simp]
  have e0 := heap_alloc_new w (.cells #[.slice none 0 0] 58)
  have e1 := heap_alloc_new (w.alloc (.cells #[.slice none 0 0] 58)) (.cells #[.slice (some ⟨g, 0, none⟩) L C] 36)
  have e2 := heap_alloc_new ((w.alloc (.cells #[.slice none 0 0] 58)).alloc (.cells #[.slice (some ⟨g, 0, none⟩) L C] 36)) (.cells #[.int .i64 128] 3)
  have s1 : (w.alloc (.cells #[.slice none 0 0] 58)).heap.size = w.heap.size + 1 := by simp
  have s2 : ((w.alloc (.cells #[.slice none 0 0] 58)).alloc (.cells #[.slice (some ⟨g, 0, none⟩) L C] 36)).heap.size = w.heap.size + 1 + 1 := by simp
  have f1 := (Below.heap_alloc _ (.cells #[.int .i64 128] 3) _ (show w.heap.size + 1 < ((w.alloc (.cells #[.slice none 0 0] 58)).alloc (.cells #[.slice (some ⟨g, 0, none⟩) L C] 36)).heap.size by simp <;> omega)).trans (s1 ▸ e1)
  have f0 := (Below.heap_alloc _ (.cells #[.int .i64 128] 3) _ (show w.heap.size < ((w.alloc (.cells #[.slice none 0 0] 58)).alloc (.cells #[.slice (some ⟨g, 0, none⟩) L C] 36)).heap.size by simp <;> omega)).trans ((Below.heap_alloc _ (.cells #[.slice (some ⟨g, 0, none⟩) L C] 36) _ (show w.heap.size < (w.alloc (.cells #[.slice none 0 0] 58)).heap.size by simp)).trans e0)
  rw [s2] at e2
  rw [← hw1] at e2 f1 f0
  have hb1 : Below w.heap.size w w1 := by rw [hw1]; exact (((Below.refl _ _).alloc (Nat.le_refl _) _).alloc (by simp) _).alloc (by simp <;> omega) _
  have hsz : w1.heap.size = w.heap.size + 3 := by rw [hw1]; simp
  clear hw1 e0 e1 s1 s2
  obtain ⟨B, hBB⟩ : ∃ B, w.heap.size = B := ⟨_, rfl⟩
  rw [hBB] at e2 f1 f0 hsz
  simp only [hBB]
  have hcap := hB.cap
  have hmax := hB.max
  gi_wp2
  refine wpIn_rangeFunc_ownF (α := Nat) rfl (by omega) (gf := 112) (lb := #[.pointer (some ⟨B + 1, 0, none⟩), .pointer (some ⟨B + 1 + 1, 0, none⟩)]) rfl trivial (enters_of Tryz.func112 (by kernel_rfl) rfl)
    (chunk_stops 4 g L C hL hcap hmax (B + 1) (B + 1 + 1) w1 (by omega) (by omega) (by rw [cell_of_row _ _ 0 _ _ _ f1]; rfl) (by rw [cell_of_row _ _ 0 _ _ _ e2]; rfl))
    (fun h h2 => Stay.trans h h2) (fun W l o o' hl _ _ _ k hk => World.putObj_heap_other (by simp at hk; omega)) (Below.refl _ _) (fun _ => rfl)
    (fun pre W => ∃ v, W.heap[B]? = some (.cells #[v] 58 (0, 0)) ∧ W.ownsRow w1.heap.size 43 128 v pre.length (dk.cellsS (pre.map (jn.blk row))) ∧ Below B w W ∧ w1.heap.size ≤ W.heap.size)
    (fun _ _ _ => False) ?hI (fun _ _ _ _ _ h _ _ => h) ⟨_, f0, World.ownsRow_nil _ _ _ _, hBB ▸ hb1, Nat.le_refl _⟩
    (fun x => { tmps := #[.slice (some ⟨g, 0, none⟩) L C, undef, .slice none 0 0, .pointer (some ⟨B, 0, none⟩), pieceV g L x, undef, .slice (some ⟨g, 0, none⟩) L C, .func (.func 112) #[] #[.pointer (some ⟨B + 1, 0, none⟩), .pointer (some ⟨B + 1 + 1, 0, none⟩)], pieceV g L x, undef, undef, undef, undef, undef, undef, undef, undef], defers := [] }) ?assign ?body ?done ?stop
  case assign =>
    intro l x W K hK
    gi_wp2
    exact hK
  case hI =>
    rintro pre W W' row' ⟨v, h1, h2, h3, h4⟩ hg hr
    have hne : ∀ (k : Nat) cs t, W.heap[k]? = some (.cells cs t (0, 0)) → some k ≠ row' := fun k cs t hk e => by
      obtain ⟨_, o, ho, hc⟩ := hr k e.symm
      rw [hk] at ho
      injection ho with ho
      rw [← ho] at hc
      cases hc
    refine ⟨v, (hg.block B (Array.getElem?_eq_some_iff.1 h1).1 (hne B _ _ h1)).trans h1, own_keepB h2 fun k hk => ?_, h3.grown hg (by rw [← hBB]; exact h3.size) (fun k e => by have := (hr k e).1; omega), Nat.le_trans h4 hg.size⟩
    rcases h2.2 with ⟨rfl, _⟩ | ⟨q, cp, cur, rfl, _, hq, _⟩
    · simp [Value.ownBlock] at hk
    · simp only [Value.ownBlock, Option.some.injEq] at hk
      subst hk
      exact hg.block q (Array.getElem?_eq_some_iff.1 hq).1 (hne q _ _ hq)
  case body =>
    rintro l pre x W ⟨v, h1, h2, h3, h4⟩ hlen
    have hcnt : pre.length ≤ 16384 := by unfold jn.count at hlen; omega
    have hBl := (Array.getElem?_eq_some_iff.1 h1).1
    have c0 : W.cell? ⟨B, 0, none⟩ = some v := by rw [cell_of_row _ _ 0 _ _ _ h1]; rfl
    have nX := heap_alloc_new W (.cells (dk.cells dk.zero).toArray 43)
    obtain ⟨X, hX⟩ : ∃ X, W.heap.size = X := ⟨_, rfl⟩
    rw [hX] at nX
    obtain ⟨hz, -⟩ := zero_of_info zero_blk
    have hBW := hB.below (w' := W) (by rw [hBB]; exact h3)
    have hpb := (piece_bs hBW x).alloc (.cells (dk.cells dk.zero).toArray 43)
    have HBLK := Lib.hid (piece_blk hB.len x)
    have hbl := jn.blk_length row x
    have own4 := own_alloc h2 (.cells (dk.cells dk.zero).toArray 43)
    have hb4 := h3.alloc (by omega) (.cells (dk.cells dk.zero).toArray 43)
    have hvB := own_base h2
    have hvX := own_lt h2
    have h14 := (Below.heap_alloc W (.cells (dk.cells dk.zero).toArray 43) B hBl).trans h1
    unfold pieceV
    gi_wp2_with (first
      | (refine listIn l 3 rfl (by intro c h; cases h) ?_; refine wpList_copy_bytes rfl (.tmp 9) (.tmp 10) 36 36 rfl 5 Tryz.underlying36 (by kernel_rfl) (E := 43) (bl := dk.zero) nX rfl rfl hpb (by decide) ?_; intro w5 r5 c5; have hs5 := c5.size; rw [HBLK.out] at r5; have h15 := (c5.block B (by simp; omega) (by simp; omega)).trans h14; have c15 : w5.cell? ⟨B, 0, none⟩ = some v := (by rw [cell_of_row _ _ 0 _ _ _ h15]; rfl); have own5 := own_keepB own4 (fun k hk => c5.block k (by have := hvX k hk; simp; omega) (by have := hvX k hk; simp; omega)); have hb5 := hb4.trans (c5.below (B := B) (by have := hb4.size; omega) (fun k hk => by simp at hk; omega)); have g5 := blk_range r5; have hs4 : X + 1 ≤ w5.heap.size := (by simp at hs5; omega); change wpListIn _ _ _ _ _ _ _ _)
      | (refine listIn l 3 rfl (by intro c h; cases h) ?_; refine wp_ld (.tmp 5) (jn.blk row x) g5 hbl rfl rfl rfl ?_; change wpListIn _ _ _ _ _ _ _ _)
      | (refine listIn l 3 rfl (by intro c h; cases h) ?_; refine wp_bs1 (.tmp 13) (jn.blk row x) hbl rfl rfl rfl ?_; change wpListIn _ _ _ _ _ _ _ _)
      | (refine listIn l 3 rfl (by intro c h; cases h) ?_; refine wp_apb (.tmp 12) (.tmp 14) (own_alloc own5 _) (by simp; omega) (heap_alloc_new w5 _) hbl (by omega) rfl rfl rfl rfl ?_; intro gg cp w7 own7 g7 at7 lt7; have hvne : v.ownBlock ≠ some B := (fun e => by have := hvB B e; omega); have h17 := (g7.block B (by simp; omega) (fun e => hvne e.symm)).trans ((Below.heap_alloc w5 _ B (by omega)).trans h15); have c17 : w7.cell? ⟨B, 0, none⟩ = some v := (by rw [cell_of_row _ _ 0 _ _ _ h17]; rfl); have z17 : w7.frozen? ⟨B, 0, none⟩ = false := (frozen_of_row h17 0); change wpListIn _ _ _ _ _ _ _ _))
    have h18 := block_set (i := 0) h17 (.slice (some ⟨gg, 0, none⟩) (pre.length + 1) cp)
    have hgB := own_base own7 gg rfl
    have hkeep : ∀ k, k < W.heap.size → k ≠ B → v.ownBlock ≠ some k → (w7.setCell ⟨B, 0, none⟩ (.slice (some ⟨gg, 0, none⟩) (pre.length + 1) cp)).heap[k]? = W.heap[k]? := fun k k1 k2 k3 =>
      (((Below.heap_setCell w7 ⟨B, 0, none⟩ _ k k2).trans (g7.block k (by simp; omega) (fun e => k3 e.symm))).trans (Below.heap_alloc w5 _ k (by omega))).trans ((c5.block k (by simp; omega) (by simp; omega)).trans (Below.heap_alloc W _ k k1))
    have hsz7 := g7.size
    refine ⟨⟨?_, fun k o hk ho => ?_⟩, fun k hk => ?_, _, h18, ?_, ?_, ?_⟩
    · simp at hsz7; simp; omega
    · refine (hkeep k (Array.getElem?_eq_some_iff.1 hk).1 (fun e => ?_) (fun e => ?_)).trans hk
      · rw [e, h1] at hk
        injection hk with hk
        rw [← hk] at ho
        cases ho
      · rcases h2.2 with ⟨rfl, _⟩ | ⟨q, cp2, cur, rfl, _, hq, _⟩
        · simp [Value.ownBlock] at e
        · simp only [Value.ownBlock, Option.some.injEq] at e
          subst e
          rw [hq] at hk
          injection hk with hk
          rw [← hk] at ho
          cases ho
    · simp only [List.mem_cons, List.not_mem_nil, or_false] at hk
      exact hkeep k (by omega) (by omega) (fun e => by have := hvB k e; omega)
    · rw [List.length_append, List.map_append]
      exact own_keepB own7 fun k hk => Below.heap_setCell w7 ⟨B, 0, none⟩ _ k (by simp only [Value.ownBlock, Option.some.injEq] at hk; show k ≠ B; omega)
    · exact ((hb5.alloc (by have := hb5.size; omega) _).grown g7 (by simp; omega) (fun k hk => by have := hvB k hk; omega)).setCell (p := ⟨B, 0, none⟩) (Nat.le_refl B) _
    · simp at hsz7; simp; omega
  case done =>
    rintro D xs W hD rfl ⟨v, h1, h2, h3, h4⟩ hK
    have c0 : W.cell? ⟨B, 0, none⟩ = some v := by rw [cell_of_row _ _ 0 _ _ _ h1]; rfl
    rw [List.length_range] at h2
    have hne : ∀ k, v.ownBlock = some k → k ≠ D := fun k hk e => by
      rcases h2.2 with ⟨rfl, _⟩ | ⟨q, cp2, cur, rfl, _, hq, _⟩
      · simp [Value.ownBlock] at hk
      · simp only [Value.ownBlock, Option.some.injEq] at hk
        rw [hk, e, hK] at hq
        cases hq
    gi_wp2
    refine ⟨by simp, .inl ⟨_, _, rfl, run_takeDeferred hK, ?_⟩⟩
    refine ⟨_, results_tmp rfl _ _ _, v, rfl, ownsRow_base (own_keepB h2 fun k hk => World.putObj_heap_other (hne k hk)) (by omega), ?_⟩
    rw [hBB]
    exact h3.trans (belowK_b (w := w1) (n₀ := B) (by omega) W D _ _ hD hK rfl rfl)
  case stop =>
    rintro D c pre W _ _ h _
    exact h.elim
end Go.Proofs.YtknndmhkfonfmaaGreatDoor

/-
  THE PROGRAM's head: Put, Get, Newest: the contracts that the laws want.
-/
namespace Go.Proofs.YtknndmhkfonfmaaGreatDoor
open Go.RowKit

set_option maxHeartbeats 4000000 in
set_option maxRecDepth 100000 in
theorem ch_put (n : Nat) (hn : n < 18446744073709551616) (h : hd.H) (hok : h.Ok) (w : World) (ht : Tabs w) : Calls Tryz.prog 79 #[.int .u64 n, hd.val h] w fun e w' =>
    e = .returned (.tuple #[dk.val (hd.put n h).1, .int .i64 (hd.put n h).2]) ∧ Below w.heap.size w w' := by
  obtain ⟨hz, -⟩ := zero_of_info zero_blk
  have m1 := HM.new w 53 h
  have m2 := m1.alloc (.cells (dk.cells dk.zero).toArray 43)
  have b1 : Below w.heap.size w (w.alloc (.cells #[bv h.bank, .int .u32 h.blocks, .int .u32 h.batches] 53)) := (Below.refl _ _).alloc (Nat.le_refl _) _
  have b2 := b1.alloc b1.size (.cells (dk.cells dk.zero).toArray 43)
  have r2 := heap_alloc_new (w.alloc (.cells #[bv h.bank, .int .u32 h.blocks, .int .u32 h.batches] 53)) (.cells (dk.cells dk.zero).toArray 43)
  rw [show (w.alloc (.cells #[bv h.bank, .int .u32 h.blocks, .int .u32 h.batches] 53)).heap.size = w.heap.size + 1 from by simp] at r2
  obtain ⟨W2, hW2⟩ : ∃ W2, (w.alloc (.cells #[bv h.bank, .int .u32 h.blocks, .int .u32 h.batches] 53)).alloc (.cells (dk.cells dk.zero).toArray 43) = W2 := ⟨_, rfl⟩
  rw [hW2] at m2 b2 r2
  have hlR : w.heap.size + 1 < W2.heap.size := (Array.getElem?_eq_some_iff.1 r2).1
  have ht2 := ht.below b2
  have hmay := ch_may h hok W2
  have c0 := m2.c0
  have c1 := m2.c1
  have c2 := m2.c2
  obtain ⟨q2, hq2⟩ : ∃ q, hd.may h = q := ⟨_, rfl⟩
  rw [hq2] at hmay
  have HMAY := Lib.hid hmay
  have HQ2 := Lib.hid hq2
  clear hmay m1 b1 hq2
  by_cases hnum : hd.num n = true
  · obtain ⟨hn1, hn2⟩ := hd.num_ok hnum
    have hc0 : ((n : Int) == 0) = false := by
      have : ¬ (n : Int) = 0 := by omega
      simpa using this
    have hc1 : ¬ (4611686018427387904 : Int) < (n : Int) := by omega
    cases q2 with
    | false =>
      have hp := hd.put_no (n := n) (h := h) (by rw [HQ2.out, Bool.and_false])
      have HP := Lib.hid hp
      clear hp hnum
      go_enter Tryz.func79, Tryz.ntmps79
      go_wp2_with fail
      refine HMAY.out.mono ?_
      rintro e w4 ⟨rfl, b4⟩
      have b24 := b2.trans (b4.mono b2.size)
      have r4 := (b4.block _ hlR).trans r2
      clear r2
      go_wp2_with (refine wp_st0 (.tmp 4) (.tmp 17) dk.zero r4 zero_len zero_len rfl rfl rfl rfl ?_; intro W hW hc)
      refine bodyPost_ret (results_cell_tmp rfl rfl (blk_load (blk_range hW) zero_len)) rfl ⟨?_, (Chg.of_below b24 [w.heap.size + 1]).trans hc (Sub.refl _ _) |>.below (Nat.le_refl _) (fun k hk => by simp at hk; omega)⟩
      rw [HP.out]
      rfl
    | true =>
      have hp := hd.put_yes hnum HQ2.out
      have HP := Lib.hid hp
      have hbl := hd.bodyOf_length h
      have hs : sl.put n (hd.bodyOf h) = (sl.sealB n (hd.bodyOf h), 0) := by rw [sl.put, if_neg (by omega), if_neg (by rw [hbl]; omega)]
      have p5 := fun W A c (hB : BS W A 9 c (hd.bodyOf h)) hT => cs_put n hn A 9 c (hd.bodyOf h) W hB hT
      simp only [hs] at p5
      have P5 := Lib.hid p5
      have hsl := sl.seal_length n (body := hd.bodyOf h) (by rw [hbl]; omega)
      have HBODY := Lib.hid (fun W hT => hbody_any h hok W hT)
      obtain ⟨L, hL⟩ : ∃ L, hd.bodyOf h = L := ⟨_, rfl⟩
      rw [hL] at hbl P5 HBODY hsl HP
      generalize sl.sealB n L = S at *
      clear hp hs p5 hL hnum
      have HBL := Lib.hid hbl
      clear hbl
      go_enter Tryz.func79, Tryz.ntmps79
      go_wp2_with fail
      refine HMAY.out.mono ?_
      rintro e w4 ⟨rfl, b4⟩
      have b24 := b2.trans (b4.mono b2.size)
      have hl4 := b4.size
      have r4 := (b4.block _ hlR).trans r2
      have m4 := m2.below b4 m2.lt
      have ht4 := ht2.below b4
      have d0 := m4.c0
      have d1 := m4.c1
      have d2 := m4.c2
      clear r2 m2 c0 c1 c2 b2 b4
      go_wp2_with fail
      refine (HBODY.out w4 ht4.siz).mono ?_
      rintro e w5 ⟨v5, rfl, o5, b5⟩
      obtain ⟨A5, c5, rfl, hB5⟩ := o5.form
      rw [HBL.out] at hB5 ⊢
      have b25 := b24.trans (b5.mono b24.size)
      have r5 := (b5.block _ (by omega)).trans r4
      have hl5 := b5.size
      have ht5 := ht4.below b5
      clear r4 m4 d0 d1 d2 b24 b5
      go_wp2_with fail
      refine (P5.out _ _ _ hB5 ht5.tab).mono ?_
      rintro e w6 ⟨rfl, b6⟩
      have b26 := b25.trans (b6.mono b25.size)
      have r6 := (b6.block _ (by omega)).trans r5
      clear r5 b25 b6 o5 hB5
      go_wp2_with (refine wp_st0 (.tmp 4) (.tmp 22) S r6 zero_len hsl rfl rfl rfl rfl ?_; intro W hW hc)
      refine bodyPost_ret (results_cell_tmp rfl rfl (blk_load (blk_range hW) hsl)) rfl ⟨?_, (Chg.of_below b26 [w.heap.size + 1]).trans hc (Sub.refl _ _) |>.below (Nat.le_refl _) (fun k hk => by simp at hk; omega)⟩
      rw [HP.out]
      rfl
  · have hp := hd.put_no (n := n) (h := h) (by simp [hnum])
    have HP := Lib.hid hp
    have hout : n = 0 ∨ 4611686018427387904 < n := by
      simp only [hd.num, Bool.and_eq_true, decide_eq_true_eq] at hnum
      omega
    clear hp hnum
    by_cases h0 : n = 0
    · have hc0 : ((n : Int) == 0) = true := by simp [h0]
      clear h0 hout
      go_enter Tryz.func79, Tryz.ntmps79
      go_wp2_with (refine wp_st0 (.tmp 4) (.tmp 17) dk.zero r2 zero_len zero_len rfl rfl rfl rfl ?_; intro W hW hc)
      refine bodyPost_ret (results_cell_tmp rfl rfl (blk_load (blk_range hW) zero_len)) rfl ⟨?_, (Chg.of_below b2 [w.heap.size + 1]).trans hc (Sub.refl _ _) |>.below (Nat.le_refl _) (fun k hk => by simp at hk; omega)⟩
      rw [HP.out]
      rfl
    · have hc0 : ((n : Int) == 0) = false := by
        have : ¬ (n : Int) = 0 := by omega
        simpa using this
      have hc1 : (4611686018427387904 : Int) < (n : Int) := by omega
      clear h0 hout
      go_enter Tryz.func79, Tryz.ntmps79
      go_wp2_with (refine wp_st0 (.tmp 4) (.tmp 17) dk.zero r2 zero_len zero_len rfl rfl rfl rfl ?_; intro W hW hc)
      refine bodyPost_ret (results_cell_tmp rfl rfl (blk_load (blk_range hW) zero_len)) rfl ⟨?_, (Chg.of_below b2 [w.heap.size + 1]).trans hc (Sub.refl _ _) |>.below (Nat.le_refl _) (fun k hk => by simp at hk; omega)⟩
      rw [HP.out]
      rfl
set_option maxHeartbeats 4000000 in
set_option maxRecDepth 100000 in
theorem ch_get (b : dk.Blk) (hb : b.length = 128) (w : World) (ht : Tabs w) : Calls Tryz.prog 84 #[dk.val b] w fun e w' =>
    e = .returned (.tuple #[.int .u64 (hd.get b).1, hd.val (hd.get b).2.1, .int .i64 (hd.get b).2.2]) ∧ Below w.heap.size w w' := by
  obtain ⟨hz, -⟩ := zero_of_info zero_blk
  obtain ⟨hzh, -⟩ := zero_of_info info_head
  have r1 := heap_alloc_new w (.cells (dk.cells b).toArray 43)
  have b1 : Below w.heap.size w (w.alloc (.cells (dk.cells b).toArray 43)) := (Below.refl _ _).alloc (Nat.le_refl _) _
  have r2 := (Below.heap_alloc (w.alloc (.cells (dk.cells b).toArray 43)) (.cells #[bv hd.zero.bank, .int .u32 hd.zero.blocks, .int .u32 hd.zero.batches] 53) w.heap.size (by simp)).trans r1
  have m2 := HM.new (w.alloc (.cells (dk.cells b).toArray 43)) 53 hd.zero
  rw [show (w.alloc (.cells (dk.cells b).toArray 43)).heap.size = w.heap.size + 1 from by simp] at m2
  have b2 := b1.alloc b1.size (.cells #[bv hd.zero.bank, .int .u32 hd.zero.blocks, .int .u32 hd.zero.batches] 53)
  have hlen2 : w.heap.size + 1 < ((w.alloc (.cells (dk.cells b).toArray 43)).alloc (.cells #[bv hd.zero.bank, .int .u32 hd.zero.blocks, .int .u32 hd.zero.batches] 53)).heap.size := by simp
  obtain ⟨W2, hW2⟩ : ∃ W2, (w.alloc (.cells (dk.cells b).toArray 43)).alloc (.cells #[bv hd.zero.bank, .int .u32 hd.zero.blocks, .int .u32 hd.zero.batches] 53) = W2 := ⟨_, rfl⟩
  have m2' : HM 53 W2 (w.heap.size + 1) hd.zero := by rw [← hW2]; exact m2
  rw [hW2] at r2 b2 hlen2
  obtain ⟨N, hN⟩ : ∃ e, (sl.get b).1 = e := ⟨_, rfl⟩
  obtain ⟨l, hl⟩ : ∃ e, (sl.get b).2.1 = e := ⟨_, rfl⟩
  obtain ⟨e0, he⟩ : ∃ e, (sl.get b).2.2 = e := ⟨_, rfl⟩
  have ht2 := ht.below b2
  have hg := cs_get b hb W2 ht2.tab
  rw [hN, hl, he] at hg
  have HG := Lib.hid hg
  have rg := blk_range r2
  have hdef : hd.get b = if e0 = 0 then (if (hd.put N (hd.headOf l)).2 = 0 ∧ (hd.put N (hd.headOf l)).1 = b then (N, hd.headOf l, 0) else (0, hd.zero, 5)) else (0, hd.zero, e0) := by rw [← hN, ← hl, ← he]; rfl
  have HDEF := Lib.hid hdef
  have hlen : e0 = 0 → l.length = 108 := fun h => by rw [← hl]; exact sl.get_len hb (he.trans h)
  have HLEN := Lib.hid hlen
  have hNlt : N < 18446744073709551616 := by rw [← hN]; exact sl.worth_lt b
  clear hg r1 b1 m2 hdef hN hl he hlen
  go_enter Tryz.func84, Tryz.ntmps84
  go_wp2_with (refine wp_ld (.tmp 1) b rg hb rfl rfl rfl ?_)
  refine HG.out.mono ?_
  rintro e w3 ⟨v3, rfl, o3, b3⟩
  have b23 := b2.trans (b3.mono b2.size)
  have m3 := m2'.below b3 hlen2
  have r3 := (b3.block w.heap.size (by omega)).trans r2
  have hl3 := b3.size
  clear HG rg hW2 m2' r2 b2
  by_cases he0 : e0 = 0
  · have he0' : (e0 != 0) = false := by simp [he0]
    have hll := HLEN.out he0
    obtain ⟨A3, c3, rfl, hB3⟩ := o3.form
    rw [hll] at hB3 ⊢
    have hcap := hB3.cap
    have hmax := hB3.max
    have hOk := hd.headOf_Ok l
    have hin := hin_any A3 108 c3 l w3 hB3 (by omega) (ht2.below b3).siz
    obtain ⟨hh, hhe⟩ : ∃ x, hd.headOf l = x := ⟨_, rfl⟩
    have hdef := HDEF.out
    rw [if_pos he0] at hdef
    rw [hhe] at hOk hdef hin
    have hput := fun W hT => ch_put N hNlt hh hOk W hT
    obtain ⟨S, hS⟩ : ∃ e, (hd.put N hh).1 = e := ⟨_, rfl⟩
    obtain ⟨f, hf⟩ : ∃ e, (hd.put N hh).2 = e := ⟨_, rfl⟩
    have hSl : S.length = 128 := by rw [← hS]; exact hd.put_len _ _
    simp only [hS, hf] at hput
    rw [hS, hf] at hdef
    have HD := Lib.hid hdef
    have HPUT := Lib.hid hput
    have HIN := Lib.hid hin
    have ht3 := ht2.below b3
    clear hput hdef hin hhe hS hf HDEF HLEN hB3 ht2
    go_wp2_with fail
    refine HIN.out.mono ?_
    rintro e w3' ⟨rfl, b3'⟩
    have b23' := b23.trans (b3'.mono b23.size)
    have m3' := m3.below b3' m3.lt
    have r3' := (b3'.block w.heap.size (by omega)).trans r3
    have hl3' := b3'.size
    have ht3' := ht3.below b3'
    have n3 := HM.new w3' 53 hd.zero
    obtain ⟨X1, hX1⟩ : ∃ X, w3'.heap.size = X := ⟨_, rfl⟩
    rw [hX1] at n3
    clear HIN m3 r3 b23 b3 o3 ht3
    go_wp2_with (first
      | (refine wp_sth (.tmp 8) (.tmp 22) hh hd.zero n3 rfl rfl rfl rfl ?_; intro w4 m4 hc4; rw [← hX1] at hc4; have b4 := new_chg hc4)
      | refine wp_ldh (.tmp 8) hh m4 rfl rfl rfl ?_)
    have b24 := b23'.trans (b4.mono b23'.size)
    have m34 := m3'.below b4 m3'.lt
    have r4 := (b4.block w.heap.size (by omega)).trans r3'
    have hl4 := b4.size
    have ht4 := ht3'.below b4
    clear hc4 n3 m3' r3' b23'
    refine (HPUT.out w4 ht4).mono ?_
    rintro e w5 ⟨rfl, b5⟩
    have b25 := b24.trans (b5.mono b24.size)
    have m35 := m34.below b5 m34.lt
    have m5 := m4.below b5 m4.lt
    have r5 := (b5.block w.heap.size (by omega)).trans r4
    have hl5 := b5.size
    have n5 := heap_alloc_new w5 (.cells (dk.cells dk.zero).toArray 43)
    have hX1l := m4.lt
    obtain ⟨X2, hX2⟩ : ∃ X, w5.heap.size = X := ⟨_, rfl⟩
    rw [hX2] at n5
    have hE := eq_blk S b hSl hb
    clear m34 m4 r4 b24 b4 b5 HPUT
    by_cases hf0 : f = 0
    · have hf0' : (f != 0) = false := by simp [hf0]
      by_cases hSb : S = b
      · rw [decide_eq_true hSb] at hE
        have hd := HD.out
        rw [if_pos ⟨hf0, hSb⟩] at hd
        have HD' := Lib.hid hd
        clear hd HD hSb
        go_wp2_with (first
          | (refine wp_st0 (.tmp 9) (.tmp 27) S n5 zero_len hSl rfl rfl rfl rfl ?_; intro w6 hW6 hc6; rw [← hX2] at hc6; have b6 := new_chg hc6; have g6 := blk_range hW6; have g7 := blk_range ((b6.block w.heap.size (by omega)).trans r5))
          | refine wp_ldw (.tmp 9) S g6 hSl rfl rfl (by rfl) ?_
          | refine wp_ldw (.tmp 1) b g7 hb rfl rfl (by rfl) ?_)
        have m6 := m5.below b6 (by omega)
        have m36 := m35.below b6 m35.lt
        have b26 := b25.trans (b6.mono b25.size)
        have c0 := m6.c0
        have c1 := m6.c1
        have c2 := m6.c2
        have d0 := m36.c0
        have d1 := m36.c1
        have d2 := m36.c2
        have f0 := m36.fz 0
        have f1 := m36.fz 1
        have f2 := m36.fz 2
        have hne : X1 ≠ w.heap.size + 1 := by omega
        clear hW6 hc6 b6 g6 g7 m6 m5 hE n5 r5
        have hset := m36.set3 hh
        have HSET := Lib.hid hset
        clear hset
        go_region
        have hset := HSET.out
        clear c0 c1 c2 d0 d1 d2 f0 f1 f2 m35 m36 HSET
        obtain ⟨hs1, hs2⟩ := hset
        have hs3 := hs1.drew
        have hs4 := (hs2.trans (Chg.drew _ _) (Sub.refl _ _))
        generalize ((((w6.setCell ⟨w.heap.size + 1, 0, none⟩ (bv hh.bank)).setCell ⟨w.heap.size + 1, 1, none⟩ (.int .u32 hh.blocks)).setCell ⟨w.heap.size + 1, 2, none⟩ (.int .u32 hh.batches)).drew) = w7 at *
        go_wp2_with fail
        refine bodyPost_ret (results_tct rfl rfl (head_load hs3)) rfl ⟨?_, (Chg.of_below b26 [w.heap.size + 1]).trans hs4 (Sub.refl _ _) |>.below (Nat.le_refl _) (fun k hk => by simp at hk; omega)⟩
        rw [HD'.out]
        rfl
      · rw [decide_eq_false hSb] at hE
        have hd := HD.out
        rw [if_neg (fun h => hSb h.2)] at hd
        have HD' := Lib.hid hd
        clear hd HD hSb
        go_wp2_with (first
          | (refine wp_st0 (.tmp 9) (.tmp 27) S n5 zero_len hSl rfl rfl rfl rfl ?_; intro w6 hW6 hc6; rw [← hX2] at hc6; have b6 := new_chg hc6; have g6 := blk_range hW6; have g7 := blk_range ((b6.block w.heap.size (by omega)).trans r5); have m36 := m35.below b6 m35.lt; have b26 := b25.trans (b6.mono b25.size))
          | refine wp_ldw (.tmp 9) S g6 hSl rfl rfl (by rfl) ?_
          | refine wp_ldw (.tmp 1) b g7 hb rfl rfl (by rfl) ?_
          | (refine wp_sth (.tmp 3) (.tmp 36) hd.zero hd.zero m36 rfl rfl rfl rfl ?_; intro w7 m7 hc7))
        refine bodyPost_ret (results_tct rfl rfl (head_load m7)) rfl ⟨?_, (Chg.of_below b26 [w.heap.size + 1]).trans hc7 (Sub.refl _ _) |>.below (Nat.le_refl _) (fun k hk => by simp at hk; omega)⟩
        rw [HD'.out]
        rfl
    · have hf0' : (f != 0) = true := by simp [hf0]
      have hd := HD.out
      rw [if_neg (fun h => hf0 h.1)] at hd
      have HD' := Lib.hid hd
      clear hd HD hE
      go_wp2_with (first
        | (refine wp_st0 (.tmp 9) (.tmp 27) S n5 zero_len hSl rfl rfl rfl rfl ?_; intro w6 hW6 hc6; rw [← hX2] at hc6; have b6 := new_chg hc6; have m36 := m35.below b6 m35.lt; have b26 := b25.trans (b6.mono b25.size))
        | (refine wp_sth (.tmp 3) (.tmp 36) hd.zero hd.zero m36 rfl rfl rfl rfl ?_; intro w7 m7 hc7))
      refine bodyPost_ret (results_tct rfl rfl (head_load m7)) rfl ⟨?_, (Chg.of_below b26 [w.heap.size + 1]).trans hc7 (Sub.refl _ _) |>.below (Nat.le_refl _) (fun k hk => by simp at hk; omega)⟩
      rw [HD'.out]
      rfl
  · have he0' : (e0 != 0) = true := by simp [he0]
    have hdef := HDEF.out
    rw [if_neg he0] at hdef
    have HD := Lib.hid hdef
    clear hdef
    go_wp2_with (refine wp_sth (.tmp 3) (.tmp 19) hd.zero hd.zero m3 rfl rfl rfl rfl ?_; intro w4 m4 hc4)
    refine bodyPost_ret (results_tct rfl rfl (head_load m4)) rfl ⟨?_, (Chg.of_below b23 [w.heap.size + 1]).trans hc4 (Sub.refl _ _) |>.below (Nat.le_refl _) (fun k hk => by simp at hk; omega)⟩
    rw [HD.out]
    rfl
set_option maxHeartbeats 4000000 in
set_option maxRecDepth 100000 in
theorem ch_newest (a b : dk.Blk) (ha : a.length = 128) (hb : b.length = 128) (w : World) (ht : Tabs w) : Calls Tryz.prog 61 #[dk.val a, dk.val b] w fun e w' =>
    e = .returned (.tuple #[.int .u64 (hd.newest a b).1, hd.val (hd.newest a b).2.1, .int .i64 (hd.newest a b).2.2]) ∧ Below w.heap.size w w' := by
  obtain ⟨hzh, -⟩ := zero_of_info info_head
  obtain ⟨N1, hN1⟩ : ∃ e, (hd.get a).1 = e := ⟨_, rfl⟩
  obtain ⟨h1, hh1⟩ : ∃ e, (hd.get a).2.1 = e := ⟨_, rfl⟩
  obtain ⟨e1, he1⟩ : ∃ e, (hd.get a).2.2 = e := ⟨_, rfl⟩
  obtain ⟨N2, hN2⟩ : ∃ e, (hd.get b).1 = e := ⟨_, rfl⟩
  obtain ⟨h2, hh2⟩ : ∃ e, (hd.get b).2.1 = e := ⟨_, rfl⟩
  obtain ⟨e2, he2⟩ : ∃ e, (hd.get b).2.2 = e := ⟨_, rfl⟩
  have HA := Lib.hid (fun W hT => ch_get a ha W hT)
  have HB := Lib.hid (fun W hT => ch_get b hb W hT)
  have hdef : hd.newest a b = if ¬ e1 = 0 ∧ ¬ e2 = 0 then (0, hd.zero, 7) else if N1 < N2 then (N2, h2, 0) else (N1, h1, 0) := by rw [← hN1, ← hN2, ← hh1, ← hh2, ← he1, ← he2]; rfl
  rw [hN1, hh1, he1] at HA
  rw [hN2, hh2, he2] at HB
  have hz1 : e1 = 0 ↔ ¬ N1 = 0 := by
    rw [← he1, ← hN1]
    constructor
    · intro h
      have := (hd.get_num h).1
      omega
    · intro h
      by_cases hx : (hd.get a).2.2 = 0
      · exact hx
      · exact absurd (hd.get_err hx).1 h
  have hz2 : e2 = 0 ↔ ¬ N2 = 0 := by
    rw [← he2, ← hN2]
    constructor
    · intro h
      have := (hd.get_num h).1
      omega
    · intro h
      by_cases hx : (hd.get b).2.2 = 0
      · exact hx
      · exact absurd (hd.get_err hx).1 h
  have hdef' : hd.newest a b = if N1 = 0 ∧ N2 = 0 then (0, hd.zero, 7) else if N1 < N2 then (N2, h2, 0) else (N1, h1, 0) := by
    rw [hdef]
    have hc : (¬ e1 = 0 ∧ ¬ e2 = 0) = (N1 = 0 ∧ N2 = 0) := by rw [hz1, hz2]; simp
    simp only [hc]
  have HDEF := Lib.hid hdef'
  clear hdef' hz1 hz2
  have r1 := heap_alloc_new w (.cells (dk.cells a).toArray 43)
  have b1 : Below w.heap.size w (w.alloc (.cells (dk.cells a).toArray 43)) := (Below.refl _ _).alloc (Nat.le_refl _) _
  obtain ⟨Wa, hWa⟩ : ∃ Wa, w.alloc (.cells (dk.cells a).toArray 43) = Wa := ⟨_, rfl⟩
  have hsa : Wa.heap.size = w.heap.size + 1 := by rw [← hWa]; simp
  rw [hWa] at r1 b1
  have r2 := (Below.heap_alloc Wa (.cells (dk.cells b).toArray 43) w.heap.size (by omega)).trans r1
  have s2 := heap_alloc_new Wa (.cells (dk.cells b).toArray 43)
  have b2 := b1.alloc b1.size (.cells (dk.cells b).toArray 43)
  obtain ⟨Wb, hWb⟩ : ∃ Wb, Wa.alloc (.cells (dk.cells b).toArray 43) = Wb := ⟨_, rfl⟩
  have hsb : Wb.heap.size = w.heap.size + 2 := by rw [← hWb]; simp; omega
  rw [hWb] at r2 s2 b2
  rw [hsa] at s2
  have r3 := (Below.heap_alloc Wb (.cells #[bv hd.zero.bank, .int .u32 hd.zero.blocks, .int .u32 hd.zero.batches] 53) w.heap.size (by omega)).trans r2
  have s3 := (Below.heap_alloc Wb (.cells #[bv hd.zero.bank, .int .u32 hd.zero.blocks, .int .u32 hd.zero.batches] 53) (w.heap.size + 1) (by omega)).trans s2
  have m3 := HM.new Wb 53 hd.zero
  have b3 := b2.alloc b2.size (.cells #[bv hd.zero.bank, .int .u32 hd.zero.blocks, .int .u32 hd.zero.batches] 53)
  rw [hsb] at m3
  obtain ⟨W3, hW3⟩ : ∃ W3, Wb.alloc (.cells #[bv hd.zero.bank, .int .u32 hd.zero.blocks, .int .u32 hd.zero.batches] 53) = W3 := ⟨_, rfl⟩
  rw [hW3] at r3 s3 m3 b3
  have m3' : HM 53 W3 (w.heap.size + 1 + 1) hd.zero := m3
  have hl3 : w.heap.size + 1 + 1 < W3.heap.size := m3.lt
  have g3 := blk_range r3
  have hj : W3 = ((w.alloc (.cells (dk.cells a).toArray 43)).alloc (.cells (dk.cells b).toArray 43)).alloc (.cells #[bv hd.zero.bank, .int .u32 hd.zero.blocks, .int .u32 hd.zero.batches] 53) := by rw [← hW3, ← hWb, ← hWa]
  have HJ := Lib.hid hj
  clear hdef hN1 hN2 hh1 hh2 he1 he2 r1 b1 r2 s2 b2 hWb hWa hW3 hsa hsb hj
  go_enter Tryz.func61, Tryz.ntmps61
  go_wp2_with (first | (rw [← HJ.out]; refine wp_ld (.tmp 2) a g3 ha rfl rfl rfl ?_) | refine wp_ld (.tmp 2) a g3 ha rfl rfl rfl ?_)
  have ht3 := ht.below b3
  refine (HA.out _ ht3).mono ?_
  rintro e w4 ⟨rfl, b4⟩
  have b34 := b3.trans (b4.mono b3.size)
  have ht4 := ht3.below b4
  have m4 := m3'.below b4 hl3
  have s4 := (b4.block (w.heap.size + 1) (by omega)).trans s3
  have hl4 := b4.size
  have n4 := HM.new w4 53 hd.zero
  obtain ⟨X1, hX1⟩ : ∃ X, w4.heap.size = X := ⟨_, rfl⟩
  rw [hX1] at n4
  clear g3 r3 s3 m3 m3' b3 b4 HA HJ
  go_wp2_with (first
    | (refine wp_sth (.tmp 8) (.tmp 17) h1 hd.zero n4 rfl rfl rfl rfl ?_; intro w5 n5 hc5; rw [← hX1] at hc5; have b5 := new_chg hc5; have g5 := blk_range ((b5.block (w.heap.size + 1) (by omega)).trans s4))
    | refine wp_ld (.tmp 3) b g5 hb rfl rfl rfl ?_)
  have b35 := b34.trans (b5.mono b34.size)
  have ht5 := ht4.below b5
  have m5 := m4.below b5 (by omega)
  have hl5 := b5.size
  have hX1l := n5.lt
  clear g5 s4 m4 n4 hc5 b34 b5
  refine (HB.out _ ht5).mono ?_
  rintro e w6 ⟨rfl, b6⟩
  have b36 := b35.trans (b6.mono b35.size)
  have m6 := m5.below b6 m5.lt
  have n56 := n5.below b6 n5.lt
  have hl6 := b6.size
  have n6 := HM.new w6 53 hd.zero
  obtain ⟨X2, hX2⟩ : ∃ X, w6.heap.size = X := ⟨_, rfl⟩
  rw [hX2] at n6
  clear m5 n5 b35 b6 HB
  have hcs : (N1 = 0 ∧ N2 = 0) ∨ ¬ N1 = 0 ∨ (N1 = 0 ∧ ¬ N2 = 0) := by omega
  have hstep : ∀ w7, HM 53 w7 X2 h2 → Chg (w6.alloc (.cells #[bv hd.zero.bank, .int .u32 hd.zero.blocks, .int .u32 hd.zero.batches] 53)) w7 [X2] → HM 53 w7 (w.heap.size + 1 + 1) hd.zero ∧ HM 53 w7 X1 h1 ∧ Below w.heap.size w w7 := fun w7 n7 hc7 => by
    rw [← hX2] at hc7
    have b7 := new_chg hc7
    exact ⟨m6.below b7 m6.lt, n56.below b7 n56.lt, b36.trans (b7.mono b36.size)⟩
  have HSTEP := Lib.hid hstep
  have hne1 : X1 ≠ w.heap.size + 1 + 1 := by omega
  have hne2 : X2 ≠ w.heap.size + 1 + 1 := by omega
  clear hstep m6 n56 b36
  rcases hcs with ⟨he1, he2⟩ | hcs
  · have he1' : ((N1 : Int) == 0) = true := by simp [he1]
    have he2' : ((N2 : Int) == 0) = true := by simp [he2]
    have hd := HDEF.out
    rw [if_pos ⟨he1, he2⟩] at hd
    have HD := Lib.hid hd
    clear hd HDEF
    go_wp2_with (first
      | (refine wp_sth (.tmp 11) (.tmp 23) h2 hd.zero n6 rfl rfl rfl rfl ?_; intro w7 n8 hc7; obtain ⟨m7, n7, b7⟩ := HSTEP.out w7 n8 hc7)
      | (refine wp_sth (.tmp 5) (.tmp 31) hd.zero hd.zero m7 rfl rfl rfl rfl ?_; intro w8 m8 hc8))
    refine bodyPost_ret (results_tct rfl rfl (head_load m8)) rfl ⟨?_, (Chg.of_below b7 [w.heap.size + 1 + 1]).trans hc8 (Sub.refl _ _) |>.below (Nat.le_refl _) (fun k hk => by simp at hk; omega)⟩
    rw [HD.out]
    rfl
  · have hd := HDEF.out
    rw [if_neg (fun h => by omega)] at hd
    have HD0 := Lib.hid hd
    clear hd HDEF
    by_cases hlt : N1 < N2
    · have hlt' : (N1 : Int) < (N2 : Int) := by omega
      have hd := HD0.out
      rw [if_pos hlt] at hd
      have HD := Lib.hid hd
      clear hd HD0
      rcases hcs with he1 | ⟨he1, he2⟩
      case' inl => have he1' : ((N1 : Int) == 0) = false := by simp; omega
      case' inr => have he1' : ((N1 : Int) == 0) = true := by simp [he1]
      case' inr => have he2' : ((N2 : Int) == 0) = false := by simp; omega
      all_goals
        go_wp2_with (refine wp_sth (.tmp 11) (.tmp 23) h2 hd.zero n6 rfl rfl rfl rfl ?_; intro w7 n8 hc7; obtain ⟨m7, n7, b7⟩ := HSTEP.out w7 n8 hc7)
        have c0 := n8.c0
        have c1 := n8.c1
        have c2 := n8.c2
        have d0 := m7.c0
        have d1 := m7.c1
        have d2 := m7.c2
        have f0 := m7.fz 0
        have f1 := m7.fz 1
        have f2 := m7.fz 2
        have HSET := Lib.hid (m7.set3 h2)
        clear m7 n7 n8
        go_wp2_with fail
        go_region
        obtain ⟨hs1, hs2⟩ := HSET.out
        have hs3 := hs1.drew
        have hs4 := (hs2.trans (Chg.drew _ _) (Sub.refl _ _))
        clear c0 c1 c2 d0 d1 d2 f0 f1 f2 HSET hs1 hs2
        generalize ((((w7.setCell ⟨w.heap.size + 1 + 1, 0, none⟩ (bv h2.bank)).setCell ⟨w.heap.size + 1 + 1, 1, none⟩ (.int .u32 h2.blocks)).setCell ⟨w.heap.size + 1 + 1, 2, none⟩ (.int .u32 h2.batches)).drew) = w8 at *
        go_wp2_with fail
        refine bodyPost_ret (results_tct rfl rfl (head_load hs3)) rfl ⟨?_, (Chg.of_below b7 [w.heap.size + 1 + 1]).trans hs4 (Sub.refl _ _) |>.below (Nat.le_refl _) (fun k hk => by simp at hk; omega)⟩
        rw [HD.out]
        rfl
    · have hlt' : ¬ (N1 : Int) < (N2 : Int) := by omega
      have hd := HD0.out
      rw [if_neg hlt] at hd
      have HD := Lib.hid hd
      clear hd HD0
      rcases hcs with he1 | ⟨he1, he2⟩
      case' inl => have he1' : ((N1 : Int) == 0) = false := by simp; omega
      case inr => exact absurd (show N1 < N2 by omega) hlt
      all_goals
        go_wp2_with (refine wp_sth (.tmp 11) (.tmp 23) h2 hd.zero n6 rfl rfl rfl rfl ?_; intro w7 n8 hc7; obtain ⟨m7, n7, b7⟩ := HSTEP.out w7 n8 hc7)
        have c0 := n7.c0
        have c1 := n7.c1
        have c2 := n7.c2
        have d0 := m7.c0
        have d1 := m7.c1
        have d2 := m7.c2
        have f0 := m7.fz 0
        have f1 := m7.fz 1
        have f2 := m7.fz 2
        have HSET := Lib.hid (m7.set3 h1)
        clear m7 n7 n8
        go_wp2_with fail
        go_region
        obtain ⟨hs1, hs2⟩ := HSET.out
        have hs3 := hs1.drew
        have hs4 := (hs2.trans (Chg.drew _ _) (Sub.refl _ _))
        clear c0 c1 c2 d0 d1 d2 f0 f1 f2 HSET hs1 hs2
        generalize ((((w7.setCell ⟨w.heap.size + 1 + 1, 0, none⟩ (bv h1.bank)).setCell ⟨w.heap.size + 1 + 1, 1, none⟩ (.int .u32 h1.blocks)).setCell ⟨w.heap.size + 1 + 1, 2, none⟩ (.int .u32 h1.batches)).drew) = w8 at *
        go_wp2_with fail
        refine bodyPost_ret (results_tct rfl rfl (head_load hs3)) rfl ⟨?_, (Chg.of_below b7 [w.heap.size + 1 + 1]).trans hs4 (Sub.refl _ _) |>.below (Nat.le_refl _) (fun k hk => by simp at hk; omega)⟩
        rw [HD.out]
        rfl
end Go.Proofs.YtknndmhkfonfmaaGreatDoor

/-
  THE PROGRAM's journal: the number and the place of the next head.
-/
namespace Go.Proofs.YtknndmhkfonfmaaGreatDoor
open Go.RowKit
namespace jn
/-- the number of the next head, and over which block it goes, as the program has it -/
def nx (a b : Blk) : Nat × Int := ((hd.newest a b).1 + 1, sl.next a b)
/-- it is the document's -/
theorem next_ok (a b : Blk) : nx a b = ((hd.newest a b).1 + 1, sl.next a b) := rfl
theorem nx_pos (a b : Blk) : (nx a b).2 = ((nx a b).2.toNat : Int) ∧ (nx a b).2.toNat < 2 := by
  unfold nx sl.next
  split
  · exact ⟨rfl, show _ < 2 by simp⟩
  · exact ⟨rfl, show _ < 2 by simp⟩
theorem newest_lt (a b : Blk) : (hd.newest a b).1 ≤ 4611686018427387904 := by
  unfold hd.newest
  split
  · show 0 ≤ _; omega
  · split
    · exact hd.get_lt b
    · exact hd.get_lt a
theorem nx_lt (a b : Blk) : (nx a b).1 < 18446744073709551616 := by
  have := newest_lt a b
  show (hd.newest a b).1 + 1 < _
  omega
/-- which number a block is sealed with, told by its ends and by whether its sum is refused -/
theorem worth_ends (b : Blk) : sl.worth b = if b.drop 120 = sl.last (sl.number b) ∧ (hd.get b).2.2 ≠ 6 then sl.number b else 0 := by
  unfold sl.worth hd.get
  by_cases h1 : sl.number b = 0
  · have hg : sl.get b = (0, [], 5) := by unfold sl.get; rw [if_pos (.inl h1)]
    rw [hg, h1, ite_self]
  · by_cases h2 : b.drop 120 = sl.last (sl.number b)
    · by_cases h3 : leVal ((b.drop 116).take 4) = (crc.of (b.take 116)).toNat
      · have hg : sl.get b = (sl.number b, (b.drop 8).take 108, 0) := by
          unfold sl.get
          rw [if_neg (by rw [← h2]; simpa using h1), if_neg (by simpa using h3)]
        rw [hg]
        simp only [if_true]
        rw [if_pos]
        refine ⟨h2, ?_⟩
        split
        · exact show (0 : Int) ≠ 6 by decide
        · exact show (5 : Int) ≠ 6 by decide
      · have hg : sl.get b = (0, [], 6) := by
          unfold sl.get
          rw [if_neg (by rw [← h2]; simpa using h1), if_pos h3]
        rw [hg]
        rw [if_neg]
        rintro ⟨-, h⟩
        exact h rfl
    · have hg : sl.get b = (0, [], 5) := by unfold sl.get; rw [if_pos (.inr h2)]
      rw [hg, if_neg (fun h => h2 h.1)]
end jn
set_option maxHeartbeats 4000000 in
set_option maxRecDepth 100000 in
theorem cj_sealNumber (b : dk.Blk) (hb : b.length = 128) (w : World) (ht : Tabs w) : Calls Tryz.prog 114 #[dk.val b] w fun e w' =>
    e = .returned (.int .u64 (sl.worth b)) ∧ Below w.heap.size w w' := by
  obtain ⟨hzh, -⟩ := zero_of_info info_head
  have hr1 : RowB 43 (w.alloc (.cells (dk.cells b).toArray 43)) w.heap.size b := heap_alloc_new w _
  have hb1 : Below w.heap.size w (w.alloc (.cells (dk.cells b).toArray 43)) := (Below.refl _ _).alloc (Nat.le_refl _) _
  obtain ⟨W, hW⟩ : ∃ W, w.alloc (.cells (dk.cells b).toArray 43) = W := ⟨_, rfl⟩
  rw [hW] at hr1 hb1
  have hBS := bs_mid_row hr1 (at_ := 0) (k := 128) (by omega) (by omega)
  rw [List.drop_zero, List.take_of_length_le (by omega)] at hBS
  have ga := blk_range hr1
  obtain ⟨N, hN⟩ : ∃ N, sl.number b = N := ⟨_, rfl⟩
  have hNlt := sl.number_lt b
  rw [hN] at hNlt
  have g1 := get_yes _ 128 128 b 0 8 W hBS (by rfl) (by omega)
  rw [List.drop_zero, show leVal (b.take 8) = N from hN] at g1
  have G1 := Lib.hid g1
  obtain ⟨L, hL⟩ : ∃ L, leVal (b.drop 120) = L := ⟨_, rfl⟩
  have g2 := get_yes _ 128 128 b 120 8 W hBS (by rfl) (by omega)
  rw [List.take_of_length_le (by rw [List.length_drop]; omega), hL] at g2
  have G2 := Lib.hid g2
  have hlast : L = 18446744073709551615 - N ↔ b.drop 120 = sl.last N := by
    rw [← hL, sl.last]
    constructor
    · intro e
      rw [← e]
      exact (leBytes_val _ _ (by rw [List.length_drop]; omega)).symm
    · intro e
      rw [e, leVal_bytes]
      exact Nat.mod_eq_of_lt (by omega)
  have hnot := u64_not N hNlt
  have hw := jn.worth_ends b
  have HG := Lib.hid (ch_get b hb W (ht.below hb1))
  obtain ⟨k1, hk1⟩ : ∃ e, (hd.get b).1 = e := ⟨_, rfl⟩
  obtain ⟨k, hk⟩ : ∃ e, (hd.get b).2.1 = e := ⟨_, rfl⟩
  obtain ⟨f, hf⟩ : ∃ e, (hd.get b).2.2 = e := ⟨_, rfl⟩
  rw [hk1, hk, hf] at HG
  rw [hN, hf] at hw
  obtain ⟨R, hR⟩ : ∃ R, sl.worth b = R := ⟨_, rfl⟩
  rw [hR] at hw ⊢
  have HW := Lib.hid hW
  clear g1 g2 hW hR hk1 hk hf hBS hN hL
  go_enter Tryz.func114, Tryz.ntmps114
  go_wp2_with fail
  rw [HW.out]
  refine G1.out.mono ?_
  rintro e w1 ⟨rfl, rfl⟩
  go_wp2_with fail
  refine G2.out.mono ?_
  rintro e w1 ⟨rfl, rfl⟩
  obtain ⟨M, hM⟩ : ∃ M, 18446744073709551615 - N = M := ⟨_, rfl⟩
  rw [hM] at hlast hnot
  have hnot' : bits .xor .u64 (if IntKind.u64.signed = true then -1 else IntKind.u64.max) (N : Int) = (M : Int) := by rw [if_neg (by decide)]; exact hnot
  clear G1 G2 hr1
  by_cases hl : L = M
  · have hne : ((L : Int) != (M : Int)) = false := by simp [hl]
    have hdl := hlast.1 hl
    by_cases h6 : f = 6
    · have h6' : (f == 6) = true := by simp [h6]
      rw [if_neg (fun h => h.2 h6)] at hw
      have HX := Lib.hid hw
      clear hw hlast hl hdl h6
      go_wp2_with (refine wp_ld (.tmp 1) b ga hb rfl rfl rfl ?_)
      refine HG.out.mono ?_
      rintro e w4 ⟨rfl, b4⟩
      have b14 := hb1.trans (b4.mono hb1.size)
      have n4 := HM.new w4 53 hd.zero
      obtain ⟨X4, hX4⟩ : ∃ X, w4.heap.size = X := ⟨_, rfl⟩
      rw [hX4] at n4
      clear HG
      go_wp2_with (refine wp_sth (.tmp 8) (.tmp 28) k hd.zero n4 rfl rfl rfl rfl ?_; intro w5 n5 c5; rw [← hX4] at c5; have b5 := new_chg c5; have b15 := b14.trans (b5.mono b14.size); clear n4)
      go_ret
      exact ⟨by rw [HX.out]; rfl, b15⟩
    · have h6' : (f == 6) = false := by simp [h6]
      rw [if_pos ⟨hdl, h6⟩] at hw
      have HX := Lib.hid hw
      clear hw hlast hl hdl h6
      go_wp2_with (refine wp_ld (.tmp 1) b ga hb rfl rfl rfl ?_)
      refine HG.out.mono ?_
      rintro e w4 ⟨rfl, b4⟩
      have b14 := hb1.trans (b4.mono hb1.size)
      have n4 := HM.new w4 53 hd.zero
      obtain ⟨X4, hX4⟩ : ∃ X, w4.heap.size = X := ⟨_, rfl⟩
      rw [hX4] at n4
      clear HG
      go_wp2_with (refine wp_sth (.tmp 8) (.tmp 28) k hd.zero n4 rfl rfl rfl rfl ?_; intro w5 n5 c5; rw [← hX4] at c5; have b5 := new_chg c5; have b15 := b14.trans (b5.mono b14.size); clear n4)
      go_ret
      exact ⟨by rw [HX.out]; rfl, b15⟩
  · have hne : ((L : Int) != (M : Int)) = true := by rw [bne_iff_ne]; omega
    rw [if_neg (fun h => hl (hlast.2 h.1))] at hw
    have HX := Lib.hid hw
    clear hw hlast HG
    go_wp2_with fail
    go_ret
    exact ⟨by rw [HX.out]; rfl, hb1⟩
set_option maxHeartbeats 4000000 in
set_option maxRecDepth 100000 in
theorem cj_place (a b : dk.Blk) (ha : a.length = 128) (hb : b.length = 128) (w : World) (ht : Tabs w) : Calls Tryz.prog 99 #[dk.val a, dk.val b] w fun e w' =>
    e = .returned (.int .i64 (sl.next a b)) ∧ Below w.heap.size w w' := by
  have uB := Tryz.underlying43
  have r0 := heap_alloc_new w (.cells (dk.cells a).toArray 43)
  have b0 : Below w.heap.size w (w.alloc (.cells (dk.cells a).toArray 43)) := (Below.refl _ _).alloc (Nat.le_refl _) _
  have r1 := heap_alloc_new (w.alloc (.cells (dk.cells a).toArray 43)) (.cells (dk.cells b).toArray 43)
  have b1 := b0.alloc b0.size (.cells (dk.cells b).toArray 43)
  have r01 := (Below.heap_alloc (w.alloc (.cells (dk.cells a).toArray 43)) (.cells (dk.cells b).toArray 43) w.heap.size (by simp)).trans r0
  rw [show (w.alloc (.cells (dk.cells a).toArray 43)).heap.size = w.heap.size + 1 from by simp] at r1
  obtain ⟨W1, hW1⟩ : ∃ W1, (w.alloc (.cells (dk.cells a).toArray 43)).alloc (.cells (dk.cells b).toArray 43) = W1 := ⟨_, rfl⟩
  rw [hW1] at r1 r01 b1
  have hl1 : w.heap.size + 1 < W1.heap.size := (Array.getElem?_eq_some_iff.1 r1).1
  have HA := Lib.hid (fun W hT => cj_sealNumber a ha W hT)
  have HB := Lib.hid (fun W hT => cj_sealNumber b hb W hT)
  have hn : sl.next a b = if 0 < sl.worth a ∧ sl.worth b ≤ sl.worth a then 1 else 0 := rfl
  obtain ⟨x, hx⟩ : ∃ x, sl.worth a = x := ⟨_, rfl⟩
  obtain ⟨y, hy⟩ : ∃ y, sl.worth b = y := ⟨_, rfl⟩
  rw [hx, hy] at hn
  rw [hx] at HA
  rw [hy] at HB
  obtain ⟨R, hR⟩ : ∃ R, sl.next a b = R := ⟨_, rfl⟩
  rw [hR] at hn ⊢
  have HN := Lib.hid hn
  have HW1 := Lib.hid hW1
  have iA := info_blk' ha
  have iB := info_blk' hb
  clear hR hx hy r0 b0 hn hW1
  go_enter Tryz.func99, Tryz.ntmps99
  go_wp2_with fail
  rw [HW1.out]
  have r01' : W1.drew.heap[w.heap.size]? = some (.cells (dk.cells a).toArray 43) := r01
  have r1' : W1.drew.heap[w.heap.size + 1]? = some (.cells (dk.cells b).toArray 43) := r1
  have b1' : Below w.heap.size w W1.drew := b1.drew
  have hs1 : w.heap.size + 1 < W1.drew.heap.size := hl1
  clear r01 r1
  refine wp_region_held_drew (S := fun W => W.heap[w.heap.size]? = some (.cells (dk.cells a).toArray 43) ∧ W.heap[w.heap.size + 1]? = some (.cells (dk.cells b).toArray 43)) (by kernel_rfl) ⟨r01', r1'⟩ (fun hHeld => ?_)
  refine wpAnyH_take (i := 0) (v := dk.val a) rfl (by kernel_rfl) (by kernel_rfl) (by kernel_rfl) (fun _ _ _ h => h) (yieldsIf_load_mid (by rfl) 43 (.tmp 2) rfl (w.heap.size) (0) rfl (dk.cells a) _ (fun w h => blk_range h.1) uB rfl iA) hHeld ?_
  simp only [List.getElem_toArray, List.getElem_cons_zero, Act.put, List.setIfInBounds_toArray, List.set_cons_zero, List.set_cons_succ]
  refine wpAnyH_take (i := 2) (v := dk.val b) rfl (by kernel_rfl) (by kernel_rfl) (by kernel_rfl) (fun _ _ _ h => h) (yieldsIf_load_mid (by rfl) 43 (.tmp 3) rfl (w.heap.size + 1) (0) rfl (dk.cells b) _ (fun w h => blk_range h.2) uB rfl iB) hHeld ?_
  simp only [List.getElem_toArray, List.getElem_cons_zero, List.getElem_cons_succ, Act.put, List.setIfInBounds_toArray, List.set_cons_zero, List.set_cons_succ]
  refine wpAnyH_ready (rs := [1]) (by kernel_rfl) (by simp) ?_
  refine AllReadyH.cons rfl (fun K hK => ?_) AllReadyH.nil
  rw [if_pos (by rfl)]
  go_simp
  refine (HA.out _ (ht.below b1')).mono ?_
  rintro e w2 ⟨rfl, b2⟩
  have b12 := b1'.trans (b2.mono b1'.size)
  refine hK.out _ _ ⟨(b2.block _ (by omega)).trans hHeld.1, (b2.block _ hs1).trans hHeld.2⟩ (fun hHeld => ?_)
  clear hK K
  refine wpAnyH_ready (rs := [3]) (by kernel_rfl) (by simp) ?_
  refine AllReadyH.cons rfl (fun K hK => ?_) AllReadyH.nil
  rw [if_pos (by rfl)]
  go_simp
  refine (HB.out _ (ht.below b12)).mono ?_
  rintro e w3 ⟨rfl, b3⟩
  have b13 := b12.trans (b3.mono b12.size)
  refine hK.out _ _ ⟨(b3.block _ (by have := b2.size; omega)).trans hHeld.1, (b3.block _ (Nat.lt_of_lt_of_le hs1 b2.size)).trans hHeld.2⟩ (fun hHeld => ?_)
  clear hK K
  refine wpAnyH_take (i := 4) (v := ?_) rfl (by kernel_rfl) (by kernel_rfl) (by kernel_rfl) (fun _ _ _ h => h) (Or.inl ⟨by rfl, ?_⟩) hHeld ?_
  rotate_left
  · intro w hSw; clear hSw; go_simp; try rfl
  simp only [List.getElem_toArray, List.getElem_cons_zero, List.getElem_cons_succ, Act.put, List.setIfInBounds_toArray, List.set_cons_zero, List.set_cons_succ]
  refine wpAnyH_take (i := 5) (v := ?_) rfl (by kernel_rfl) (by kernel_rfl) (by kernel_rfl) (fun _ _ _ h => h) (Or.inl ⟨by rfl, ?_⟩) hHeld ?_
  rotate_left
  · intro w hSw; clear hSw; go_simp; try rfl
  simp only [List.getElem_toArray, List.getElem_cons_zero, List.getElem_cons_succ, Act.put, List.setIfInBounds_toArray, List.set_cons_zero, List.set_cons_succ]
  refine wpAnyH_done (by kernel_rfl) ?_ _
  clear hHeld
  by_cases h0 : x = 0
  · have h0' : ((x : Int) == 0) = true := by simp [h0]
    have hr := HN.out
    rw [if_neg (by omega)] at hr
    have HX := Lib.hid hr
    clear hr HN h0
    go_wp2_with fail
    go_ret
    exact ⟨by rw [HX.out]; rfl, b13⟩
  · have h0' : ((x : Int) == 0) = false := by simp [h0]
    by_cases h1 : x < y
    · have hr := HN.out
      rw [if_neg (by omega)] at hr
      have HX := Lib.hid hr
      clear hr HN
      go_wp2_with fail
      go_ret
      exact ⟨by rw [HX.out]; rfl, b13⟩
    · have hr := HN.out
      rw [if_pos (by omega)] at hr
      have HX := Lib.hid hr
      clear hr HN
      go_wp2_with fail
      go_ret
      exact ⟨by rw [HX.out]; rfl, b13⟩
set_option maxHeartbeats 4000000 in
set_option maxRecDepth 100000 in
theorem cj_next (a b : dk.Blk) (ha : a.length = 128) (hb : b.length = 128) (w : World) (ht : Tabs w) : Calls Tryz.prog 78 #[dk.val a, dk.val b] w fun e w' =>
    e = .returned (.tuple #[.int .u64 (jn.nx a b).1, .int .i64 (jn.nx a b).2]) ∧ Below w.heap.size w w' := by
  obtain ⟨hzh, -⟩ := zero_of_info info_head
  have r0 := heap_alloc_new w (.cells (dk.cells a).toArray 43)
  have b0 : Below w.heap.size w (w.alloc (.cells (dk.cells a).toArray 43)) := (Below.refl _ _).alloc (Nat.le_refl _) _
  have r1 := heap_alloc_new (w.alloc (.cells (dk.cells a).toArray 43)) (.cells (dk.cells b).toArray 43)
  have b1 := b0.alloc b0.size (.cells (dk.cells b).toArray 43)
  have r01 := (Below.heap_alloc (w.alloc (.cells (dk.cells a).toArray 43)) (.cells (dk.cells b).toArray 43) w.heap.size (by simp)).trans r0
  rw [show (w.alloc (.cells (dk.cells a).toArray 43)).heap.size = w.heap.size + 1 from by simp] at r1
  obtain ⟨W1, hW1⟩ : ∃ W1, (w.alloc (.cells (dk.cells a).toArray 43)).alloc (.cells (dk.cells b).toArray 43) = W1 := ⟨_, rfl⟩
  rw [hW1] at r1 r01 b1
  have hl1 : w.heap.size + 1 < W1.heap.size := (Array.getElem?_eq_some_iff.1 r1).1
  have ga := blk_range r01
  have gb := blk_range r1
  have HN := Lib.hid (ch_newest a b ha hb W1 (ht.below b1))
  have HP := Lib.hid (fun W hT => cj_place a b ha hb W hT)
  have hNl := jn.newest_lt a b
  obtain ⟨N, hN⟩ : ∃ e, (hd.newest a b).1 = e := ⟨_, rfl⟩
  obtain ⟨k, hk⟩ : ∃ e, (hd.newest a b).2.1 = e := ⟨_, rfl⟩
  obtain ⟨f, hf⟩ : ∃ e, (hd.newest a b).2.2 = e := ⟨_, rfl⟩
  have HNX := Lib.hid (show jn.nx a b = (N + 1, sl.next a b) by rw [jn.next_ok, hN])
  rw [hN, hk, hf] at HN
  rw [hN] at hNl
  obtain ⟨R, hR⟩ : ∃ R, jn.nx a b = R := ⟨_, rfl⟩
  rw [hR] at HNX ⊢
  obtain ⟨M, hM⟩ : ∃ e, sl.next a b = e := ⟨_, rfl⟩
  rw [hM] at HNX HP
  clear hN hk hf hR hM r0 b0
  go_enter Tryz.func78, Tryz.ntmps78
  go_wp2_with (first
    | refine wp_ld (.tmp 2) a ga ha rfl rfl rfl ?_
    | refine wp_ld (.tmp 3) b gb hb rfl rfl rfl ?_)
  refine HN.out.mono ?_
  rintro e w2 ⟨rfl, b2⟩
  have b12 := b1.trans (b2.mono b1.size)
  have r2 := (b2.block _ (show w.heap.size < W1.heap.size by omega)).trans r01
  have r3 := (b2.block _ hl1).trans r1
  have n2 := HM.new w2 53 hd.zero
  obtain ⟨X2, hX2⟩ : ∃ X, w2.heap.size = X := ⟨_, rfl⟩
  rw [hX2] at n2
  have hs2 := b2.size
  have ht2 := ht.below b12
  clear HN ga gb r01 r1 hW1
  go_wp2_with (first
    | (refine wp_sth (.tmp 7) (.tmp 14) k hd.zero n2 rfl rfl rfl rfl ?_; intro w3 n3 c3; rw [← hX2] at c3; have b3 := new_chg c3; have b13 := b12.trans (b3.mono b12.size); have ga3 := blk_range ((b3.block _ (show w.heap.size < w2.heap.size by omega)).trans r2); have gb3 := blk_range ((b3.block _ (show w.heap.size + 1 < w2.heap.size by omega)).trans r3); have ht3 := ht2.below b3; clear n2)
    | refine wp_ld (.tmp 2) a ga3 ha rfl rfl rfl ?_
    | refine wp_ld (.tmp 3) b gb3 hb rfl rfl rfl ?_)
  refine (HP.out _ ht3).mono ?_
  rintro e w4 ⟨rfl, b4⟩
  have b14 := b13.trans (b4.mono b13.size)
  clear HP ga3 gb3 c3 n3 b3 b13 ht3 hX2
  go_wp2_with fail
  go_ret2
  exact ⟨by rw [HNX.out]; rfl, b14⟩
end Go.Proofs.YtknndmhkfonfmaaGreatDoor

/-
  THE PROGRAM's journal: steps are taken, and a head is laid behind them.
-/
namespace Go.Proofs.YtknndmhkfonfmaaGreatDoor
open Go.RowKit Go.Shelf
variable {w w' : World} {F : List Nat} {d : Value} {s : dk.St}
/-- a journal in memory: the disk, and the head that it goes by -/
def JM (w : World) (p : Nat) (d : Value) (k : hd.H) : Prop := w.heap[p]? = some (.cells #[d, bv k.bank, .int .u32 k.blocks, .int .u32 k.batches] 86 (0, 0))
namespace JM
variable {p : Nat} {k : hd.H}
theorem lt (m : JM w p d k) : p < w.heap.size := (Array.getElem?_eq_some_iff.1 m).1
theorem c0 (m : JM w p d k) : w.cell? ⟨p, 0, none⟩ = some d := by rw [cell_of_row _ _ 0 _ _ _ m]; rfl
theorem c1 (m : JM w p d k) : w.cell? ⟨p, 1, none⟩ = some (bv k.bank) := by rw [cell_of_row _ _ 1 _ _ _ m]; rfl
theorem c2 (m : JM w p d k) : w.cell? ⟨p, 2, none⟩ = some (.int .u32 k.blocks) := by rw [cell_of_row _ _ 2 _ _ _ m]; rfl
theorem c3 (m : JM w p d k) : w.cell? ⟨p, 3, none⟩ = some (.int .u32 k.batches) := by rw [cell_of_row _ _ 3 _ _ _ m]; rfl
theorem below {B : Nat} (m : JM w p d k) (hb : Below B w w') (hp : p < B) : JM w' p d k := (hb.block p hp).trans m
theorem chg {G : List Nat} (m : JM w p d k) (hc : Chg w w' G) (hp : p ∉ G) : JM w' p d k := (hc.block p m.lt hp).trans m
theorem range (m : JM w p d k) : w.rangeAt p 1 (hd.cells k) := range_of m 1 _ fun j v hj => by
  rw [Nat.add_comm]
  exact hj
end JM
section
variable {ops : Array Oper} {rest : List Oper} {o : Oper} {a : Act} {w : World} {Q : Exit → Act → World → Prop}
/-- the head of a journal is loaded -/
theorem wp_ldj (x : Operand) (k : hd.H) {p : Nat} (m : JM w p d k) (hgd : o.guard = none) (ho : o.op = .load 53 x) (hx : a.eval x = .pointer (some ⟨p, 1, none⟩))
    (hk : wpList Tryz.prog ops Q rest (a.put o.dst (hd.val k)) w) : wpList Tryz.prog ops Q (o :: rest) a w :=
  wpList_load_mid hgd _ x ho p 1 hx _ _ m.range Tryz.underlying53 rfl head_size hk
/-- the head of a journal is stored -/
theorem wp_stj (x y : Operand) (k old : hd.H) {p : Nat} (m : JM w p d old) (hgd : o.guard = none) (ho : o.op = .store 53 x y) (hx : a.eval x = .pointer (some ⟨p, 1, none⟩)) (hy : a.eval y = hd.val k)
    (hk : ∀ W, JM W p d k → Chg w W [p] → wpList Tryz.prog ops Q rest (a.put o.dst undef) W) : wpList Tryz.prog ops Q (o :: rest) a w := by
  have h2 := block_sets (hd.cells k) 1 [d, bv old.bank, .int .u32 old.blocks, .int .u32 old.batches] w m (by simp)
  refine wpList_store_mid hgd _ x y ho p 1 (hd.cells k).toArray hx hy ?_ (by simpa using head_size) (all_oneCell_toArray (by intro v hv; simp at hv; rcases hv with rfl | rfl | rfl <;> rfl)) ?_
  · have := there_of (cs := [d, bv old.bank, .int .u32 old.blocks, .int .u32 old.batches]) m 1 3 (by simp)
    simpa using this
  · exact hk _ h2 (Chg.setCells p _ _ _)
end
section
variable {o : Oper} {a : Act} {w : World} {K : Act → World → Prop} {Q : Exit → Act → World → Prop}
theorem wpo_bs1 (x : Operand) (b : dk.Blk) (hb : b.length = 128) (ho : o.op = .buildSlice 58 1 #[(0, x)]) (hx : a.eval x = dk.val b)
    (h : K (a.put o.dst (.slice (some ⟨w.heap.size, 0, none⟩) 1 1)) (w.alloc (.cells (dk.cells b).toArray 43))) : o.wp Tryz.prog a w K Q := by
  obtain ⟨i0, hi0, hz0, hs0, _⟩ := info_parts5 info_blk3'
  refine wp_buildSlice 58 43 1 _ ho (dk.cells b).toArray i0 _ Tryz.underlying58 hi0 hz0 (by rw [hs0]; omega) (by rw [hs0]; omega) ?_ h
  rw [hs0]
  simp only [List.map_toArray, List.map_cons, List.map_nil, hx]
  exact fill_blk b hb _ (by rw [Array.size_map, Array.size_range])
theorem wpo_apf (x y : Operand) {v : Value} {n m c : Nat} {xs ys : List Value} {B base : Nat} (hown : w.ownsRow base 82 1 v n xs) (hbase : base ≤ w.heap.size) (hB : ∀ j u, ys[j]? = some u → w.cell? ⟨B, j, none⟩ = some u) (hy1 : ∀ u ∈ ys, u.oneCell' = true) (hyl : ys.length = m) (hm : 0 < m) (hn : n + m ≤ 1048576)
    (ho : o.op = .call { callee := .builtin .append, args := #[x, y], argTypes := #[95, 95] }) (hx : a.eval x = v) (hy : a.eval y = .slice (some ⟨B, 0, none⟩) m c)
    (h : ∀ g cap W', W'.ownsRow base 82 1 (.slice (some ⟨g, 0, none⟩) (n + m) cap) (n + m) (xs ++ ys) → w.grownBy W' v.ownBlock → (v.ownBlock = some g ∨ g = w.heap.size) → g < W'.heap.size → K (a.put o.dst (.slice (some ⟨g, 0, none⟩) (n + m) cap)) W') : o.wp Tryz.prog a w K Q := by
  obtain ⟨i0, hi0, hz0, hs0, hb0⟩ := info_parts24 info_fn
  refine wp_append_lies w x y 95 ho base 82 i0 _ 1 8 Tryz.underlying95 hi0 hz0 hs0 hb0 rfl (by omega) v n xs hx hown ⟨B, 0, none⟩ m c ys hy (by omega) ?_ hy1 hm (by rw [maxLen_eq]; omega) (by omega) hbase _ rfl h
  intro j u hj
  have hadd : (⟨B, 0, none⟩ : Addr).add j = ⟨B, j, none⟩ := by unfold Addr.add; split <;> simp_all
  rw [hadd]
  exact hB j u hj
end
/-- what lay comes to: the steps, the head, a flush -/
def jn.layOps (a b : jn.Blk) (L : List jn.Op) (h : hd.H) : List jn.Op := L ++ [.wr (jn.nx a b).2.toNat (hd.put (jn.nx a b).1 h).1, .fl]
set_option maxHeartbeats 8000000 in
set_option maxRecDepth 100000 in
theorem cj_lay {p q g m c gn cn : Nat} {k : hd.H} {fs : List FV} {L : List jn.Op} (hd0 : d = .pointer (some ⟨q, 0, none⟩)) (hm : JM w p d k) (hpF : p ∉ F)
    (hown : w.ownsRow 0 82 1 (.slice (some ⟨g, 0, none⟩) m c) m (fs.map FV.val)) (hgF : g ∉ F) (hgp : g ≠ p) (hst : StepsOf w F d fs L) (hfm : fs.length = m) (hmm : m ≤ 524288)
    {a b : dk.Blk} (hnow : BlS w (some ⟨gn, 0, none⟩) 2 cn [a, b]) (hD : CD w F d s) (ht : Tabs w) {h : hd.H} (hok : h.Ok) (hput : (hd.put (jn.nx a b).1 h).2 = 0) (hf : s.many + m + 2 < 1048576 ∧ s.L.length + m + 2 < 1048576) :
    Calls Tryz.prog 57 #[.pointer (some ⟨p, 0, none⟩), .slice (some ⟨g, 0, none⟩) m c, .slice (some ⟨gn, 0, none⟩) 2 cn, hd.val h] w fun e w' =>
      ∃ F', e = .returned (.int .i64 (jn.runOps s (jn.layOps a b L h)).1) ∧ CD w' F' d (jn.runOps s (jn.layOps a b L h)).2 ∧ JM w' p d (if (jn.runOps s (jn.layOps a b L h)).1 = 0 then h else k) ∧ Chg w w' (g :: p :: F) ∧ Sub w F' F := by
  subst hd0
  obtain ⟨hz, -⟩ := zero_of_info zero_blk
  have ha := hnow.lens a (by simp)
  have hb := hnow.lens b (by simp)
  obtain ⟨gn', egn, hgnl, hrng⟩ := hnow.has (by omega)
  injection egn with egn
  injection egn with egn _
  subst egn
  have ra := hrng 0 (by simp)
  have rb := hrng 1 (by simp)
  simp only [List.getElem_cons_zero, List.getElem_cons_succ, Nat.zero_mul, Nat.one_mul] at ra rb
  have hcn := hnow.cap
  have hcn2 := hnow.max
  have uB := Tryz.underlying43
  have iA := info_blk' ha
  have iB := info_blk' hb
  have m1 := HM.new w 53 h
  have b1 : Below w.heap.size w (w.alloc (.cells #[bv h.bank, .int .u32 h.blocks, .int .u32 h.batches] 53)) := (Below.refl _ _).alloc (Nat.le_refl _) _
  have b1d := b1.drew
  obtain ⟨W1, hW1⟩ : ∃ W1, (w.alloc (.cells #[bv h.bank, .int .u32 h.blocks, .int .u32 h.batches] 53)) = W1 := ⟨_, rfl⟩
  rw [hW1] at m1 b1 b1d
  obtain ⟨H, hH⟩ : ∃ H, w.heap.size = H := ⟨_, rfl⟩
  rw [hH] at m1
  have HNX := Lib.hid (fun W (hb' : Below w.heap.size w W) => cj_next a b ha hb W (ht.below hb'))
  have HPUT := Lib.hid (fun W (hb' : Below w.heap.size w W) => ch_put (jn.nx a b).1 (jn.nx_lt a b) h hok W (ht.below hb'))
  rw [hput] at HPUT
  have hXl := hd.put_len (jn.nx a b).1 h
  have hpos := jn.nx_pos a b
  have hops : jn.layOps a b L h = L ++ [.wr (jn.nx a b).2.toNat (hd.put (jn.nx a b).1 h).1, .fl] := rfl
  obtain ⟨N, hN⟩ : ∃ N, (jn.nx a b).1 = N := ⟨_, rfl⟩
  obtain ⟨at_, hat⟩ : ∃ t, (jn.nx a b).2.toNat = t := ⟨_, rfl⟩
  rw [hat] at hpos hops
  obtain ⟨hp1, hp2⟩ := hpos
  rw [hN, hp1] at HNX
  rw [hN] at HPUT hXl hops
  generalize (hd.put N h).1 = X at *
  rw [hops]
  obtain ⟨r, hr⟩ : ∃ r, (jn.runOps s (L ++ [.wr at_ X, .fl])).1 = r := ⟨_, rfl⟩
  obtain ⟨t, ht2⟩ : ∃ t, (jn.runOps s (L ++ [.wr at_ X, .fl])).2 = t := ⟨_, rfl⟩
  rw [hr, ht2]
  obtain ⟨R, hR⟩ : ∃ R, (if r = 0 then h else k) = R := ⟨_, rfl⟩
  rw [hR]
  have HR := Lib.hid hR
  have HRT := Lib.hid (And.intro hr ht2)
  have hHw : w.heap.size ≤ H := by omega
  clear hops hr ht2 hR
  clear hN hat hp1 hput hrng hnow
  have S1 := b1.drew
  go_enter Tryz.func57, Tryz.ntmps57
  go_wp2_with fail
  refine wp_region_held_drew (S := fun W => W.rangeAt gn 0 (dk.cells a) ∧ W.rangeAt gn 128 (dk.cells b)) (by kernel_rfl) ⟨dk.range_below ra b1d, dk.range_below rb b1d⟩ (fun hHeld => ?_)
  refine wpAnyH_take (i := 0) (v := ?_) rfl (by kernel_rfl) (by kernel_rfl) (by kernel_rfl) (fun _ _ _ h => h) (Or.inl ⟨by rfl, ?_⟩) hHeld ?_
  rotate_left
  · intro w hSw; clear hSw; go_simp; try rfl
  simp only [List.getElem_toArray, List.getElem_cons_zero, Act.put, List.setIfInBounds_toArray, List.set_cons_zero, List.set_cons_succ]
  refine wpAnyH_take (i := 1) (v := ?_) rfl (by kernel_rfl) (by kernel_rfl) (by kernel_rfl) (fun _ _ _ h => h) (Or.inl ⟨by rfl, ?_⟩) hHeld ?_
  rotate_left
  · intro w hSw; clear hSw; go_simp; try rfl
  simp only [List.getElem_toArray, List.getElem_cons_zero, List.getElem_cons_succ, Act.put, List.setIfInBounds_toArray, List.set_cons_zero, List.set_cons_succ]
  refine wpAnyH_take (i := 2) (v := dk.val a) rfl (by kernel_rfl) (by kernel_rfl) (by kernel_rfl) (fun _ _ _ h => h) (yieldsIf_load_mid (by rfl) 43 (.tmp 16) rfl gn (0) rfl (dk.cells a) _ (fun w h => h.1) uB rfl iA) hHeld ?_
  simp only [List.getElem_toArray, List.getElem_cons_zero, List.getElem_cons_succ, Act.put, List.setIfInBounds_toArray, List.set_cons_zero, List.set_cons_succ]
  refine wpAnyH_take (i := 3) (v := ?_) rfl (by kernel_rfl) (by kernel_rfl) (by kernel_rfl) (fun _ _ _ h => h) (Or.inl ⟨by rfl, ?_⟩) hHeld ?_
  rotate_left
  · intro w hSw; clear hSw; go_simp; try rfl
  simp only [List.getElem_toArray, List.getElem_cons_zero, List.getElem_cons_succ, Act.put, List.setIfInBounds_toArray, List.set_cons_zero, List.set_cons_succ]
  refine wpAnyH_take (i := 4) (v := ?_) rfl (by kernel_rfl) (by kernel_rfl) (by kernel_rfl) (fun _ _ _ h => h) (Or.inl ⟨by rfl, ?_⟩) hHeld ?_
  rotate_left
  · intro w hSw; clear hSw; go_simp; try rfl
  simp only [List.getElem_toArray, List.getElem_cons_zero, List.getElem_cons_succ, Act.put, List.setIfInBounds_toArray, List.set_cons_zero, List.set_cons_succ]
  refine wpAnyH_take (i := 5) (v := dk.val b) rfl (by kernel_rfl) (by kernel_rfl) (by kernel_rfl) (fun _ _ _ h => h) (yieldsIf_load_mid (by rfl) 43 (.tmp 19) rfl gn (128) rfl (dk.cells b) _ (fun w h => h.2) uB rfl iB) hHeld ?_
  simp only [List.getElem_toArray, List.getElem_cons_zero, List.getElem_cons_succ, Act.put, List.setIfInBounds_toArray, List.set_cons_zero, List.set_cons_succ]
  refine wpAnyH_ready (rs := [6]) (by kernel_rfl) (by simp) ?_
  refine AllReadyH.cons rfl (fun K hK => ?_) AllReadyH.nil
  rw [if_pos (by rfl)]
  go_simp
  refine (HNX.out _ b1d).mono ?_
  rintro e w2 ⟨rfl, b2⟩
  have m2 := (HM.drew m1).below b2 (HM.drew m1).lt
  have b12 := b1d.trans (b2.mono b1d.size)
  refine hK.out _ _ ⟨dk.range_below hHeld.1 b2, dk.range_below hHeld.2 b2⟩ (fun hHeld => ?_)
  clear hK K
  refine wpAnyH_take (i := 7) (v := ?_) rfl (by kernel_rfl) (by kernel_rfl) (by kernel_rfl) (fun _ _ _ h => h) (Or.inl ⟨by rfl, ?_⟩) hHeld ?_
  rotate_left
  · intro w hSw; clear hSw; go_simp; try rfl
  simp only [List.getElem_toArray, List.getElem_cons_zero, List.getElem_cons_succ, Act.put, List.setIfInBounds_toArray, List.set_cons_zero, List.set_cons_succ]
  refine wpAnyH_take (i := 8) (v := ?_) rfl (by kernel_rfl) (by kernel_rfl) (by kernel_rfl) (fun _ _ _ h => h) (Or.inl ⟨by rfl, ?_⟩) hHeld ?_
  rotate_left
  · intro w hSw; clear hSw; go_simp; try rfl
  simp only [List.getElem_toArray, List.getElem_cons_zero, List.getElem_cons_succ, Act.put, List.setIfInBounds_toArray, List.set_cons_zero, List.set_cons_succ]
  refine wpAnyH_take (i := 9) (v := ?_) rfl (by kernel_rfl) (by kernel_rfl) (by kernel_rfl) (fun _ _ _ h => h) (Or.inl ⟨by rfl, ?_⟩) hHeld ?_
  rotate_left
  · intro w hSw; clear hSw; go_simp; try rfl
  simp only [List.getElem_toArray, List.getElem_cons_zero, List.getElem_cons_succ, Act.put, List.setIfInBounds_toArray, List.set_cons_zero, List.set_cons_succ]
  refine wpAnyH_take (i := 10) (v := ?_) rfl (by kernel_rfl) (by kernel_rfl) (by kernel_rfl) (fun _ _ _ h => h) (Or.inl ⟨by rfl, ?_⟩) hHeld ?_
  rotate_left
  · intro w hSw; clear hSw; go_simp; try rfl
  simp only [List.getElem_toArray, List.getElem_cons_zero, List.getElem_cons_succ, Act.put, List.setIfInBounds_toArray, List.set_cons_zero, List.set_cons_succ]
  refine wpAnyH_take (i := 11) (v := ?_) rfl (by kernel_rfl) (by kernel_rfl) (by kernel_rfl) (fun _ _ _ h => h) (Or.inl ⟨by rfl, ?_⟩) hHeld ?_
  rotate_left
  · intro w hSw; clear hSw; go_simp; try rfl
  simp only [List.getElem_toArray, List.getElem_cons_zero, List.getElem_cons_succ, Act.put, List.setIfInBounds_toArray, List.set_cons_zero, List.set_cons_succ]
  refine wpAnyH_done (by kernel_rfl) ?_ _
  clear HNX b1 b1d S1 m1 hW1 b2 hHeld
  go_wp2_with (refine wp_ldh (.tmp 7) h m2 rfl rfl rfl ?_)
  refine (HPUT.out w2 b12).mono ?_
  rintro e w3 ⟨rfl, b3⟩
  have b13 := b12.trans (b3.mono b12.size)
  have m3 := m2.below b3 m2.lt
  have n3 := heap_alloc_new w3 (.cells (dk.cells dk.zero).toArray 43)
  obtain ⟨X3, hX3⟩ : ∃ X, w3.heap.size = X := ⟨_, rfl⟩
  rw [hX3] at n3
  clear HPUT b12 m2
  go_wp2_with (refine wp_st0 (.tmp 11) (.tmp 28) X n3 zero_len hXl rfl rfl rfl rfl ?_; intro w4 n4 c4; rw [← hX3] at c4; have b4 := new_chg c4; have b14 := b13.trans (b4.mono b13.size); have m4 := m3.below b4 m3.lt; clear n3 m3)
  have hX3l : w.heap.size ≤ X3 := by have := b13.size; omega
  have b14d := b14.drew
  have hm4 : JM w4.drew p (.pointer (some ⟨q, 0, none⟩)) k := hm.below b14d hm.lt
  have n4d : w4.drew.heap[X3]? = some (.cells (dk.cells X).toArray 43 (0, 0)) := n4
  have m4d := HM.drew m4
  have iX := info_blk' hXl
  have own4 := own_keepB (w' := w4.drew) hown (fun k' hk' => b14d.block k' (own_lt hown k' hk'))
  have st4 := hst.below b14d
  have hF4 : Ther w4.drew F := hD.there.mono b14d.size
  clear n4 m4 c4 b4 b14 b13 b3 hX3 hH
  refine wp_region_held_drew (S := fun W => JM W p (.pointer (some ⟨q, 0, none⟩)) k ∧ W.heap[X3]? = some (.cells (dk.cells X).toArray 43 (0, 0))) (by kernel_rfl) ⟨hm4, n4d⟩ (fun hHeld => ?_)
  generalize w4.drew = wd at *
  refine wpAnyH_take (i := 0) (v := ?_) rfl (by kernel_rfl) (by kernel_rfl) (by kernel_rfl) (fun _ _ _ h => h) (Or.inl ⟨by rfl, ?_⟩) hHeld ?_
  rotate_left
  · intro w hSw; clear hSw; go_simp; try rfl
  simp only [List.getElem_toArray, List.getElem_cons_zero, Act.put, List.setIfInBounds_toArray, List.set_cons_zero, List.set_cons_succ]
  refine wpAnyH_take (i := 1) (v := ?_) rfl (by kernel_rfl) (by kernel_rfl) (by kernel_rfl) (fun _ _ _ h => h) (Or.inl ⟨by rfl, ?_⟩) hHeld ?_
  rotate_left
  · intro w hSw; clear hSw; go_simp; try rfl
  simp only [List.getElem_toArray, List.getElem_cons_zero, List.getElem_cons_succ, Act.put, List.setIfInBounds_toArray, List.set_cons_zero, List.set_cons_succ]
  refine wpAnyH_take (i := 2) (v := ?_) rfl (by kernel_rfl) (by kernel_rfl) (by kernel_rfl) (fun _ _ _ h => h) (Or.inl ⟨by rfl, ?_⟩) hHeld ?_
  rotate_left
  · intro w hSw; clear hSw; go_simp; try rfl
  simp only [List.getElem_toArray, List.getElem_cons_zero, List.getElem_cons_succ, Act.put, List.setIfInBounds_toArray, List.set_cons_zero, List.set_cons_succ]
  refine wpAnyH_take (i := 3) (v := ?_) rfl (by kernel_rfl) (by kernel_rfl) (by kernel_rfl) (fun _ _ _ h => h) (Or.inl ⟨by rfl, ?_⟩) hHeld ?_
  rotate_left
  · intro w hSw; clear hSw; go_simp; try rfl
  simp only [List.getElem_toArray, List.getElem_cons_zero, List.getElem_cons_succ, Act.put, List.setIfInBounds_toArray, List.set_cons_zero, List.set_cons_succ]
  refine wpAnyH_take (i := 4) (v := ?_) rfl (by kernel_rfl) (by kernel_rfl) (by kernel_rfl) (fun _ _ _ h => h) (Or.inl ⟨by rfl, ?_⟩) hHeld ?_
  rotate_left
  · intro w hSw; have c0 := hSw.1.c0; clear hSw; go_simp; try rfl
  simp only [List.getElem_toArray, List.getElem_cons_zero, List.getElem_cons_succ, Act.put, List.setIfInBounds_toArray, List.set_cons_zero, List.set_cons_succ]
  refine wpAnyH_take (i := 5) (v := ?_) rfl (by kernel_rfl) (by kernel_rfl) (by kernel_rfl) (fun _ _ _ h => h) (Or.inl ⟨by rfl, ?_⟩) hHeld ?_
  rotate_left
  · intro w hSw; clear hSw; go_simp; try rfl
  simp only [List.getElem_toArray, List.getElem_cons_zero, List.getElem_cons_succ, Act.put, List.setIfInBounds_toArray, List.set_cons_zero, List.set_cons_succ]
  refine wpAnyH_take (i := 6) (v := dk.val X) rfl (by kernel_rfl) (by kernel_rfl) (by kernel_rfl) (fun _ _ _ h => h) (yieldsIf_load_mid (by rfl) 43 (.tmp 11) rfl X3 (0) rfl (dk.cells X) _ (fun w h => (blk_range h.2)) uB rfl iX) hHeld ?_
  simp only [List.getElem_toArray, List.getElem_cons_zero, List.getElem_cons_succ, Act.put, List.setIfInBounds_toArray, List.set_cons_zero, List.set_cons_succ]
  refine wpAnyH_ready (rs := [7]) (by kernel_rfl) (by simp) ?_
  refine AllReadyH.cons rfl (fun K hK => ?_) AllReadyH.nil
  rw [if_pos (by rfl)]
  refine wpo_bs1 (.tmp 38) X hXl rfl rfl ?_
  have hlX := (Array.getElem?_eq_some_iff.1 hHeld.2).1
  refine hK.out _ _ ⟨hHeld.1.below ((Below.refl _ _).alloc (Nat.le_refl _) _) hHeld.1.lt, (Below.heap_alloc _ _ _ hlX).trans hHeld.2⟩ (fun hHeld => ?_)
  clear hK K
  simp only [List.getElem_toArray, List.getElem_cons_zero, List.getElem_cons_succ, Act.put, List.setIfInBounds_toArray, List.set_cons_zero, List.set_cons_succ]
  have rw5 := heap_alloc_new wd (.cells (dk.cells X).toArray 43)
  have b5 : Below wd.heap.size wd (wd.alloc (.cells (dk.cells X).toArray 43)) := (Below.refl _ _).alloc (Nat.le_refl _) _
  obtain ⟨w5, hw5⟩ : ∃ w5, wd.alloc (.cells (dk.cells X).toArray 43) = w5 := ⟨_, rfl⟩
  rw [hw5] at rw5 b5 hHeld ⊢
  have hbls : BlS w5 (some ⟨wd.heap.size, 0, none⟩) 1 1 [X] := RowBl.bls (l := [X]) (show w5.heap[_]? = _ by rw [rw5]; simp [dk.cellsS]) (by simp; exact hXl) rfl (by omega)
  refine wpAnyH_ready (rs := [8]) (by kernel_rfl) (by simp) ?_
  refine AllReadyH.cons rfl (fun K hK => ?_) AllReadyH.nil
  rw [if_pos (by rfl)]
  go_simp
  refine (cwritten_any q at_ rfl (by omega) hbls (by omega) (hF4.mono b5.size)).mono ?_
  rintro e w6 ⟨g2, cap2, fs2, rfl, own2, st2, b6⟩
  have b56 := b5.trans (b6.mono b5.size)
  have hm6 := hHeld.1.below b6 hHeld.1.lt
  have n6 := (b6.block X3 (Array.getElem?_eq_some_iff.1 hHeld.2).1).trans hHeld.2
  refine hK.out _ _ ⟨hm6, n6⟩ (fun hHeld => ?_)
  clear hK K
  have own6 := own_keepB (w' := w6) own4 (fun k' hk' => b56.block k' (own_lt own4 k' hk'))
  have st6 := st4.below b56
  have hl2 : fs2.length = 2 := st2.1
  refine wpAnyH_ready (rs := [9]) (by kernel_rfl) (by simp) ?_
  refine AllReadyH.cons rfl (fun K hK => ?_) AllReadyH.nil
  rw [if_pos (by rfl)]
  refine wpo_apf (.tmp 32) (.tmp 40) (m := 2) (ys := fs2.map FV.val) own6 (by omega) (fun j u hj => by
    have hj2 : j < 2 := by
      have := (List.getElem?_eq_some_iff.1 hj).1
      rwa [List.length_map, hl2] at this
    rw [own2.cellAt j (by omega)]
    exact hj) (by intro u hu; obtain ⟨y, _, rfl⟩ := List.mem_map.1 hu; rfl) (by rw [List.length_map, hl2]) (by omega) (by omega) rfl rfl rfl ?_
  intro g3 cap3 w7 own7 g7 at7 lt7
  rw [← List.map_append] at own7
  have c67 := Chg.grown g7
  have st7 := (st6.app st2).grown g7 (own_fn own6)
  have hgX : g ≠ X3 := fun e => by
    have := own_lt hown g rfl
    omega
  have hm7 := hm6.chg c67 (by simp [Value.ownBlock]; exact fun e => hgp e.symm)
  have n7 := (c67.block X3 (Array.getElem?_eq_some_iff.1 n6).1 (by simp [Value.ownBlock]; exact fun e => hgX e.symm)).trans n6
  refine hK.out _ _ ⟨hm7, n7⟩ (fun hHeld => ?_)
  clear hK K
  refine wpAnyH_take (i := 10) (v := ?_) rfl (by kernel_rfl) (by kernel_rfl) (by kernel_rfl) (fun _ _ _ h => h) (Or.inl ⟨by rfl, ?_⟩) hHeld ?_
  rotate_left
  · intro w hSw; clear hSw; go_simp; try rfl
  simp only [List.getElem_toArray, List.getElem_cons_zero, List.getElem_cons_succ, Act.put, List.setIfInBounds_toArray, List.set_cons_zero, List.set_cons_succ]
  refine wpAnyH_done (by kernel_rfl) ?_ _
  have hD6 := (hD.below b14d).below b56
  have hF6 : Ther w6 F := hF4.mono b56.size
  have hD7 : CD w7 F (.pointer (some ⟨q, 0, none⟩)) s := hD6.keep (c67.same (fun x hx => by simp only [Value.ownBlock, Option.toList_some, List.mem_singleton] at hx; rw [hx]; exact hgF) hF6)
  have hg3F : g3 ∉ F := by
    rcases at7 with e | e
    · simp only [Value.ownBlock, Option.some.injEq] at e
      rw [← e]; exact hgF
    · rw [e]; exact fun hm => Nat.lt_irrefl _ (hF6 _ hm)
  obtain ⟨hcap1, hcap2⟩ : m + 2 ≤ cap3 ∧ cap3 ≤ 9223372036854775807 := by
    rcases own7.2 with ⟨e, _⟩ | ⟨_, _, _, e, _, _, h1, h2, _⟩
    · cases e
    · injection e with _ _ e
      subst e
      exact ⟨h1, by rw [maxLen_eq] at h2; exact h2⟩
  have hlen7 : (fs ++ fs2).length = m + 2 := by rw [List.length_append, hfm, hl2]
  have hrow7 : ∀ i (hi : i < (fs ++ fs2).length), w7.cell? ⟨g3, i, none⟩ = some (fs ++ fs2)[i].val := fun i hi => by
    rw [own7.cellAt i (by omega), List.getElem?_map, List.getElem?_eq_getElem hi]
    rfl
  have hrun := crun_any (L := L ++ [.wr at_ X, .fl]) hlen7 (by rw [← hlen7]; exact st7.1.symm) hcap1 hcap2 hrow7 lt7 hg3F st7.2 hD7 (by omega)
  rw [HRT.out.1, HRT.out.2] at hrun
  have HRUN := Lib.hid hrun
  have c47 : Chg wd w7 [g] := (Chg.of_below b56 [g]).trans c67 (fun x hx => .inl hx)
  have hwl := b14d.size
  have hHl : H < wd.heap.size := m4d.lt
  have hgw : g < w.heap.size := own_lt hown g rfl
  have hgH : H ≠ g := by omega
  have m7 := m4d.chg c47 (by simpa using hgH)
  have hc07 : Chg w w7 (g :: p :: F) := ((Chg.of_below b14d [g]).trans c47 (Sub.refl _ _)).mono (fun x hx => .inl (by simp at hx; simp [hx]))
  have hw7 : w.heap.size ≤ w7.heap.size := hc07.size
  have hHF : H ∉ F := fun hm => by have := hD.there H hm; omega
  have hpw := hm.lt
  have hHp : H ≠ p := by omega
  have hsF : ∀ F', Sub w7 F' F → Sub w F' F := fun F' hs x hx => (hs x hx).imp id (fun e => Nat.le_trans hw7 e)
  clear hrun hD6 hD7 own7 own6 own4 own2 st7 st6 st4 st2 g7 hrow7 hHeld n7 n6 n4d hm4 hm6 b5 b6 b56 c47 c67 rw5 hw5 hbls m4d lt7 hg3F hlen7 at7
  by_cases h0 : r = 0
  · have hR := HR.out
    rw [if_pos h0] at hR
    have hr0 : (r != 0) = false := by simp [h0]
    subst hR
    have H0 := Lib.hid h0
    clear h0
    go_wp2_with fail
    refine HRUN.out.mono ?_
    rintro e w8 ⟨F', rfl, hD8, c8, s8⟩
    have m8 := m7.chg c8 hHF
    have hm8 := hm7.chg c8 hpF
    have hF8 : Ther w8 F' := hD8.there
    have hpF' : p ∉ F' := fun hm => (s8 p hm).elim hpF (by have := hm7.lt; omega)
    clear HRUN
    go_wp2_with (first
      | refine wp_ldh (.tmp 7) h m8 rfl rfl rfl ?_
      | (refine wp_stj (.tmp 50) (.tmp 48) h k hm8 rfl rfl rfl rfl ?_; intro w9 hm9 c9))
    go_ret
    exact ⟨F', by rw [H0.out]; rfl, hD8.keep (c9.same (fun x hx => by simp at hx; rw [hx]; exact hpF') hF8), hm9, ((hc07.trans c8 (fun x hx => .inl (by simp [hx]))).trans c9 (fun x hx => .inl (by simp at hx; simp [hx]))), hsF F' s8⟩
  · have hR := HR.out
    rw [if_neg h0] at hR
    have hr0 : (r != 0) = true := by simp [h0]
    subst hR
    clear h0
    go_wp2_with fail
    refine HRUN.out.mono ?_
    rintro e w8 ⟨F', rfl, hD8, c8, s8⟩
    have hm8 := hm7.chg c8 hpF
    clear HRUN
    go_wp2_with fail
    go_ret
    exact ⟨F', rfl, hD8, hm8, hc07.trans c8 (fun x hx => .inl (by simp [hx])), hsF F' s8⟩
end Go.Proofs.YtknndmhkfonfmaaGreatDoor
