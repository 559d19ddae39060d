/-
  cardexlaw03's walk: CrcJoins.
-/
import Derived.Test.YtjlkhemdahahpaaDoorLaw03b
import Derived.Test.YtjlkhemdahahpaaDoorPieces
namespace Go.Proofs.YtjlkhemdahahpaaDoor
open Go.RowKit

namespace joins
def pre (L : List (List UInt8)) (j : Nat) : List UInt8 := (L.take j).flatten
def suf (L : List (List UInt8)) (j : Nat) : List UInt8 := (L.drop (L.length - j)).flatten
theorem pre_succ {L : List (List UInt8)} {j : Nat} (h : j < L.length) : pre L (j + 1) = pre L j ++ L[j] := by
  unfold pre
  rw [List.take_succ_eq_append_getElem h, List.flatten_append]
  simp
theorem suf_succ {L : List (List UInt8)} {j : Nat} (h : j < L.length) : suf L (j + 1) = L[L.length - 1 - j] ++ suf L j := by
  unfold suf
  rw [List.drop_eq_getElem_cons (i := L.length - (j + 1)) (by omega), List.flatten_cons, show L.length - (j + 1) + 1 = L.length - j from by omega]
  congr 2
  omega
theorem pre_all (L : List (List UInt8)) : pre L L.length = L.flatten := by simp [pre]
theorem suf_all (L : List (List UInt8)) : suf L L.length = L.flatten := by simp [suf]
theorem flatten_le (B : Nat) : ∀ (L : List (List UInt8)), (∀ l ∈ L, l.length ≤ B) → L.flatten.length ≤ L.length * B
  | [], _ => by simp
  | l :: L, h => by
    have h1 := h l (List.mem_cons_self ..)
    have h2 := flatten_le B L fun x hx => h x (List.mem_cons_of_mem _ hx)
    rw [List.flatten_cons, List.length_append, List.length_cons, Nat.add_mul]
    omega
theorem pre_le {L : List (List UInt8)} (h : ∀ l ∈ L, l.length ≤ 1048576) (hL : L.length ≤ 30) (j : Nat) : (pre L j).length ≤ 31457280 := by
  have h1 := flatten_le 1048576 (L.take j) fun x hx => h x (List.mem_of_mem_take hx)
  have h2 : (L.take j).length ≤ 30 := by simp; omega
  unfold pre
  omega
theorem suf_le {L : List (List UInt8)} (h : ∀ l ∈ L, l.length ≤ 1048576) (hL : L.length ≤ 30) (j : Nat) : (suf L j).length ≤ 31457280 := by
  have h1 := flatten_le 1048576 (L.drop (L.length - j)) fun x hx => h x (List.mem_of_mem_drop hx)
  have h2 : (L.drop (L.length - j)).length ≤ 30 := by simp; omega
  unfold suf
  omega
end joins

set_option maxHeartbeats 4000000 in
set_option maxRecDepth 100000 in
theorem walk_CrcJoins (A : Option Addr) (n c : Nat) (ll : List (List UInt8)) (w : World) (h : RS w A n c ll) (hn : n ≤ 1048576) (hll : ∀ l ∈ ll, l.length ≤ 1048576) (ht : Tab w) :
    Calls Tryd.prog 4 #[.slice A n c] w fun e w' => e = .returned (.bool true) ∧ Below w.heap.size w w' := by
  obtain ⟨i0, hi, hz0, hz1, hz2⟩ := info_parts info_u8
  obtain ⟨m, hm⟩ : ∃ m, min n 30 = m := ⟨_, rfl⟩
  have hm' : m ≤ n ∧ m ≤ 30 ∧ (m = n ∨ m = 30) := by omega
  obtain ⟨hmn, hm30, hmc⟩ := hm'
  obtain ⟨L, hL⟩ : ∃ L, ll.take m = L := ⟨_, rfl⟩
  have hlen : L.length = m := by
    rw [← hL, List.length_take, h.len]
    omega
  have hLs : ∀ l ∈ L, l.length ≤ 1048576 := fun l hl => hll l (by rw [← hL] at hl; exact List.mem_of_mem_take hl)
  have hp := joins.pre_le hLs (by omega)
  have hs := joins.suf_le hLs (by omega)
  have hll2 := h.len
  have hcell : ∀ W, Below w.heap.size w W → ∀ j (hj : j < L.length), ∃ b o Ai ci, A = some ⟨b, o, none⟩ ∧ W.cell? ⟨b, o + j, none⟩ = some (.slice Ai L[j].length ci) ∧ BS W Ai L[j].length ci L[j] ∧ L[j].length ≤ 1048576 := by
    intro W hb j hj
    obtain ⟨b, o, rfl, hbl, hc⟩ := (h.below hb).has (by omega)
    have hj2 : j < ll.length := by omega
    obtain ⟨Ai, ci, h1, h2⟩ := hc j hj2
    have e : L[j] = ll[j] := by subst hL; exact List.getElem_take
    rw [e]
    exact ⟨b, o, Ai, ci, rfl, h1, h2, hll _ (List.getElem_mem hj2)⟩
  have HC := Lib.hid hcell
  have HP := Lib.hid hp
  have HS := Lib.hid hs
  have HL := Lib.hid hlen
  have hnil := fun W (ht : Tab W) => of_any none 0 0 [] W (BS.nil_ W) ht
  simp only [crc.of_nil] at hnil
  have HN := Lib.hid hnil
  clear hcell hp hs hlen hll hL hLs hm hll2 hnil
  go_enter Tryd.func4, Tryd.ntmps4
  go_wp2_with fail
  refine (HN.out _ ht).mono ?_
  rintro e w1 ⟨rfl, rfl⟩
  go_wp2_with fail
  refine (HN.out _ ht).mono ?_
  rintro e w1 ⟨rfl, rfl⟩
  go_wp2_with fail
  refine (HN.out _ ht).mono ?_
  rintro e w1 ⟨rfl, rfl⟩
  go_wp2_with fail
  go_loopw [3, 4, 5, 6, 7, 8] (fun a l r s b i wr => ∃ j : Nat, j ≤ m ∧ i = .int .i64 j ∧ OwnB 5 wr w.heap.size a (joins.pre L j) ∧ l = wv (crc.of (joins.pre L j)) ∧ r = wv (crc.of (joins.pre L j)) ∧ s = wv (crc.of (joins.suf L j)) ∧ b = .int .i64 ((joins.suf L j).length : Int) ∧ Below w.heap.size w wr) (fun _ _ _ _ _ i _ => m - (intOf i).toNat)
  case atStart =>
    refine ⟨0, by omega, rfl, OwnB.nil_ _ _ _, ?_, ?_, ?_, ?_, Below.refl _ _⟩
    all_goals simp [joins.pre, joins.suf, crc.of_nil]
  case round =>
    obtain ⟨j, hj, rfl, ho, rfl, rfl, rfl, rfl, hb⟩ := hrel
    by_cases hlt : j < m
    · have hjL : j < L.length := by rw [HL.out]; exact hlt
      have hkL : m - 1 - j < L.length := by rw [HL.out]; omega
      have hsteps : joins.pre L (j + 1) = joins.pre L j ++ L[j] ∧ joins.suf L (j + 1) = L[m - 1 - j] ++ joins.suf L j := ⟨joins.pre_succ hjL, by
        have := joins.suf_succ hjL
        rw [this]
        congr 2
        rw [HL.out]⟩
      obtain ⟨b, o, Ai, ci, rfl, hx, hB, hlx⟩ := HC.out wr hb j hjL
      have hK := fun W (hb : Below w.heap.size w W) => HC.out W hb (m - 1 - j) hkL
      have hJ := fun W (hb : Below w.heap.size w W) => HC.out W hb j hjL
      generalize L[j] = x at *
      generalize L[m - 1 - j] = y at *
      obtain ⟨P0, hP0⟩ : ∃ u, crc.of (joins.pre L j) = u := ⟨_, rfl⟩
      obtain ⟨S0, hS0⟩ : ∃ u, crc.of (joins.suf L j) = u := ⟨_, rfl⟩
      obtain ⟨P1, hP1⟩ : ∃ u, crc.of (joins.pre L (j + 1)) = u := ⟨_, rfl⟩
      obtain ⟨S1, hS1⟩ : ∃ u, crc.of (joins.suf L (j + 1)) = u := ⟨_, rfl⟩
      obtain ⟨X0, hX0⟩ : ∃ u, crc.of x = u := ⟨_, rfl⟩
      obtain ⟨Y0, hY0⟩ : ∃ u, crc.of y = u := ⟨_, rfl⟩
      have jP : crc.join P0 X0 x.length = P1 := by rw [← hP0, ← hX0, ← hP1, ← crc.of_append, hsteps.1]
      have jM : crc.more P0 x = P1 := by rw [← hP0, ← hP1, hsteps.1]; exact (crc.more_append 0#32 _ _).symm
      have jS : crc.join Y0 S0 (joins.suf L j).length = S1 := by rw [← hY0, ← hS0, ← hS1, ← crc.of_append, hsteps.2]
      have hpj := HP.out j
      have hsj := HS.out j
      have hsl : (joins.suf L (j + 1)).length = (joins.suf L j).length + y.length := by rw [hsteps.2, List.length_append, Nat.add_comm]
      have hpl : (joins.pre L (j + 1)) = joins.pre L j ++ x := hsteps.1
      have HSL := Lib.hid hsl
      have HPL := Lib.hid hpl
      have HP1 := Lib.hid hP1
      have HS1 := Lib.hid hS1
      rw [hP0, hS0]
      clear hsteps hP0 hS0 hP1 hS1 hsl hpl
      go_wp2_with (at_builtin; refine wpList_append_bytes _ rfl (.tmp 24) (.tmp 28) 23 rfl 5 i0 Tryd.underlying23 hi hz0 hz1 hz2 w.heap.size _ _ rfl ho _ _ _ _ rfl hB (by omega) hb.size ?_; intro v1 w1 ho1 hg1 hr1 hq1; have hb1 := OwnB.step hb ho hg1 hb.size)
      clear hg1 hr1 hq1 hx hB
      obtain ⟨b1, o1, Aj, cj, e1, hx, hB, hlx⟩ := hJ w1 hb1
      injection e1 with e1
      injection e1 with e1 e2
      subst e1 e2
      obtain ⟨b1, o1, Ak, ck, e1, hy, hBk, hly⟩ := hK w1 hb1
      injection e1 with e1
      injection e1 with e1 e2
      subst e1 e2
      have ht1 := ht.below hb1
      have c1 := fun k => of_any _ _ _ x (w1.drewN k) (hB.drewN k) (ht1.drewN k)
      have c2 := fun W => join_any P0 X0 (x.length : Int) W (by omega)
      have c3 := fun k => more_any P0 _ _ _ x (w1.drewN k) (hB.drewN k) (ht1.drewN k)
      have c4 := fun k => of_any _ _ _ y (w1.drewN k) (hBk.drewN k) (ht1.drewN k)
      have c5 := fun W => join_any Y0 S0 ((joins.suf L j).length : Int) W (by omega)
      simp only [Int.toNat_natCast, jP, jM, jS, hX0, hY0] at c1 c2 c3 c4 c5
      have C1 := Lib.hid c1
      have C2 := Lib.hid c2
      have C3 := Lib.hid c3
      have C4 := Lib.hid c4
      have C5 := Lib.hid c5
      clear c1 c2 c3 c4 c5 hJ hK jP jM jS hX0 hY0 hB hBk ho
      generalize (joins.suf L j).length = sl at *
      go_quiet (first
        | (go_at_call 16; exact quiet_eq (C1.out _))
        | (go_at_call 10; exact quiet_eq (C2.out _)))
      obtain ⟨k, hk⟩ : ∃ k, m - 1 - j = k := ⟨_, rfl⟩
      rw [hk] at hy
      have ek : (n < 30 ∧ (n : Int) - 1 - (j : Int) = (k : Int) ∧ n - 1 - j = k) ∨ (30 < n ∧ (29 : Int) - (j : Int) = (k : Int) ∧ 29 - j = k) ∨ (n = 30 ∧ (29 : Int) - (j : Int) = (k : Int) ∧ 29 - j = k) := by omega
      have hkn : k < n := by omega
      clear hk
      rcases ek with ⟨h30, ek, ek2⟩ | ⟨h30, ek, ek2⟩ | ⟨rfl, ek, ek2⟩
      all_goals have hy2 := hy
      all_goals rw [← ek2] at hy2
      all_goals clear ek2
      all_goals
        go_wp2_with fail
        refine (C3.out _).mono ?_
        rintro e w2 ⟨rfl, rfl⟩
        go_wp2_with fail
        refine (C4.out _).mono ?_
        rintro e w2 ⟨rfl, rfl⟩
        go_wp2_with fail
        refine (C5.out _).mono ?_
        rintro e w2 ⟨rfl, rfl⟩
        go_wp2_with fail
        go_roundw
        case rel =>
          refine ⟨j + 1, by omega, by go_num, by rw [HPL.out]; exact ho1.drewN nq, by rw [HP1.out], by rw [HP1.out], by rw [HS1.out], by rw [HSL.out]; go_num, ⟨hb1.os, hb1.tape, hb1.output, hb1.size, hb1.block⟩⟩
        case measure => simp [intOf]; omega
    · obtain rfl : j = m := by omega
      have e1 : joins.pre L j = L.flatten := by rw [← HL.out]; exact joins.pre_all L
      have e2 : joins.suf L j = L.flatten := by rw [← HL.out]; exact joins.suf_all L
      rw [e1] at ho
      rw [e1, e2]
      clear e1 e2
      have htr := ht.below hb
      obtain ⟨A1, c1, rfl, hB⟩ := ho.form
      obtain ⟨P0, hP0⟩ : ∃ u, crc.of L.flatten = u := ⟨_, rfl⟩
      have c := of_any _ _ _ _ wr hB htr
      rw [hP0] at c ⊢
      have C := Lib.hid c
      clear c hP0 ho hB
      generalize L.flatten.length = fl at *
      have hout : (j < n ∧ ¬ j < 30) ∨ ¬ j < n := by omega
      rcases hout with ⟨ho1, ho2⟩ | ho1
      all_goals
        go_wp2_with fail
        refine C.out.mono ?_
        rintro e w2 ⟨rfl, rfl⟩
        go_wp2_with fail
        refine (lives_any _ htr).mono ?_
        rintro e w2 ⟨rfl, hb2⟩
        go_wp2_with fail
        go_ret
        exact ⟨rfl, hb.trans (hb2.mono hb.size)⟩
end Go.Proofs.YtjlkhemdahahpaaDoor
