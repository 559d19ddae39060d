/-
  cardexref08's Find, Same.
-/
import Derived.Test.YtlchfadfbepapaaBatchM3
import Derived.Test.YtlchfadfbepapaaRef00
import Derived.WalkMore
namespace Go.Proofs.Ytlchfadfbepapaa
open Go.RowKit
theorem bt.find_at {t : List bt.R} {i : Nat} (h : i < t.length) (k : bt.Key) : bt.find (t.drop i) k = if t[i].key = k then some t[i].val else bt.find (t.drop (i + 1)) k := by
  unfold bt.find
  rw [List.drop_eq_getElem_cons h, List.find?_cons]
  by_cases hk : t[i].key = k
  · simp [hk]
  · have : (t[i].key == k) = false := beq_eq_false_iff_ne.2 hk
    rw [this, if_neg hk]
/-- what Find answers -/
def bt.findR (t : List bt.R) (k : bt.Key) : Option (List UInt8) := if bt.may t then bt.find t k else none
set_option maxHeartbeats 4000000 in
set_option maxRecDepth 100000 in
theorem rfind_any (A : Option Addr) (n c : Nat) (t : List bt.R) (k : List UInt8) (w : World) (h : TS w A n c t) (hk1 : ∀ r ∈ t, r.key.length ≤ 9223372036854775807) : Calls Try.prog 30 #[.slice A n c, str k] w fun e w' => (∃ v, e = .returned (.tuple #[v, .bool (bt.findR t k).isSome]) ∧ OwnB 5 w' w.heap.size v ((bt.findR t k).getD [])) ∧ Below w.heap.size w w' := by
  have hlen := h.len
  have hcap := h.cap
  have hmax := h.max
  have HMAY := Lib.hid (fun W (g : TS W A n c t) => rmay8_any A n c t W g hk1)
  have H1 := Lib.hid h
  clear h hk1
  by_cases c1 : bt.may t = true
  · rw [c1] at HMAY
    have hsm : ∀ r ∈ t, r.val.length ≤ 1048576 := fun r hr => ((bt.mayFrom_sorted t none c1).2.2 r hr).2
    have hres : bt.findR t k = bt.find (t.drop 0) k := by unfold bt.findR; rw [if_pos c1]; rfl
    have HR := Lib.hid hres
    clear hres c1
    go_enter Try.func30, Try.ntmps30
    go_wp2_with fail
    go_loopw [6] (fun s wr => ∃ (i : Nat), s = .int .i64 i ∧ i ≤ n ∧ Hid (bt.findR t k = bt.find (t.drop i) k) ∧ Below w.heap.size w wr) (fun s _ => n - (intOf s).toNat)
    case atStart => exact ⟨0, rfl, by omega, HR, Below.refl _ _⟩
    case round =>
      clear HR
      obtain ⟨i, rfl, hin, HP, hb⟩ := hrel
      by_cases hi : i < n
      · have hil : i < t.length := by omega
        have hN := bt.find_at hil k
        have hs1 := hsm _ (List.getElem_mem hil)
        have di : decide (i < n) = true := decide_eq_true hi
        obtain ⟨b1, o1, rfl, ha1, hr1⟩ := H1.out.has (by omega)
        obtain ⟨p1, X1, c1, q1, g1⟩ := hr1 i hil
        obtain ⟨r, hr⟩ : ∃ r, t[i] = r := ⟨_, rfl⟩
        rw [hr] at p1 q1 g1 hN hs1
        clear hr hr1
        obtain ⟨kk, vv⟩ := r
        simp only at p1 q1 g1 hN hs1
        obtain ⟨m1, hm1⟩ : ∃ m, vv.length = m := ⟨_, rfl⟩
        rw [hm1] at q1 g1 hs1
        have HCELL := Lib.hid (fun W (hB : Below w.heap.size w W) => (⟨(hB.cell (p := ⟨b1, o1 + i * 2, none⟩) ha1).trans p1, (hB.cell (p := ⟨b1, o1 + i * 2 + 1, none⟩) ha1).trans q1⟩ : W.cell? ⟨b1, o1 + i * 2, none⟩ = some (str kk) ∧ W.cell? ⟨b1, o1 + i * 2 + 1, none⟩ = some (.slice X1 m1 c1)))
        have HCOPY := Lib.hid (fun W (hS : Below w.heap.size w W) => copy_any X1 m1 c1 vv W (g1.below hS) (by omega))
        by_cases hk : kk = k
        · subst hk
          rw [if_pos rfl] at hN
          have HN := Lib.hid (HP.out.trans hN)
          clear hN hsm HP p1 q1 g1 hm1
          go_wp2_with (first
            | (go_at_call 11; refine (HMAY.out _ (H1.out.below hb)).mono ?_; rintro e w1 ⟨rfl, hb1⟩; have hbb := hb.trans (hb1.mono hb.size); obtain ⟨x1, x2⟩ := HCELL.out _ hbb)
            | (go_at_call 52; refine (HCOPY.out _ hbb).mono ?_; rintro e w2 ⟨v2, rfl, ho2, hb2⟩))
          go_ret2
          rw [HN.out]
          exact ⟨⟨v2, rfl, ho2.mono hbb.size⟩, hbb.trans (hb2.mono hbb.size)⟩
        · rw [if_neg hk] at hN
          have HN := Lib.hid (HP.out.trans hN)
          have hke : (kk == k) = false := beq_eq_false_iff_ne.2 hk
          clear hN hsm HP p1 q1 g1 hm1 hk HCOPY
          go_wp2_with (first
            | (go_at_call 11; refine (HMAY.out _ (H1.out.below hb)).mono ?_; rintro e w1 ⟨rfl, hb1⟩; have hbb := hb.trans (hb1.mono hb.size); obtain ⟨x1, x2⟩ := HCELL.out _ hbb))
          go_roundw
          case rel => exact ⟨i + 1, by go_num, by omega, HN, hbb⟩
          case measure => simp [intOf]; omega
      · have hie : i = n := by omega
        have hz : bt.findR t k = none := by rw [HP.out, List.drop_of_length_le (by omega)]; rfl
        have HZ := Lib.hid hz
        have di : decide (i < n) = false := decide_eq_false hi
        clear hz HP hsm hie
        go_wp2_with fail
        go_ret2
        rw [HZ.out]
        exact ⟨⟨_, rfl, OwnB.nil_ _ _ _⟩, hb⟩
  · have c1' : bt.may t = false := by simpa using c1
    rw [c1'] at HMAY
    have hz : bt.findR t k = none := by unfold bt.findR; rw [c1']; rfl
    have HZ := Lib.hid hz
    clear hz c1 c1'
    go_enter Try.func30, Try.ntmps30
    go_wp2_with fail
    go_loopw [6] (fun s wr => s = .int .i64 (0 : Nat) ∧ Below w.heap.size w wr) (fun s _ => n - (intOf s).toNat)
    case atStart => exact ⟨rfl, Below.refl _ _⟩
    case round =>
      obtain ⟨rfl, hb⟩ := hrel
      by_cases hi : 0 < n
      · have di : decide (0 < n) = true := decide_eq_true hi
        go_wp2_with (first
          | (go_at_call 11; refine (HMAY.out _ (H1.out.below hb)).mono ?_; rintro e w1 ⟨rfl, hb1⟩))
        go_ret2
        rw [HZ.out]
        exact ⟨⟨_, rfl, OwnB.nil_ _ _ _⟩, hb.trans (hb1.mono hb.size)⟩
      · have di : decide (0 < n) = false := decide_eq_false hi
        go_wp2_with fail
        go_ret2
        rw [HZ.out]
        exact ⟨⟨_, rfl, OwnB.nil_ _ _ _⟩, hb⟩
set_option maxRecDepth 100000 in
theorem rsame8_any {A1 A2 : Option Addr} {n1 c1 n2 c2 : Nat} {l1 l2 : List bt.R} {w : World} (h1 : TS w A1 n1 c1 l1) (h2 : TS w A2 n2 c2 l2) : Calls Try.prog 32 #[.slice A1 n1 c1, .slice A2 n2 c2] w fun e w' => e = .returned (.bool (decide (l1 = l2))) ∧ Below w.heap.size w w' := by
  have HR := Lib.hid (rows_any h1 h2)
  go_enter Try.func32, Try.ntmps32
  go_wp2_with (go_at_call 24; refine HR.out.mono ?_; rintro e w1 ⟨rfl, hb1⟩)
  go_ret
  exact ⟨rfl, hb1⟩
end Go.Proofs.Ytlchfadfbepapaa
