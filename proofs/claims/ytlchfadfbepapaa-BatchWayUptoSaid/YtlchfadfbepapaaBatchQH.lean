/-
  THE PROGRAM's batch: a batch that is read (Get).
-/
import Derived.Test.YtlchfadfbepapaaBatchQG
namespace Go.Proofs.Ytlchfadfbepapaa
open Go.RowKit Go.Shelf
namespace bt
/-- of changes that may be, and one more, the last two tell whether all may be -/
theorem mayC_last {acc : List C} (h : mayC acc = true) (x : C) : mayC (acc ++ [x]) = mayC ((acc ++ [x]).drop (acc.length + 1 - 2)) := by
  obtain ⟨h1, h2, h3⟩ := (mayC_is acc).1 h
  obtain ⟨k, hk⟩ : ∃ k, acc.length + 1 - 2 = k := ⟨_, rfl⟩
  rw [hk, Bool.eq_iff_iff, mayC_is, mayC_is]
  have hget : ∀ j, ((acc ++ [x]).drop k)[j]? = (acc ++ [x])[k + j]? := fun j => List.getElem?_drop
  have hlen : (acc ++ [x]).length = acc.length + 1 := by simp
  constructor
  · rintro ⟨a1, a2, a3⟩
    refine ⟨List.any_eq_false.2 fun y hy => List.any_eq_false.1 a1 y (List.mem_of_mem_drop hy), fun j a b ha hb => a2 (k + j) a b (by rw [← hget]; exact ha) (by rw [Nat.add_assoc, ← hget]; exact hb), ?_⟩
    rintro ⟨j, a, b, ha, hb, e⟩
    exact a3 ⟨k + j, a, b, by rw [← hget]; exact ha, by rw [Nat.add_assoc, ← hget]; exact hb, e⟩
  · rintro ⟨a1, a2, a3⟩
    have hxm : x ∈ (acc ++ [x]).drop k := by
      rw [List.drop_append_of_le_length (by omega)]
      simp
    have hold : ∀ j y, j < acc.length → (acc ++ [x])[j]? = some y → acc[j]? = some y := fun j y hj hy => by rwa [List.getElem?_append_left hj] at hy
    refine ⟨List.any_eq_false.2 fun y hy => ?_, fun j a b ha hb => ?_, ?_⟩
    · rcases List.mem_append.1 hy with hy | hy
      · exact List.any_eq_false.1 h1 y hy
      · rw [List.mem_singleton.1 hy]
        exact List.any_eq_false.1 a1 x hxm
    · have hj := (List.getElem?_eq_some_iff.1 hb).1
      rw [hlen] at hj
      rcases Nat.lt_or_ge (j + 1) acc.length with h | h
      · exact h2 j a b (hold j a (by omega) ha) (hold (j + 1) b h hb)
      · obtain rfl : j = k := by omega
        exact a2 0 a b (by rw [hget]; exact ha) (by rw [hget]; exact hb)
    · rintro ⟨j, a, b, ha, hb, e⟩
      have hj := (List.getElem?_eq_some_iff.1 hb).1
      rw [hlen] at hj
      rcases Nat.lt_or_ge (j + 1) acc.length with h | h
      · exact h3 ⟨j, a, b, hold j a (by omega) ha, hold (j + 1) b h hb, e⟩
      · obtain rfl : j = k := by omega
        exact a3 ⟨0, a, b, by rw [hget]; exact ha, by rw [hget]; exact hb, e⟩
theorem mayC_keys {l : List C} (h : mayC l = true) : ∀ r ∈ l, r.key.length ≤ 16 := fun r hr => (mayC_all l none h r hr).1
theorem one_small {b : List UInt8} {a : Nat} (h : (one b a).1 = 0) : (one b a).2.1.key.length ≤ 16 ∧ (one b a).2.2 ≤ b.length := by
  have hm := getRow_most (b := b) (a := a) (most := 16) (by omega)
  have hk := one_k (b := b) (a := a)
  by_cases h0 : (getRowR b a 16).2.2 = 0
  · obtain ⟨h1, h2⟩ := getRow_back8 (b := b) (a := a) (most := 16) h0
    have hkey : (getRowR b a 16).1.length ≤ 16 := by omega
    by_cases hM : a + 4 + (getRowR b a 16).1.length = b.length
    · rw [one_end h0 h1 hM] at h
      cases h
    · have hlt : a + 4 + (getRowR b a 16).1.length < b.length := by omega
      rcases (show b.getD (a + 4 + (getRowR b a 16).1.length) 0 = 0 ∨ b.getD (a + 4 + (getRowR b a 16).1.length) 0 = 1 ∨ 1 < b.getD (a + 4 + (getRowR b a 16).1.length) 0 by
        generalize b.getD (a + 4 + (getRowR b a 16).1.length) 0 = x
        by_cases h0 : x = 0
        · exact .inl h0
        · by_cases h1 : x = 1
          · exact .inr (.inl h1)
          · right; right
            rw [UInt8.lt_iff_toNat_lt]
            have e0 : x.toNat ≠ 0 := fun e => h0 (UInt8.toNat_inj.1 (by simpa using e))
            have e1 : x.toNat ≠ 1 := fun e => h1 (UInt8.toNat_inj.1 (by simpa using e))
            show 1 < x.toNat
            omega) with hx | hx | hx
      · have hv := one_val h0 h1 hM hx
        by_cases hv0 : (getRowR b ((a + 4 + (getRowR b a 16).1.length + 1 : Nat) : Int) 1048576).2.2 = 0
        · obtain ⟨g1, g2⟩ := getRow_back8 (b := b) (a := a + 4 + (getRowR b a 16).1.length + 1) (most := 1048576) hv0
          rw [hv, if_neg (by simpa using hv0)]
          refine ⟨hkey, ?_⟩
          show (getRowR b _ 1048576).2.1.toNat ≤ b.length
          omega
        · rw [hv, if_pos hv0] at h
          exact absurd h hv0
      · rw [one_gone h0 h1 hM hx]
        exact ⟨hkey, by show _ + 1 ≤ b.length; omega⟩
      · rw [one_form h0 h1 hM hx] at h
        cases h
  · rw [hk h0] at h
    exact absurd h h0
end bt
theorem CS.drop {w : World} {g o n c : Nat} {l : List bt.C} (h : CS w (some ⟨g, o, none⟩) n c l) (k : Nat) (hk : k < n) : CS w (some ⟨g, o + k * 3, none⟩) (n - k) (c - k) (l.drop k) := by
  have hl := h.len
  have hc := h.cap
  have hm := h.max
  refine ⟨by rw [List.length_drop, hl], by omega, by omega, fun _ => ?_⟩
  obtain ⟨b', o', e, hb, hr⟩ := h.has (by omega)
  injection e with e
  injection e with e1 e2
  subst e1 e2
  refine ⟨g, o + k * 3, rfl, hb, fun i hi => ?_⟩
  have hi' : k + i < l.length := by rw [List.length_drop] at hi; omega
  obtain ⟨p, r, X, cx, q, B⟩ := hr (k + i) hi'
  have e : (l.drop k)[i] = l[k + i] := List.getElem_drop ..
  rw [e, show o + k * 3 + i * 3 = o + (k + i) * 3 by omega]
  exact ⟨p, r, X, cx, q, B⟩
set_option maxHeartbeats 4000000 in
set_option maxRecDepth 100000 in
theorem getQ_any (A : Option Addr) (n c : Nat) (b : List UInt8) (w : World) (h : BS w A n c b) (hn : n ≤ 140737488355320) : Calls Try.prog 17 #[.slice A n c] w fun e w' =>
    ∃ v, e = .returned (.tuple #[v, .int .i64 (bt.get b).2]) ∧ OC w' w.heap.size v (bt.get b).1 ∧ Below w.heap.size w w' := by
  obtain ⟨hzc, -⟩ := zero_of_info zero_chg
  have hlen := h.len
  have hcap := h.cap
  have HG := Lib.hid (fun W (g : BS W A n c b) => get_any A n c b 0 4 W g)
  obtain ⟨q, hq⟩ : ∃ q, (getR b 0 4).1 = q := ⟨_, rfl⟩
  obtain ⟨g, hg⟩ : ∃ g, (getR b 0 4).2 = g := ⟨_, rfl⟩
  rw [hq, hg] at HG
  have H1 := Lib.hid h
  clear h
  by_cases h0 : g = 0
  · have h0' : (g != 0) = false := by simp [h0]
    have hgq : getR b 0 4 = (q, 0) := Prod.ext hq (hg.trans h0)
    obtain ⟨-, h4, hq32⟩ := getR_ok4 hgq
    have hres : bt.get b = bt.getN b q 4 [] := by
      unfold bt.get
      rw [hgq]
      simp
    obtain ⟨R, hR⟩ : ∃ R, bt.get b = R := ⟨_, rfl⟩
    rw [hR] at hres ⊢
    have HR0 := Lib.hid hres
    clear hres hR hgq hq hg h0
    go_enter Try.func17, Try.ntmps17
    go_wp2_with fail
    refine (HG.out _ H1.out).mono ?_
    rintro e w1 ⟨rfl, rfl⟩
    clear HG
    go_wp2_with fail
    go_loopw [6, 7, 20] (fun lv at_ t wr => ∃ (i a : Nat) (acc : List bt.C), t = .int .u64 i ∧ i ≤ q ∧ at_ = .int .i64 a ∧ a ≤ n ∧ Hid (acc.length = i) ∧ Hid (R = bt.getN b (q - i) a acc) ∧ Hid (bt.mayC acc = true) ∧ OC wr w.heap.size lv acc ∧ Below w.heap.size w wr) (fun _ _ t _ => q - (intOf t).toNat)
    case atStart => exact ⟨0, 4, [], rfl, by omega, rfl, by omega, Lib.hid rfl, by rw [Nat.sub_zero]; exact HR0, Lib.hid rfl, OC.nil_ _ _, Below.refl _ _⟩
    case round =>
      clear HR0
      obtain ⟨i, a, acc, rfl, hiq, rfl, han, hal, HR, HM, hO, hb⟩ := hrel
      by_cases hi : i < q
      · have hnx := HR.out
        rw [show q - i = (q - (i + 1)) + 1 from by omega, bt.getN_next] at hnx
        have HC := Lib.hid (getChange_any A n c b a wr (H1.out.below hb) hn)
        have hsm := bt.one_small (b := b) (a := a)
        obtain ⟨⟨er, x, nx⟩, hr⟩ : ∃ r, bt.one b a = r := ⟨_, rfl⟩
        rw [hr] at hnx HC hsm
        simp only at hnx hsm
        rw [hlen] at hsm
        clear hr
        obtain ⟨kk, vv, gn⟩ := x
        unfold OneEnd at HC
        simp only at HC hsm
        by_cases he : er = 0
        · have he' : (er != 0) = false := by simp [he]
          obtain ⟨hk16, hnxn⟩ := hsm he
          rw [if_neg (by simpa using he)] at hnx
          have HNX := Lib.hid hnx
          clear hnx he hsm
          go_wp2_with fail
          refine HC.out.mono ?_
          rintro e w2 ⟨A2, c2, rfl, o2, b2⟩
          have hb2 := hb.trans (b2.mono hb.size)
          have hO2 := hO.below b2 (Nat.le_refl _)
          have hlo := o2.lt
          have hlO := hO.lt
          obtain ⟨W3, hW3, x0, x1, x2, b3, s3⟩ := new3 w2 (str kk) (.slice A2 vv.length c2) (.bool gn) 39
          obtain ⟨W4, hW4, -, -, -, b4, s4⟩ := new3 W3 (str kk) (.slice A2 vv.length c2) (.bool gn) 39
          have n4 : W4.heap[W3.heap.size]? = some (.cells #[str kk, .slice A2 vv.length c2, .bool gn] 39 (0, 0)) := hW4 ▸ heap_alloc_new W3 _
          have b34 := b3.trans (b4.mono b3.size)
          have hb4 := hb2.trans (b34.mono hb2.size)
          have hO4 := hO2.below b34 (Nat.le_refl _)
          have o4 := o2.below b34 (Nat.le_refl _)
          have hE4 : eltO W4 w.heap.size u6 [str kk, .slice A2 vv.length c2, .bool gn] ⟨kk, vv, gn⟩ := ⟨A2, c2, rfl, o4.mono hb.size, fun k hk e => by
            have h1 := (hlo k hk).1
            have h2 := (hlO k e).2
            omega⟩
          have HW3 := Lib.hid hW3
          have HW4 := Lib.hid hW4
          rw [s3] at n4
          have hac : acc.length ≤ 1099511627776 := by have := hal.out; omega
          clear hW3 hW4 b3 b4 b34 HC
          have hw34 : (w2.alloc (.cells #[.string { data := List.toArray kk }, .slice A2 vv.length c2, .bool gn] 39)).alloc (.cells #[.string { data := List.toArray kk }, .slice A2 vv.length c2, .bool gn] 39) = W4 := by
            have := HW4.out
            rw [← HW3.out] at this
            exact this
          have HW34 := Lib.hid hw34
          have hlast := bt.mayC_last HM.out ⟨kk, vv, gn⟩
          rw [hal.out] at hlast
          obtain ⟨mm, hmm⟩ : ∃ m, bt.mayC (acc ++ [⟨kk, vv, gn⟩]) = m := ⟨_, rfl⟩
          have HLK : ∀ r ∈ acc ++ [(⟨kk, vv, gn⟩ : bt.C)], r.key.length ≤ 9223372036854775807 := fun r hr => Nat.le_trans (keys_snoc (bt.mayC_keys HM.out) hk16 r hr) (by omega)
          have hcs10 : ∀ (W : World) gg cp, OC W w.heap.size (.slice (some ⟨gg, 0, none⟩) (i + 1) cp) (acc ++ [⟨kk, vv, gn⟩]) → CS W (some ⟨gg, 0, none⟩) (i + 1) cp (acc ++ [⟨kk, vv, gn⟩]) := fun W gg cp hO => by
            obtain ⟨A10, c10, he10, hC10⟩ := hO.cs
            injection he10 with he1 he2 he3
            subst he1 he3
            rw [List.length_append, List.length_singleton, hal.out] at hC10
            exact hC10
          have HCP : ∀ (W : World) gg cp, OC W w.heap.size (.slice (some ⟨gg, 0, none⟩) (i + 1) cp) (acc ++ [⟨kk, vv, gn⟩]) → ¬ cp = ((i : Int) + 1 - 2).toNat ∧ ¬ cp = 0 ∧ i + 1 ≤ cp ∧ cp ≤ 9223372036854775807 := fun W gg cp hO => by
            have h1 := (hcs10 W gg cp hO).cap
            have h2 := (hcs10 W gg cp hO).max
            omega
          rw [hmm] at hlast HNX
          by_cases hi2 : 2 < i + 1
          · have hi2' : (2 : Int) < (i : Int) + 1 := by omega
            have HMQ : ∀ (W : World) gg cp, OC W w.heap.size (.slice (some ⟨gg, 0, none⟩) (i + 1) cp) (acc ++ [⟨kk, vv, gn⟩]) → Calls Try.prog 12 #[.slice (some ⟨gg, (i - 1) * 3, none⟩) (i + 1 - (i - 1)) (cp - (i - 1))] W fun e w' => e = .returned (.bool mm) ∧ Below W.heap.size W w' := fun W gg cp hO => by
              have h1 := (hcs10 W gg cp hO).drop (i + 1 - 2) (by omega)
              rw [Nat.zero_add, show i + 1 - 2 = i - 1 by omega] at h1
              rw [show i + 1 - 2 = i - 1 by omega] at hlast
              rw [hlast]
              exact mayq_any _ _ _ _ W h1 (fun r hr => HLK r (List.mem_of_mem_drop hr)) (by omega)
            clear hw34 hcs10 HLK hlast
            go_wp2_with (at_builtin; rw [HW34.out]; refine wp_apo (.tmp 32) (.tmp 34) hO4 hb4.size n4 hE4 hac rfl rfl rfl rfl ?_; intro gg cp w9 hO10 hg9 hat9 hgl9; have hb9 := Below.grown hb4 hg9 hb4.size (fun k hk => (hO4.lt k hk).1); rw [hal.out] at hO10 ⊢; have hMQ := HMQ w9 gg cp hO10; have hcp := HCP w9 gg cp hO10)
            refine hMQ.mono ?_
            rintro e w10 ⟨rfl, b10⟩
            have hb10 := hb9.trans (b10.mono hb9.size)
            have hO11 := hO10.below b10 (Nat.le_refl _)
            clear hO10 hg9 hat9 hMQ hcp b10 hb9
            cases mm with
            | true =>
              have HX := Lib.hid (HNX.out.trans (if_pos rfl))
              have HMM := Lib.hid hmm
              clear hmm HNX
              go_wp2_with fail
              go_roundw
              case rel => exact ⟨i + 1, nx, acc ++ [⟨kk, vv, gn⟩], by go_num, by omega, rfl, by omega, Lib.hid (by rw [List.length_append, hal.out]; rfl), HX, HMM, hO11, hb10⟩
              case measure => simp [intOf]; omega
            | false =>
              have HX := Lib.hid (HNX.out.trans (if_neg (by decide)))
              clear hmm HNX
              go_wp2_with fail
              go_ret2
              exact ⟨_, by rw [HX.out]; rfl, by rw [HX.out]; exact OC.nil_ _ _, hb10⟩
          · have hi2' : ¬ (2 : Int) < (i : Int) + 1 := by omega
            have HMQ : ∀ (W : World) gg cp, OC W w.heap.size (.slice (some ⟨gg, 0, none⟩) (i + 1) cp) (acc ++ [⟨kk, vv, gn⟩]) → Calls Try.prog 12 #[.slice (some ⟨gg, 0, none⟩) (i + 1) cp] W fun e w' => e = .returned (.bool mm) ∧ Below W.heap.size W w' := fun W gg cp hO => by
              rw [show i + 1 - 2 = 0 by omega, List.drop_zero] at hlast
              rw [hlast]
              exact mayq_any _ _ _ _ W (hcs10 W gg cp hO) HLK (by omega)
            clear hw34 hcs10 HLK hlast
            go_wp2_with (at_builtin; rw [HW34.out]; refine wp_apo (.tmp 32) (.tmp 34) hO4 hb4.size n4 hE4 hac rfl rfl rfl rfl ?_; intro gg cp w9 hO10 hg9 hat9 hgl9; have hb9 := Below.grown hb4 hg9 hb4.size (fun k hk => (hO4.lt k hk).1); rw [hal.out] at hO10 ⊢; have hMQ := HMQ w9 gg cp hO10; have hcp := HCP w9 gg cp hO10)
            refine hMQ.mono ?_
            rintro e w10 ⟨rfl, b10⟩
            have hb10 := hb9.trans (b10.mono hb9.size)
            have hO11 := hO10.below b10 (Nat.le_refl _)
            clear hO10 hg9 hat9 hMQ hcp b10 hb9
            cases mm with
            | true =>
              have HX := Lib.hid (HNX.out.trans (if_pos rfl))
              have HMM := Lib.hid hmm
              clear hmm HNX
              go_wp2_with fail
              go_roundw
              case rel => exact ⟨i + 1, nx, acc ++ [⟨kk, vv, gn⟩], by go_num, by omega, rfl, by omega, Lib.hid (by rw [List.length_append, hal.out]; rfl), HX, HMM, hO11, hb10⟩
              case measure => simp [intOf]; omega
            | false =>
              have HX := Lib.hid (HNX.out.trans (if_neg (by decide)))
              clear hmm HNX
              go_wp2_with fail
              go_ret2
              exact ⟨_, by rw [HX.out]; rfl, by rw [HX.out]; exact OC.nil_ _ _, hb10⟩
        · have he' : (er != 0) = true := by simp [he]
          rw [if_pos (by simpa using he)] at hnx
          have HX := Lib.hid hnx
          clear hnx he hsm
          go_wp2_with fail
          refine HC.out.mono ?_
          rintro e w2 ⟨A2, c2, rfl, -, b2⟩
          have hb2 := hb.trans (b2.mono hb.size)
          have hbox := hb2.alloc hb2.size (.cells #[.string { data := List.toArray kk }, .slice A2 vv.length c2, .bool gn] 39)
          go_wp2_with fail
          go_ret2
          exact ⟨_, by rw [HX.out]; rfl, by rw [HX.out]; exact OC.nil_ _ _, hbox⟩
      · have hie : q - i = 0 := by omega
        have hnx := HR.out
        rw [hie, bt.getN_zero, hlen] at hnx
        by_cases han2 : a < n
        · have han2' : (a : Int) < (n : Int) := by omega
          rw [if_neg (by omega)] at hnx
          have HX := Lib.hid hnx
          clear hnx hie
          go_wp2_with fail
          go_ret2
          exact ⟨_, by rw [HX.out]; rfl, by rw [HX.out]; exact OC.nil_ _ _, hb⟩
        · have han2' : ¬ (a : Int) < (n : Int) := by omega
          rw [if_pos (by omega)] at hnx
          have HX := Lib.hid hnx
          clear hnx hie
          go_wp2_with fail
          go_ret2
          exact ⟨_, by rw [HX.out]; rfl, by rw [HX.out]; exact hO, hb⟩
  · have h0' : (g != 0) = true := by simp [h0]
    have hres : bt.get b = ([], g) := by
      unfold bt.get
      rw [hg, if_pos (by simpa using h0)]
    rw [hres]
    clear hres h0 hq hg
    go_enter Try.func17, Try.ntmps17
    go_wp2_with fail
    refine (HG.out _ H1.out).mono ?_
    rintro e w1 ⟨rfl, rfl⟩
    go_wp2_with fail
    go_ret2
    exact ⟨_, rfl, OC.nil_ _ _, Below.refl _ _⟩
end Go.Proofs.Ytlchfadfbepapaa
