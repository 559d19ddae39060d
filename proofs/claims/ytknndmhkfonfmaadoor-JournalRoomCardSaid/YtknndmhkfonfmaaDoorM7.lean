/-
  cardexlaw07's walks: JournalCuts.
-/
import Derived.Test.YtknndmhkfonfmaaDoorM6
import Derived.Test.YtknndmhkfonfmaaDoorM1
import Derived.Test.YtknndmhkfonfmaaDoorM2
namespace Go.Proofs.YtknndmhkfonfmaaDoor
open Go.RowKit
/-- a journal where JournalCuts stands behind i rounds -/
structure jn.On (n i : Nat) (s : dk.St) (k : hd.H) (was : List (List UInt8)) : Prop where
  good : ∃ c N, jn.Good s c N k was ∧ N ≤ i + 1 ∧ 1 ≤ N
  len : s.S.length = n
  many : s.many ≤ 5 + 40 * (i : Int)
theorem jn.Good.arm {s : dk.St} {c N : Nat} {k : hd.H} {was : List (List UInt8)} (g : jn.Good s c N k was) (a : Int) (h0 : 0 ≤ a) : (dk.arm s a).1 = 0 ∧ jn.Good (dk.arm s a).2 c N k was ∧ (dk.arm s a).2.S = s.S ∧ (dk.arm s a).2.many = s.many := by
  have e : dk.arm s a = (0, { s with cut := a }) := by
    unfold dk.arm
    rw [if_neg (by rw [g.light]; simp), if_neg (by omega)]
  rw [e]
  exact ⟨rfl, ⟨⟨g.ok.lenS, g.ok.some, g.ok.most, g.ok.lenL, g.ok.inL⟩, g.light, g.sure, g.two, g.fits, g.reads⟩, rfl, rfl⟩
namespace jn.On
variable {n i : Nat} {s : dk.St} {k : hd.H} {was : List (List UInt8)}
theorem arm (h : jn.On n i s k was) (a : Int) (h0 : 0 ≤ a) : (dk.arm s a).1 = 0 ∧ jn.On n i (dk.arm s a).2 k was := by
  obtain ⟨⟨c, N, g, h1, h2⟩, a1, a2⟩ := h
  obtain ⟨e1, e2, e3, e4⟩ := g.arm a h0
  exact ⟨e1, ⟨c, N, e2, h1, h2⟩, by rw [e3]; exact a1, by rw [e4]; exact a2⟩
theorem mono (h : jn.On n i s k was) : jn.On n (i + 1) s k was := by
  obtain ⟨⟨c, N, g, h1, h2⟩, b, d⟩ := h
  exact ⟨⟨c, N, g, by omega, h2⟩, b, by omega⟩
theorem num (h : jn.On n i s k was) (hi : i ≤ 40) : ∃ c N, jn.Good s c N k was ∧ hd.num (N + 1) = true ∧ N ≤ i + 1 ∧ 1 ≤ N := by
  obtain ⟨⟨c, N, g, h1, h2⟩, b, d⟩ := h
  refine ⟨c, N, g, ?_, h1, h2⟩
  simp [hd.num]
  omega
theorem few (h : jn.On n i s k was) (hi : i ≤ 40) : s.many + 4200 < 1048576 := by
  have := h.many
  omega
theorem light (h : jn.On n i s k was) : s.black = false := by
  obtain ⟨⟨c, N, g, _⟩, _⟩ := h
  exact g.light
theorem batches (h : jn.On n i s k was) : (jn.batches s (jn.newest s).2.1).1 = was := by
  obtain ⟨⟨c, N, g, _⟩, _⟩ := h
  rw [g.newest]
  show (jn.batches s k).1 = was
  rw [g.batches]
theorem sizes (h : jn.On n i s k was) : was.length ≤ 4096 := by
  obtain ⟨⟨c, N, g, _⟩, _⟩ := h
  have h1 := jn.parse_length _ g.reads
  have h2 := hd.may_ok g.two.may
  simp only at h1
  omega
theorem opens (h : jn.On n i s k was) (hi : i ≤ 40) : jn.opens s = 0 := by
  obtain ⟨⟨c, N, g, h1, h2⟩, _⟩ := h
  exact g.opens (by omega)
/-- what comes of laying a batch -/
def Out (n i : Nat) (s : dk.St) (was now : List (List UInt8)) (r : Int × dk.St) : Prop :=
  (∃ s' k', r = (0, s') ∧ jn.On n (i + 1) s' k' now) ∨ r = (10, s) ∨
  (∃ s', r = (9, s') ∧ s'.black = true ∧ ∀ p, (∃ k', jn.On n (i + 1) (dk.crash s' p) k' was) ∨ (∃ k', jn.On n (i + 1) (dk.crash s' p) k' now))
theorem append (h : jn.On n i s k was) (hi : i < 40) (b : List UInt8) (hb : b.length ≤ 3000) : Out n i s was (was ++ [b]) (jn.append s k b) := by
  obtain ⟨c, N, g, hn, h1, h2⟩ := h.num (by omega)
  have h24 := jn.blocks_few b hb
  have h3 := h.many
  by_cases hroom : k.blocks + (jn.blocks b).length ≤ jn.half s
  · obtain ⟨-, ⟨e1, e2, e3, e4⟩ | ⟨e1, e2, e3, e4, e5, e6⟩⟩ := jn.append_cases g hn b (by omega) hroom
    · exact .inl ⟨_, _, Prod.ext e1 rfl, ⟨_, _, e2, by omega, by omega⟩, e3.trans h.len, by rw [e4]; omega⟩
    · refine .inr (.inr ⟨_, Prod.ext e1 rfl, e2, fun p => ?_⟩)
      have hl : (dk.crash (jn.append s k b).2 p).S.length = n := by simp only [dk.crash]; rw [dk.tear_length, e4, h.len]
      have hm : (dk.crash (jn.append s k b).2 p).many ≤ 5 + 40 * ((i + 1 : Nat) : Int) := by simp only [dk.crash]; omega
      rcases e6 p with e | e
      · exact .inl ⟨k, ⟨_, _, e, by omega, h2⟩, hl, hm⟩
      · exact .inr ⟨_, ⟨_, _, e, by omega, by omega⟩, hl, hm⟩
  · exact .inr (.inl (jn.append_full g b (by omega) (by omega)))
theorem replace (h : jn.On n i s k was) (hi : i < 40) (b : List UInt8) (hb : b.length ≤ 3000) : Out n i s was [b] (jn.replace s k b) := by
  obtain ⟨c, N, g, hn, h1, h2⟩ := h.num (by omega)
  have h24 := jn.blocks_few b hb
  have h3 := h.many
  by_cases hroom : (jn.blocks b).length ≤ jn.half s
  · obtain ⟨-, ⟨e1, e2, e3, e4⟩ | ⟨e1, e2, e3, e4, e5, e6⟩⟩ := jn.replace_cases g hn b (by omega) hroom
    · exact .inl ⟨_, _, Prod.ext e1 rfl, ⟨_, _, e2, by omega, by omega⟩, e3.trans h.len, by rw [e4]; omega⟩
    · refine .inr (.inr ⟨_, Prod.ext e1 rfl, e2, fun p => ?_⟩)
      have hl : (dk.crash (jn.replace s k b).2 p).S.length = n := by simp only [dk.crash]; rw [dk.tear_length, e4, h.len]
      have hm : (dk.crash (jn.replace s k b).2 p).many ≤ 5 + 40 * ((i + 1 : Nat) : Int) := by simp only [dk.crash]; omega
      rcases e6 p with e | e
      · exact .inl ⟨k, ⟨_, _, e, by omega, h2⟩, hl, hm⟩
      · exact .inr ⟨_, ⟨_, _, e, by omega, by omega⟩, hl, hm⟩
  · exact .inr (.inl (jn.replace_full g b (by omega) (by omega)))
end jn.On
set_option maxHeartbeats 8000000 in
set_option maxRecDepth 100000 in
theorem walk_JournalCuts (x : UInt8) (A : Option Addr) (n c : Nat) (l : List LC) (A2 : Option Addr) (n2 c2 : Nat) (arms : List UInt8) (A3 : Option Addr) (n3 c3 : Nat) (picks : List Int) (w : World)
    (h : LS w A n c l) (hArms : BS w A2 n2 c2 arms) (hPicks : IS w A3 n3 c3 picks) (ht : Tabs w) :
    Calls Tryd.prog 3 #[bv x, .slice A n c, .slice A2 n2 c2, .slice A3 n3 c3] w fun e w' => e = .returned (.bool true) ∧ Below w.heap.size w w' := by
  have hx := x.toNat_lt
  have hP3 : 0 < n3 → ∀ b o, A3 = some ⟨b, o, none⟩ → b < w.heap.size := fun h0 b o e => by
    obtain ⟨b', o', e', hb', _⟩ := hPicks.has h0
    rw [e] at e'
    injection e' with e'
    injection e' with e' _
    omega
  obtain ⟨m, hm⟩ : ∃ m, 64 + x.toNat % 64 = m := ⟨_, rfl⟩
  have hmi : (64 : Int) + (x.toNat : Int) % 64 = (m : Int) := by omega
  have hm64 : 64 ≤ m ∧ m ≤ 319 := by omega
  obtain ⟨hm1, hm2⟩ := hm64
  have HF := Lib.hid (show (fresh m).many + 4200 < 1048576 ∧ (fresh m).L.length + 4200 < 1048576 from ⟨show (0 : Int) + 4200 < 1048576 by decide, show (0 : Nat) + 4200 < 1048576 by decide⟩)
  have hmk := jn.make_good (fresh_ok (n := m) (by omega) (by omega)) rfl ⟨rfl, rfl⟩
  have hSl : (fresh m).S.length = m := by simp [fresh]
  rw [hSl, show (fresh m).many = 0 from rfl] at hmk
  obtain ⟨s1, hs1⟩ : ∃ s1, (jn.make (fresh m)).2 = s1 := ⟨_, rfl⟩
  rw [hs1] at hmk
  obtain ⟨a1, a2, a3, a4, a5⟩ := hmk
  have HM := Lib.hid (show jn.make (fresh m) = (0, s1) from Prod.ext a1 hs1)
  have HAT := Lib.hid (show jn.On m 0 s1 hd.zero [] from ⟨⟨0, 1, a2, by omega, by omega⟩, a3, by omega⟩)
  have hc2l := hArms.len
  have hc2c := hArms.cap
  have hc2m := hArms.max
  clear hs1 a1 a2 a3 a4 a5 hSl
  go_enter Tryd.func3, Tryd.ntmps3
  go_wp2_with fail
  refine (df_new m (by omega) (by omega) w (Below.refl _ _)).mono ?_
  rintro e w1 ⟨d, F1, rfl, D1⟩
  obtain ⟨p, rfl⟩ := D1.cd.form
  go_wp2_with fail
  refine (jf_make D1 ht HF.out).mono ?_
  rintro e w3 ⟨j, F3, rfl, hj, -, -, -⟩
  have J3 := hj (by rw [HM.out])
  rw [HM.out] at J3 ⊢
  obtain ⟨q, rfl⟩ := J3.form
  have hK0 := KR.nil_ 5 23 w w3 F3
  clear D1 hj HF HM
  go_wp2_with fail
  go_loopw [11, 12, 13, 14] (fun jv fv wv t wr => ∃ (i : Nat) (s : dk.St) (k : hd.H) (was : List (List UInt8)) (F : List Nat) (q : Nat) (vs : List Value), t = .int .i64 i ∧ i ≤ n ∧ i ≤ 30 ∧ jv = .pointer (some ⟨q, 0, none⟩) ∧ fv = .int .i64 0 ∧ JF w wr F (.pointer (some ⟨p, 0, none⟩)) (.pointer (some ⟨q, 0, none⟩)) s ∧ Hid (jn.On m i s k was) ∧ KR 5 23 w wr F wv was vs) (fun _ _ _ t _ => n - (intOf t).toNat)
  case atStart => exact ⟨0, s1, hd.zero, [], F3, q, [], rfl, by omega, by omega, rfl, rfl, J3, HAT, hK0⟩
  case round =>
    clear HAT J3 hK0
    obtain ⟨i, s, k, was, F, q, vs, rfl, hin, hi30, rfl, rfl, J, HAT, K⟩ := hrel
    by_cases hlt : i < n ∧ i < 30
    · obtain ⟨hi1, hi2⟩ := hlt
      have hi1' : (i : Int) < (n : Int) := by omega
      have hi2' : (i : Int) < 30 := by omega
      have hb0 := J.under
      obtain ⟨b, o, rfl, hbl, hcell⟩ := (h.below hb0).has (by omega)
      obtain ⟨q0, q1⟩ := hcell i (by rw [h.len]; exact hi1)
      obtain ⟨y, hy⟩ : ∃ y, l[i]'(by rw [h.len]; exact hi1) = y := ⟨_, rfl⟩
      rw [hy] at q0 q1
      have hyB : BS w y.pA y.pn y.pc y.b := h.ok y (by rw [← hy]; exact List.getElem_mem _)
      have hyA : ∀ z o, y.pA = some ⟨z, o, none⟩ → 0 < y.pn → z < w.heap.size := fun z o' e h0 => by
        obtain ⟨b', o2, e2, hb', _⟩ := hyB.has h0
        rw [e] at e2
        injection e2 with e2
        injection e2 with e2 _
        omega
      obtain ⟨all, pA, pn, pc, yb⟩ := y
      simp only at q0 q1 hyB hyA
      have hcap := hyB.cap
      have hmax := hyB.max
      obtain ⟨mm, hmm⟩ : ∃ mm, min pn 2000 = mm := ⟨_, rfl⟩
      have hm3 : mm ≤ pn ∧ mm ≤ 2000 := by omega
      have hif : (if (2000 : Int) < (pn : Int) then (2000 : Int) else (pn : Int)) = (mm : Int) := by
        split
        · omega
        · omega
      have bD : Below wr.heap.size wr wr.drew := (Chg.drew wr []).below (Nat.le_refl _) (by simp)
      have JD := J.below bD
      have KD := K.below bD
      have hbD : Below w.heap.size w wr.drew := JD.under
      have hB1 : BS w pA mm pc (yb.take mm) := hyB.take hm3.1
      have hb3 : (yb.take mm).length ≤ 2000 := by rw [List.length_take]; omega
      have hA1 : ∀ z o, pA = some ⟨z, o, none⟩ → 0 < mm → z < w.heap.size := fun z o e h0 => hyA z o e (by omega)
      obtain ⟨bb, hbb⟩ : ∃ bb, yb.take mm = bb := ⟨_, rfl⟩
      rw [hbb] at hB1 hb3
      have hbl2 : bb.length = mm := hB1.len
      clear hbb hyB hyA hmm hy hcell hbl
      obtain ⟨arm, harm, harm32⟩ : ∃ arm : Nat, (if i < n2 then ((arms.getD i 0).toNat : Int) % 32 else 0) = (arm : Int) ∧ arm < 32 := by
        by_cases hi : i < n2
        · refine ⟨(arms.getD i 0).toNat % 32, ?_, by omega⟩
          rw [if_pos hi]
          omega
        · exact ⟨0, by rw [if_neg hi]; rfl, by omega⟩
      have hArm : (¬ (i : Int) < (n2 : Int) ∧ arm = 0) ∨ ((i : Int) < (n2 : Int) ∧ ∃ b2 o2 z, A2 = some ⟨b2, o2, none⟩ ∧ wr.drew.cell? ⟨b2, o2 + i, none⟩ = some (bv z) ∧ (z.toNat : Int) % 32 = (arm : Int)) := by
        by_cases hi : i < n2
        · rw [if_pos hi] at harm
          obtain ⟨b2, o2, e, _, hc⟩ := (hArms.below hbD).has (by omega)
          have h1 := hc i (by omega)
          refine .inr ⟨by omega, b2, o2, _, e, h1, ?_⟩
          rw [← harm, List.getD_eq_getElem?_getD, List.getElem?_eq_getElem (by omega)]
          rfl
        · rw [if_neg hi] at harm
          exact .inl ⟨by omega, by omega⟩
      have HARM := Lib.hid hArm
      clear hArm harm
      have hgA := HAT.out.arm (arm : Int) (by omega)
      have HJA := Lib.hid (jf_arm (arm : Int) (by omega) JD)
      rw [hgA.1] at HJA
      have HAT2 := Lib.hid hgA.2
      obtain ⟨sa, hsa⟩ : ∃ sa, (dk.arm s (arm : Int)).2 = sa := ⟨_, rfl⟩
      rw [hsa] at HJA HAT2
      clear hgA hsa HAT K J
      have q0D : wr.drew.cell? ⟨b, o + i * 2, none⟩ = some (.bool all) := q0
      go_wp2_with fail
      go_region
      generalize wr.drew = wd at *
      clear hb0 q0 q1 hif bD
      have hwl := HAT2.out.sizes
      have hbase : w.heap.size ≤ wd.heap.size := hbD.size
      rcases HARM.out with ⟨hia, rfl⟩ | ⟨hia, b2, o2, z, rfl, hcz, hz32⟩
      all_goals
        clear HARM
        go_wp2_with fail
        refine HJA.out.mono ?_
        rintro e wx ⟨FX, rfl, JX, cX, uX⟩
        have KX := KD.chg cX uX
        have hbX : Below w.heap.size w wx := JX.under
        have q0X : wx.cell? ⟨b, o + i * 2, none⟩ = some (.bool all) := by
          have hbt : b < w.heap.size := (h.has (by omega)).elim fun b' h' => h'.elim fun o' h2 => by
            injection h2.1 with e
            injection e with e1 _
            have := h2.2.1
            omega
          obtain ⟨b', o', e, _, hc'⟩ := (h.below hbX).has (by omega)
          injection e with e
          injection e with e1 e2
          subst e1 e2
          have h1 := (hc' i (by rw [h.len]; exact hi1)).1
          obtain ⟨b', o', e, _, hc''⟩ := (h.below hbD).has (by omega)
          injection e with e
          injection e with e1 e2
          subst e1 e2
          have h2 := (hc'' i (by rw [h.len]; exact hi1)).1
          rw [q0D] at h2
          rw [h1, ← h2]
        clear HJA KD JD q0D hbD cX uX
        cases all
        · have HA := Lib.hid (fun W (hb : Below wx.heap.size wx W) => HAT2.out.num (by omega) |>.elim fun c0 h0 => h0.elim fun N0 h1 => jf_append (JX.below hb) ht h1.1 h1.2.1 (HAT2.out.few (by omega)) (hB1.below (hbX.trans (hb.mono hbX.size))) (fun h0 z o e hm => by have h2 := hA1 z o e h0; have h3 := JX.at_ z hm; omega))
          go_wp2_with (at_builtin; refine wp_rows (.tmp 83) (.tmp 84) KX.own KX.nil (by omega) hbX.size rfl rfl rfl rfl ?_; intro A5 c5 w5 o5 b5 f5 z5)
          refine (HA.out _ b5).mono ?_
          rintro e w6 ⟨F6, rfl, J6, c6, u6⟩
          have KX6 := (KX.below b5).chg c6 u6
          have KN6 := (show KR 5 23 w w5 FX (.slice A5 was.length c5) was vs from ⟨o5, fun k hk hm => by have h2 := f5 k hk; have h3 := JX.there k hm; omega, KX.fars, z5⟩).chg c6 u6
          have hD : ∀ k, (Value.slice A5 was.length c5).ownBlock = some k → u13.ownBlock ≠ some k ∧ ∀ x ∈ vs, x.ownBlock ≠ some k := fun k hk => ⟨fun e => by have h2 := f5 k hk; have h3 := (KX.own.lt k e).2; omega, fun x hx e => by have h2 := f5 k hk; have h3 := KR.in_ KX.own x hx k e; omega⟩
          have hlen0 : was.length ≤ 1048576 := by omega
          have hout := HAT2.out.append (by omega) bb (by omega)
          obtain ⟨r, hr⟩ : ∃ r, jn.append sa k bb = r := ⟨_, rfl⟩
          rw [hr] at J6 hout ⊢
          have HOUT := Lib.hid hout
          clear HA o5 b5 f5 z5 c6 u6 hr hout JX KX
          rcases HOUT.out with ⟨s', k', rfl, hOn⟩ | rfl | ⟨s', rfl, hdark, hcr⟩
          · have HON := Lib.hid hOn
            clear HOUT hOn
            have HC := Lib.hid (copy_any pA mm pc bb w6 (hB1.below J6.under) (by omega))
            go_wp2_with fail
            refine HC.out.mono ?_
            rintro e w7 ⟨v7, rfl, o7, b7⟩
            obtain ⟨A7, c7, rfl, -⟩ := o7.form
            have J7 := J6.below b7
            have KX7 := KX6.below b7
            have KN7 := KN6.below b7
            have hs6 : w.heap.size ≤ w6.heap.size := J6.under.size
            have hs7 : w.heap.size ≤ w7.heap.size := J7.under.size
            have o7' := o7.mono hs6
            have hx7 : ∀ g, (Value.slice A7 bb.length c7).ownBlock = some g → g ∉ F6 := fun g hg hm => by
              have h1 := (o7.lt g hg).1
              have h2 := J6.there g hm
              omega
            have hne7 : ∀ g, (Value.slice A7 bb.length c7).ownBlock = some g → (Value.slice A5 was.length c5).ownBlock ≠ some g := fun g hg e => by
              have h1 := (o7.lt g hg).1
              have h2 := (KN6.own.lt g e).2
              omega
            have hF7 := J7.there
            have ba := (Below.refl w7.heap.size w7).alloc (Nat.le_refl _) (.cells #[.slice A7 bb.length c7] 23)
            have bu := J7.under.alloc hs7 (.cells #[.slice A7 bb.length c7] 23)
            clear o7 HC J6 KX6 KN6 hbl2
            go_wp2_with (first
              | (refine wp_bsl (.tmp 91) (v := .slice A7 bb.length c7) rfl rfl rfl rfl ?_)
              | (refine wp_more (.tmp 89) (.tmp 92) KN7.own o7' ⟨A7, c7, rfl⟩ hne7 rfl rfl hlen0 hs7 rfl rfl rfl rfl ?_; intro g cp w8 o8 hg8 hbg8 hat8; have J8 := J7.keep (bu.grown hg8 (by simp; omega) (fun k hk => (KN7.own.lt k hk).1)) (Nat.le_trans ba.size hg8.size) (KN7.same hF7 hg8); have KX8 := (KX7.below ba).grown hg8 hD; have KN8 := KN7.more hF7 hx7 o8 hat8; clear hg8 hat8 o8))
            obtain ⟨FD, D8, hFD⟩ := J8.df
            refine (df_dark D8).mono ?_
            rintro e w9 ⟨rfl, rfl⟩
            clear J7 KX7 KN7 o7' hne7 hx7 ba bu
            have hlt' := HON.out.light
            rw [hlt']
            clear D8 KX8 hD HAT2
            go_wp2_with fail
            have HB := jf_batches J8 hlt'
            rw [show (jn.batches ((0 : Int), s').2 (jn.newest ((0 : Int), s').2).2.1).1 = was ++ [bb] from HON.out.batches] at HB
            refine HB.mono ?_
            rintro e w10 ⟨A10, n10, c10, rfl, hR10, b10⟩
            have J10 := J8.below b10
            have KN10 := KN8.below b10
            have hRN : RS w10 (some ⟨g, 0, none⟩) (was.length + 1) cp (was ++ [bb]) := by
              obtain ⟨AN, cN, e, h5⟩ := KN10.own.rs
              injection e with e1 e2 e3
              subst e1 e3
              rw [← e2] at h5
              exact h5
            have hS := same_rows hR10 hRN
            rw [decide_eq_true rfl] at hS
            have HS := Lib.hid hS
            clear HB J8 KN8 hR10 hRN b10 hS
            go_wp2_with fail
            refine HS.out.mono ?_
            rintro e w11 ⟨rfl, b11⟩
            have J11 := J10.below b11
            have KN11 := KN10.below b11
            clear HS J10 KN10 b11
            go_wp2_with fail
            go_roundw
            case rel => exact ⟨i + 1, s', k', _, F6, q, _, by go_num, by omega, by omega, rfl, rfl, J11, HON, KN11⟩
            case measure => simp [intOf]; omega
          · clear HOUT
            have HC := Lib.hid (copy_any pA mm pc bb w6 (hB1.below J6.under) (by omega))
            go_wp2_with fail
            refine HC.out.mono ?_
            rintro e w7 ⟨v7, rfl, o7, b7⟩
            obtain ⟨A7, c7, rfl, -⟩ := o7.form
            have J7 := J6.below b7
            have KX7 := KX6.below b7
            have KN7 := KN6.below b7
            have hs6 : w.heap.size ≤ w6.heap.size := J6.under.size
            have hs7 : w.heap.size ≤ w7.heap.size := J7.under.size
            have o7' := o7.mono hs6
            have hx7 : ∀ g, (Value.slice A7 bb.length c7).ownBlock = some g → g ∉ F6 := fun g hg hm => by
              have h1 := (o7.lt g hg).1
              have h2 := J6.there g hm
              omega
            have hne7 : ∀ g, (Value.slice A7 bb.length c7).ownBlock = some g → (Value.slice A5 was.length c5).ownBlock ≠ some g := fun g hg e => by
              have h1 := (o7.lt g hg).1
              have h2 := (KN6.own.lt g e).2
              omega
            have hF7 := J7.there
            have ba := (Below.refl w7.heap.size w7).alloc (Nat.le_refl _) (.cells #[.slice A7 bb.length c7] 23)
            have bu := J7.under.alloc hs7 (.cells #[.slice A7 bb.length c7] 23)
            clear o7 HC J6 KX6 KN6 hbl2
            go_wp2_with (first
              | (refine wp_bsl (.tmp 91) (v := .slice A7 bb.length c7) rfl rfl rfl rfl ?_)
              | (refine wp_more (.tmp 89) (.tmp 92) KN7.own o7' ⟨A7, c7, rfl⟩ hne7 rfl rfl hlen0 hs7 rfl rfl rfl rfl ?_; intro g cp w8 o8 hg8 hbg8 hat8; have J8 := J7.keep (bu.grown hg8 (by simp; omega) (fun k hk => (KN7.own.lt k hk).1)) (Nat.le_trans ba.size hg8.size) (KN7.same hF7 hg8); have KX8 := (KX7.below ba).grown hg8 hD; have KN8 := KN7.more hF7 hx7 o8 hat8; clear hg8 hat8 o8))
            obtain ⟨FD, D8, hFD⟩ := J8.df
            refine (df_dark D8).mono ?_
            rintro e w9 ⟨rfl, rfl⟩
            clear J7 KX7 KN7 o7' hne7 hx7 ba bu
            rw [HAT2.out.light]
            clear D8 KN8 hD
            go_wp2_with fail
            have HB := jf_batches J8 HAT2.out.light
            rw [show (jn.batches ((10 : Int), sa).2 (jn.newest ((10 : Int), sa).2).2.1).1 = was from HAT2.out.batches] at HB
            refine HB.mono ?_
            rintro e w10 ⟨A10, n10, c10, rfl, hR10, b10⟩
            have J10 := J8.below b10
            have KX10 := KX8.below b10
            obtain ⟨AN, cN, rfl, hRN⟩ := KX10.own.rs
            have hS := same_rows hR10 hRN
            rw [decide_eq_true rfl] at hS
            have HS := Lib.hid hS
            clear HB J8 KX8 hR10 hRN b10 hS
            go_wp2_with fail
            refine HS.out.mono ?_
            rintro e w11 ⟨rfl, b11⟩
            have J11 := J10.below b11
            have KX11 := KX10.below b11
            clear HS J10 KX10 b11
            go_wp2_with fail
            go_roundw
            case rel => exact ⟨i + 1, sa, k, _, F6, q, _, by go_num, by omega, by omega, rfl, rfl, J11, HAT2.out.mono, KX11⟩
            case measure => simp [intOf]; omega
          · have HCR := Lib.hid hcr
            clear HOUT hcr
            have HC := Lib.hid (copy_any pA mm pc bb w6 (hB1.below J6.under) (by omega))
            go_wp2_with fail
            refine HC.out.mono ?_
            rintro e w7 ⟨v7, rfl, o7, b7⟩
            obtain ⟨A7, c7, rfl, -⟩ := o7.form
            have J7 := J6.below b7
            have KX7 := KX6.below b7
            have KN7 := KN6.below b7
            have hs6 : w.heap.size ≤ w6.heap.size := J6.under.size
            have hs7 : w.heap.size ≤ w7.heap.size := J7.under.size
            have o7' := o7.mono hs6
            have hx7 : ∀ g, (Value.slice A7 bb.length c7).ownBlock = some g → g ∉ F6 := fun g hg hm => by
              have h1 := (o7.lt g hg).1
              have h2 := J6.there g hm
              omega
            have hne7 : ∀ g, (Value.slice A7 bb.length c7).ownBlock = some g → (Value.slice A5 was.length c5).ownBlock ≠ some g := fun g hg e => by
              have h1 := (o7.lt g hg).1
              have h2 := (KN6.own.lt g e).2
              omega
            have hF7 := J7.there
            have ba := (Below.refl w7.heap.size w7).alloc (Nat.le_refl _) (.cells #[.slice A7 bb.length c7] 23)
            have bu := J7.under.alloc hs7 (.cells #[.slice A7 bb.length c7] 23)
            clear o7 HC J6 KX6 KN6 hbl2
            go_wp2_with (first
              | (refine wp_bsl (.tmp 91) (v := .slice A7 bb.length c7) rfl rfl rfl rfl ?_)
              | (refine wp_more (.tmp 89) (.tmp 92) KN7.own o7' ⟨A7, c7, rfl⟩ hne7 rfl rfl hlen0 hs7 rfl rfl rfl rfl ?_; intro g cp w8 o8 hg8 hbg8 hat8; have J8 := J7.keep (bu.grown hg8 (by simp; omega) (fun k hk => (KN7.own.lt k hk).1)) (Nat.le_trans ba.size hg8.size) (KN7.same hF7 hg8); have KX8 := (KX7.below ba).grown hg8 hD; have KN8 := KN7.more hF7 hx7 o8 hat8; clear hg8 hat8 o8))
            obtain ⟨FD, D8, hFD⟩ := J8.df
            refine (df_dark D8).mono ?_
            rintro e w9 ⟨rfl, rfl⟩
            clear J7 KX7 KN7 o7' hne7 hx7 ba bu
            rw [hdark]
            clear hD HAT2
            go_wp2_with fail
            have hI8 : IS w8 A3 n3 c3 picks := hPicks.chg (Chg.of_below J8.under []) (by simp)
            refine (df_crash A3 n3 c3 picks hI8 hP3 D8).mono ?_
            rintro e w10 ⟨F10, rfl, D10, c10, u10⟩
            have cF : Chg w8 w10 F6 := c10.mono (fun k hk => .inl (hFD k hk))
            have uF : Sub w8 F10 F6 := fun k hk => (u10 k hk).imp (hFD k) id
            have KX10 := KX8.chg cF uF
            have KN10 := KN8.chg cF uF
            have hcp := HCR.out picks
            have hop : jn.opens (dk.crash s' picks) = 0 := hcp.elim (fun h => h.elim fun k h => h.opens (by omega)) (fun h => h.elim fun k h => h.opens (by omega))
            have HOP := Lib.hid hop
            clear J8 KX8 KN8 hI8 D8 cF uF c10 u10 HCR hop
            go_wp2_with fail
            refine (jf_open D10 ht).mono ?_
            rintro e w11 ⟨v, F11, rfl, hv, -, b11, u11⟩
            have J11 : JF w w11 F11 _ v (dk.crash s' picks) := hv HOP.out
            obtain ⟨q', rfl⟩ := J11.form
            rw [show jn.opens (dk.crash ((9 : Int), s').2 picks) = 0 from HOP.out]
            have KX11 := KX10.chg (Chg.of_below b11 F10) u11
            have KN11 := KN10.chg (Chg.of_below b11 F10) u11
            clear hv b11 u11 KX10 KN10 D10 HOP
            go_wp2_with fail
            rcases hcp with ⟨kc, hc1⟩ | ⟨kc, hc1⟩
            · have HC1 := Lib.hid hc1
              have HB := jf_batches J11 rfl
              rw [hc1.batches] at HB
              refine HB.mono ?_
              rintro e w12 ⟨A12, n12, c12, rfl, hR12, b12⟩
              have J12 := J11.below b12
              have KX12 := KX11.below b12
              obtain ⟨AN, cN, rfl, hRN⟩ := KX12.own.rs
              have hS := same_rows hR12 hRN
              rw [decide_eq_true rfl] at hS
              have HS := Lib.hid hS
              clear HB J11 KX11 KN11 hR12 hRN b12 hS hc1
              go_wp2_with fail
              refine HS.out.mono ?_
              rintro e w13 ⟨rfl, b13⟩
              have J13 := J12.below b13
              have KX13 := KX12.below b13
              clear HS J12 KX12 b13
              go_wp2_with fail
              go_roundw
              case rel => exact ⟨i + 1, _, kc, _, F11, q', _, by go_num, by omega, by omega, rfl, rfl, J13, HC1, KX13⟩
              case measure => simp [intOf]; omega
            · have HC1 := Lib.hid hc1
              have HB := jf_batches J11 rfl
              rw [hc1.batches] at HB
              refine HB.mono ?_
              rintro e w12 ⟨A12, n12, c12, rfl, hR12, b12⟩
              have J12 := J11.below b12
              have KX12 := KX11.below b12
              have KN12 := KN11.below b12
              obtain ⟨AN, cN, rfl, hRW⟩ := KX12.own.rs
              have hS := same_rows hR12 hRW
              by_cases hw : was ++ [bb] = was
              · rw [decide_eq_true hw] at hS
                have HS := Lib.hid hS
                have HW := Lib.hid hw
                clear HB J11 KX11 KN11 hR12 hRW b12 hS hc1 hw KN12
                go_wp2_with fail
                refine HS.out.mono ?_
                rintro e w13 ⟨rfl, b13⟩
                have J13 := J12.below b13
                have KX13 := KX12.below b13
                clear HS J12 KX12 b13
                go_wp2_with fail
                go_roundw
                case rel => exact ⟨i + 1, _, kc, _, F11, q', _, by go_num, by omega, by omega, rfl, rfl, J13, (by rw [← HW.out]; exact HC1.out : jn.On m (i + 1) _ kc was), KX13⟩
                case measure => simp [intOf]; omega
              · rw [decide_eq_false hw] at hS
                have HS := Lib.hid hS
                clear HB J11 KX11 KN11 hR12 hRW b12 hS hc1 hw KX12
                go_wp2_with fail
                refine HS.out.mono ?_
                rintro e w13 ⟨rfl, b13⟩
                have J13 := J12.below b13
                have KN13 := KN12.below b13
                clear HS J12 KN12 b13
                go_wp2_with fail
                have HB := jf_batches J13 rfl
                rw [HC1.out.batches] at HB
                refine HB.mono ?_
                rintro e w14 ⟨A14, n14, c14, rfl, hR14, b14⟩
                have J14 := J13.below b14
                have KN14 := KN13.below b14
                have hRN : RS w14 (some ⟨g, 0, none⟩) (was.length + 1) cp (was ++ [bb]) := by
                  obtain ⟨AN, cN, e, h5⟩ := KN14.own.rs
                  injection e with e1 e2 e3
                  subst e1 e3
                  rw [← e2] at h5
                  exact h5
                have hS := same_rows hR14 hRN
                rw [decide_eq_true (show (was ++ [bb] : List (List UInt8)) = was ++ [bb] from rfl)] at hS
                have HS := Lib.hid hS
                clear HB J13 KN13 hR14 hRN b14 hS
                go_wp2_with fail
                refine HS.out.mono ?_
                rintro e w15 ⟨rfl, b15⟩
                have J15 := J14.below b15
                have KN15 := KN14.below b15
                clear HS J14 KN14 b15
                go_wp2_with fail
                go_roundw
                case rel => exact ⟨i + 1, _, kc, _, F11, q', _, by go_num, by omega, by omega, rfl, rfl, J15, HC1, KN15⟩
                case measure => simp [intOf]; omega
        · have HA := Lib.hid (fun W (hb : Below wx.heap.size wx W) => HAT2.out.num (by omega) |>.elim fun c0 h0 => h0.elim fun N0 h1 => jf_replace (JX.below hb) ht h1.1 h1.2.1 (HAT2.out.few (by omega)) (hB1.below (hbX.trans (hb.mono hbX.size))) (fun h0 z o e hm => by have h2 := hA1 z o e h0; have h3 := JX.at_ z hm; omega))
          go_wp2_with fail
          refine (HA.out _ (Below.refl _ _)).mono ?_
          rintro e w6 ⟨F6, rfl, J6, c6, u6⟩
          have KX6 := KX.chg c6 u6
          have KN6 := KR.nil_ 5 23 w w6 F6
          have hD : ∀ k, (Value.slice none 0 0).ownBlock = some k → u13.ownBlock ≠ some k ∧ ∀ x ∈ vs, x.ownBlock ≠ some k := fun k hk => by simp [Value.ownBlock] at hk
          have hlen0 : ([] : List (List UInt8)).length ≤ 1048576 := Nat.zero_le _
          have hout := HAT2.out.replace (by omega) bb (by omega)
          obtain ⟨r, hr⟩ : ∃ r, jn.replace sa k bb = r := ⟨_, rfl⟩
          rw [hr] at J6 hout ⊢
          have HOUT := Lib.hid hout
          clear HA c6 u6 hr hout JX KX
          rcases HOUT.out with ⟨s', k', rfl, hOn⟩ | rfl | ⟨s', rfl, hdark, hcr⟩
          · have HON := Lib.hid hOn
            clear HOUT hOn
            have HC := Lib.hid (copy_any pA mm pc bb w6 (hB1.below J6.under) (by omega))
            go_wp2_with fail
            refine HC.out.mono ?_
            rintro e w7 ⟨v7, rfl, o7, b7⟩
            obtain ⟨A7, c7, rfl, -⟩ := o7.form
            have J7 := J6.below b7
            have KX7 := KX6.below b7
            have KN7 := KN6.below b7
            have hs6 : w.heap.size ≤ w6.heap.size := J6.under.size
            have hs7 : w.heap.size ≤ w7.heap.size := J7.under.size
            have o7' := o7.mono hs6
            have hx7 : ∀ g, (Value.slice A7 bb.length c7).ownBlock = some g → g ∉ F6 := fun g hg hm => by
              have h1 := (o7.lt g hg).1
              have h2 := J6.there g hm
              omega
            have hne7 : ∀ g, (Value.slice A7 bb.length c7).ownBlock = some g → (Value.slice none 0 0).ownBlock ≠ some g := fun g hg e => by
              have h1 := (o7.lt g hg).1
              have h2 := (KN6.own.lt g e).2
              omega
            have hF7 := J7.there
            have ba := (Below.refl w7.heap.size w7).alloc (Nat.le_refl _) (.cells #[.slice A7 bb.length c7] 23)
            have bu := J7.under.alloc hs7 (.cells #[.slice A7 bb.length c7] 23)
            clear o7 HC J6 KX6 KN6 hbl2
            go_wp2_with (first
              | (refine wp_bsl (.tmp 91) (v := .slice A7 bb.length c7) rfl rfl rfl rfl ?_)
              | (refine wp_more (.tmp 89) (.tmp 92) KN7.own o7' ⟨A7, c7, rfl⟩ hne7 rfl rfl hlen0 hs7 rfl rfl rfl rfl ?_; intro g cp w8 o8 hg8 hbg8 hat8; have J8 := J7.keep (bu.grown hg8 (by simp; omega) (fun k hk => (KN7.own.lt k hk).1)) (Nat.le_trans ba.size hg8.size) (KN7.same hF7 hg8); have KX8 := (KX7.below ba).grown hg8 hD; have KN8 := KN7.more hF7 hx7 o8 hat8; clear hg8 hat8 o8))
            obtain ⟨FD, D8, hFD⟩ := J8.df
            refine (df_dark D8).mono ?_
            rintro e w9 ⟨rfl, rfl⟩
            clear J7 KX7 KN7 o7' hne7 hx7 ba bu
            have hlt' := HON.out.light
            rw [hlt']
            clear D8 KX8 hD HAT2
            go_wp2_with fail
            have HB := jf_batches J8 hlt'
            rw [show (jn.batches ((0 : Int), s').2 (jn.newest ((0 : Int), s').2).2.1).1 = ([] : List (List UInt8)) ++ [bb] from HON.out.batches] at HB
            refine HB.mono ?_
            rintro e w10 ⟨A10, n10, c10, rfl, hR10, b10⟩
            have J10 := J8.below b10
            have KN10 := KN8.below b10
            have hRN : RS w10 (some ⟨g, 0, none⟩) (([] : List (List UInt8)).length + 1) cp (([] : List (List UInt8)) ++ [bb]) := by
              obtain ⟨AN, cN, e, h5⟩ := KN10.own.rs
              injection e with e1 e2 e3
              subst e1 e3
              rw [← e2] at h5
              exact h5
            have hS := same_rows hR10 hRN
            rw [decide_eq_true rfl] at hS
            have HS := Lib.hid hS
            clear HB J8 KN8 hR10 hRN b10 hS
            go_wp2_with fail
            refine HS.out.mono ?_
            rintro e w11 ⟨rfl, b11⟩
            have J11 := J10.below b11
            have KN11 := KN10.below b11
            clear HS J10 KN10 b11
            go_wp2_with fail
            go_roundw
            case rel => exact ⟨i + 1, s', k', _, F6, q, _, by go_num, by omega, by omega, rfl, rfl, J11, HON, KN11⟩
            case measure => simp [intOf]; omega
          · clear HOUT
            have HC := Lib.hid (copy_any pA mm pc bb w6 (hB1.below J6.under) (by omega))
            go_wp2_with fail
            refine HC.out.mono ?_
            rintro e w7 ⟨v7, rfl, o7, b7⟩
            obtain ⟨A7, c7, rfl, -⟩ := o7.form
            have J7 := J6.below b7
            have KX7 := KX6.below b7
            have KN7 := KN6.below b7
            have hs6 : w.heap.size ≤ w6.heap.size := J6.under.size
            have hs7 : w.heap.size ≤ w7.heap.size := J7.under.size
            have o7' := o7.mono hs6
            have hx7 : ∀ g, (Value.slice A7 bb.length c7).ownBlock = some g → g ∉ F6 := fun g hg hm => by
              have h1 := (o7.lt g hg).1
              have h2 := J6.there g hm
              omega
            have hne7 : ∀ g, (Value.slice A7 bb.length c7).ownBlock = some g → (Value.slice none 0 0).ownBlock ≠ some g := fun g hg e => by
              have h1 := (o7.lt g hg).1
              have h2 := (KN6.own.lt g e).2
              omega
            have hF7 := J7.there
            have ba := (Below.refl w7.heap.size w7).alloc (Nat.le_refl _) (.cells #[.slice A7 bb.length c7] 23)
            have bu := J7.under.alloc hs7 (.cells #[.slice A7 bb.length c7] 23)
            clear o7 HC J6 KX6 KN6 hbl2
            go_wp2_with (first
              | (refine wp_bsl (.tmp 91) (v := .slice A7 bb.length c7) rfl rfl rfl rfl ?_)
              | (refine wp_more (.tmp 89) (.tmp 92) KN7.own o7' ⟨A7, c7, rfl⟩ hne7 rfl rfl hlen0 hs7 rfl rfl rfl rfl ?_; intro g cp w8 o8 hg8 hbg8 hat8; have J8 := J7.keep (bu.grown hg8 (by simp; omega) (fun k hk => (KN7.own.lt k hk).1)) (Nat.le_trans ba.size hg8.size) (KN7.same hF7 hg8); have KX8 := (KX7.below ba).grown hg8 hD; have KN8 := KN7.more hF7 hx7 o8 hat8; clear hg8 hat8 o8))
            obtain ⟨FD, D8, hFD⟩ := J8.df
            refine (df_dark D8).mono ?_
            rintro e w9 ⟨rfl, rfl⟩
            clear J7 KX7 KN7 o7' hne7 hx7 ba bu
            rw [HAT2.out.light]
            clear D8 KN8 hD
            go_wp2_with fail
            have HB := jf_batches J8 HAT2.out.light
            rw [show (jn.batches ((10 : Int), sa).2 (jn.newest ((10 : Int), sa).2).2.1).1 = was from HAT2.out.batches] at HB
            refine HB.mono ?_
            rintro e w10 ⟨A10, n10, c10, rfl, hR10, b10⟩
            have J10 := J8.below b10
            have KX10 := KX8.below b10
            obtain ⟨AN, cN, rfl, hRN⟩ := KX10.own.rs
            have hS := same_rows hR10 hRN
            rw [decide_eq_true rfl] at hS
            have HS := Lib.hid hS
            clear HB J8 KX8 hR10 hRN b10 hS
            go_wp2_with fail
            refine HS.out.mono ?_
            rintro e w11 ⟨rfl, b11⟩
            have J11 := J10.below b11
            have KX11 := KX10.below b11
            clear HS J10 KX10 b11
            go_wp2_with fail
            go_roundw
            case rel => exact ⟨i + 1, sa, k, _, F6, q, _, by go_num, by omega, by omega, rfl, rfl, J11, HAT2.out.mono, KX11⟩
            case measure => simp [intOf]; omega
          · have HCR := Lib.hid hcr
            clear HOUT hcr
            have HC := Lib.hid (copy_any pA mm pc bb w6 (hB1.below J6.under) (by omega))
            go_wp2_with fail
            refine HC.out.mono ?_
            rintro e w7 ⟨v7, rfl, o7, b7⟩
            obtain ⟨A7, c7, rfl, -⟩ := o7.form
            have J7 := J6.below b7
            have KX7 := KX6.below b7
            have KN7 := KN6.below b7
            have hs6 : w.heap.size ≤ w6.heap.size := J6.under.size
            have hs7 : w.heap.size ≤ w7.heap.size := J7.under.size
            have o7' := o7.mono hs6
            have hx7 : ∀ g, (Value.slice A7 bb.length c7).ownBlock = some g → g ∉ F6 := fun g hg hm => by
              have h1 := (o7.lt g hg).1
              have h2 := J6.there g hm
              omega
            have hne7 : ∀ g, (Value.slice A7 bb.length c7).ownBlock = some g → (Value.slice none 0 0).ownBlock ≠ some g := fun g hg e => by
              have h1 := (o7.lt g hg).1
              have h2 := (KN6.own.lt g e).2
              omega
            have hF7 := J7.there
            have ba := (Below.refl w7.heap.size w7).alloc (Nat.le_refl _) (.cells #[.slice A7 bb.length c7] 23)
            have bu := J7.under.alloc hs7 (.cells #[.slice A7 bb.length c7] 23)
            clear o7 HC J6 KX6 KN6 hbl2
            go_wp2_with (first
              | (refine wp_bsl (.tmp 91) (v := .slice A7 bb.length c7) rfl rfl rfl rfl ?_)
              | (refine wp_more (.tmp 89) (.tmp 92) KN7.own o7' ⟨A7, c7, rfl⟩ hne7 rfl rfl hlen0 hs7 rfl rfl rfl rfl ?_; intro g cp w8 o8 hg8 hbg8 hat8; have J8 := J7.keep (bu.grown hg8 (by simp; omega) (fun k hk => (KN7.own.lt k hk).1)) (Nat.le_trans ba.size hg8.size) (KN7.same hF7 hg8); have KX8 := (KX7.below ba).grown hg8 hD; have KN8 := KN7.more hF7 hx7 o8 hat8; clear hg8 hat8 o8))
            obtain ⟨FD, D8, hFD⟩ := J8.df
            refine (df_dark D8).mono ?_
            rintro e w9 ⟨rfl, rfl⟩
            clear J7 KX7 KN7 o7' hne7 hx7 ba bu
            rw [hdark]
            clear hD HAT2
            go_wp2_with fail
            have hI8 : IS w8 A3 n3 c3 picks := hPicks.chg (Chg.of_below J8.under []) (by simp)
            refine (df_crash A3 n3 c3 picks hI8 hP3 D8).mono ?_
            rintro e w10 ⟨F10, rfl, D10, c10, u10⟩
            have cF : Chg w8 w10 F6 := c10.mono (fun k hk => .inl (hFD k hk))
            have uF : Sub w8 F10 F6 := fun k hk => (u10 k hk).imp (hFD k) id
            have KX10 := KX8.chg cF uF
            have KN10 := KN8.chg cF uF
            have hcp := HCR.out picks
            have hop : jn.opens (dk.crash s' picks) = 0 := hcp.elim (fun h => h.elim fun k h => h.opens (by omega)) (fun h => h.elim fun k h => h.opens (by omega))
            have HOP := Lib.hid hop
            clear J8 KX8 KN8 hI8 D8 cF uF c10 u10 HCR hop
            go_wp2_with fail
            refine (jf_open D10 ht).mono ?_
            rintro e w11 ⟨v, F11, rfl, hv, -, b11, u11⟩
            have J11 : JF w w11 F11 _ v (dk.crash s' picks) := hv HOP.out
            obtain ⟨q', rfl⟩ := J11.form
            rw [show jn.opens (dk.crash ((9 : Int), s').2 picks) = 0 from HOP.out]
            have KX11 := KX10.chg (Chg.of_below b11 F10) u11
            have KN11 := KN10.chg (Chg.of_below b11 F10) u11
            clear hv b11 u11 KX10 KN10 D10 HOP
            go_wp2_with fail
            rcases hcp with ⟨kc, hc1⟩ | ⟨kc, hc1⟩
            · have HC1 := Lib.hid hc1
              have HB := jf_batches J11 rfl
              rw [hc1.batches] at HB
              refine HB.mono ?_
              rintro e w12 ⟨A12, n12, c12, rfl, hR12, b12⟩
              have J12 := J11.below b12
              have KX12 := KX11.below b12
              obtain ⟨AN, cN, rfl, hRN⟩ := KX12.own.rs
              have hS := same_rows hR12 hRN
              rw [decide_eq_true rfl] at hS
              have HS := Lib.hid hS
              clear HB J11 KX11 KN11 hR12 hRN b12 hS hc1
              go_wp2_with fail
              refine HS.out.mono ?_
              rintro e w13 ⟨rfl, b13⟩
              have J13 := J12.below b13
              have KX13 := KX12.below b13
              clear HS J12 KX12 b13
              go_wp2_with fail
              go_roundw
              case rel => exact ⟨i + 1, _, kc, _, F11, q', _, by go_num, by omega, by omega, rfl, rfl, J13, HC1, KX13⟩
              case measure => simp [intOf]; omega
            · have HC1 := Lib.hid hc1
              have HB := jf_batches J11 rfl
              rw [hc1.batches] at HB
              refine HB.mono ?_
              rintro e w12 ⟨A12, n12, c12, rfl, hR12, b12⟩
              have J12 := J11.below b12
              have KX12 := KX11.below b12
              have KN12 := KN11.below b12
              obtain ⟨AN, cN, rfl, hRW⟩ := KX12.own.rs
              have hS := same_rows hR12 hRW
              by_cases hw : [bb] = was
              · rw [decide_eq_true hw] at hS
                have HS := Lib.hid hS
                have HW := Lib.hid hw
                clear HB J11 KX11 KN11 hR12 hRW b12 hS hc1 hw KN12
                go_wp2_with fail
                refine HS.out.mono ?_
                rintro e w13 ⟨rfl, b13⟩
                have J13 := J12.below b13
                have KX13 := KX12.below b13
                clear HS J12 KX12 b13
                go_wp2_with fail
                go_roundw
                case rel => exact ⟨i + 1, _, kc, _, F11, q', _, by go_num, by omega, by omega, rfl, rfl, J13, (by rw [← HW.out]; exact HC1.out : jn.On m (i + 1) _ kc was), KX13⟩
                case measure => simp [intOf]; omega
              · rw [decide_eq_false hw] at hS
                have HS := Lib.hid hS
                clear HB J11 KX11 KN11 hR12 hRW b12 hS hc1 hw KX12
                go_wp2_with fail
                refine HS.out.mono ?_
                rintro e w13 ⟨rfl, b13⟩
                have J13 := J12.below b13
                have KN13 := KN12.below b13
                clear HS J12 KN12 b13
                go_wp2_with fail
                have HB := jf_batches J13 rfl
                rw [HC1.out.batches] at HB
                refine HB.mono ?_
                rintro e w14 ⟨A14, n14, c14, rfl, hR14, b14⟩
                have J14 := J13.below b14
                have KN14 := KN13.below b14
                have hRN : RS w14 (some ⟨g, 0, none⟩) (([] : List (List UInt8)).length + 1) cp (([] : List (List UInt8)) ++ [bb]) := by
                  obtain ⟨AN, cN, e, h5⟩ := KN14.own.rs
                  injection e with e1 e2 e3
                  subst e1 e3
                  rw [← e2] at h5
                  exact h5
                have hS := same_rows hR14 hRN
                rw [decide_eq_true (show ([bb] : List (List UInt8)) = ([] : List (List UInt8)) ++ [bb] from rfl)] at hS
                have HS := Lib.hid hS
                clear HB J13 KN13 hR14 hRN b14 hS
                go_wp2_with fail
                refine HS.out.mono ?_
                rintro e w15 ⟨rfl, b15⟩
                have J15 := J14.below b15
                have KN15 := KN14.below b15
                clear HS J14 KN14 b15
                go_wp2_with fail
                go_roundw
                case rel => exact ⟨i + 1, _, kc, _, F11, q', _, by go_num, by omega, by omega, rfl, rfl, J15, HC1, KN15⟩
                case measure => simp [intOf]; omega
    · have hgA := HAT.out.arm 0 (by omega)
      have hi' : ¬ (i : Int) < (n : Int) ∨ ((i : Int) < (n : Int) ∧ ¬ (i : Int) < 30) := by omega
      have HGA := Lib.hid hgA
      clear hgA hlt
      rcases hi' with h1 | ⟨h1, h2⟩
      all_goals
        go_wp2_with fail
        refine (jf_arm 0 (by omega) J).mono ?_
        rintro e wa ⟨FA, rfl, JA, cA, uA⟩
        rw [HGA.out.1]
        have KA := K.chg cA uA
        clear K J cA uA
        go_wp2_with fail
        obtain ⟨FD, D8, hFD⟩ := JA.df
        refine (jf_open D8 ht).mono ?_
        rintro e wo ⟨v, FO, rfl, hv, -, bO, uO⟩
        rw [HGA.out.2.opens (by omega)]
        have JO := hv (HGA.out.2.opens (by omega))
        obtain ⟨qo, rfl⟩ := JO.form
        have KO := KA.below bO
        clear KA JA D8 hFD hv bO uO
        go_wp2_with fail
        have HB := jf_batches JO HGA.out.2.light
        rw [HGA.out.2.batches] at HB
        refine HB.mono ?_
        rintro e wb ⟨A12, n12, c12, rfl, hR12, b12⟩
        have JB := JO.below b12
        have KB := KO.below b12
        obtain ⟨AN, cN, rfl, hRN⟩ := KB.own.rs
        have hS := same_rows hR12 hRN
        rw [decide_eq_true rfl] at hS
        have HS := Lib.hid hS
        clear HB JO KO hR12 hRN b12 hS KB
        go_wp2_with fail
        refine HS.out.mono ?_
        rintro e ws ⟨rfl, bs⟩
        have JS := (JB.below bs).under
        clear HS JB bs
        go_wp2_with fail
        refine (lives07_any _ (ht.below JS)).mono ?_
        rintro e w9 ⟨rfl, b9⟩
        go_wp2_with fail
        go_ret
        exact ⟨rfl, JS.trans (b9.mono JS.size)⟩
end Go.Proofs.YtknndmhkfonfmaaDoor

/-
  cardexlaw07: the walks in the form that the statements' last step wants.
-/
namespace Go.Proofs.YtknndmhkfonfmaaDoor
open Go.RowKit
theorem journalCuts.walk_JournalCuts (x : UInt8) (A : Option Addr) (n c : Nat) (l : List LC) (A2 : Option Addr) (n2 c2 : Nat) (arms : List UInt8) (A3 : Option Addr) (n3 c3 : Nat) (picks : List Int) (w : World)
    (h : LS w A n c l) (hArms : BS w A2 n2 c2 arms) (_ : n2 ≤ 140737488351232) (hPicks : IS w A3 n3 c3 picks) (ht : Tabs w) :
    Calls Tryd.prog 3 #[bv x, .slice A n c, .slice A2 n2 c2, .slice A3 n3 c3] w fun e w' => e = .returned (.bool true) ∧ Below w.heap.size w w' := Go.Proofs.YtknndmhkfonfmaaDoor.walk_JournalCuts x A n c l A2 n2 c2 arms A3 n3 c3 picks w h hArms hPicks ht
end Go.Proofs.YtknndmhkfonfmaaDoor
