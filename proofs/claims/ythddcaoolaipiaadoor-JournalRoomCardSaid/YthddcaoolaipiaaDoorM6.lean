/-
  THE PROGRAM's journal: what the laws want of it. JF w0 w F d j s: in w, which the call that began in w0 has made, j is a journal on the disk d, which is s; all that it writes is in the blocks F, which are the call's own. JW, DW: whatever these blocks are.
-/
import Derived.Test.YthddcaoolaipiaaDoorM2
import Derived.Test.YthddcaoolaipiaaDoorM3
import Derived.Test.YthddcaoolaipiaaDoorM5
import Derived.Test.YthddcaoolaipiaaDoorM1
import Derived.Test.YthddcaoolaipiaaDoorM4
import Derived.Deep.SlicePairs
import Derived.Deep.Slices
import Derived.Laws.AppendOwnNone
import Derived.Test.YthddcaoolaipiaaDoorRows
import Derived.Test.YthddcaoolaipiaaDoorCards
import Derived.Test.YthddcaoolaipiaaDoorTie
import Derived.Deep.DeepHandedRow
import Derived.Lib.LaidTab
namespace Go.Proofs.YthddcaoolaipiaaDoor
open Go.RowKit
/-- a disk of the call's own -/
structure DF (w0 w : World) (F : List Nat) (d : Value) (s : dk.St) : Prop where
  cd : CD w F d s
  under : Below w0.heap.size w0 w
  own : ∀ k ∈ F, w0.heap.size ≤ k
def DW (w0 w : World) (d : Value) (s : dk.St) : Prop := ∃ F, DF w0 w F d s
/-- a journal of the call's own: its struct is in the block p, its disk in Fd; in the light it goes by the newest head -/
def JF (w0 w : World) (F : List Nat) (d j : Value) (s : dk.St) : Prop := ∃ (p : Nat) (Fd : List Nat) (k : hd.H), j = .pointer (some ⟨p, 0, none⟩) ∧ F = p :: Fd ∧ p ∉ Fd ∧ w0.heap.size ≤ p ∧ JM w p d k ∧ DF w0 w Fd d s ∧ jn.Link s k
def JW (w0 w : World) (d j : Value) (s : dk.St) : Prop := ∃ F, JF w0 w F d j s
variable {w0 w w1 w' : World} {F : List Nat} {d j : Value} {s : dk.St}
theorem DF.below (h : DF w0 w F d s) (hb : Below w.heap.size w w') : DF w0 w' F d s := ⟨h.cd.below hb, h.under.trans (hb.mono h.under.size), h.own⟩
theorem DW.below (h : DW w0 w d s) (hb : Below w.heap.size w w') : DW w0 w' d s := h.elim fun F h => ⟨F, h.below hb⟩
theorem DW.form (h : DW w0 w d s) : ∃ p, d = .pointer (some ⟨p, 0, none⟩) := h.elim fun _ h => h.cd.form
theorem DW.under (h : DW w0 w d s) : Below w0.heap.size w0 w := h.elim fun _ h => h.under
theorem dw_step (h : DF w0 w F d s) {F' : List Nat} {s' : dk.St} (hd : CD w' F' d s') (hc : Chg w w' F) (hs : Sub w F' F) : DF w0 w' F' d s' :=
  ⟨hd, ((Chg.of_below (h.under.mono (Nat.le_refl _)) F).trans hc (Sub.refl _ _)).below (Nat.le_refl _) h.own, fun k hk => (hs k hk).elim (h.own k) (fun e => Nat.le_trans h.under.size e)⟩
theorem df_new (n : Nat) (h : 64 ≤ n) (h2 : n ≤ 4096) (w0 : World) (hb : Below w0.heap.size w0 w) : Calls Tryd.prog 6 #[.int .i64 n] w fun e w' => ∃ d F, e = .returned (.tuple #[d, .int .i64 0]) ∧ DF w0 w' F d (fresh n) :=
  (cd_new n h h2).mono fun e w' h => by
    obtain ⟨F, d, h1, h2, h3, h4⟩ := h
    exact ⟨d, F, h1, h2, hb.trans (h3.mono hb.size), fun k hk => Nat.le_trans hb.size (h4 k hk)⟩
theorem dw_new (n : Nat) (h : 64 ≤ n) (h2 : n ≤ 4096) (w0 : World) (hb : Below w0.heap.size w0 w) : Calls Tryd.prog 6 #[.int .i64 n] w fun e w' => ∃ d, e = .returned (.tuple #[d, .int .i64 0]) ∧ DW w0 w' d (fresh n) :=
  (df_new n h h2 w0 hb).mono fun e w' h => by
    obtain ⟨d, F, h1, h2⟩ := h
    exact ⟨d, h1, F, h2⟩
theorem df_dark (h : DF w0 w F d s) : Calls Tryd.prog 12 #[d] w fun e w' => e = .returned (.bool s.black) ∧ w = w' := cd_dark h.cd
theorem df_crash (A : Option Addr) (n cp : Nat) (l : List Int) (hl : IS w A n cp l) (hA : 0 < n → ∀ b o, A = some ⟨b, o, none⟩ → b < w0.heap.size) (h : DF w0 w F d s) : Calls Tryd.prog 13 #[d, .slice A n cp] w fun e w' => ∃ F', e = .returned (.int .i64 0) ∧ DF w0 w' F' d (dk.crash s l) ∧ Chg w w' F ∧ Sub w F' F := by
  refine (cd_crash A n cp l hl (fun h0 b o e hk => by have := hA h0 b o e; have := h.own b hk; omega) h.cd).mono fun e w' h' => ?_
  obtain ⟨F', e1, e2, e3, e4⟩ := h'
  exact ⟨F', e1, dw_step h e2 e3 e4, e3, e4⟩
/-! ### the landed journal -/
theorem JF.df (h : JF w0 w F d j s) : ∃ Fd, DF w0 w Fd d s ∧ ∀ k ∈ Fd, k ∈ F := by
  obtain ⟨p, Fd, k, rfl, rfl, h1, h2, h3, h4, h5⟩ := h
  exact ⟨Fd, h4, fun k hk => List.mem_cons_of_mem _ hk⟩
theorem JF.keep (h : JF w0 w F d j s) (hb : Below w0.heap.size w0 w') (_hs : w.heap.size ≤ w'.heap.size) (hk : Same w w' F) : JF w0 w' F d j s := by
  obtain ⟨p, Fd, k, rfl, rfl, h1, h2, h3, h4, h5⟩ := h
  exact ⟨p, Fd, k, rfl, rfl, h1, h2, (hk p (List.mem_cons_self ..)).trans h3, ⟨h4.cd.keep (hk.sub fun x hx => List.mem_cons_of_mem _ hx), hb, h4.own⟩, h5⟩
theorem JF.there (h : JF w0 w F d j s) : Ther w F := by
  obtain ⟨p, Fd, k, rfl, rfl, h1, h2, h3, h4, h5⟩ := h
  intro x hx
  rcases List.mem_cons.1 hx with rfl | hx
  · exact h3.lt
  · exact h4.cd.there x hx
theorem JF.below (h : JF w0 w F d j s) (hb : Below w.heap.size w w') : JF w0 w' F d j s := by
  have hu : Below w0.heap.size w0 w := by obtain ⟨p, Fd, k, rfl, rfl, h1, h2, h3, h4, h5⟩ := h; exact h4.under
  exact h.keep (hu.trans (hb.mono hu.size)) hb.size (fun x hx => hb.block x (h.there x hx))
theorem JF.form (h : JF w0 w F d j s) : ∃ p, j = .pointer (some ⟨p, 0, none⟩) := by
  obtain ⟨p, Fd, k, rfl, h0⟩ := h
  exact ⟨p, rfl⟩
theorem JF.at_ (h : JF w0 w F d j s) : ∀ k ∈ F, w0.heap.size ≤ k := by
  obtain ⟨p, Fd, k, rfl, rfl, h1, h2, h3, h4, h5⟩ := h
  intro x hx
  rcases List.mem_cons.1 hx with rfl | hx
  · exact h2
  · exact h4.own x hx
/-- behind a call that wrote to the journal and to its disk -/
theorem jf_step {p : Nat} {k' : hd.H} {s' : dk.St} {Fd Fd' : List Nat} (hp : p ∉ Fd) (h2 : w0.heap.size ≤ p) (hpw : p < w.heap.size) (h4 : DF w0 w Fd d s) (hd' : CD w' Fd' d s') (hm : JM w' p d k') (hl : jn.Link s' k') (hc : Chg w w' (p :: Fd)) (hs : Sub w Fd' Fd) :
    JF w0 w' (p :: Fd') d (.pointer (some ⟨p, 0, none⟩)) s' ∧ Sub w (p :: Fd') (p :: Fd) := by
  have hpF : p ∉ Fd' := fun hm => (hs p hm).elim hp (by omega)
  refine ⟨⟨p, Fd', k', rfl, rfl, hpF, h2, hm, ⟨hd', ((Chg.of_below (h4.under.mono (Nat.le_refl _)) (p :: Fd)).trans hc (Sub.refl _ _)).below (Nat.le_refl _) (fun x hx => ?_), fun x hx => ?_⟩, hl⟩, fun x hx => ?_⟩
  · rcases List.mem_cons.1 hx with rfl | hx
    · exact h2
    · exact h4.own x hx
  · exact (hs x hx).elim (h4.own x) (fun e => Nat.le_trans h4.under.size e)
  · rcases List.mem_cons.1 hx with rfl | hx
    · exact .inl (List.mem_cons_self ..)
    · exact (hs x hx).imp (fun e => List.mem_cons_of_mem _ e) id
theorem jf_arm (n : Int) (hn : n ≤ 9223372036854775807) (h : JF w0 w F d j s) : Calls Tryd.prog 8 #[d, .int .i64 n] w fun e w' => ∃ F', e = .returned (.int .i64 (dk.arm s n).1) ∧ JF w0 w' F' d j (dk.arm s n).2 ∧ Chg w w' F ∧ Sub w F' F := by
  obtain ⟨p, Fd, k, rfl, rfl, h1, h2, h3, h4, h5⟩ := h
  refine (cd_arm n hn h4.cd).mono fun e w' h' => ?_
  obtain ⟨F', e1, e2, e3, e4⟩ := h'
  have hm := h3.chg e3 h1
  have hc : Chg w w' (p :: Fd) := e3.mono (fun x hx => .inl (List.mem_cons_of_mem _ hx))
  obtain ⟨g1, g2⟩ := jf_step h1 h2 h3.lt h4 e2 hm (h5.arm n) hc e4
  exact ⟨_, e1, g1, hc, g2⟩
theorem jf_make (h : DF w0 w F d s) (ht : Tabs w0) (hm : s.many + 4200 < 1048576 ∧ s.L.length + 4200 < 1048576) : Calls Tryd.prog 7 #[d] w fun e w' =>
    ∃ v F', e = .returned (.tuple #[v, .int .i64 (jn.make s).1]) ∧ ((jn.make s).1 = 0 → JF w0 w' F' d v (jn.make s).2) ∧ (¬ (jn.make s).1 = 0 → v = .pointer none ∧ DF w0 w' F' d (jn.make s).2) ∧ Chg w w' F ∧ Sub w F' F := by
  obtain ⟨q, hq⟩ := h.cd.form
  have hmk := jn.makeR_make h.cd.ok
  refine (cj_make hq h.cd (ht.below h.under) hm).mono fun e w' h' => ?_
  rw [hmk] at h'
  obtain ⟨v, p, F', e1, e2, e3, e4, e5, e6, e7, e8⟩ := h'
  have hdf := dw_step h e2 e7 e8
  by_cases h0 : (jn.make s).1 = 0
  · obtain ⟨rfl, hj⟩ := e3 h0
    refine ⟨_, p :: F', e1, fun _ => ⟨p, F', hd.zero, rfl, rfl, e6, Nat.le_trans h.under.size e5, hj, hdf, jn.make_link h.cd.ok h0⟩, fun hn => absurd h0 hn, e7, fun x hx => ?_⟩
    rcases List.mem_cons.1 hx with rfl | hx
    · exact .inr e5
    · exact e8 x hx
  · exact ⟨v, F', e1, fun hn => absurd hn h0, fun _ => ⟨e4 h0, hdf⟩, e7, e8⟩
theorem jf_open (h : DF w0 w F d s) (ht : Tabs w0) : Calls Tryd.prog 14 #[d] w fun e w' =>
    ∃ v F', e = .returned (.tuple #[v, .int .i64 (jn.opens s)]) ∧ (jn.opens s = 0 → JF w0 w' F' d v s) ∧ (¬ jn.opens s = 0 → v = .pointer none) ∧ Below w.heap.size w w' ∧ Sub w F' F := by
  obtain ⟨q, hq⟩ := h.cd.form
  refine (cj_open hq h.cd (ht.below h.under)).mono fun e w' h' => ?_
  obtain ⟨v, p, e1, e2, e3, e4, e5⟩ := h'
  by_cases h0 : jn.opens s = 0
  · obtain ⟨rfl, hj⟩ := e2 h0
    have hpF : p ∉ F := fun hm => by have := h.cd.there p hm; omega
    refine ⟨_, p :: F, e1, fun _ => ⟨p, F, _, rfl, rfl, hpF, Nat.le_trans h.under.size e4, hj, h.below e5, jn.open_link h0⟩, fun hn => absurd h0 hn, e5, fun x hx => ?_⟩
    rcases List.mem_cons.1 hx with rfl | hx
    · exact .inr e4
    · exact .inl hx
  · exact ⟨v, F, e1, fun hn => absurd hn h0, e3, e5, Sub.refl _ _⟩
theorem jf_append {c N : Nat} {k : hd.H} {was : List (List UInt8)} (h : JF w0 w F d j s) (ht : Tabs w0) (g : jn.Good s c N k was) (hn : hd.num (N + 1) = true) (hm : s.many + 4200 < 1048576)
    {A : Option Addr} {n cp : Nat} {b : List UInt8} (hB : BS w A n cp b) (_hA : 0 < n → ∀ x o, A = some ⟨x, o, none⟩ → x ∉ F) : Calls Tryd.prog 10 #[j, .slice A n cp] w fun e w' =>
    ∃ F', e = .returned (.int .i64 (jn.append s k b).1) ∧ JF w0 w' F' d j (jn.append s k b).2 ∧ Chg w w' F ∧ Sub w F' F := by
  obtain ⟨p, Fd, k0, rfl, rfl, h1, h2, h3, h4, h5⟩ := h
  obtain ⟨q, hq⟩ := h4.cd.form
  obtain ⟨l1, l2, l3⟩ := h5 g.light
  rw [g.newest] at l1
  simp only at l1
  subst l1
  have hmay := g.fit.may
  have hmy := hd.may_ok hmay
  have hhalf := jn.half_le g.ok
  have h64 := g.ok.some
  have e0 : jn.rd s 0 = s.S.getD 0 dk.zero := jn.rd_sure g.light g.sure (k := 0) (by omega)
  have e1 : jn.rd s 1 = s.S.getD 1 dk.zero := jn.rd_sure g.light g.sure (k := 1) (by omega)
  have hnx : jn.NextOk (jn.rd s 0) (jn.rd s 1) := by rw [e0, e1]; exact g.two.next_ok
  have hcp := jn.count_pos b.length
  rw [← jn.blocks_length] at hcp
  have hr := jn.addR_append g.ok g.sure hmy.1 (fun _ => hnx) b
  refine (cj_append hq h3 h1 h4.cd (ht.below h4.under) hmay g.fits hB ⟨hm, by rw [g.sure]; simp⟩ (fun _ _ hroom => ?_)).mono fun e w' h' => ?_
  · rw [hnx, e0, e1, g.two.newest]
    exact (hd.put_err _ _).2 (by
      rw [hn, Bool.true_and]
      exact jn.may_of hmy.1 (show k.blocks + (jn.blocks b).length ≤ 4096 by omega) (show k.batches + 1 ≤ k.blocks + (jn.blocks b).length by omega))
  · rw [hr] at h'
    obtain ⟨F', r1, r2, r3, r4, r5⟩ := h'
    have hlink : jn.Link (jn.append s k b).2 (if (jn.append s k b).1 = 0 then jn.appendH k b else k) := by
      by_cases hbig : 1048576 < b.length
      · have ea : jn.append s k b = (3, s) := by rw [jn.append, if_pos hbig]
        rw [ea, if_neg (show ¬ (3 : Int) = 0 by decide)]
        exact g.link
      · by_cases hroom : jn.half s < k.blocks + (jn.blocks b).length
        · rw [jn.append_full g b (by omega) hroom, if_neg (show ¬ (10 : Int) = 0 by decide)]
          exact g.link
        · rcases (jn.append_cases g hn b (by omega) (by omega)).2 with ⟨a1, a2, _⟩ | ⟨a1, a2, _⟩
          · rw [if_pos a1]; exact a2.link
          · exact jn.link_dark a2
    obtain ⟨g1, g2⟩ := jf_step h1 h2 h3.lt h4 r2 r3 hlink r4 r5
    exact ⟨_, r1, g1, r4, g2⟩
theorem jf_replace {c N : Nat} {k : hd.H} {was : List (List UInt8)} (h : JF w0 w F d j s) (ht : Tabs w0) (g : jn.Good s c N k was) (hn : hd.num (N + 1) = true) (hm : s.many + 4200 < 1048576)
    {A : Option Addr} {n cp : Nat} {b : List UInt8} (hB : BS w A n cp b) (_hA : 0 < n → ∀ x o, A = some ⟨x, o, none⟩ → x ∉ F) : Calls Tryd.prog 9 #[j, .slice A n cp] w fun e w' =>
    ∃ F', e = .returned (.int .i64 (jn.replace s k b).1) ∧ JF w0 w' F' d j (jn.replace s k b).2 ∧ Chg w w' F ∧ Sub w F' F := by
  obtain ⟨p, Fd, k0, rfl, rfl, h1, h2, h3, h4, h5⟩ := h
  obtain ⟨q, hq⟩ := h4.cd.form
  obtain ⟨l1, l2, l3⟩ := h5 g.light
  rw [g.newest] at l1
  simp only at l1
  subst l1
  have hmay := g.fit.may
  have hmy := hd.may_ok hmay
  have hhalf := jn.half_le g.ok
  have h64 := g.ok.some
  have e0 : jn.rd s 0 = s.S.getD 0 dk.zero := jn.rd_sure g.light g.sure (k := 0) (by omega)
  have e1 : jn.rd s 1 = s.S.getD 1 dk.zero := jn.rd_sure g.light g.sure (k := 1) (by omega)
  have hnx : jn.NextOk (jn.rd s 0) (jn.rd s 1) := by rw [e0, e1]; exact g.two.next_ok
  have hcp := jn.count_pos b.length
  rw [← jn.blocks_length] at hcp
  have hbk2 : (1 - k.bank).toNat ≤ 1 := by rcases jn.bank_cases hmy.1 with e | e <;> rw [e] <;> decide
  have hr := jn.addR_replace g.ok g.sure hmy.1 (fun _ => hnx) b
  refine (cj_replace hq h3 h1 h4.cd (ht.below h4.under) hmay hB ⟨hm, by rw [g.sure]; simp⟩ (fun _ _ hroom => ?_)).mono fun e w' h' => ?_
  · rw [hnx, e0, e1, g.two.newest]
    exact (hd.put_err _ _).2 (by
      rw [hn, Bool.true_and]
      exact jn.may_of (h := jn.replaceH k b) hbk2 (show (jn.blocks b).length ≤ 4096 by omega) (show 1 ≤ (jn.blocks b).length by omega))
  · rw [hr] at h'
    obtain ⟨F', r1, r2, r3, r4, r5⟩ := h'
    have hlink : jn.Link (jn.replace s k b).2 (if (jn.replace s k b).1 = 0 then jn.replaceH k b else k) := by
      by_cases hbig : 1048576 < b.length
      · have ea : jn.replace s k b = (3, s) := by rw [jn.replace, if_pos hbig]
        rw [ea, if_neg (show ¬ (3 : Int) = 0 by decide)]
        exact g.link
      · by_cases hroom : jn.half s < (jn.blocks b).length
        · rw [jn.replace_full g b (by omega) hroom, if_neg (show ¬ (10 : Int) = 0 by decide)]
          exact g.link
        · rcases (jn.replace_cases g hn b (by omega) (by omega)).2 with ⟨a1, a2, _⟩ | ⟨a1, a2, _⟩
          · rw [if_pos a1]; exact a2.link
          · exact jn.link_dark a2
    obtain ⟨g1, g2⟩ := jf_step h1 h2 h3.lt h4 r2 r3 hlink r4 r5
    exact ⟨_, r1, g1, r4, g2⟩
theorem link_may {s : dk.St} {k : hd.H} (h : (jn.newest s).2.1 = k) : hd.may k = true := by
  have hg : ∀ x : dk.Blk, hd.may (hd.get x).2.1 = true := fun x => by
    by_cases h : (hd.get x).2.2 = 0
    · exact (hd.get_num h).2.2
    · rw [(hd.get_err h).2]; rfl
  rw [← h]
  unfold jn.newest hd.newest
  split
  · rfl
  · split
    · exact hg _
    · exact hg _
theorem jf_batches (h : JF w0 w F d j s) (hl : s.black = false) : Calls Tryd.prog 16 #[j] w fun e w' =>
    ∃ A n c, e = .returned (.slice A n c) ∧ RS w' A n c (jn.batches s (jn.newest s).2.1).1 ∧ Below w.heap.size w w' := by
  obtain ⟨p, Fd, k, rfl, rfl, h1, h2, h3, h4, h5⟩ := h
  obtain ⟨q, hq⟩ := h4.cd.form
  obtain ⟨l1, l2, l3⟩ := h5 hl
  rw [l1]
  refine (cj_batches0 hq h3 h4.cd (link_may l1) l2 hl).mono fun e w' h' => ?_
  obtain ⟨A, n, c, e1, e2, _, e3⟩ := h'
  exact ⟨A, n, c, e1, e2 l3, e3⟩
theorem jf_room (h : JF w0 w F d j s) (hl : s.black = false) : Calls Tryd.prog 18 #[j] w fun e w' =>
    e = .returned (.int .i64 ((jn.half s : Int) - ((jn.newest s).2.1.blocks : Int))) ∧ Below w.heap.size w w' := by
  obtain ⟨p, Fd, k, rfl, rfl, h1, h2, h3, h4, h5⟩ := h
  obtain ⟨q, hq⟩ := h4.cd.form
  obtain ⟨l1, l2, l3⟩ := h5 hl
  rw [l1]
  exact cj_room hq h3 h4.cd (link_may l1)
theorem jf_head (h : JF w0 w F d j s) (hl : s.black = false) : Calls Tryd.prog 20 #[j] w fun e w' =>
    e = .returned (hd.val (jn.newest s).2.1) ∧ Below w.heap.size w w' := by
  obtain ⟨p, Fd, k, rfl, rfl, h1, h2, h3, h4, h5⟩ := h
  obtain ⟨q, hq⟩ := h4.cd.form
  obtain ⟨l1, l2, l3⟩ := h5 hl
  rw [l1]
  exact cj_head hq h3
/-! ### whatever the blocks are -/
theorem JF.under (h : JF w0 w F d j s) : Below w0.heap.size w0 w := h.df.elim fun _ h => h.1.under
theorem JW.dw (h : JW w0 w d j s) : DW w0 w d s := h.elim fun _ h => h.df.elim fun Fd h => ⟨Fd, h.1⟩
theorem JW.below (h : JW w0 w d j s) (hb : Below w.heap.size w w') : JW w0 w' d j s := h.elim fun F h => ⟨F, h.below hb⟩
theorem JW.form (h : JW w0 w d j s) : ∃ p, j = .pointer (some ⟨p, 0, none⟩) := h.elim fun _ h => h.form
theorem jw_make (h : DW w0 w d s) (ht : Tabs w0) (hm : s.many + 4200 < 1048576 ∧ s.L.length + 4200 < 1048576) : Calls Tryd.prog 7 #[d] w fun e w' =>
    ∃ v, e = .returned (.tuple #[v, .int .i64 (jn.make s).1]) ∧ ((jn.make s).1 = 0 → JW w0 w' d v (jn.make s).2) ∧ (¬ (jn.make s).1 = 0 → v = .pointer none) ∧ DW w0 w' d (jn.make s).2 := by
  obtain ⟨F, h⟩ := h
  refine (jf_make h ht hm).mono fun e w' h' => ?_
  obtain ⟨v, F', e1, e2, e3, _⟩ := h'
  refine ⟨v, e1, fun h0 => ⟨F', e2 h0⟩, fun h0 => (e3 h0).1, ?_⟩
  by_cases h0 : (jn.make s).1 = 0
  · exact JW.dw ⟨F', e2 h0⟩
  · exact ⟨F', (e3 h0).2⟩
theorem jw_open (h : DW w0 w d s) (ht : Tabs w0) : Calls Tryd.prog 14 #[d] w fun e w' =>
    ∃ v, e = .returned (.tuple #[v, .int .i64 (jn.opens s)]) ∧ (jn.opens s = 0 → JW w0 w' d v s) ∧ (¬ jn.opens s = 0 → v = .pointer none) ∧ DW w0 w' d s := by
  obtain ⟨F, h⟩ := h
  refine (jf_open h ht).mono fun e w' h' => ?_
  obtain ⟨v, F', e1, e2, e3, e4, _⟩ := h'
  exact ⟨v, e1, fun h0 => ⟨F', e2 h0⟩, e3, F, h.below e4⟩
theorem jw_append {c N : Nat} {k : hd.H} {was : List (List UInt8)} (h : JW w0 w d j s) (ht : Tabs w0) (g : jn.Good s c N k was) (hn : hd.num (N + 1) = true) (hm : s.many + 4200 < 1048576) (hb : Below w.heap.size w w1)
    {A : Option Addr} {n cp : Nat} {b : List UInt8} (hB : BS w1 A n cp b) (hA : 0 < n → ∀ x o, A = some ⟨x, o, none⟩ → x < w0.heap.size ∨ w.heap.size ≤ x) : Calls Tryd.prog 10 #[j, .slice A n cp] w1 fun e w' =>
    e = .returned (.int .i64 (jn.append s k b).1) ∧ JW w0 w' d j (jn.append s k b).2 := by
  obtain ⟨F, h⟩ := h
  refine (jf_append (h.below hb) ht g hn hm hB (fun h0 x o e hk => by have := h.there x hk; have := h.at_ x hk; have := hA h0 x o e; omega)).mono fun e w' h' => ?_
  obtain ⟨F', e1, e2, _⟩ := h'
  exact ⟨e1, F', e2⟩
theorem jw_replace {c N : Nat} {k : hd.H} {was : List (List UInt8)} (h : JW w0 w d j s) (ht : Tabs w0) (g : jn.Good s c N k was) (hn : hd.num (N + 1) = true) (hm : s.many + 4200 < 1048576) (hb : Below w.heap.size w w1)
    {A : Option Addr} {n cp : Nat} {b : List UInt8} (hB : BS w1 A n cp b) (hA : 0 < n → ∀ x o, A = some ⟨x, o, none⟩ → x < w0.heap.size ∨ w.heap.size ≤ x) : Calls Tryd.prog 9 #[j, .slice A n cp] w1 fun e w' =>
    e = .returned (.int .i64 (jn.replace s k b).1) ∧ JW w0 w' d j (jn.replace s k b).2 := by
  obtain ⟨F, h⟩ := h
  refine (jf_replace (h.below hb) ht g hn hm hB (fun h0 x o e hk => by have := h.there x hk; have := h.at_ x hk; have := hA h0 x o e; omega)).mono fun e w' h' => ?_
  obtain ⟨F', e1, e2, _⟩ := h'
  exact ⟨e1, F', e2⟩
theorem jw_batches (h : JW w0 w d j s) (hl : s.black = false) : Calls Tryd.prog 16 #[j] w fun e w' =>
    ∃ A n c, e = .returned (.slice A n c) ∧ RS w' A n c (jn.batches s (jn.newest s).2.1).1 ∧ Below w.heap.size w w' := h.elim fun _ h => jf_batches h hl
theorem jw_room (h : JW w0 w d j s) (hl : s.black = false) : Calls Tryd.prog 18 #[j] w fun e w' =>
    e = .returned (.int .i64 ((jn.half s : Int) - ((jn.newest s).2.1.blocks : Int))) ∧ Below w.heap.size w w' := h.elim fun _ h => jf_room h hl
theorem jw_head (h : JW w0 w d j s) (hl : s.black = false) : Calls Tryd.prog 20 #[j] w fun e w' =>
    e = .returned (hd.val (jn.newest s).2.1) ∧ Below w.heap.size w w' := h.elim fun _ h => jf_head h hl
end Go.Proofs.YthddcaoolaipiaaDoor

/-
  PURE: what lives does.
-/
namespace Go.Proofs.YthddcaoolaipiaaDoor
open Go.RowKit
namespace jn
theorem opens_fresh {n : Nat} (h : 64 ≤ n) : opens (fresh n) = 5 := by
  have hr : ∀ k : Nat, k < n → rd (fresh n) (k : Int) = dk.zero := fun k hk => by
    refine (rd_sure rfl rfl (by simpa [fresh] using hk)).trans ?_
    show (List.replicate n dk.zero).getD k dk.zero = dk.zero
    rw [List.getD_eq_getElem?_getD, List.getElem?_replicate, if_pos hk]
    rfl
  have e : jn.newest (fresh n) = (0, hd.zero, 7) := by
    have e0 : rd (fresh n) 0 = dk.zero := hr 0 (by omega)
    have e1 : rd (fresh n) 1 = dk.zero := hr 1 (by omega)
    rw [jn.newest, e0, e1]
    exact newest_zero
  unfold jn.opens
  rw [e, if_neg (show ¬ ((fresh n).black = true) from fun h => Bool.noConfusion h), if_pos (.inl (by simp))]
structure Lived (s1 s2 s3 s4 : St) : Prop where
  e1 : make (fresh 66) = (0, s1)
  g1 : Good s1 0 1 hd.zero []
  m1 : s1.many + 4200 < 1048576
  h1 : half s1 = 32
  e2 : append s1 hd.zero (List.replicate 125 0) = (0, s2)
  g2 : Good s2 1 2 ⟨0, 2, 1⟩ [List.replicate 125 0]
  m2 : s2.many + 4200 < 1048576
  e3 : append s2 ⟨0, 2, 1⟩ [] = (0, s3)
  g3 : Good s3 0 3 ⟨0, 3, 2⟩ [List.replicate 125 0, []]
  m3 : s3.many + 4200 < 1048576
  h3 : half s3 = 32
  e4 : replace s3 ⟨0, 3, 2⟩ [1, 2, 3] = (0, s4)
  g4 : Good s4 1 4 ⟨1, 1, 1⟩ [[1, 2, 3]]
  m4 : s4.many + 4200 < 1048576
  h4 : half s4 = 32
  e5 : append s4 ⟨1, 1, 1⟩ (List.replicate 3968 0) = (10, s4)
theorem blocks_many (b : List UInt8) {k : Nat} (h : count (b.length + 4) = k) : (blocks b).length = k := (blocks_length b).trans h
theorem lived : ∃ s1 s2 s3 s4, Lived s1 s2 s3 s4 := by
  have hf : (fresh 66).S.length = 66 := rfl
  obtain ⟨a1, a2, a3, a4, a5⟩ := make_good (fresh_ok (n := 66) (by omega) (by omega)) rfl ⟨rfl, rfl⟩
  have n0 : (fresh 66).many = 0 := rfl
  rw [n0] at a4
  rw [hf] at a3
  obtain ⟨s1, hs1⟩ : ∃ s1, (make (fresh 66)).2 = s1 := ⟨_, rfl⟩
  rw [hs1] at a2 a3 a4 a5
  have e1 : make (fresh 66) = (0, s1) := Prod.ext a1 hs1
  have h1 : half s1 = 32 := by unfold half; rw [a3]
  have l1 := blocks_many (List.replicate 125 0) (k := 2) (by rw [List.length_replicate]; rfl)
  obtain ⟨b1, b2, b3, b4, b5⟩ := append_calm a2 a5 (by decide) (List.replicate 125 0) (by rw [List.length_replicate]; omega) (by rw [l1, h1]; decide)
  have k1 : appendH hd.zero (List.replicate 125 0) = ⟨0, 2, 1⟩ := by unfold appendH; rw [l1]; rfl
  rw [k1] at b2
  rw [l1, a4] at b4
  rw [a3] at b3
  obtain ⟨s2, hs2⟩ : ∃ s, (append s1 hd.zero (List.replicate 125 0)).2 = s := ⟨_, rfl⟩
  rw [hs2] at b2 b3 b4 b5
  have h2 : half s2 = 32 := by unfold half; rw [b3]
  have l2 := blocks_many [] (k := 1) rfl
  obtain ⟨c1, c2, c3, c4, c5⟩ := append_calm b2 b5 (by decide) [] (by decide) (by rw [l2, h2]; decide)
  have k2 : appendH ⟨0, 2, 1⟩ [] = ⟨0, 3, 2⟩ := by unfold appendH; rw [l2]
  rw [k2] at c2
  rw [l2, b4] at c4
  rw [b3] at c3
  obtain ⟨s3, hs3⟩ : ∃ s, (append s2 ⟨0, 2, 1⟩ []).2 = s := ⟨_, rfl⟩
  rw [hs3] at c2 c3 c4 c5
  have h3 : half s3 = 32 := by unfold half; rw [c3]
  have l3 := blocks_many [1, 2, 3] (k := 1) rfl
  obtain ⟨d1, d2, d3, d4, d5⟩ := replace_calm c2 c5 (by decide) [1, 2, 3] (by decide) (by rw [l3, h3]; decide)
  have k3 : replaceH ⟨0, 3, 2⟩ [1, 2, 3] = ⟨1, 1, 1⟩ := by unfold replaceH; rw [l3]; rfl
  rw [k3] at d2
  rw [l3, c4] at d4
  rw [c3] at d3
  obtain ⟨s4, hs4⟩ : ∃ s, (replace s3 ⟨0, 3, 2⟩ [1, 2, 3]).2 = s := ⟨_, rfl⟩
  rw [hs4] at d2 d3 d4 d5
  have h4 : half s4 = 32 := by unfold half; rw [d3]
  have l4 := blocks_many (List.replicate 3968 0) (k := 32) (by rw [List.length_replicate]; rfl)
  refine ⟨s1, s2, s3, s4, e1, a2, by rw [a4]; decide, h1, Prod.ext b1 hs2, b2, by rw [b4]; decide, Prod.ext c1 hs3, c2, by rw [c4]; decide, h3, Prod.ext d1 hs4, d2, by rw [d4]; decide, h4, ?_⟩
  exact append_full d2 _ (by rw [List.length_replicate]; omega) (by rw [l4, h4]; decide)
end jn
end Go.Proofs.YthddcaoolaipiaaDoor

/-
  cardexlaw07: lives.
-/
namespace Go.Proofs.YthddcaoolaipiaaDoor
open Go.RowKit
set_option maxHeartbeats 4000000 in
set_option maxRecDepth 100000 in
theorem lives07_any (w : World) (ht : Tabs w) : Calls Tryd.prog 17 #[] w fun e w' => e = .returned (.bool true) ∧ Below w.heap.size w w' := by
  obtain ⟨i0, hi, hz0, hz1, hz2⟩ := info_parts info_u8
  obtain ⟨s1, s2, s3, s4, L⟩ := jn.lived
  have HOP := Lib.hid (jn.opens_fresh (n := 66) (by omega))
  have HL := Lib.hid L
  have HF := Lib.hid (show (fresh 66).many + 4200 < 1048576 ∧ (fresh 66).L.length + 4200 < 1048576 from ⟨by decide, by decide⟩)
  clear L
  have hmk : ∀ W, (Instr.makeSlice 23 (.int .i64 125) (.int .i64 125)).run Tryd.prog W = .ok (.slice (some ⟨W.heap.size, 0, none⟩) 125 125) (W.alloc (.cells (zeroB 125) 5)) := fun W => run_make_bytes (P := Tryd.prog) 23 5 i0 Tryd.underlying23 hi hz0 hz1 hz2 .i64 .i64 125 (by omega) W
  have hmk2 : ∀ W, (Instr.makeSlice 23 (.int .i64 3968) (.int .i64 3968)).run Tryd.prog W = .ok (.slice (some ⟨W.heap.size, 0, none⟩) 3968 3968) (W.alloc (.cells (zeroB 3968) 5)) := fun W => run_make_bytes (P := Tryd.prog) 23 5 i0 Tryd.underlying23 hi hz0 hz1 hz2 .i64 .i64 3968 (by omega) W
  have hfd : ∀ W, (Instr.field 51 (hd.val ⟨1, 1, 1⟩) 0).run Tryd.prog W = .ok (.int .u8 1) W := fun _ => by kernel_rfl
  go_enter Tryd.func17, Tryd.ntmps17
  go_wp2_with fail
  refine (dw_new 66 (by omega) (by omega) w (Below.refl _ _)).mono ?_
  rintro e w1 ⟨d, rfl, D1⟩
  obtain ⟨p, rfl⟩ := D1.form
  go_wp2_with fail
  refine (jw_open D1 ht).mono ?_
  rintro e w2 ⟨v, rfl, -, hv, D2⟩
  obtain rfl := hv (by rw [HOP.out]; decide)
  rw [HOP.out]
  clear D1 hv
  go_wp2_with fail
  refine (jw_make D2 ht HF.out).mono ?_
  rintro e w3 ⟨j, rfl, hj, -, -⟩
  have J3 := hj (by rw [HL.out.e1])
  rw [HL.out.e1] at J3 ⊢
  obtain ⟨q, rfl⟩ := J3.form
  clear D2 hj
  go_wp2_with fail
  refine (jw_room J3 HL.out.g1.light).mono ?_
  rintro e w4 ⟨rfl, b4⟩
  have J4 := J3.below b4
  rw [HL.out.g1.newest, HL.out.h1, show ((32 : Nat) : Int) - (((0 + 1, hd.zero, (0 : Int)) : Nat × hd.H × Int).2.1.blocks : Int) = 32 from rfl]
  clear J3
  have hB4 : BS (w4.alloc (.cells (zeroB 125) 5)) (some ⟨w4.heap.size, 0, none⟩) 125 125 (List.replicate 125 0) := by
    have h := ((zeroB_row w4 5 125).own_all (base := 0) (Nat.zero_le _) (by simp)).bs
    simpa using h
  have H5 := Lib.hid (jw_append J4 ht HL.out.g1 (by decide) HL.out.m1 ((Below.refl _ _).alloc (Nat.le_refl _) (.cells (zeroB 125) 5)) hB4 (fun _ x o e => by injection e with e; injection e with e _; exact .inr (by omega)))
  clear hB4 J4 b4
  go_wp2_with fail
  refine H5.out.mono ?_
  rintro e w5 ⟨rfl, J5⟩
  rw [HL.out.e2] at J5 ⊢
  clear H5
  go_wp2_with fail
  refine (jw_append J5 ht HL.out.g2 (by decide) HL.out.m2 (Below.refl _ _) (BS.nil_ w5) (fun _ x o e => by cases e)).mono ?_
  rintro e w6 ⟨rfl, J6⟩
  rw [HL.out.e3] at J6 ⊢
  clear J5
  go_wp2_with fail
  refine (jw_room J6 HL.out.g3.light).mono ?_
  rintro e w7 ⟨rfl, b7⟩
  have J7 := J6.below b7
  rw [HL.out.g3.newest, HL.out.h3]
  clear J6
  have hB7 : BS (w7.alloc (.cells #[.int .u8 1, .int .u8 2, .int .u8 3] 5)) (some ⟨w7.heap.size, 0, none⟩) 3 3 [1, 2, 3] := BS.lit w7 5 [1, 2, 3] _ rfl 3 rfl (by omega)
  have H8 := Lib.hid (jw_replace J7 ht HL.out.g3 (by decide) HL.out.m3 ((Below.refl _ _).alloc (Nat.le_refl _) (.cells #[.int .u8 1, .int .u8 2, .int .u8 3] 5)) hB7 (fun _ x o e => by injection e with e; injection e with e _; exact .inr (by omega)))
  clear hB7 J7 b7
  go_wp2_with fail
  refine H8.out.mono ?_
  rintro e w8 ⟨rfl, J8⟩
  rw [HL.out.e4] at J8 ⊢
  clear H8
  go_wp2_with fail
  refine (jw_batches J8 HL.out.g4.light).mono ?_
  rintro e w9 ⟨A, n, c, rfl, hR, b9⟩
  have J9 := J8.below b9
  rw [HL.out.g4.newest] at hR
  simp only at hR
  rw [HL.out.g4.batches] at hR
  have hn := hR.len
  have hc := hR.cap
  simp only [List.length_cons, List.length_nil] at hn
  obtain rfl : n = 1 := by omega
  obtain ⟨xb, xo, rfl, -⟩ := hR.has (by omega)
  obtain ⟨Z, zc, hz, hZ⟩ := rs_at hR (i := 0) (by omega)
  change w9.cell? ⟨xb, xo, none⟩ = some (.slice Z 3 zc) at hz
  change BS w9 Z 3 zc [1, 2, 3] at hZ
  have ba : Below w9.heap.size w9 (w9.alloc (.cells #[.int .u8 1, .int .u8 2, .int .u8 3] 5)) := (Below.refl _ _).alloc (Nat.le_refl _) _
  have J10 := J9.below ba
  have HS := Lib.hid (same_true _ _ _ _ _ _ [1, 2, 3] (w9.alloc (.cells #[.int .u8 1, .int .u8 2, .int .u8 3] 5)) (hZ.below ba) (BS.lit w9 5 [1, 2, 3] _ rfl 3 rfl (by omega)))
  clear J9 b9 hR hn hZ J8
  go_wp2_with fail
  refine HS.out.mono ?_
  rintro e w10 ⟨rfl, rfl⟩
  clear HS
  generalize w9.alloc (.cells #[.int .u8 1, .int .u8 2, .int .u8 3] 5) = W at *
  clear ba hz
  go_wp2_with fail
  refine (jw_room J10 HL.out.g4.light).mono ?_
  rintro e w11 ⟨rfl, b11⟩
  have J11 := J10.below b11
  rw [HL.out.g4.newest, HL.out.h4, show ((32 : Nat) : Int) - (((1 : Nat) : Int)) = 31 from rfl]
  clear J10 b11
  go_wp2_with fail
  refine (jw_head J11 HL.out.g4.light).mono ?_
  rintro e w12 ⟨rfl, b12⟩
  have J12 := J11.below b12
  rw [HL.out.g4.newest]
  clear J11 b12
  have hB13 : BS (w12.alloc (.cells (zeroB 3968) 5)) (some ⟨w12.heap.size, 0, none⟩) 3968 3968 (List.replicate 3968 0) := by
    have h := ((zeroB_row w12 5 3968).own_all (base := 0) (Nat.zero_le _) (by simp)).bs
    simpa using h
  have H13 := Lib.hid (jw_append J12 ht HL.out.g4 (by decide) HL.out.m4 ((Below.refl _ _).alloc (Nat.le_refl _) (.cells (zeroB 3968) 5)) hB13 (fun _ x o e => by injection e with e; injection e with e _; exact .inr (by omega)))
  clear hB13 J12
  generalize zeroB 3968 = zb at *
  go_wp2_with fail
  refine H13.out.mono ?_
  rintro e w14 ⟨rfl, J14⟩
  rw [HL.out.e5] at J14 ⊢
  go_wp2_with fail
  go_ret
  exact ⟨rfl, J14.dw.under⟩
end Go.Proofs.YthddcaoolaipiaaDoor

/-
  what the laws of the journal are given: batches to lay.
-/
namespace Go.Proofs.YthddcaoolaipiaaDoor
open Go.ChangeShapes Go.WideShapes Go.ChangeAt Go.RowKit
set_option maxRecDepth 100000 in
/-- a slice of bytes by its cell, whatever its bulk -/
theorem open_bytes_cell {H : Type} {enc : TypeId × Value → H} {W : World} {fuel : Nat} {cs : List Value} {d : DataW H} {pl : List MemPlace} (h : DataW.trod enc Tryd.prog W 0 (fun _ => true) true fuel 23 cs = some (d, pl)) (hw : ∀ n ∈ d.weights Tryd.prog 23, n ≤ reachBytes) :
    ∃ A n c l, cs = [.slice A n c] ∧ BS W A n c l ∧ n ≤ 140737488351232 := by
  have hrb : reachBytes = 140737488351232 := by decide
  have b8 : Tryd.prog.bytesOf 5 = 1 := by kernel_rfl
  rcases open_ints Tryd.underlying23 Tryd.underlying5 (by kernel_rfl) h with ⟨hcs, hx⟩ | ⟨a, len, cap, zs, hcs, _, hl, hm, hz, hx, hcell, hwz⟩
  · exact ⟨none, 0, 0, [], hcs, ⟨rfl, Nat.le_refl _, by omega, by omega, fun h => absurd h (by omega)⟩, by omega⟩
  · simp only [if_true] at hz
    simp only [Prod.mk.injEq] at hx
    obtain ⟨rfl, rfl⟩ := hx
    simp only [DataW.weights, Tryd.underlying23, b8] at hw
    have h1 := hw _ (List.mem_cons_self ..)
    simp only [lits, List.length_map, List.length_take, List.length_drop, hz, hrb] at h1
    have hlen : len ≤ 140737488351232 := by omega
    obtain ⟨l, hll, hB⟩ := bs_of_row (A := some a) hl hm hz hwz (fun e => by cases e) (fun a' ha i hi => by
      injection ha with ha
      subst ha
      exact hcell i (by omega)) (by omega)
    exact ⟨some a, len, cap, l, hcs, hB, hlen⟩
/-- a batch to lay: in the place of all?, its bytes -/
structure LC where
  all : Bool
  pA : Option Addr
  pn : Nat
  pc : Nat
  b : List UInt8
instance : Inhabited LC := ⟨⟨false, none, 0, 0, []⟩⟩
/-- THE SLICE OF BATCHES '.slice A n c' READS AS l IN w. -/
structure LS (w : World) (A : Option Addr) (n c : Nat) (l : List LC) : Prop where
  len : l.length = n
  cap : n ≤ c
  max : c ≤ 9223372036854775807
  ok : ∀ x ∈ l, BS w x.pA x.pn x.pc x.b
  has : 0 < n → ∃ b o, A = some ⟨b, o, none⟩ ∧ b < w.heap.size ∧ ∀ i (h : i < l.length), w.cell? ⟨b, o + i * 2, none⟩ = some (.bool l[i].all) ∧ w.cell? ⟨b, o + i * 2 + 1, none⟩ = some (.slice l[i].pA l[i].pn l[i].pc)
theorem LS.below {w w' : World} {A : Option Addr} {n c : Nat} {l : List LC} (h : LS w A n c l) (hb : Below w.heap.size w w') : LS w' A n c l :=
  ⟨h.len, h.cap, h.max, fun x hx => (h.ok x hx).below hb, fun hn => by
    obtain ⟨b, o, e, hbl, hc⟩ := h.has hn
    refine ⟨b, o, e, Nat.lt_of_lt_of_le hbl hb.size, fun i hi => ?_⟩
    obtain ⟨h1, h2⟩ := hc i hi
    exact ⟨(hb.cell (p := ⟨b, o + i * 2, none⟩) hbl).trans h1, (hb.cell (p := ⟨b, o + i * 2 + 1, none⟩) hbl).trans h2⟩⟩
set_option maxRecDepth 100000 in
theorem open_lays {H : Type} {enc : TypeId × Value → H} {W : World} {base : Nat} {v : Value} {d : DataW H} {ps : List MemPlace}
    (hval : Value.okWide Tryd.prog W .any base 22 v) (h : DataW.Trod enc Tryd.prog W 0 (fun _ => true) true 22 v d ps) (hw : ∀ n ∈ d.weights Tryd.prog 22, n ≤ reachBytes) :
    ∃ A n c l, v = .slice A n c ∧ LS W A n c l := by
  obtain ⟨a0, len, cap, rfl⟩ := okWide_slice Tryd.underlying22 hval
  obtain ⟨fuel, hf⟩ := h
  rcases Deep.open_slice_pairs Tryd.underlying22 Tryd.underlying34 (by kernel_rfl) (by kernel_rfl) (by kernel_rfl) (by kernel_rfl) (by kernel_rfl) hf with ⟨hcs, hx⟩ | ⟨a, len', cap', m, n, V0, V1, D0, D1, P0, P1, hcs, _, hl, hm, hmm, hx, hr⟩
  · simp [Value.cells] at hcs
    obtain ⟨rfl, rfl, rfl⟩ := hcs
    exact ⟨none, 0, 0, [], rfl, rfl, Nat.le_refl _, by omega, by simp, fun h => absurd h (by omega)⟩
  · simp [Value.cells] at hcs
    obtain ⟨rfl, rfl, rfl⟩ := hcs
    simp only [if_true] at hmm
    have hmm' := hmm.symm
    subst hmm'
    simp only [Prod.mk.injEq] at hx
    obtain ⟨rfl, rfl⟩ := hx
    rw [maxLen_eq] at hm
    simp only [DataW.weights, Tryd.underlying22] at hw
    have each : ∀ i, i < len → ∃ y : LC, BS W y.pA y.pn y.pc y.b ∧ W.cell? (a.add (i * 2)) = some (.bool y.all) ∧ W.cell? (a.add (i * 2 + 1)) = some (.slice y.pA y.pn y.pc) := fun i hi => by
      obtain ⟨h0, h1, t0, t1⟩ := hr i (by omega)
      obtain ⟨q, e0, _⟩ := DataW.trod_bool (P := Tryd.prog) (by kernel_rfl) t0
      obtain ⟨A, n, c, l, e1, hB, _⟩ := open_bytes_cell t1 (fun n hn => by
        refine hw _ (List.mem_cons_of_mem _ (List.mem_append_left _ (weightsAll_mem (d := .agg [D0 i, D1 i]) (List.mem_map.2 ⟨i, List.mem_range.2 hi, rfl⟩) ?_)))
        simp only [DataW.weights, Tryd.underlying34]
        exact List.mem_append_right _ (List.mem_append_left _ hn))
      simp only [List.cons.injEq, and_true] at e0 e1
      exact ⟨⟨q, A, n, c, l⟩, hB, by rw [h0, e0], by rw [h1, e1]⟩
    obtain ⟨Y, hY⟩ := Deep.choose_lt each
    refine ⟨some a, len, cap, (List.range len).map Y, rfl, by simp, hl, hm, fun x hx => ?_, fun h0 => ?_⟩
    · obtain ⟨i, hi, rfl⟩ := List.mem_map.1 hx
      exact (hY i (List.mem_range.1 hi)).1
    · have hc0 := (hY 0 h0).2.1
      rw [Nat.zero_mul] at hc0
      have hsp : a.spot = none := by
        have : a.add 0 = a := by simp [Addr.add]
        rw [this] at hc0
        unfold World.cell? at hc0
        split at hc0
        · cases hsp : a.spot with
          | none => rfl
          | some x => simp [hsp] at hc0
        · cases hc0
      obtain ⟨b, o, sp⟩ := a
      simp only at hsp
      subst hsp
      refine ⟨b, o, rfl, World.block_lt_of_cell? _ _ hc0, fun i hi => ?_⟩
      have hi' : i < len := by simpa using hi
      obtain ⟨_, h1, h2⟩ := hY i hi'
      rw [Addr.add_lit] at h1 h2
      simp only [List.getElem_map, List.getElem_range]
      exact ⟨h1, by rw [Nat.add_assoc]; exact h2⟩
end Go.Proofs.YthddcaoolaipiaaDoor

/-
  cardexlaw07's walks: JournalRoom.
-/
namespace Go.Proofs.YthddcaoolaipiaaDoor
open Go.RowKit
/-- a journal where JournalRoom stands behind i rounds -/
structure jn.At (n i : Nat) (s : dk.St) (k : hd.H) (was : List (List UInt8)) : Prop where
  good : ∃ c N, jn.Good s c N k was ∧ N ≤ i + 1 ∧ 1 ≤ N
  cut : s.cut = 0
  len : s.S.length = n
  many : s.many ≤ 5 + 40 * (i : Int)
theorem jn.At.mono {n i : Nat} {s : dk.St} {k : hd.H} {was : List (List UInt8)} (h : jn.At n i s k was) : jn.At n (i + 1) s k was := by
  obtain ⟨⟨c, N, g, h1, h2⟩, a, b, d⟩ := h
  exact ⟨⟨c, N, g, by omega, h2⟩, a, b, by omega⟩
theorem jn.At.num {n i : Nat} {s : dk.St} {k : hd.H} {was : List (List UInt8)} (h : jn.At n i s k was) (hi : i ≤ 40) : ∃ c N, jn.Good s c N k was ∧ hd.num (N + 1) = true ∧ N ≤ i + 1 ∧ 1 ≤ N := by
  obtain ⟨⟨c, N, g, h1, h2⟩, a, b, d⟩ := h
  refine ⟨c, N, g, ?_, h1, h2⟩
  simp [hd.num]
  omega
theorem jn.At.few {n i : Nat} {s : dk.St} {k : hd.H} {was : List (List UInt8)} (h : jn.At n i s k was) (hi : i ≤ 40) : s.many + 4200 < 1048576 := by
  have := h.many
  omega
theorem jn.At.light {n i : Nat} {s : dk.St} {k : hd.H} {was : List (List UInt8)} (h : jn.At n i s k was) : s.black = false := by
  obtain ⟨⟨c, N, g, _⟩, _⟩ := h
  exact g.light
theorem jn.At.newest {n i : Nat} {s : dk.St} {k : hd.H} {was : List (List UInt8)} (h : jn.At n i s k was) : (jn.newest s).2.1 = k := by
  obtain ⟨⟨c, N, g, _⟩, _⟩ := h
  rw [g.newest]
theorem jn.At.batches {n i : Nat} {s : dk.St} {k : hd.H} {was : List (List UInt8)} (h : jn.At n i s k was) : (jn.batches s (jn.newest s).2.1).1 = was := by
  rw [h.newest]
  obtain ⟨⟨c, N, g, _⟩, _⟩ := h
  rw [g.batches]
theorem jn.At.sizes {n i : Nat} {s : dk.St} {k : hd.H} {was : List (List UInt8)} (h : jn.At n i s k was) : was.length ≤ 4096 ∧ k.blocks ≤ jn.half s ∧ jn.half s ≤ 2047 := by
  obtain ⟨⟨c, N, g, _⟩, _⟩ := h
  have h1 := jn.parse_length _ g.reads
  have h2 := hd.may_ok g.two.may
  have h3 := jn.half_le g.ok
  simp only at h1
  exact ⟨by omega, g.fits, h3⟩
theorem jn.blocks_few (b : List UInt8) (hb : b.length ≤ 3000) : (jn.blocks b).length ≤ 24 := by
  rw [jn.blocks_length]
  unfold jn.count
  omega
theorem jn.At.append {n i : Nat} {s : dk.St} {k : hd.H} {was : List (List UInt8)} (h : jn.At n i s k was) (hi : i < 40) (b : List UInt8) (hb : b.length ≤ 3000) :
    (k.blocks + (jn.blocks b).length ≤ jn.half s ∧ ∃ s', jn.append s k b = (0, s') ∧ jn.half s' = jn.half s ∧ jn.At n (i + 1) s' (jn.appendH k b) (was ++ [b])) ∨ (jn.half s < k.blocks + (jn.blocks b).length ∧ jn.append s k b = (10, s)) := by
  obtain ⟨c, N, g, hn, h1, h2⟩ := h.num (by omega)
  have h24 := jn.blocks_few b hb
  by_cases hroom : k.blocks + (jn.blocks b).length ≤ jn.half s
  · obtain ⟨e1, e2, e3, e4, e5⟩ := jn.append_calm g h.cut hn b (by omega) hroom
    have h3 := h.many
    refine .inl ⟨hroom, _, Prod.ext e1 rfl, by unfold jn.half; rw [e3], ⟨_, _, e2, by omega, by omega⟩, e5, e3.trans h.len, by rw [e4]; omega⟩
  · exact .inr ⟨by omega, jn.append_full g b (by omega) (by omega)⟩
theorem jn.At.replace {n i : Nat} {s : dk.St} {k : hd.H} {was : List (List UInt8)} (h : jn.At n i s k was) (hi : i < 40) (b : List UInt8) (hb : b.length ≤ 3000) :
    ((jn.blocks b).length ≤ jn.half s ∧ ∃ s', jn.replace s k b = (0, s') ∧ jn.half s' = jn.half s ∧ jn.At n (i + 1) s' (jn.replaceH k b) [b]) ∨ (jn.half s < (jn.blocks b).length ∧ jn.replace s k b = (10, s)) := by
  obtain ⟨c, N, g, hn, h1, h2⟩ := h.num (by omega)
  have h24 := jn.blocks_few b hb
  by_cases hroom : (jn.blocks b).length ≤ jn.half s
  · obtain ⟨e1, e2, e3, e4, e5⟩ := jn.replace_calm g h.cut hn b (by omega) hroom
    have h3 := h.many
    refine .inl ⟨hroom, _, Prod.ext e1 rfl, by unfold jn.half; rw [e3], ⟨_, _, e2, by omega, by omega⟩, e5, e3.trans h.len, by rw [e4]; omega⟩
  · exact .inr ⟨by omega, jn.replace_full g b (by omega) (by omega)⟩
set_option maxHeartbeats 4000000 in
set_option maxRecDepth 100000 in
theorem walk_JournalRoom (x : UInt8) (A : Option Addr) (n c : Nat) (l : List LC) (w : World) (h : LS w A n c l) (ht : Tabs w) :
    Calls Tryd.prog 4 #[bv x, .slice A n c] w fun e w' => e = .returned (.bool true) ∧ Below w.heap.size w w' := by
  have hx := x.toNat_lt
  obtain ⟨m, hm⟩ : ∃ m, 64 + x.toNat = m := ⟨_, rfl⟩
  have hmi : (64 : Int) + (x.toNat : Int) = (m : Int) := by omega
  have hm64 : 64 ≤ m ∧ m ≤ 319 := by omega
  obtain ⟨hm1, hm2⟩ := hm64
  have HF := Lib.hid (show (fresh m).many + 4200 < 1048576 ∧ (fresh m).L.length + 4200 < 1048576 from ⟨show (0 : Int) + 4200 < 1048576 by decide, show (0 : Nat) + 4200 < 1048576 by decide⟩)
  have hmk := jn.make_good (fresh_ok (n := m) (by omega) (by omega)) rfl ⟨rfl, rfl⟩
  have hSl : (fresh m).S.length = m := by simp [fresh]
  rw [hSl, show (fresh m).many = 0 from rfl] at hmk
  obtain ⟨s1, hs1⟩ : ∃ s1, (jn.make (fresh m)).2 = s1 := ⟨_, rfl⟩
  rw [hs1] at hmk
  obtain ⟨a1, a2, a3, a4, a5⟩ := hmk
  have HM := Lib.hid (show jn.make (fresh m) = (0, s1) from Prod.ext a1 hs1)
  have HG := Lib.hid a2
  have hh : ((m : Int) - 2) / 2 = (jn.half s1 : Int) ∧ ((m : Int) - 2).tdiv 2 = (jn.half s1 : Int) := by
    have e : jn.half s1 = (m - 2) / 2 := by unfold jn.half; rw [a3]
    rw [Int.tdiv_eq_ediv_of_nonneg (by omega), e]
    omega
  have HAT := Lib.hid (show jn.At m 0 s1 hd.zero [] from ⟨⟨0, 1, a2, by omega, by omega⟩, a5, a3, by omega⟩)
  clear hs1 a1 a2 a4 a5 hm hx
  go_enter Tryd.func4, Tryd.ntmps4
  go_wp2_with fail
  refine (dw_new m (by omega) (by omega) w (Below.refl _ _)).mono ?_
  rintro e w1 ⟨d, rfl, D1⟩
  obtain ⟨p, rfl⟩ := D1.form
  go_wp2_with fail
  refine (jw_make D1 ht HF.out).mono ?_
  rintro e w3 ⟨j, rfl, hj, -, -⟩
  have J3 := hj (by rw [HM.out])
  rw [HM.out] at J3 ⊢
  obtain ⟨q, rfl⟩ := J3.form
  clear D1 hj
  go_wp2_with fail
  refine (jw_room J3 HG.out.light).mono ?_
  rintro e w4 ⟨rfl, b4⟩
  have J4 := J3.below b4
  rw [HG.out.newest, show ((jn.half s1 : Nat) : Int) - (((0 + 1, hd.zero, (0 : Int)) : Nat × hd.H × Int).2.1.blocks : Int) = (jn.half s1 : Int) from Int.sub_zero _]
  clear J3 b4
  obtain ⟨hh1, hh2⟩ := hh
  go_wp2_with fail
  have HH := Lib.hid (show jn.half s1 = (m - 2) / 2 by unfold jn.half; rw [a3])
  clear HF hSl a3 HM HG hh1 hh2
  go_loopw [10] (fun t wr => ∃ (i : Nat) (s : dk.St) (k : hd.H) (was : List (List UInt8)), t = .int .i64 i ∧ i ≤ n ∧ i ≤ 40 ∧ JW w wr (.pointer (some ⟨p, 0, none⟩)) (.pointer (some ⟨q, 0, none⟩)) s ∧ Hid (jn.At m i s k was) ∧ Hid (jn.half s = (m - 2) / 2)) (fun t _ => n - (intOf t).toNat)
  case atStart => exact ⟨0, s1, hd.zero, [], rfl, by omega, by omega, J4, HAT, HH⟩
  case round =>
    clear HAT HH J4
    obtain ⟨i, s, k, was, rfl, hin, hi40, J, HAT, HH⟩ := hrel
    by_cases hlt : i < n ∧ i < 40
    · obtain ⟨hi1, hi2⟩ := hlt
      have hi1' : (i : Int) < (n : Int) := by omega
      have hi2' : (i : Int) < 40 := by omega
      have hb0 := J.dw.under
      obtain ⟨b, o, rfl, hbl, hcell⟩ := (h.below hb0).has (by omega)
      obtain ⟨q0, q1⟩ := hcell i (by rw [h.len]; exact hi1)
      obtain ⟨y, hy⟩ : ∃ y, l[i]'(by rw [h.len]; exact hi1) = y := ⟨_, rfl⟩
      rw [hy] at q0 q1
      have hyB : BS w y.pA y.pn y.pc y.b := h.ok y (by rw [← hy]; exact List.getElem_mem _)
      have hyA : ∀ z o, y.pA = some ⟨z, o, none⟩ → 0 < y.pn → z < w.heap.size := fun z o' e h0 => by
        obtain ⟨b', o2, e2, hb', _⟩ := hyB.has h0
        rw [e] at e2
        injection e2 with e2
        injection e2 with e2 _
        omega
      obtain ⟨all, pA, pn, pc, yb⟩ := y
      simp only at q0 q1 hyB hyA
      have hcap := hyB.cap
      have hmax := hyB.max
      obtain ⟨mm, hmm⟩ : ∃ mm, min pn 3000 = mm := ⟨_, rfl⟩
      have hm3 : mm ≤ pn ∧ mm ≤ 3000 := by omega
      clear hy hcell hbl
      have hif : (if (3000 : Int) < (pn : Int) then (3000 : Int) else (pn : Int)) = (mm : Int) := by
        split
        · omega
        · omega
      have bD : Below wr.heap.size wr wr.drew := (Chg.drew wr []).below (Nat.le_refl _) (by simp)
      have JD : JW w wr.drew (.pointer (some ⟨p, 0, none⟩)) (.pointer (some ⟨q, 0, none⟩)) s := J.below bD
      have hbD : Below w.heap.size w wr.drew := JD.dw.under
      have hB1 : BS w pA mm pc (yb.take mm) := hyB.take hm3.1
      have hb3 : (yb.take mm).length ≤ 3000 := by rw [List.length_take]; omega
      have hA1 : ∀ z o, pA = some ⟨z, o, none⟩ → 0 < mm → z < w.heap.size := fun z o e h0 => hyA z o e (by omega)
      obtain ⟨bb, hbb⟩ : ∃ bb, yb.take mm = bb := ⟨_, rfl⟩
      rw [hbb] at hB1 hb3
      have hbl : bb.length = mm := hB1.len
      clear hbb hyB hyA hmm
      have hT : (jn.blocks bb).length = (mm + 131) / 128 := by
        rw [jn.blocks_length, hbl]
        unfold jn.count
        rfl
      have h24 := jn.blocks_few bb hb3
      obtain ⟨T, hTe⟩ : ∃ T, (jn.blocks bb).length = T := ⟨_, rfl⟩
      rw [hTe] at hT h24
      obtain ⟨row, hrow⟩ : ∃ row, leBytes mm 4 ++ bb = row := ⟨_, rfl⟩
      have hrl : row.length = mm + 4 := by rw [← hrow, List.length_append, leBytes_length, hbl]; omega
      obtain ⟨R, hR⟩ : ∃ R, row.length = R := ⟨_, rfl⟩
      have hR4 : R ≤ 3004 := by omega
      have hTi : ((R : Int) + 128 - 1) / 128 = (T : Int) ∧ ((R : Int) + 128 - 1).tdiv 128 = (T : Int) := by
        rw [Int.tdiv_eq_ediv_of_nonneg (by omega)]
        omega
      obtain ⟨hT2, hT3⟩ := hTi
      have hsz := HAT.out.sizes
      have hap := HAT.out.append hi2 bb hb3
      have hre := HAT.out.replace hi2 bb hb3
      rw [hTe] at hap hre
      have HAP := Lib.hid hap
      have HRE := Lib.hid hre
      clear hap hre hT hrl
      go_wp2_with fail
      go_region
      all_goals
        have q0D : wr.drew.cell? ⟨b, o + i * 2, none⟩ = some (.bool all) := q0
        have HR := Lib.hid (rrow_any pA mm pc bb wr.drew (hB1.below hbD) (by omega))
        rw [hrow] at HR
        generalize wr.drew = wd at *
        clear J hb0 q0 q1 hif bD
        go_wp2_with fail
        refine HR.out.mono ?_
        rintro e w5 ⟨v5, rfl, o5, b5⟩
        obtain ⟨A5, c5, rfl, -⟩ := o5.form
        rw [hR]
        have J5 := JD.below b5
        clear o5 HR JD hrow hR
        go_wp2_with fail
        refine (jw_room J5 HAT.out.light).mono ?_
        rintro e w6 ⟨rfl, b6⟩
        have J6 := J5.below b6
        rw [HAT.out.newest]
        clear J5
        go_wp2_with fail
        refine (jw_batches J6 HAT.out.light).mono ?_
        rintro e w7 ⟨A7, n7, c7, rfl, hR7, b7⟩
        have J7 := J6.below b7
        rw [HAT.out.batches] at hR7
        have hl7 := hR7.len
        have q0E : w7.cell? ⟨b, o + i * 2, none⟩ = some (.bool all) := by
          have hbt : b < wd.heap.size := World.block_lt_of_cell? _ _ q0D
          exact ((b5.trans ((b6.mono b5.size).trans (b7.mono (Nat.le_trans b5.size b6.size)))).cell (p := ⟨b, o + i * 2, none⟩) hbt).trans q0D
        clear J6 hR7 q0D b5 b6 b7 hbD
        subst hl7
        obtain ⟨hs1, hs2, hs3⟩ := hsz
        cases all
        · clear HRE
          have HA := Lib.hid (fun W (hb : Below w7.heap.size w7 W) => HAT.out.num (by omega) |>.elim fun c0 h0 => h0.elim fun N0 h1 => jw_append J7 ht h1.1 h1.2.1 (HAT.out.few (by omega)) hb (hB1.below (J7.dw.under.trans (hb.mono J7.dw.under.size))) (fun h0 z o e => .inl (hA1 z o e h0)))
          go_wp2_with fail
          refine (HA.out _ (Below.refl _ _)).mono ?_
          rintro e w8 ⟨rfl, J8⟩
          rcases HAP.out with ⟨hroom, s', e1, e2, HAT2⟩ | ⟨hroom, e1⟩
          · rw [e1] at J8 ⊢
            clear HA HAP e1
            have hr1 : (T : Int) ≤ (jn.half s : Int) - (k.blocks : Int) := by omega
            have HAT3 := Lib.hid HAT2
            have hkb : (jn.appendH k bb).blocks = k.blocks + T := by rw [← hTe]; rfl
            go_wp2_with fail
            refine (jw_room J8 HAT3.out.light).mono ?_
            rintro e w9 ⟨rfl, b9⟩
            have J9 := J8.below b9
            rw [HAT3.out.newest, hkb, e2, show (jn.half s : Int) - ((k.blocks + T : Nat) : Int) = (jn.half s : Int) - (k.blocks : Int) - (T : Int) by omega]
            go_wp2_with fail
            refine (jw_batches J9 HAT3.out.light).mono ?_
            rintro e w10 ⟨A10, n10, c10, rfl, hR10, b10⟩
            have J10 := J9.below b10
            rw [HAT3.out.batches] at hR10
            have hl10 := hR10.len
            rw [List.length_append, List.length_singleton] at hl10
            subst hl10
            clear J8 J9 J7 hR10 b9 b10
            go_wp2_with fail
            go_roundw
            case rel => exact ⟨i + 1, s', _, _, by go_num, by omega, by omega, J10, HAT3, by rw [e2]; exact HH⟩
            case measure => simp [intOf]; omega
          · rw [e1] at J8 ⊢
            clear HA HAP e1
            have hr1 : ¬ (T : Int) ≤ (jn.half s : Int) - (k.blocks : Int) := by omega
            clear J7
            go_wp2_with fail
            go_roundw
            case rel => exact ⟨i + 1, s, _, _, by go_num, by omega, by omega, J8, HAT.out.mono, HH⟩
            case measure => simp [intOf]; omega
        · clear HAP
          have hh1 : ((m : Int) - 2) / 2 = (jn.half s : Int) ∧ ((m : Int) - 2).tdiv 2 = (jn.half s : Int) := by
            rw [Int.tdiv_eq_ediv_of_nonneg (by omega), HH.out]
            omega
          obtain ⟨hh1, hh2⟩ := hh1
          have HA := Lib.hid (fun W (hb : Below w7.heap.size w7 W) => HAT.out.num (by omega) |>.elim fun c0 h0 => h0.elim fun N0 h1 => jw_replace J7 ht h1.1 h1.2.1 (HAT.out.few (by omega)) hb (hB1.below (J7.dw.under.trans (hb.mono J7.dw.under.size))) (fun h0 z o e => .inl (hA1 z o e h0)))
          go_wp2_with fail
          refine (HA.out _ (Below.refl _ _)).mono ?_
          rintro e w8 ⟨rfl, J8⟩
          clear hh1 hh2
          rcases HRE.out with ⟨hroom, s', e1, e2, HAT2⟩ | ⟨hroom, e1⟩
          · rw [e1] at J8 ⊢
            clear HA HRE e1
            have hr1 : (T : Int) ≤ (jn.half s : Int) := by omega
            have HAT3 := Lib.hid HAT2
            have hkb : (jn.replaceH k bb).blocks = T := hTe
            go_wp2_with fail
            refine (jw_room J8 HAT3.out.light).mono ?_
            rintro e w9 ⟨rfl, b9⟩
            have J9 := J8.below b9
            rw [HAT3.out.newest, hkb, e2]
            go_wp2_with fail
            refine (jw_batches J9 HAT3.out.light).mono ?_
            rintro e w10 ⟨A10, n10, c10, rfl, hR10, b10⟩
            have J10 := J9.below b10
            rw [HAT3.out.batches] at hR10
            have hl10 := hR10.len
            simp only [List.length_cons, List.length_nil] at hl10
            subst hl10
            clear J8 J9 J7 hR10 b9 b10
            go_wp2_with fail
            go_roundw
            case rel => exact ⟨i + 1, s', _, _, by go_num, by omega, by omega, J10, HAT3, by rw [e2]; exact HH⟩
            case measure => simp [intOf]; omega
          · rw [e1] at J8 ⊢
            clear HA HRE e1
            have hr1 : ¬ (T : Int) ≤ (jn.half s : Int) := by omega
            clear J7
            go_wp2_with fail
            go_roundw
            case rel => exact ⟨i + 1, s, _, _, by go_num, by omega, by omega, J8, HAT.out.mono, HH⟩
            case measure => simp [intOf]; omega
    · have hb0 := J.dw.under
      have hi' : ¬ (i : Int) < (n : Int) ∨ ((i : Int) < (n : Int) ∧ ¬ (i : Int) < 40) := by omega
      clear J
      rcases hi' with h1 | ⟨h1, h2⟩
      · go_wp2_with fail
        refine (lives07_any _ (ht.below hb0)).mono ?_
        rintro e w9 ⟨rfl, b9⟩
        go_wp2_with fail
        go_ret
        exact ⟨rfl, hb0.trans (b9.mono hb0.size)⟩
      · go_wp2_with fail
        refine (lives07_any _ (ht.below hb0)).mono ?_
        rintro e w9 ⟨rfl, b9⟩
        go_wp2_with fail
        go_ret
        exact ⟨rfl, hb0.trans (b9.mono hb0.size)⟩
end Go.Proofs.YthddcaoolaipiaaDoor

/-
  BYTE SLICES IN A ROW OF THE CALL's OWN, apart from blocks that others write: kept by what writes there; a copy of the row.
-/
namespace Go.Proofs.YthddcaoolaipiaaDoor
open Go.RowKit
theorem OwnRs.keepB {e8 eS : TypeId} {w w' : World} {base : Nat} {v : Value} {ll : List (List UInt8)} {vs : List Value} (h : OwnRs e8 eS w base v ll vs) (hv : ∀ k, k < w.heap.size → v.ownBlock = some k → w'.heap[k]? = w.heap[k]?)
    (hx : ∀ x ∈ vs, ∀ k, k < w.heap.size → x.ownBlock = some k → w'.heap[k]? = w.heap[k]?) : OwnRs e8 eS w' base v ll vs := by
  refine ⟨h.len, ⟨h.row.1, h.row.2.imp id ?_⟩, fun i l hl => ?_⟩
  · rintro ⟨g, cap, cur, a, b, c, d⟩
    exact ⟨g, cap, cur, a, b, (hv g (Array.getElem?_eq_some_iff.1 c).1 (by rw [a]; rfl)).trans c, d⟩
  · obtain ⟨A, c, h1, h2, h3⟩ := h.each i l hl
    refine ⟨A, c, h1, ?_, h3⟩
    have hm := List.mem_of_getElem? h1
    rcases h2 with hn | ⟨g, r, a, b, c2, d⟩
    · exact .inl hn
    · exact .inr ⟨g, r, a, b, (hx _ hm g (Array.getElem?_eq_some_iff.1 c2).1 (by rw [a]; rfl)).trans c2, d⟩
/-- rows of the call's own, apart from the blocks of F -/
structure KR (e8 eS : TypeId) (w0 w : World) (F : List Nat) (v : Value) (ll : List (List UInt8)) (vs : List Value) : Prop where
  own : OwnRs e8 eS w w0.heap.size v ll vs
  far : ∀ k, v.ownBlock = some k → k ∉ F
  fars : ∀ x ∈ vs, ∀ k, x.ownBlock = some k → k ∉ F
  nil : ll = [] → v = .slice none 0 0
namespace KR
variable {e8 eS : TypeId} {w0 w w' : World} {F F' : List Nat} {v : Value} {ll : List (List UInt8)} {vs : List Value}
theorem nil_ (e8 eS : TypeId) (w0 w : World) (F : List Nat) : KR e8 eS w0 w F (.slice none 0 0) [] [] := ⟨OwnRs.nil_ _ _ _ _, fun k h => by simp [Value.ownBlock] at h, fun x h => (by cases h), fun _ => rfl⟩
theorem in_ (h : OwnRs e8 eS w w0.heap.size v ll vs) : ∀ x ∈ vs, ∀ k, x.ownBlock = some k → k < w.heap.size := fun x hx k hk => by
  obtain ⟨i, hi, rfl⟩ := List.mem_iff_getElem.1 hx
  obtain ⟨A, c, h1, h2, h3⟩ := h.each i (ll[i]'(by rw [← h.len]; exact hi)) (List.getElem?_eq_getElem _)
  rw [List.getElem?_eq_getElem hi] at h1
  injection h1 with h1
  rw [h1] at hk
  exact (h2.lt k hk).2
theorem chg (h : KR e8 eS w0 w F v ll vs) (hc : Chg w w' F) (hs : Sub w F' F) : KR e8 eS w0 w' F' v ll vs :=
  ⟨h.own.keepB (fun k hk hv => hc.block k hk (h.far k hv)) (fun x hx k hk hv => hc.block k hk (h.fars x hx k hv)),
    fun k hk hm => (hs k hm).elim (h.far k hk) (fun e => by have := (h.own.lt k hk).2; omega),
    fun x hx k hk hm => (hs k hm).elim (h.fars x hx k hk) (fun e => by have := in_ h.own x hx k hk; omega), h.nil⟩
/-- rows are apart from another row's block -/
theorem grown {row : Option Nat} (h : KR e8 eS w0 w F v ll vs) (hg : w.grownBy w' row) (hD : ∀ k, row = some k → v.ownBlock ≠ some k ∧ ∀ x ∈ vs, x.ownBlock ≠ some k) : KR e8 eS w0 w' F v ll vs :=
  ⟨h.own.keepB (fun k hk hv => hg.block k hk (fun e => (hD k e.symm).1 hv)) (fun x hx k hk hv => hg.block k hk (fun e => (hD k e.symm).2 x hx hv)), h.far, h.fars, h.nil⟩
/-- one more -/
theorem more {x : Value} {l : List UInt8} {g n cap : Nat} {o : Obj} (h : KR e8 eS w0 w F v ll vs) (hF : ∀ k ∈ F, k < w.heap.size) (hx : ∀ k, x.ownBlock = some k → k ∉ F)
    (h8 : OwnRs e8 eS w' w0.heap.size (.slice (some ⟨g, 0, none⟩) n cap) (ll ++ [l]) (vs ++ [x])) (hat : v.ownBlock = some g ∨ g = (w.alloc o).heap.size) : KR e8 eS w0 w' F (.slice (some ⟨g, 0, none⟩) n cap) (ll ++ [l]) (vs ++ [x]) := by
  refine ⟨h8, fun k hk hm => ?_, fun y hy k hk => ?_, fun e => by simp at e⟩
  · have e : g = k := by simpa [Value.ownBlock] using hk
    subst e
    rcases hat with e | e
    · exact h.far g e hm
    · have := hF g hm
      simp at e
      omega
  · rcases List.mem_append.1 hy with hy | hy
    · exact h.fars y hy k hk
    · rw [List.mem_singleton.1 hy] at hk
      exact hx k hk
theorem same {o : Obj} (h : KR e8 eS w0 w F v ll vs) (hF : ∀ k ∈ F, k < w.heap.size) (hg : (w.alloc o).grownBy w' v.ownBlock) : Same w w' F := fun k hk => by
  have h1 := hF k hk
  rw [hg.block k (by simp; omega) (fun e => h.far k e.symm hk)]
  exact Below.heap_alloc w o k h1
theorem below (h : KR e8 eS w0 w F v ll vs) (hb : Below w.heap.size w w') : KR e8 eS w0 w' F v ll vs := h.chg (Chg.of_below hb F) (Sub.refl _ _)
end KR
section
variable {ops : Array Oper} {rest : List Oper} {o : Oper} {a : Act} {w : World} {Q : Exit → Act → World → Prop}
set_option maxRecDepth 100000 in
/-- a row is copied: append(nil, row...) -/
theorem wp_rows (x y : Operand) {v : Value} {ll : List (List UInt8)} {vs : List Value} {base : Nat} (hown : OwnRs 5 23 w base v ll vs) (hnil : ll = [] → v = .slice none 0 0) (hn : ll.length ≤ 1048576) (hbase : base ≤ w.heap.size) (hgd : o.guard = none)
    (ho : o.op = .call { callee := .builtin .append, args := #[x, y], argTypes := #[32, 32] }) (hx : a.eval x = .slice none 0 0) (hy : a.eval y = v)
    (h : ∀ A c W', OwnRs 5 23 W' base (.slice A ll.length c) ll vs → Below w.heap.size w W' → (∀ k, (Value.slice A ll.length c).ownBlock = some k → w.heap.size ≤ k) → (ll = [] → Value.slice A ll.length c = .slice none 0 0) → wpList Tryd.prog ops Q rest (a.put o.dst (.slice A ll.length c)) W') : wpList Tryd.prog ops Q (o :: rest) a w := by
  obtain ⟨i0, hi0, hz0, hs0, hb0⟩ := info_parts24 info_bs
  by_cases he : ll = []
  · subst he
    have hv := hnil rfl
    refine wpList_append_own_none hgd x y 32 ho base 23 i0 1 Tryd.underlying32 hi0 (.slice none 0 0) 0 [] hx (World.ownsRow_nil _ _ _ _) (hy.trans hv) ?_
    have hvs : vs = [] := List.eq_nil_of_length_eq_zero hown.len
    subst hvs
    exact h none 0 w (OwnRs.nil_ _ _ _ _) (Below.refl _ _) (fun k hk => by simp [Value.ownBlock] at hk) (fun _ => rfl)
  · have hpos : 0 < ll.length := List.length_pos_iff.2 he
    rcases hown.row.2 with ⟨rfl, h0⟩ | ⟨g, cap, cur, rfl, hb, hg, h1, h2, h3, h4⟩
    · omega
    · rw [Nat.mul_one] at h4
      have hlen := hown.len
      refine wpList_append_lies _ hgd x y 32 ho base 23 i0 _ 1 24 Tryd.underlying32 hi0 hz0 hs0 hb0 rfl (by omega) (.slice none 0 0) 0 [] hx (World.ownsRow_nil _ _ _ _) ⟨g, 0, none⟩ ll.length cap vs hy (by rw [hlen, Nat.mul_one]) ?_ ?_ hpos (by rw [maxLen_eq]; omega) (by omega) hbase _ rfl ?_
      · intro j u hu
        have hj := (List.getElem?_eq_some_iff.1 hu).1
        rw [Addr.add_lit, Nat.zero_add, cell_of_row w g j _ _ _ hg]
        rw [← h4, List.getElem?_take_of_lt (by omega), Array.getElem?_toList] at hu
        exact hu
      · intro u hu
        obtain ⟨i, hi, rfl⟩ := List.mem_iff_getElem.1 hu
        obtain ⟨A, c, e1, -, -⟩ := hown.each i (ll[i]'(by omega)) (List.getElem?_eq_getElem _)
        rw [List.getElem?_eq_getElem hi] at e1
        injection e1 with e1
        rw [e1]
        rfl
      · intro g' cap' W' r1 r2 r3 r4
        have hg' : g' = w.heap.size := r3.elim (fun e => by simp [Value.ownBlock] at e) id
        have hbe : Below w.heap.size w W' := (Below.refl _ _).grown r2 (Nat.le_refl _) (fun k hk => by simp [Value.ownBlock] at hk)
        have hk := hown.below hbe (Nat.le_refl _)
        rw [Nat.zero_add] at r1 ⊢
        rw [List.nil_append] at r1
        refine h (some ⟨g', 0, none⟩) cap' W' ⟨hlen, r1, fun i l hl => ?_⟩ hbe (fun k hk => ?_) (fun e => absurd e he)
        · obtain ⟨A, c, e1, e2, _⟩ := hk.each i l hl
          obtain ⟨A2, c2, e3, e4, _⟩ := hown.each i l hl
          rw [e3] at e1
          injection e1 with e1
          injection e1 with e5 _ e6
          subst e5 e6
          refine ⟨A2, c2, e3, e2, fun k hk e => ?_⟩
          have h5 := (e4.lt k hk).2
          have h6 : g' = k := by simpa [Value.ownBlock] using e
          omega
        · have h6 : g' = k := by simpa [Value.ownBlock] using hk
          omega
end
end Go.Proofs.YthddcaoolaipiaaDoor

/-
  cardexlaw07's walks: JournalCuts.
-/
namespace Go.Proofs.YthddcaoolaipiaaDoor
open Go.RowKit
/-- a journal where JournalCuts stands behind i rounds -/
structure jn.On (n i : Nat) (s : dk.St) (k : hd.H) (was : List (List UInt8)) : Prop where
  good : ∃ c N, jn.Good s c N k was ∧ N ≤ i + 1 ∧ 1 ≤ N
  len : s.S.length = n
  many : s.many ≤ 5 + 40 * (i : Int)
theorem jn.Good.arm {s : dk.St} {c N : Nat} {k : hd.H} {was : List (List UInt8)} (g : jn.Good s c N k was) (a : Int) (h0 : 0 ≤ a) : (dk.arm s a).1 = 0 ∧ jn.Good (dk.arm s a).2 c N k was ∧ (dk.arm s a).2.S = s.S ∧ (dk.arm s a).2.many = s.many := by
  have e : dk.arm s a = (0, { s with cut := a }) := by
    unfold dk.arm
    rw [if_neg (by rw [g.light]; simp), if_neg (by omega)]
  rw [e]
  exact ⟨rfl, ⟨⟨g.ok.lenS, g.ok.some, g.ok.most, g.ok.lenL, g.ok.inL⟩, g.light, g.sure, g.two, g.fits, g.reads⟩, rfl, rfl⟩
namespace jn.On
variable {n i : Nat} {s : dk.St} {k : hd.H} {was : List (List UInt8)}
theorem arm (h : jn.On n i s k was) (a : Int) (h0 : 0 ≤ a) : (dk.arm s a).1 = 0 ∧ jn.On n i (dk.arm s a).2 k was := by
  obtain ⟨⟨c, N, g, h1, h2⟩, a1, a2⟩ := h
  obtain ⟨e1, e2, e3, e4⟩ := g.arm a h0
  exact ⟨e1, ⟨c, N, e2, h1, h2⟩, by rw [e3]; exact a1, by rw [e4]; exact a2⟩
theorem mono (h : jn.On n i s k was) : jn.On n (i + 1) s k was := by
  obtain ⟨⟨c, N, g, h1, h2⟩, b, d⟩ := h
  exact ⟨⟨c, N, g, by omega, h2⟩, b, by omega⟩
theorem num (h : jn.On n i s k was) (hi : i ≤ 40) : ∃ c N, jn.Good s c N k was ∧ hd.num (N + 1) = true ∧ N ≤ i + 1 ∧ 1 ≤ N := by
  obtain ⟨⟨c, N, g, h1, h2⟩, b, d⟩ := h
  refine ⟨c, N, g, ?_, h1, h2⟩
  simp [hd.num]
  omega
theorem few (h : jn.On n i s k was) (hi : i ≤ 40) : s.many + 4200 < 1048576 := by
  have := h.many
  omega
theorem light (h : jn.On n i s k was) : s.black = false := by
  obtain ⟨⟨c, N, g, _⟩, _⟩ := h
  exact g.light
theorem batches (h : jn.On n i s k was) : (jn.batches s (jn.newest s).2.1).1 = was := by
  obtain ⟨⟨c, N, g, _⟩, _⟩ := h
  rw [g.newest]
  show (jn.batches s k).1 = was
  rw [g.batches]
theorem sizes (h : jn.On n i s k was) : was.length ≤ 4096 := by
  obtain ⟨⟨c, N, g, _⟩, _⟩ := h
  have h1 := jn.parse_length _ g.reads
  have h2 := hd.may_ok g.two.may
  simp only at h1
  omega
theorem opens (h : jn.On n i s k was) (hi : i ≤ 40) : jn.opens s = 0 := by
  obtain ⟨⟨c, N, g, h1, h2⟩, _⟩ := h
  exact g.opens (by omega)
/-- what comes of laying a batch -/
def Out (n i : Nat) (s : dk.St) (was now : List (List UInt8)) (r : Int × dk.St) : Prop :=
  (∃ s' k', r = (0, s') ∧ jn.On n (i + 1) s' k' now) ∨ r = (10, s) ∨
  (∃ s', r = (9, s') ∧ s'.black = true ∧ ∀ p, (∃ k', jn.On n (i + 1) (dk.crash s' p) k' was) ∨ (∃ k', jn.On n (i + 1) (dk.crash s' p) k' now))
theorem append (h : jn.On n i s k was) (hi : i < 40) (b : List UInt8) (hb : b.length ≤ 3000) : Out n i s was (was ++ [b]) (jn.append s k b) := by
  obtain ⟨c, N, g, hn, h1, h2⟩ := h.num (by omega)
  have h24 := jn.blocks_few b hb
  have h3 := h.many
  by_cases hroom : k.blocks + (jn.blocks b).length ≤ jn.half s
  · obtain ⟨-, ⟨e1, e2, e3, e4⟩ | ⟨e1, e2, e3, e4, e5, e6⟩⟩ := jn.append_cases g hn b (by omega) hroom
    · exact .inl ⟨_, _, Prod.ext e1 rfl, ⟨_, _, e2, by omega, by omega⟩, e3.trans h.len, by rw [e4]; omega⟩
    · refine .inr (.inr ⟨_, Prod.ext e1 rfl, e2, fun p => ?_⟩)
      have hl : (dk.crash (jn.append s k b).2 p).S.length = n := by simp only [dk.crash]; rw [dk.tear_length, e4, h.len]
      have hm : (dk.crash (jn.append s k b).2 p).many ≤ 5 + 40 * ((i + 1 : Nat) : Int) := by simp only [dk.crash]; omega
      rcases e6 p with e | e
      · exact .inl ⟨k, ⟨_, _, e, by omega, h2⟩, hl, hm⟩
      · exact .inr ⟨_, ⟨_, _, e, by omega, by omega⟩, hl, hm⟩
  · exact .inr (.inl (jn.append_full g b (by omega) (by omega)))
theorem replace (h : jn.On n i s k was) (hi : i < 40) (b : List UInt8) (hb : b.length ≤ 3000) : Out n i s was [b] (jn.replace s k b) := by
  obtain ⟨c, N, g, hn, h1, h2⟩ := h.num (by omega)
  have h24 := jn.blocks_few b hb
  have h3 := h.many
  by_cases hroom : (jn.blocks b).length ≤ jn.half s
  · obtain ⟨-, ⟨e1, e2, e3, e4⟩ | ⟨e1, e2, e3, e4, e5, e6⟩⟩ := jn.replace_cases g hn b (by omega) hroom
    · exact .inl ⟨_, _, Prod.ext e1 rfl, ⟨_, _, e2, by omega, by omega⟩, e3.trans h.len, by rw [e4]; omega⟩
    · refine .inr (.inr ⟨_, Prod.ext e1 rfl, e2, fun p => ?_⟩)
      have hl : (dk.crash (jn.replace s k b).2 p).S.length = n := by simp only [dk.crash]; rw [dk.tear_length, e4, h.len]
      have hm : (dk.crash (jn.replace s k b).2 p).many ≤ 5 + 40 * ((i + 1 : Nat) : Int) := by simp only [dk.crash]; omega
      rcases e6 p with e | e
      · exact .inl ⟨k, ⟨_, _, e, by omega, h2⟩, hl, hm⟩
      · exact .inr ⟨_, ⟨_, _, e, by omega, by omega⟩, hl, hm⟩
  · exact .inr (.inl (jn.replace_full g b (by omega) (by omega)))
end jn.On
set_option maxHeartbeats 8000000 in
set_option maxRecDepth 100000 in
theorem walk_JournalCuts (x : UInt8) (A : Option Addr) (n c : Nat) (l : List LC) (A2 : Option Addr) (n2 c2 : Nat) (arms : List UInt8) (A3 : Option Addr) (n3 c3 : Nat) (picks : List Int) (w : World)
    (h : LS w A n c l) (hArms : BS w A2 n2 c2 arms) (hPicks : IS w A3 n3 c3 picks) (ht : Tabs w) :
    Calls Tryd.prog 3 #[bv x, .slice A n c, .slice A2 n2 c2, .slice A3 n3 c3] w fun e w' => e = .returned (.bool true) ∧ Below w.heap.size w w' := by
  have hx := x.toNat_lt
  have hP3 : 0 < n3 → ∀ b o, A3 = some ⟨b, o, none⟩ → b < w.heap.size := fun h0 b o e => by
    obtain ⟨b', o', e', hb', _⟩ := hPicks.has h0
    rw [e] at e'
    injection e' with e'
    injection e' with e' _
    omega
  obtain ⟨m, hm⟩ : ∃ m, 64 + x.toNat % 64 = m := ⟨_, rfl⟩
  have hmi : (64 : Int) + (x.toNat : Int) % 64 = (m : Int) := by omega
  have hm64 : 64 ≤ m ∧ m ≤ 319 := by omega
  obtain ⟨hm1, hm2⟩ := hm64
  have HF := Lib.hid (show (fresh m).many + 4200 < 1048576 ∧ (fresh m).L.length + 4200 < 1048576 from ⟨show (0 : Int) + 4200 < 1048576 by decide, show (0 : Nat) + 4200 < 1048576 by decide⟩)
  have hmk := jn.make_good (fresh_ok (n := m) (by omega) (by omega)) rfl ⟨rfl, rfl⟩
  have hSl : (fresh m).S.length = m := by simp [fresh]
  rw [hSl, show (fresh m).many = 0 from rfl] at hmk
  obtain ⟨s1, hs1⟩ : ∃ s1, (jn.make (fresh m)).2 = s1 := ⟨_, rfl⟩
  rw [hs1] at hmk
  obtain ⟨a1, a2, a3, a4, a5⟩ := hmk
  have HM := Lib.hid (show jn.make (fresh m) = (0, s1) from Prod.ext a1 hs1)
  have HAT := Lib.hid (show jn.On m 0 s1 hd.zero [] from ⟨⟨0, 1, a2, by omega, by omega⟩, a3, by omega⟩)
  have hc2l := hArms.len
  have hc2c := hArms.cap
  have hc2m := hArms.max
  clear hs1 a1 a2 a3 a4 a5 hSl
  go_enter Tryd.func3, Tryd.ntmps3
  go_wp2_with fail
  refine (df_new m (by omega) (by omega) w (Below.refl _ _)).mono ?_
  rintro e w1 ⟨d, F1, rfl, D1⟩
  obtain ⟨p, rfl⟩ := D1.cd.form
  go_wp2_with fail
  refine (jf_make D1 ht HF.out).mono ?_
  rintro e w3 ⟨j, F3, rfl, hj, -, -, -⟩
  have J3 := hj (by rw [HM.out])
  rw [HM.out] at J3 ⊢
  obtain ⟨q, rfl⟩ := J3.form
  have hK0 := KR.nil_ 5 23 w w3 F3
  clear D1 hj HF HM
  go_wp2_with fail
  go_loopw [11, 12, 13, 14] (fun jv fv wv t wr => ∃ (i : Nat) (s : dk.St) (k : hd.H) (was : List (List UInt8)) (F : List Nat) (q : Nat) (vs : List Value), t = .int .i64 i ∧ i ≤ n ∧ i ≤ 30 ∧ jv = .pointer (some ⟨q, 0, none⟩) ∧ fv = .int .i64 0 ∧ JF w wr F (.pointer (some ⟨p, 0, none⟩)) (.pointer (some ⟨q, 0, none⟩)) s ∧ Hid (jn.On m i s k was) ∧ KR 5 23 w wr F wv was vs) (fun _ _ _ t _ => n - (intOf t).toNat)
  case atStart => exact ⟨0, s1, hd.zero, [], F3, q, [], rfl, by omega, by omega, rfl, rfl, J3, HAT, hK0⟩
  case round =>
    clear HAT J3 hK0
    obtain ⟨i, s, k, was, F, q, vs, rfl, hin, hi30, rfl, rfl, J, HAT, K⟩ := hrel
    by_cases hlt : i < n ∧ i < 30
    · obtain ⟨hi1, hi2⟩ := hlt
      have hi1' : (i : Int) < (n : Int) := by omega
      have hi2' : (i : Int) < 30 := by omega
      have hb0 := J.under
      obtain ⟨b, o, rfl, hbl, hcell⟩ := (h.below hb0).has (by omega)
      obtain ⟨q0, q1⟩ := hcell i (by rw [h.len]; exact hi1)
      obtain ⟨y, hy⟩ : ∃ y, l[i]'(by rw [h.len]; exact hi1) = y := ⟨_, rfl⟩
      rw [hy] at q0 q1
      have hyB : BS w y.pA y.pn y.pc y.b := h.ok y (by rw [← hy]; exact List.getElem_mem _)
      have hyA : ∀ z o, y.pA = some ⟨z, o, none⟩ → 0 < y.pn → z < w.heap.size := fun z o' e h0 => by
        obtain ⟨b', o2, e2, hb', _⟩ := hyB.has h0
        rw [e] at e2
        injection e2 with e2
        injection e2 with e2 _
        omega
      obtain ⟨all, pA, pn, pc, yb⟩ := y
      simp only at q0 q1 hyB hyA
      have hcap := hyB.cap
      have hmax := hyB.max
      obtain ⟨mm, hmm⟩ : ∃ mm, min pn 2000 = mm := ⟨_, rfl⟩
      have hm3 : mm ≤ pn ∧ mm ≤ 2000 := by omega
      have hif : (if (2000 : Int) < (pn : Int) then (2000 : Int) else (pn : Int)) = (mm : Int) := by
        split
        · omega
        · omega
      have bD : Below wr.heap.size wr wr.drew := (Chg.drew wr []).below (Nat.le_refl _) (by simp)
      have JD := J.below bD
      have KD := K.below bD
      have hbD : Below w.heap.size w wr.drew := JD.under
      have hB1 : BS w pA mm pc (yb.take mm) := hyB.take hm3.1
      have hb3 : (yb.take mm).length ≤ 2000 := by rw [List.length_take]; omega
      have hA1 : ∀ z o, pA = some ⟨z, o, none⟩ → 0 < mm → z < w.heap.size := fun z o e h0 => hyA z o e (by omega)
      obtain ⟨bb, hbb⟩ : ∃ bb, yb.take mm = bb := ⟨_, rfl⟩
      rw [hbb] at hB1 hb3
      have hbl2 : bb.length = mm := hB1.len
      clear hbb hyB hyA hmm hy hcell hbl
      obtain ⟨arm, harm, harm32⟩ : ∃ arm : Nat, (if i < n2 then ((arms.getD i 0).toNat : Int) % 32 else 0) = (arm : Int) ∧ arm < 32 := by
        by_cases hi : i < n2
        · refine ⟨(arms.getD i 0).toNat % 32, ?_, by omega⟩
          rw [if_pos hi]
          omega
        · exact ⟨0, by rw [if_neg hi]; rfl, by omega⟩
      have hArm : (¬ (i : Int) < (n2 : Int) ∧ arm = 0) ∨ ((i : Int) < (n2 : Int) ∧ ∃ b2 o2 z, A2 = some ⟨b2, o2, none⟩ ∧ wr.drew.cell? ⟨b2, o2 + i, none⟩ = some (bv z) ∧ (z.toNat : Int) % 32 = (arm : Int)) := by
        by_cases hi : i < n2
        · rw [if_pos hi] at harm
          obtain ⟨b2, o2, e, _, hc⟩ := (hArms.below hbD).has (by omega)
          have h1 := hc i (by omega)
          refine .inr ⟨by omega, b2, o2, _, e, h1, ?_⟩
          rw [← harm, List.getD_eq_getElem?_getD, List.getElem?_eq_getElem (by omega)]
          rfl
        · rw [if_neg hi] at harm
          exact .inl ⟨by omega, by omega⟩
      have HARM := Lib.hid hArm
      clear hArm harm
      have hgA := HAT.out.arm (arm : Int) (by omega)
      have HJA := Lib.hid (jf_arm (arm : Int) (by omega) JD)
      rw [hgA.1] at HJA
      have HAT2 := Lib.hid hgA.2
      obtain ⟨sa, hsa⟩ : ∃ sa, (dk.arm s (arm : Int)).2 = sa := ⟨_, rfl⟩
      rw [hsa] at HJA HAT2
      clear hgA hsa HAT K J
      have q0D : wr.drew.cell? ⟨b, o + i * 2, none⟩ = some (.bool all) := q0
      go_wp2_with fail
      go_region
      generalize wr.drew = wd at *
      clear hb0 q0 q1 hif bD
      have hwl := HAT2.out.sizes
      have hbase : w.heap.size ≤ wd.heap.size := hbD.size
      rcases HARM.out with ⟨hia, rfl⟩ | ⟨hia, b2, o2, z, rfl, hcz, hz32⟩
      all_goals
        clear HARM
        go_wp2_with fail
        refine HJA.out.mono ?_
        rintro e wx ⟨FX, rfl, JX, cX, uX⟩
        have KX := KD.chg cX uX
        have hbX : Below w.heap.size w wx := JX.under
        have q0X : wx.cell? ⟨b, o + i * 2, none⟩ = some (.bool all) := by
          have hbt : b < w.heap.size := (h.has (by omega)).elim fun b' h' => h'.elim fun o' h2 => by
            injection h2.1 with e
            injection e with e1 _
            have := h2.2.1
            omega
          obtain ⟨b', o', e, _, hc'⟩ := (h.below hbX).has (by omega)
          injection e with e
          injection e with e1 e2
          subst e1 e2
          have h1 := (hc' i (by rw [h.len]; exact hi1)).1
          obtain ⟨b', o', e, _, hc''⟩ := (h.below hbD).has (by omega)
          injection e with e
          injection e with e1 e2
          subst e1 e2
          have h2 := (hc'' i (by rw [h.len]; exact hi1)).1
          rw [q0D] at h2
          rw [h1, ← h2]
        clear HJA KD JD q0D hbD cX uX
        cases all
        · have HA := Lib.hid (fun W (hb : Below wx.heap.size wx W) => HAT2.out.num (by omega) |>.elim fun c0 h0 => h0.elim fun N0 h1 => jf_append (JX.below hb) ht h1.1 h1.2.1 (HAT2.out.few (by omega)) (hB1.below (hbX.trans (hb.mono hbX.size))) (fun h0 z o e hm => by have h2 := hA1 z o e h0; have h3 := JX.at_ z hm; omega))
          go_wp2_with (at_builtin; refine wp_rows (.tmp 83) (.tmp 84) KX.own KX.nil (by omega) hbX.size rfl rfl rfl rfl ?_; intro A5 c5 w5 o5 b5 f5 z5)
          refine (HA.out _ b5).mono ?_
          rintro e w6 ⟨F6, rfl, J6, c6, u6⟩
          have KX6 := (KX.below b5).chg c6 u6
          have KN6 := (show KR 5 23 w w5 FX (.slice A5 was.length c5) was vs from ⟨o5, fun k hk hm => by have h2 := f5 k hk; have h3 := JX.there k hm; omega, KX.fars, z5⟩).chg c6 u6
          have hD : ∀ k, (Value.slice A5 was.length c5).ownBlock = some k → u13.ownBlock ≠ some k ∧ ∀ x ∈ vs, x.ownBlock ≠ some k := fun k hk => ⟨fun e => by have h2 := f5 k hk; have h3 := (KX.own.lt k e).2; omega, fun x hx e => by have h2 := f5 k hk; have h3 := KR.in_ KX.own x hx k e; omega⟩
          have hlen0 : was.length ≤ 1048576 := by omega
          have hout := HAT2.out.append (by omega) bb (by omega)
          obtain ⟨r, hr⟩ : ∃ r, jn.append sa k bb = r := ⟨_, rfl⟩
          rw [hr] at J6 hout ⊢
          have HOUT := Lib.hid hout
          clear HA o5 b5 f5 z5 c6 u6 hr hout JX KX
          rcases HOUT.out with ⟨s', k', rfl, hOn⟩ | rfl | ⟨s', rfl, hdark, hcr⟩
          · have HON := Lib.hid hOn
            clear HOUT hOn
            have HC := Lib.hid (copy_any pA mm pc bb w6 (hB1.below J6.under) (by omega))
            go_wp2_with fail
            refine HC.out.mono ?_
            rintro e w7 ⟨v7, rfl, o7, b7⟩
            obtain ⟨A7, c7, rfl, -⟩ := o7.form
            have J7 := J6.below b7
            have KX7 := KX6.below b7
            have KN7 := KN6.below b7
            have hs6 : w.heap.size ≤ w6.heap.size := J6.under.size
            have hs7 : w.heap.size ≤ w7.heap.size := J7.under.size
            have o7' := o7.mono hs6
            have hx7 : ∀ g, (Value.slice A7 bb.length c7).ownBlock = some g → g ∉ F6 := fun g hg hm => by
              have h1 := (o7.lt g hg).1
              have h2 := J6.there g hm
              omega
            have hne7 : ∀ g, (Value.slice A7 bb.length c7).ownBlock = some g → (Value.slice A5 was.length c5).ownBlock ≠ some g := fun g hg e => by
              have h1 := (o7.lt g hg).1
              have h2 := (KN6.own.lt g e).2
              omega
            have hF7 := J7.there
            have ba := (Below.refl w7.heap.size w7).alloc (Nat.le_refl _) (.cells #[.slice A7 bb.length c7] 23)
            have bu := J7.under.alloc hs7 (.cells #[.slice A7 bb.length c7] 23)
            clear o7 HC J6 KX6 KN6 hbl2
            go_wp2_with (first
              | (refine wp_bsl (.tmp 91) (v := .slice A7 bb.length c7) rfl rfl rfl rfl ?_)
              | (refine wp_more (.tmp 89) (.tmp 92) KN7.own o7' ⟨A7, c7, rfl⟩ hne7 rfl rfl hlen0 hs7 rfl rfl rfl rfl ?_; intro g cp w8 o8 hg8 hbg8 hat8; have J8 := J7.keep (bu.grown hg8 (by simp; omega) (fun k hk => (KN7.own.lt k hk).1)) (Nat.le_trans ba.size hg8.size) (KN7.same hF7 hg8); have KX8 := (KX7.below ba).grown hg8 hD; have KN8 := KN7.more hF7 hx7 o8 hat8; clear hg8 hat8 o8))
            obtain ⟨FD, D8, hFD⟩ := J8.df
            refine (df_dark D8).mono ?_
            rintro e w9 ⟨rfl, rfl⟩
            clear J7 KX7 KN7 o7' hne7 hx7 ba bu
            have hlt' := HON.out.light
            rw [hlt']
            clear D8 KX8 hD HAT2
            go_wp2_with fail
            have HB := jf_batches J8 hlt'
            rw [show (jn.batches ((0 : Int), s').2 (jn.newest ((0 : Int), s').2).2.1).1 = was ++ [bb] from HON.out.batches] at HB
            refine HB.mono ?_
            rintro e w10 ⟨A10, n10, c10, rfl, hR10, b10⟩
            have J10 := J8.below b10
            have KN10 := KN8.below b10
            have hRN : RS w10 (some ⟨g, 0, none⟩) (was.length + 1) cp (was ++ [bb]) := by
              obtain ⟨AN, cN, e, h5⟩ := KN10.own.rs
              injection e with e1 e2 e3
              subst e1 e3
              rw [← e2] at h5
              exact h5
            have hS := same_rows hR10 hRN
            rw [decide_eq_true rfl] at hS
            have HS := Lib.hid hS
            clear HB J8 KN8 hR10 hRN b10 hS
            go_wp2_with fail
            refine HS.out.mono ?_
            rintro e w11 ⟨rfl, b11⟩
            have J11 := J10.below b11
            have KN11 := KN10.below b11
            clear HS J10 KN10 b11
            go_wp2_with fail
            go_roundw
            case rel => exact ⟨i + 1, s', k', _, F6, q, _, by go_num, by omega, by omega, rfl, rfl, J11, HON, KN11⟩
            case measure => simp [intOf]; omega
          · clear HOUT
            have HC := Lib.hid (copy_any pA mm pc bb w6 (hB1.below J6.under) (by omega))
            go_wp2_with fail
            refine HC.out.mono ?_
            rintro e w7 ⟨v7, rfl, o7, b7⟩
            obtain ⟨A7, c7, rfl, -⟩ := o7.form
            have J7 := J6.below b7
            have KX7 := KX6.below b7
            have KN7 := KN6.below b7
            have hs6 : w.heap.size ≤ w6.heap.size := J6.under.size
            have hs7 : w.heap.size ≤ w7.heap.size := J7.under.size
            have o7' := o7.mono hs6
            have hx7 : ∀ g, (Value.slice A7 bb.length c7).ownBlock = some g → g ∉ F6 := fun g hg hm => by
              have h1 := (o7.lt g hg).1
              have h2 := J6.there g hm
              omega
            have hne7 : ∀ g, (Value.slice A7 bb.length c7).ownBlock = some g → (Value.slice A5 was.length c5).ownBlock ≠ some g := fun g hg e => by
              have h1 := (o7.lt g hg).1
              have h2 := (KN6.own.lt g e).2
              omega
            have hF7 := J7.there
            have ba := (Below.refl w7.heap.size w7).alloc (Nat.le_refl _) (.cells #[.slice A7 bb.length c7] 23)
            have bu := J7.under.alloc hs7 (.cells #[.slice A7 bb.length c7] 23)
            clear o7 HC J6 KX6 KN6 hbl2
            go_wp2_with (first
              | (refine wp_bsl (.tmp 91) (v := .slice A7 bb.length c7) rfl rfl rfl rfl ?_)
              | (refine wp_more (.tmp 89) (.tmp 92) KN7.own o7' ⟨A7, c7, rfl⟩ hne7 rfl rfl hlen0 hs7 rfl rfl rfl rfl ?_; intro g cp w8 o8 hg8 hbg8 hat8; have J8 := J7.keep (bu.grown hg8 (by simp; omega) (fun k hk => (KN7.own.lt k hk).1)) (Nat.le_trans ba.size hg8.size) (KN7.same hF7 hg8); have KX8 := (KX7.below ba).grown hg8 hD; have KN8 := KN7.more hF7 hx7 o8 hat8; clear hg8 hat8 o8))
            obtain ⟨FD, D8, hFD⟩ := J8.df
            refine (df_dark D8).mono ?_
            rintro e w9 ⟨rfl, rfl⟩
            clear J7 KX7 KN7 o7' hne7 hx7 ba bu
            rw [HAT2.out.light]
            clear D8 KN8 hD
            go_wp2_with fail
            have HB := jf_batches J8 HAT2.out.light
            rw [show (jn.batches ((10 : Int), sa).2 (jn.newest ((10 : Int), sa).2).2.1).1 = was from HAT2.out.batches] at HB
            refine HB.mono ?_
            rintro e w10 ⟨A10, n10, c10, rfl, hR10, b10⟩
            have J10 := J8.below b10
            have KX10 := KX8.below b10
            obtain ⟨AN, cN, rfl, hRN⟩ := KX10.own.rs
            have hS := same_rows hR10 hRN
            rw [decide_eq_true rfl] at hS
            have HS := Lib.hid hS
            clear HB J8 KX8 hR10 hRN b10 hS
            go_wp2_with fail
            refine HS.out.mono ?_
            rintro e w11 ⟨rfl, b11⟩
            have J11 := J10.below b11
            have KX11 := KX10.below b11
            clear HS J10 KX10 b11
            go_wp2_with fail
            go_roundw
            case rel => exact ⟨i + 1, sa, k, _, F6, q, _, by go_num, by omega, by omega, rfl, rfl, J11, HAT2.out.mono, KX11⟩
            case measure => simp [intOf]; omega
          · have HCR := Lib.hid hcr
            clear HOUT hcr
            have HC := Lib.hid (copy_any pA mm pc bb w6 (hB1.below J6.under) (by omega))
            go_wp2_with fail
            refine HC.out.mono ?_
            rintro e w7 ⟨v7, rfl, o7, b7⟩
            obtain ⟨A7, c7, rfl, -⟩ := o7.form
            have J7 := J6.below b7
            have KX7 := KX6.below b7
            have KN7 := KN6.below b7
            have hs6 : w.heap.size ≤ w6.heap.size := J6.under.size
            have hs7 : w.heap.size ≤ w7.heap.size := J7.under.size
            have o7' := o7.mono hs6
            have hx7 : ∀ g, (Value.slice A7 bb.length c7).ownBlock = some g → g ∉ F6 := fun g hg hm => by
              have h1 := (o7.lt g hg).1
              have h2 := J6.there g hm
              omega
            have hne7 : ∀ g, (Value.slice A7 bb.length c7).ownBlock = some g → (Value.slice A5 was.length c5).ownBlock ≠ some g := fun g hg e => by
              have h1 := (o7.lt g hg).1
              have h2 := (KN6.own.lt g e).2
              omega
            have hF7 := J7.there
            have ba := (Below.refl w7.heap.size w7).alloc (Nat.le_refl _) (.cells #[.slice A7 bb.length c7] 23)
            have bu := J7.under.alloc hs7 (.cells #[.slice A7 bb.length c7] 23)
            clear o7 HC J6 KX6 KN6 hbl2
            go_wp2_with (first
              | (refine wp_bsl (.tmp 91) (v := .slice A7 bb.length c7) rfl rfl rfl rfl ?_)
              | (refine wp_more (.tmp 89) (.tmp 92) KN7.own o7' ⟨A7, c7, rfl⟩ hne7 rfl rfl hlen0 hs7 rfl rfl rfl rfl ?_; intro g cp w8 o8 hg8 hbg8 hat8; have J8 := J7.keep (bu.grown hg8 (by simp; omega) (fun k hk => (KN7.own.lt k hk).1)) (Nat.le_trans ba.size hg8.size) (KN7.same hF7 hg8); have KX8 := (KX7.below ba).grown hg8 hD; have KN8 := KN7.more hF7 hx7 o8 hat8; clear hg8 hat8 o8))
            obtain ⟨FD, D8, hFD⟩ := J8.df
            refine (df_dark D8).mono ?_
            rintro e w9 ⟨rfl, rfl⟩
            clear J7 KX7 KN7 o7' hne7 hx7 ba bu
            rw [hdark]
            clear hD HAT2
            go_wp2_with fail
            have hI8 : IS w8 A3 n3 c3 picks := hPicks.chg (Chg.of_below J8.under []) (by simp)
            refine (df_crash A3 n3 c3 picks hI8 hP3 D8).mono ?_
            rintro e w10 ⟨F10, rfl, D10, c10, u10⟩
            have cF : Chg w8 w10 F6 := c10.mono (fun k hk => .inl (hFD k hk))
            have uF : Sub w8 F10 F6 := fun k hk => (u10 k hk).imp (hFD k) id
            have KX10 := KX8.chg cF uF
            have KN10 := KN8.chg cF uF
            have hcp := HCR.out picks
            have hop : jn.opens (dk.crash s' picks) = 0 := hcp.elim (fun h => h.elim fun k h => h.opens (by omega)) (fun h => h.elim fun k h => h.opens (by omega))
            have HOP := Lib.hid hop
            clear J8 KX8 KN8 hI8 D8 cF uF c10 u10 HCR hop
            go_wp2_with fail
            refine (jf_open D10 ht).mono ?_
            rintro e w11 ⟨v, F11, rfl, hv, -, b11, u11⟩
            have J11 : JF w w11 F11 _ v (dk.crash s' picks) := hv HOP.out
            obtain ⟨q', rfl⟩ := J11.form
            rw [show jn.opens (dk.crash ((9 : Int), s').2 picks) = 0 from HOP.out]
            have KX11 := KX10.chg (Chg.of_below b11 F10) u11
            have KN11 := KN10.chg (Chg.of_below b11 F10) u11
            clear hv b11 u11 KX10 KN10 D10 HOP
            go_wp2_with fail
            rcases hcp with ⟨kc, hc1⟩ | ⟨kc, hc1⟩
            · have HC1 := Lib.hid hc1
              have HB := jf_batches J11 rfl
              rw [hc1.batches] at HB
              refine HB.mono ?_
              rintro e w12 ⟨A12, n12, c12, rfl, hR12, b12⟩
              have J12 := J11.below b12
              have KX12 := KX11.below b12
              obtain ⟨AN, cN, rfl, hRN⟩ := KX12.own.rs
              have hS := same_rows hR12 hRN
              rw [decide_eq_true rfl] at hS
              have HS := Lib.hid hS
              clear HB J11 KX11 KN11 hR12 hRN b12 hS hc1
              go_wp2_with fail
              refine HS.out.mono ?_
              rintro e w13 ⟨rfl, b13⟩
              have J13 := J12.below b13
              have KX13 := KX12.below b13
              clear HS J12 KX12 b13
              go_wp2_with fail
              go_roundw
              case rel => exact ⟨i + 1, _, kc, _, F11, q', _, by go_num, by omega, by omega, rfl, rfl, J13, HC1, KX13⟩
              case measure => simp [intOf]; omega
            · have HC1 := Lib.hid hc1
              have HB := jf_batches J11 rfl
              rw [hc1.batches] at HB
              refine HB.mono ?_
              rintro e w12 ⟨A12, n12, c12, rfl, hR12, b12⟩
              have J12 := J11.below b12
              have KX12 := KX11.below b12
              have KN12 := KN11.below b12
              obtain ⟨AN, cN, rfl, hRW⟩ := KX12.own.rs
              have hS := same_rows hR12 hRW
              by_cases hw : was ++ [bb] = was
              · rw [decide_eq_true hw] at hS
                have HS := Lib.hid hS
                have HW := Lib.hid hw
                clear HB J11 KX11 KN11 hR12 hRW b12 hS hc1 hw KN12
                go_wp2_with fail
                refine HS.out.mono ?_
                rintro e w13 ⟨rfl, b13⟩
                have J13 := J12.below b13
                have KX13 := KX12.below b13
                clear HS J12 KX12 b13
                go_wp2_with fail
                go_roundw
                case rel => exact ⟨i + 1, _, kc, _, F11, q', _, by go_num, by omega, by omega, rfl, rfl, J13, (by rw [← HW.out]; exact HC1.out : jn.On m (i + 1) _ kc was), KX13⟩
                case measure => simp [intOf]; omega
              · rw [decide_eq_false hw] at hS
                have HS := Lib.hid hS
                clear HB J11 KX11 KN11 hR12 hRW b12 hS hc1 hw KX12
                go_wp2_with fail
                refine HS.out.mono ?_
                rintro e w13 ⟨rfl, b13⟩
                have J13 := J12.below b13
                have KN13 := KN12.below b13
                clear HS J12 KN12 b13
                go_wp2_with fail
                have HB := jf_batches J13 rfl
                rw [HC1.out.batches] at HB
                refine HB.mono ?_
                rintro e w14 ⟨A14, n14, c14, rfl, hR14, b14⟩
                have J14 := J13.below b14
                have KN14 := KN13.below b14
                have hRN : RS w14 (some ⟨g, 0, none⟩) (was.length + 1) cp (was ++ [bb]) := by
                  obtain ⟨AN, cN, e, h5⟩ := KN14.own.rs
                  injection e with e1 e2 e3
                  subst e1 e3
                  rw [← e2] at h5
                  exact h5
                have hS := same_rows hR14 hRN
                rw [decide_eq_true (show (was ++ [bb] : List (List UInt8)) = was ++ [bb] from rfl)] at hS
                have HS := Lib.hid hS
                clear HB J13 KN13 hR14 hRN b14 hS
                go_wp2_with fail
                refine HS.out.mono ?_
                rintro e w15 ⟨rfl, b15⟩
                have J15 := J14.below b15
                have KN15 := KN14.below b15
                clear HS J14 KN14 b15
                go_wp2_with fail
                go_roundw
                case rel => exact ⟨i + 1, _, kc, _, F11, q', _, by go_num, by omega, by omega, rfl, rfl, J15, HC1, KN15⟩
                case measure => simp [intOf]; omega
        · have HA := Lib.hid (fun W (hb : Below wx.heap.size wx W) => HAT2.out.num (by omega) |>.elim fun c0 h0 => h0.elim fun N0 h1 => jf_replace (JX.below hb) ht h1.1 h1.2.1 (HAT2.out.few (by omega)) (hB1.below (hbX.trans (hb.mono hbX.size))) (fun h0 z o e hm => by have h2 := hA1 z o e h0; have h3 := JX.at_ z hm; omega))
          go_wp2_with fail
          refine (HA.out _ (Below.refl _ _)).mono ?_
          rintro e w6 ⟨F6, rfl, J6, c6, u6⟩
          have KX6 := KX.chg c6 u6
          have KN6 := KR.nil_ 5 23 w w6 F6
          have hD : ∀ k, (Value.slice none 0 0).ownBlock = some k → u13.ownBlock ≠ some k ∧ ∀ x ∈ vs, x.ownBlock ≠ some k := fun k hk => by simp [Value.ownBlock] at hk
          have hlen0 : ([] : List (List UInt8)).length ≤ 1048576 := Nat.zero_le _
          have hout := HAT2.out.replace (by omega) bb (by omega)
          obtain ⟨r, hr⟩ : ∃ r, jn.replace sa k bb = r := ⟨_, rfl⟩
          rw [hr] at J6 hout ⊢
          have HOUT := Lib.hid hout
          clear HA c6 u6 hr hout JX KX
          rcases HOUT.out with ⟨s', k', rfl, hOn⟩ | rfl | ⟨s', rfl, hdark, hcr⟩
          · have HON := Lib.hid hOn
            clear HOUT hOn
            have HC := Lib.hid (copy_any pA mm pc bb w6 (hB1.below J6.under) (by omega))
            go_wp2_with fail
            refine HC.out.mono ?_
            rintro e w7 ⟨v7, rfl, o7, b7⟩
            obtain ⟨A7, c7, rfl, -⟩ := o7.form
            have J7 := J6.below b7
            have KX7 := KX6.below b7
            have KN7 := KN6.below b7
            have hs6 : w.heap.size ≤ w6.heap.size := J6.under.size
            have hs7 : w.heap.size ≤ w7.heap.size := J7.under.size
            have o7' := o7.mono hs6
            have hx7 : ∀ g, (Value.slice A7 bb.length c7).ownBlock = some g → g ∉ F6 := fun g hg hm => by
              have h1 := (o7.lt g hg).1
              have h2 := J6.there g hm
              omega
            have hne7 : ∀ g, (Value.slice A7 bb.length c7).ownBlock = some g → (Value.slice none 0 0).ownBlock ≠ some g := fun g hg e => by
              have h1 := (o7.lt g hg).1
              have h2 := (KN6.own.lt g e).2
              omega
            have hF7 := J7.there
            have ba := (Below.refl w7.heap.size w7).alloc (Nat.le_refl _) (.cells #[.slice A7 bb.length c7] 23)
            have bu := J7.under.alloc hs7 (.cells #[.slice A7 bb.length c7] 23)
            clear o7 HC J6 KX6 KN6 hbl2
            go_wp2_with (first
              | (refine wp_bsl (.tmp 91) (v := .slice A7 bb.length c7) rfl rfl rfl rfl ?_)
              | (refine wp_more (.tmp 89) (.tmp 92) KN7.own o7' ⟨A7, c7, rfl⟩ hne7 rfl rfl hlen0 hs7 rfl rfl rfl rfl ?_; intro g cp w8 o8 hg8 hbg8 hat8; have J8 := J7.keep (bu.grown hg8 (by simp; omega) (fun k hk => (KN7.own.lt k hk).1)) (Nat.le_trans ba.size hg8.size) (KN7.same hF7 hg8); have KX8 := (KX7.below ba).grown hg8 hD; have KN8 := KN7.more hF7 hx7 o8 hat8; clear hg8 hat8 o8))
            obtain ⟨FD, D8, hFD⟩ := J8.df
            refine (df_dark D8).mono ?_
            rintro e w9 ⟨rfl, rfl⟩
            clear J7 KX7 KN7 o7' hne7 hx7 ba bu
            have hlt' := HON.out.light
            rw [hlt']
            clear D8 KX8 hD HAT2
            go_wp2_with fail
            have HB := jf_batches J8 hlt'
            rw [show (jn.batches ((0 : Int), s').2 (jn.newest ((0 : Int), s').2).2.1).1 = ([] : List (List UInt8)) ++ [bb] from HON.out.batches] at HB
            refine HB.mono ?_
            rintro e w10 ⟨A10, n10, c10, rfl, hR10, b10⟩
            have J10 := J8.below b10
            have KN10 := KN8.below b10
            have hRN : RS w10 (some ⟨g, 0, none⟩) (([] : List (List UInt8)).length + 1) cp (([] : List (List UInt8)) ++ [bb]) := by
              obtain ⟨AN, cN, e, h5⟩ := KN10.own.rs
              injection e with e1 e2 e3
              subst e1 e3
              rw [← e2] at h5
              exact h5
            have hS := same_rows hR10 hRN
            rw [decide_eq_true rfl] at hS
            have HS := Lib.hid hS
            clear HB J8 KN8 hR10 hRN b10 hS
            go_wp2_with fail
            refine HS.out.mono ?_
            rintro e w11 ⟨rfl, b11⟩
            have J11 := J10.below b11
            have KN11 := KN10.below b11
            clear HS J10 KN10 b11
            go_wp2_with fail
            go_roundw
            case rel => exact ⟨i + 1, s', k', _, F6, q, _, by go_num, by omega, by omega, rfl, rfl, J11, HON, KN11⟩
            case measure => simp [intOf]; omega
          · clear HOUT
            have HC := Lib.hid (copy_any pA mm pc bb w6 (hB1.below J6.under) (by omega))
            go_wp2_with fail
            refine HC.out.mono ?_
            rintro e w7 ⟨v7, rfl, o7, b7⟩
            obtain ⟨A7, c7, rfl, -⟩ := o7.form
            have J7 := J6.below b7
            have KX7 := KX6.below b7
            have KN7 := KN6.below b7
            have hs6 : w.heap.size ≤ w6.heap.size := J6.under.size
            have hs7 : w.heap.size ≤ w7.heap.size := J7.under.size
            have o7' := o7.mono hs6
            have hx7 : ∀ g, (Value.slice A7 bb.length c7).ownBlock = some g → g ∉ F6 := fun g hg hm => by
              have h1 := (o7.lt g hg).1
              have h2 := J6.there g hm
              omega
            have hne7 : ∀ g, (Value.slice A7 bb.length c7).ownBlock = some g → (Value.slice none 0 0).ownBlock ≠ some g := fun g hg e => by
              have h1 := (o7.lt g hg).1
              have h2 := (KN6.own.lt g e).2
              omega
            have hF7 := J7.there
            have ba := (Below.refl w7.heap.size w7).alloc (Nat.le_refl _) (.cells #[.slice A7 bb.length c7] 23)
            have bu := J7.under.alloc hs7 (.cells #[.slice A7 bb.length c7] 23)
            clear o7 HC J6 KX6 KN6 hbl2
            go_wp2_with (first
              | (refine wp_bsl (.tmp 91) (v := .slice A7 bb.length c7) rfl rfl rfl rfl ?_)
              | (refine wp_more (.tmp 89) (.tmp 92) KN7.own o7' ⟨A7, c7, rfl⟩ hne7 rfl rfl hlen0 hs7 rfl rfl rfl rfl ?_; intro g cp w8 o8 hg8 hbg8 hat8; have J8 := J7.keep (bu.grown hg8 (by simp; omega) (fun k hk => (KN7.own.lt k hk).1)) (Nat.le_trans ba.size hg8.size) (KN7.same hF7 hg8); have KX8 := (KX7.below ba).grown hg8 hD; have KN8 := KN7.more hF7 hx7 o8 hat8; clear hg8 hat8 o8))
            obtain ⟨FD, D8, hFD⟩ := J8.df
            refine (df_dark D8).mono ?_
            rintro e w9 ⟨rfl, rfl⟩
            clear J7 KX7 KN7 o7' hne7 hx7 ba bu
            rw [HAT2.out.light]
            clear D8 KN8 hD
            go_wp2_with fail
            have HB := jf_batches J8 HAT2.out.light
            rw [show (jn.batches ((10 : Int), sa).2 (jn.newest ((10 : Int), sa).2).2.1).1 = was from HAT2.out.batches] at HB
            refine HB.mono ?_
            rintro e w10 ⟨A10, n10, c10, rfl, hR10, b10⟩
            have J10 := J8.below b10
            have KX10 := KX8.below b10
            obtain ⟨AN, cN, rfl, hRN⟩ := KX10.own.rs
            have hS := same_rows hR10 hRN
            rw [decide_eq_true rfl] at hS
            have HS := Lib.hid hS
            clear HB J8 KX8 hR10 hRN b10 hS
            go_wp2_with fail
            refine HS.out.mono ?_
            rintro e w11 ⟨rfl, b11⟩
            have J11 := J10.below b11
            have KX11 := KX10.below b11
            clear HS J10 KX10 b11
            go_wp2_with fail
            go_roundw
            case rel => exact ⟨i + 1, sa, k, _, F6, q, _, by go_num, by omega, by omega, rfl, rfl, J11, HAT2.out.mono, KX11⟩
            case measure => simp [intOf]; omega
          · have HCR := Lib.hid hcr
            clear HOUT hcr
            have HC := Lib.hid (copy_any pA mm pc bb w6 (hB1.below J6.under) (by omega))
            go_wp2_with fail
            refine HC.out.mono ?_
            rintro e w7 ⟨v7, rfl, o7, b7⟩
            obtain ⟨A7, c7, rfl, -⟩ := o7.form
            have J7 := J6.below b7
            have KX7 := KX6.below b7
            have KN7 := KN6.below b7
            have hs6 : w.heap.size ≤ w6.heap.size := J6.under.size
            have hs7 : w.heap.size ≤ w7.heap.size := J7.under.size
            have o7' := o7.mono hs6
            have hx7 : ∀ g, (Value.slice A7 bb.length c7).ownBlock = some g → g ∉ F6 := fun g hg hm => by
              have h1 := (o7.lt g hg).1
              have h2 := J6.there g hm
              omega
            have hne7 : ∀ g, (Value.slice A7 bb.length c7).ownBlock = some g → (Value.slice none 0 0).ownBlock ≠ some g := fun g hg e => by
              have h1 := (o7.lt g hg).1
              have h2 := (KN6.own.lt g e).2
              omega
            have hF7 := J7.there
            have ba := (Below.refl w7.heap.size w7).alloc (Nat.le_refl _) (.cells #[.slice A7 bb.length c7] 23)
            have bu := J7.under.alloc hs7 (.cells #[.slice A7 bb.length c7] 23)
            clear o7 HC J6 KX6 KN6 hbl2
            go_wp2_with (first
              | (refine wp_bsl (.tmp 91) (v := .slice A7 bb.length c7) rfl rfl rfl rfl ?_)
              | (refine wp_more (.tmp 89) (.tmp 92) KN7.own o7' ⟨A7, c7, rfl⟩ hne7 rfl rfl hlen0 hs7 rfl rfl rfl rfl ?_; intro g cp w8 o8 hg8 hbg8 hat8; have J8 := J7.keep (bu.grown hg8 (by simp; omega) (fun k hk => (KN7.own.lt k hk).1)) (Nat.le_trans ba.size hg8.size) (KN7.same hF7 hg8); have KX8 := (KX7.below ba).grown hg8 hD; have KN8 := KN7.more hF7 hx7 o8 hat8; clear hg8 hat8 o8))
            obtain ⟨FD, D8, hFD⟩ := J8.df
            refine (df_dark D8).mono ?_
            rintro e w9 ⟨rfl, rfl⟩
            clear J7 KX7 KN7 o7' hne7 hx7 ba bu
            rw [hdark]
            clear hD HAT2
            go_wp2_with fail
            have hI8 : IS w8 A3 n3 c3 picks := hPicks.chg (Chg.of_below J8.under []) (by simp)
            refine (df_crash A3 n3 c3 picks hI8 hP3 D8).mono ?_
            rintro e w10 ⟨F10, rfl, D10, c10, u10⟩
            have cF : Chg w8 w10 F6 := c10.mono (fun k hk => .inl (hFD k hk))
            have uF : Sub w8 F10 F6 := fun k hk => (u10 k hk).imp (hFD k) id
            have KX10 := KX8.chg cF uF
            have KN10 := KN8.chg cF uF
            have hcp := HCR.out picks
            have hop : jn.opens (dk.crash s' picks) = 0 := hcp.elim (fun h => h.elim fun k h => h.opens (by omega)) (fun h => h.elim fun k h => h.opens (by omega))
            have HOP := Lib.hid hop
            clear J8 KX8 KN8 hI8 D8 cF uF c10 u10 HCR hop
            go_wp2_with fail
            refine (jf_open D10 ht).mono ?_
            rintro e w11 ⟨v, F11, rfl, hv, -, b11, u11⟩
            have J11 : JF w w11 F11 _ v (dk.crash s' picks) := hv HOP.out
            obtain ⟨q', rfl⟩ := J11.form
            rw [show jn.opens (dk.crash ((9 : Int), s').2 picks) = 0 from HOP.out]
            have KX11 := KX10.chg (Chg.of_below b11 F10) u11
            have KN11 := KN10.chg (Chg.of_below b11 F10) u11
            clear hv b11 u11 KX10 KN10 D10 HOP
            go_wp2_with fail
            rcases hcp with ⟨kc, hc1⟩ | ⟨kc, hc1⟩
            · have HC1 := Lib.hid hc1
              have HB := jf_batches J11 rfl
              rw [hc1.batches] at HB
              refine HB.mono ?_
              rintro e w12 ⟨A12, n12, c12, rfl, hR12, b12⟩
              have J12 := J11.below b12
              have KX12 := KX11.below b12
              obtain ⟨AN, cN, rfl, hRN⟩ := KX12.own.rs
              have hS := same_rows hR12 hRN
              rw [decide_eq_true rfl] at hS
              have HS := Lib.hid hS
              clear HB J11 KX11 KN11 hR12 hRN b12 hS hc1
              go_wp2_with fail
              refine HS.out.mono ?_
              rintro e w13 ⟨rfl, b13⟩
              have J13 := J12.below b13
              have KX13 := KX12.below b13
              clear HS J12 KX12 b13
              go_wp2_with fail
              go_roundw
              case rel => exact ⟨i + 1, _, kc, _, F11, q', _, by go_num, by omega, by omega, rfl, rfl, J13, HC1, KX13⟩
              case measure => simp [intOf]; omega
            · have HC1 := Lib.hid hc1
              have HB := jf_batches J11 rfl
              rw [hc1.batches] at HB
              refine HB.mono ?_
              rintro e w12 ⟨A12, n12, c12, rfl, hR12, b12⟩
              have J12 := J11.below b12
              have KX12 := KX11.below b12
              have KN12 := KN11.below b12
              obtain ⟨AN, cN, rfl, hRW⟩ := KX12.own.rs
              have hS := same_rows hR12 hRW
              by_cases hw : [bb] = was
              · rw [decide_eq_true hw] at hS
                have HS := Lib.hid hS
                have HW := Lib.hid hw
                clear HB J11 KX11 KN11 hR12 hRW b12 hS hc1 hw KN12
                go_wp2_with fail
                refine HS.out.mono ?_
                rintro e w13 ⟨rfl, b13⟩
                have J13 := J12.below b13
                have KX13 := KX12.below b13
                clear HS J12 KX12 b13
                go_wp2_with fail
                go_roundw
                case rel => exact ⟨i + 1, _, kc, _, F11, q', _, by go_num, by omega, by omega, rfl, rfl, J13, (by rw [← HW.out]; exact HC1.out : jn.On m (i + 1) _ kc was), KX13⟩
                case measure => simp [intOf]; omega
              · rw [decide_eq_false hw] at hS
                have HS := Lib.hid hS
                clear HB J11 KX11 KN11 hR12 hRW b12 hS hc1 hw KX12
                go_wp2_with fail
                refine HS.out.mono ?_
                rintro e w13 ⟨rfl, b13⟩
                have J13 := J12.below b13
                have KN13 := KN12.below b13
                clear HS J12 KN12 b13
                go_wp2_with fail
                have HB := jf_batches J13 rfl
                rw [HC1.out.batches] at HB
                refine HB.mono ?_
                rintro e w14 ⟨A14, n14, c14, rfl, hR14, b14⟩
                have J14 := J13.below b14
                have KN14 := KN13.below b14
                have hRN : RS w14 (some ⟨g, 0, none⟩) (([] : List (List UInt8)).length + 1) cp (([] : List (List UInt8)) ++ [bb]) := by
                  obtain ⟨AN, cN, e, h5⟩ := KN14.own.rs
                  injection e with e1 e2 e3
                  subst e1 e3
                  rw [← e2] at h5
                  exact h5
                have hS := same_rows hR14 hRN
                rw [decide_eq_true (show ([bb] : List (List UInt8)) = ([] : List (List UInt8)) ++ [bb] from rfl)] at hS
                have HS := Lib.hid hS
                clear HB J13 KN13 hR14 hRN b14 hS
                go_wp2_with fail
                refine HS.out.mono ?_
                rintro e w15 ⟨rfl, b15⟩
                have J15 := J14.below b15
                have KN15 := KN14.below b15
                clear HS J14 KN14 b15
                go_wp2_with fail
                go_roundw
                case rel => exact ⟨i + 1, _, kc, _, F11, q', _, by go_num, by omega, by omega, rfl, rfl, J15, HC1, KN15⟩
                case measure => simp [intOf]; omega
    · have hgA := HAT.out.arm 0 (by omega)
      have hi' : ¬ (i : Int) < (n : Int) ∨ ((i : Int) < (n : Int) ∧ ¬ (i : Int) < 30) := by omega
      have HGA := Lib.hid hgA
      clear hgA hlt
      rcases hi' with h1 | ⟨h1, h2⟩
      all_goals
        go_wp2_with fail
        refine (jf_arm 0 (by omega) J).mono ?_
        rintro e wa ⟨FA, rfl, JA, cA, uA⟩
        rw [HGA.out.1]
        have KA := K.chg cA uA
        clear K J cA uA
        go_wp2_with fail
        obtain ⟨FD, D8, hFD⟩ := JA.df
        refine (jf_open D8 ht).mono ?_
        rintro e wo ⟨v, FO, rfl, hv, -, bO, uO⟩
        rw [HGA.out.2.opens (by omega)]
        have JO := hv (HGA.out.2.opens (by omega))
        obtain ⟨qo, rfl⟩ := JO.form
        have KO := KA.below bO
        clear KA JA D8 hFD hv bO uO
        go_wp2_with fail
        have HB := jf_batches JO HGA.out.2.light
        rw [HGA.out.2.batches] at HB
        refine HB.mono ?_
        rintro e wb ⟨A12, n12, c12, rfl, hR12, b12⟩
        have JB := JO.below b12
        have KB := KO.below b12
        obtain ⟨AN, cN, rfl, hRN⟩ := KB.own.rs
        have hS := same_rows hR12 hRN
        rw [decide_eq_true rfl] at hS
        have HS := Lib.hid hS
        clear HB JO KO hR12 hRN b12 hS KB
        go_wp2_with fail
        refine HS.out.mono ?_
        rintro e ws ⟨rfl, bs⟩
        have JS := (JB.below bs).under
        clear HS JB bs
        go_wp2_with fail
        refine (lives07_any _ (ht.below JS)).mono ?_
        rintro e w9 ⟨rfl, b9⟩
        go_wp2_with fail
        go_ret
        exact ⟨rfl, JS.trans (b9.mono JS.size)⟩
end Go.Proofs.YthddcaoolaipiaaDoor

/-
  the tables that a row lists (crc's of four bits; head's of sizes, where there is one): what the row's list gives, and a world for the witness.
-/
namespace Go.Proofs.YthddcaoolaipiaaDoor.laid
open Go.ChangeShapes Go.WideShapes Go.ChangeAt Go.RowKit

theorem four : Tryd.prog.globalNamed "cardex/crc.fourOn" = some 1 := by kernel_rfl
theorem fourType : (Tryd.prog.globals[1]?).map (·.type) = some 121 := by kernel_rfl
theorem fourCells : Tryd.prog.cellsOf 121 = 16 := by kernel_rfl
theorem wordCells : Tryd.prog.cellsOf 49 = 1 := by kernel_rfl
def words : List Int := [0, 274646895, 549293790, 820201905, 1098587580, 1361435347, 1640403810, 1905808397, 2197175160, 2460548119, 2722870694, 2987750089, 3280807620, 3553878443, 3811616794, 4084100981]
theorem words_on : ∀ i : Fin 16, words.getD i.val 0 = ((crc.on 4 (BitVec.ofNat 32 i.val)).toNat : Int) := by decide +kernel
/-- a variable that is listed, wherever it stands on the list, reads as its datum -/
theorem reads_of {P : Program} {w : World} : ∀ {l : List (String × DataW Unit)} {ps : List MemPlace}, DataW.LaidVars P w l ps → ∀ n d, (n, d) ∈ l →
    ∃ g t cs fuel p, P.globalNamed n = some g ∧ (P.globals[g]?).map (·.type) = some t ∧ w.var? P n = some cs ∧ DataW.trod (fun _ => ()) P w 0 (fun _ => true) false fuel t cs.toList = some (d, p)
  | [], _, _, _, _, hm => by cases hm
  | (n', d') :: r, ps, h, n, d, hm => by
    obtain ⟨g, t, cs, fuel, p, q, h1, h2, h3, h4, h5, _⟩ := h
    rcases List.mem_cons.1 hm with e | e
    · cases e
      exact ⟨g, t, cs, fuel, p, h1, h2, h3, h4⟩
    · exact reads_of h5 n d e
theorem tab_of {P : Program} {W : World} {l : List (String × DataW Unit)} {name : String} {k : IntKind} {zs : List Int} {g : Nat} {t e : TypeId} {n : Nat}
    (hg : P.globalNamed name = some g) (hty : (P.globals[g]?).map (·.type) = some t) (ht : P.underlying t = some (.array n e)) (he : P.underlying e = some (.int k)) (hce : P.cellsOf e = 1) (hct : P.cellsOf t = n)
    (h : laidMet P l W) (hm : (name, Lib.tabData k zs) ∈ l) : Lib.TabIs P W name k zs := by
  obtain ⟨ps, hv, _⟩ := h
  obtain ⟨g', t', cs, fuel, p, hg', ht', hvar, hd⟩ := reads_of hv _ _ hm
  obtain rfl := Option.some.inj (hg.symm.trans hg')
  obtain rfl := Option.some.inj (hty.symm.trans ht')
  unfold Lib.TabIs
  rw [hvar, ← Lib.cells_of_tab ht he hce hct hd]
theorem tab1 {W : World} {l : List (String × DataW Unit)} (h : laidMet Tryd.prog l W) (hm : ("cardex/crc.fourOn", Lib.tabData .u32 words) ∈ l) : Tab W := by
  have ht : Lib.TabIs Tryd.prog W "cardex/crc.fourOn" .u32 words :=
    tab_of four fourType Tryd.underlying121 Tryd.underlying49 wordCells fourCells h hm
  have hc : ∀ i, i < 16 → W.cell? ⟨1, i, none⟩ = some (wv (crc.on 4 (BitVec.ofNat 32 i))) := fun i hi => by
    rw [ht.cell four i (by simpa [words] using hi)]
    have := words_on ⟨i, hi⟩
    simp only at this
    rw [this]
  exact ⟨World.block_lt_of_cell? _ _ (hc 0 (by omega)), hc⟩
theorem siz : Tryd.prog.globalNamed "cardex/head.sizes" = some 0 := by kernel_rfl
theorem sizType : (Tryd.prog.globals[0]?).map (·.type) = some 111 := by kernel_rfl
theorem sizCells : Tryd.prog.cellsOf 111 = 3 := by kernel_rfl
theorem intCells : Tryd.prog.cellsOf 3 = 1 := by kernel_rfl
def sizes : List Int := [1, 4, 4]
theorem tab2 {W : World} {l : List (String × DataW Unit)} (h : laidMet Tryd.prog l W) (hm : ("cardex/head.sizes", Lib.tabData .i64 sizes) ∈ l) : Siz W := by
  have ht : Lib.TabIs Tryd.prog W "cardex/head.sizes" .i64 sizes :=
    tab_of siz sizType Tryd.underlying111 Tryd.underlying3 intCells sizCells h hm
  have h0 := ht.cell siz 0 (by simp [sizes])
  exact ⟨World.block_lt_of_cell? _ _ h0, h0, ht.cell siz 1 (by simp [sizes]), ht.cell siz 2 (by simp [sizes])⟩
def listed : List (String × DataW Unit) := [("cardex/crc.fourOn", Rows.laid_cardex_crc_fourOn), ("cardex/head.sizes", Rows.laid_cardex_head_sizes)]
theorem tab {W : World} (h : laidMetH Tryd.prog listed W) : Tabs W := ⟨tab1 (l := listed) h (.head _), tab2 (l := listed) h (.tail _ (.head _))⟩
/-- a world for the witness: the settled one, with the tables as their initialisers lay them -/
def lay (vs : List Value) : Obj → Obj
  | .cells _ t frozen => .cells vs.toArray t frozen
  | o => o
noncomputable def world (os : Os) : World :=
  { World.holding Tryd.prog os ⟨#[], #[], []⟩ with heap := ((World.holding Tryd.prog os ⟨#[], #[], []⟩).heap.modify 1 (lay (words.map fun z => Value.int .u32 z))).modify 0 (lay (sizes.map fun z => Value.int .i64 z)) }
end Go.Proofs.YthddcaoolaipiaaDoor.laid

/-
  cardexlaw07: the walks in the form that the statements' last step wants.
-/
namespace Go.Proofs.YthddcaoolaipiaaDoor
open Go.RowKit
theorem journalCuts.walk_JournalCuts (x : UInt8) (A : Option Addr) (n c : Nat) (l : List LC) (A2 : Option Addr) (n2 c2 : Nat) (arms : List UInt8) (A3 : Option Addr) (n3 c3 : Nat) (picks : List Int) (w : World)
    (h : LS w A n c l) (hArms : BS w A2 n2 c2 arms) (_ : n2 ≤ 140737488351232) (hPicks : IS w A3 n3 c3 picks) (ht : Tabs w) :
    Calls Tryd.prog 3 #[bv x, .slice A n c, .slice A2 n2 c2, .slice A3 n3 c3] w fun e w' => e = .returned (.bool true) ∧ Below w.heap.size w w' := Go.Proofs.YthddcaoolaipiaaDoor.walk_JournalCuts x A n c l A2 n2 c2 arms A3 n3 c3 picks w h hArms hPicks ht
end Go.Proofs.YthddcaoolaipiaaDoor
