/-
  PURE: steps, one behind the other, are what lay, Append, Replace, Make come to; what a journal that goes by its head has of its disk.
-/
import Derived.Test.YtknndmhkfonfmaaDoorM5
import Derived.Test.YtknndmhkfonfmaaDoorM3
import Derived.Test.YtknndmhkfonfmaaDoorM2
import Derived.Test.YtknndmhkfonfmaaDoorM1
import Derived.Test.YtknndmhkfonfmaaDoorM4
import Derived.Deep.SlicePairs
import Derived.Deep.Slices
import Derived.Laws.AppendOwnNone
namespace Go.Proofs.YtknndmhkfonfmaaDoor
namespace jn
theorem run_one (t : St) (o : Op) : runOps t [o] = opR t o := by
  simp only [runOps]
  split
  · rename_i h
    exact Prod.ext h.symm rfl
  · rfl
theorem ops_lay {s : St} {at_ : Nat} {l : List Blk} {h : hd.H} {a b : Blk}
    (hD : (writes s at_ l).1 = 0 → (dk.flush (writes s at_ l).2).1 = 0 → rd (dk.flush (writes s at_ l).2).2 0 = a ∧ rd (dk.flush (writes s at_ l).2).2 1 = b) :
    runOps s (layOps a b (wrs at_ l ++ [.fl]) h) = lay s at_ l h := by
  unfold layOps
  rw [runOps_app, runOps_app, runOps_wrs]
  by_cases h1 : (writes s at_ l).1 = 0
  · rw [if_pos h1, run_one]
    show (if (dk.flush (writes s at_ l).2).1 = 0 then _ else _) = _
    by_cases h2 : (dk.flush (writes s at_ l).2).1 = 0
    · have h3 := hD h1 h2
      unfold jn.lay
      rw [if_pos h1, if_pos h2, if_pos h2]
      show runOps (dk.flush (writes s at_ l).2).2 _ = _
      generalize (dk.flush (writes s at_ l).2).2 = t at *
      have hp := nx_pos a b
      unfold jn.layH jn.newest
      rw [h3.1, h3.2]
      have e1 : (nx a b).1 = (hd.newest a b).1 + 1 := rfl
      have e2 : (nx a b).2 = sl.next a b := rfl
      rw [← e1, ← e2, hp.1, Int.toNat_natCast]
      show (if (dk.write t _ _).1 = 0 then runOps _ [Op.fl] else dk.write t _ _) = _
      rw [run_one]
      rfl
    · have e : jn.lay s at_ l h = dk.flush (writes s at_ l).2 := by unfold jn.lay; rw [if_pos h1, if_neg h2]
      rw [e, if_neg h2]
      rfl
  · have e : jn.lay s at_ l h = writes s at_ l := by unfold jn.lay; rw [if_neg h1]
    rw [e, if_neg h1, if_neg h1]
theorem asks_zero_light {s : St} {n : Int} (h : dk.asks s n = 0) : s.black = false := by
  unfold dk.asks at h
  by_cases hb : s.black = true
  · rw [if_pos hb] at h; cases h
  · simpa using hb
/-- what stands in the heads behind steps that wrote others -/
theorem rd_behind {s : St} (ok : s.Ok) (hb : s.black = false) (hL : s.L = []) {at_ : Nat} {l : List Blk} (hl : ∀ b ∈ l, b.length = 128) (h2 : 2 ≤ at_) (hat : at_ + l.length ≤ s.S.length)
    (w1 : (writes s at_ l).1 = 0) (f1 : (dk.flush (writes s at_ l).2).1 = 0) : rd (dk.flush (writes s at_ l).2).2 0 = rd s 0 ∧ rd (dk.flush (writes s at_ l).2).2 1 = rd s 1 := by
  have h64 := ok.some
  rcases writes_cases l s at_ hb hat hl with ⟨_, w2, w3, w4, w5⟩ | ⟨w1', _⟩
  · rw [hL, List.nil_append] at w4
    rcases flush_cases w2 with ⟨_, f2, f3, f4, f5⟩ | ⟨f1', _⟩
    · rw [w3, w4] at f3
      have ha := agree_lay _ s.S (zipAt_in l at_ hl)
      generalize (dk.flush (writes s at_ l).2).2 = t at *
      have hlen : t.S.length = s.S.length := by rw [f3]; exact ha.len
      have e0 : rd t 0 = t.S.getD 0 dk.zero := rd_sure f2 f4 (k := 0) (by omega)
      have e1 : rd t 1 = t.S.getD 1 dk.zero := rd_sure f2 f4 (k := 1) (by omega)
      have g0 : rd s 0 = s.S.getD 0 dk.zero := rd_sure hb hL (k := 0) (by omega)
      have g1 : rd s 1 = s.S.getD 1 dk.zero := rd_sure hb hL (k := 1) (by omega)
      rw [e0, e1, g0, g1, f3]
      exact ⟨ha.get 0 (.inl (by omega)), ha.get 1 (.inl (by omega))⟩
    · rw [f1'] at f1; cases f1
  · rw [w1'] at w1; cases w1
theorem addR_append {s : St} (ok : s.Ok) (hL : s.L = []) {k : hd.H} (hbk : k.bank.toNat ≤ 1) (b : List UInt8) : addR s k b = append s k b := by
  unfold addR jn.append
  split
  · rfl
  · split
    · rfl
    · rename_i hb
      have hb : s.black = false := by simpa using hb
      split
      · rfl
      · rename_i hroom
        obtain ⟨g1, g2⟩ := first_most ok hbk
        exact ops_lay (fun w1 f1 => rd_behind ok hb hL (blocks_len b) (by omega) (by omega) w1 f1)
theorem addR_replace {s : St} (ok : s.Ok) (hL : s.L = []) {k : hd.H} (hbk : k.bank.toNat ≤ 1) (b : List UInt8) : addR s ⟨1 - k.bank, 0, 0⟩ b = replace s k b := by
  have hbk2 : (1 - k.bank).toNat ≤ 1 := by rcases bank_cases hbk with e | e <;> rw [e] <;> decide
  unfold addR jn.replace
  simp only [Nat.zero_add, Nat.add_zero]
  split
  · rfl
  · split
    · rfl
    · rename_i hb
      have hb : s.black = false := by simpa using hb
      split
      · rfl
      · rename_i hroom
        obtain ⟨g1, g2⟩ := first_most ok hbk2
        exact ops_lay (fun w1 f1 => rd_behind ok hb hL (blocks_len b) (by omega) (by omega) w1 f1)
theorem lay_app : ∀ (L M : List (Int × Blk)) (S : List Blk), dk.lay S (L ++ M) = dk.lay (dk.lay S L) M
  | [], _, _ => rfl
  | x :: L, M, S => by rw [List.cons_append, dk.lay, dk.lay, lay_app L M]
/-- the heads are 0 behind Make's first steps -/
theorem make_zero {s : St} (ok : s.Ok) (hb : s.black = false) (w1 : (writes s 0 [dk.zero, dk.zero]).1 = 0) (f1 : (dk.flush (writes s 0 [dk.zero, dk.zero]).2).1 = 0) :
    rd (dk.flush (writes s 0 [dk.zero, dk.zero]).2).2 0 = dk.zero ∧ rd (dk.flush (writes s 0 [dk.zero, dk.zero]).2).2 1 = dk.zero ∧ (dk.flush (writes s 0 [dk.zero, dk.zero]).2).2.black = false ∧ (dk.flush (writes s 0 [dk.zero, dk.zero]).2).2.L = [] := by
  have h64 := ok.some
  have hl : ∀ b ∈ [dk.zero, dk.zero], b.length = 128 := by intro x hx; simp at hx; rw [hx]; rfl
  rcases writes_cases [dk.zero, dk.zero] s 0 hb (by simp; omega) hl with ⟨_, w2, w3, w4, w5⟩ | ⟨w1', _⟩
  · rcases flush_cases w2 with ⟨_, f2, f3, f4, f5⟩ | ⟨f1', _⟩
    · rw [w3, w4, lay_app] at f3
      have hll : (dk.lay s.S s.L).length = s.S.length := dk.lay_length _ _
      have z0 := lay_zip [dk.zero, dk.zero] 0 (dk.lay s.S s.L) (by simp; omega) 0 (by simp)
      have z1 := lay_zip [dk.zero, dk.zero] 0 (dk.lay s.S s.L) (by simp; omega) 1 (by simp)
      generalize (dk.flush (writes s 0 [dk.zero, dk.zero]).2).2 = t at *
      have hlen : t.S.length = s.S.length := by rw [f3, dk.lay_length]; exact hll
      have e0 : rd t 0 = t.S.getD 0 dk.zero := rd_sure f2 f4 (k := 0) (by omega)
      have e1 : rd t 1 = t.S.getD 1 dk.zero := rd_sure f2 f4 (k := 1) (by omega)
      rw [e0, e1, f3]
      exact ⟨z0, z1, f2, f4⟩
    · rw [f1'] at f1; cases f1
  · rw [w1'] at w1; cases w1
theorem makeR_make {s : St} (ok : s.Ok) : makeR s = make s := by
  unfold makeR jn.make
  by_cases hb : s.black = true
  · rw [if_pos hb]
    have hq : dk.asks s 0 = 9 := by unfold dk.asks; rw [if_pos hb]
    have hw : dk.write s 0 dk.zero = (9, s) := by unfold dk.write; rw [if_neg (by rw [hq]; decide), hq]
    show (if (dk.write s 0 dk.zero).1 = 0 then _ else dk.write s 0 dk.zero) = _
    rw [hw, if_neg (show ¬ (9 : Int) = 0 by decide)]
  · rw [if_neg hb]
    have hb : s.black = false := by simpa using hb
    exact ops_lay (fun w1 f1 => ⟨(make_zero ok hb w1 f1).1, (make_zero ok hb w1 f1).2.1⟩)
/-- WHAT A JOURNAL THAT GOES BY A HEAD HAS OF ITS DISK, in the light -/
def Link (s : St) (k : hd.H) : Prop := s.black = false → (newest s).2.1 = k ∧ k.blocks ≤ half s ∧ (batches s k).2 = true
theorem Link.same {s s' : St} {k : hd.H} (h : Link s k) (hS : s'.S = s.S) (hL : s'.L = s.L) (hb : s'.black = s.black) : Link s' k := by
  obtain ⟨S, L, cut, black, many⟩ := s
  obtain ⟨S', L', cut', black', many'⟩ := s'
  simp only at hS hL hb
  subst hS hL hb
  intro hl
  have hr : ∀ n, rd ⟨S', L', cut', black', many'⟩ n = rd ⟨S', L', cut, black', many⟩ n := fun n => rfl
  obtain ⟨h1, h2, h3⟩ := h hl
  exact ⟨h1, h2, h3⟩
theorem Link.arm {s : St} {k : hd.H} (h : Link s k) (n : Int) : Link (dk.arm s n).2 k := by
  unfold dk.arm
  split
  · exact h
  · split
    · exact h
    · exact h.same rfl rfl rfl
theorem Good.link {s : St} {c N : Nat} {h : hd.H} {was : List (List UInt8)} (g : Good s c N h was) : Link s h := fun _ => ⟨by rw [g.newest], g.fits, by rw [g.batches]⟩
theorem link_dark {s : St} {k : hd.H} (h : s.black = true) : Link s k := fun hl => by rw [h] at hl; cases hl
theorem make_link {s : St} (ok : s.Ok) (h0 : (make s).1 = 0) : Link (make s).2 hd.zero := by
  unfold jn.make at h0 ⊢
  by_cases hb : s.black = true
  · rw [if_pos hb] at h0; cases h0
  · rw [if_neg hb] at h0 ⊢
    have hb : s.black = false := by simpa using hb
    have hokw : (writes s 0 [dk.zero, dk.zero]).2.Ok := Ok.writes _ 0 ok (by intro x hx; simp at hx; rw [hx]; rfl)
    unfold jn.lay at h0 ⊢
    by_cases w1 : (writes s 0 [dk.zero, dk.zero]).1 = 0
    · rw [if_pos w1] at h0 ⊢
      by_cases f1 : (dk.flush (writes s 0 [dk.zero, dk.zero]).2).1 = 0
      · rw [if_pos f1] at h0 ⊢
        obtain ⟨z0, z1, z2, z3⟩ := make_zero ok hb w1 f1
        have hokf := dk.Ok.flush hokw
        generalize (dk.flush (writes s 0 [dk.zero, dk.zero]).2).2 = t at *
        have hN : (newest t).1 = 0 := by unfold newest; rw [z0, z1, newest_zero]
        rcases layH_new hokf z2 z3 hN (h' := hd.zero) (by decide) (by decide) with ⟨_, a2, a3, a4, a5, a6⟩ | ⟨a1, _⟩
        · intro _
          refine ⟨by rw [a4], Nat.zero_le _, ?_⟩
          unfold batches
          rw [if_neg (by exact Nat.not_lt_zero _)]
          rfl
        · rw [a1] at h0; cases h0
      · rw [if_neg f1] at h0; exact absurd h0 f1
    · rw [if_neg w1] at h0; exact absurd h0 w1
theorem open_link {s : St} (h : opens s = 0) : Link s (newest s).2.1 := fun hl => by
  have h2 : (batches s (newest s).2.1).2 = true := by
    unfold opens at h
    rw [if_neg (by rw [hl]; decide)] at h
    by_cases h1 : ¬ (newest s).2.2 = 0 ∨ 2305843009213693952 < (newest s).1
    · rw [if_pos h1] at h; cases h
    · rw [if_neg h1] at h
      by_cases h3 : (batches s (newest s).2.1).2 = true
      · exact h3
      · rw [if_neg h3] at h; cases h
  refine ⟨rfl, ?_, h2⟩
  unfold batches at h2
  by_cases h3 : half s < (newest s).2.1.blocks
  · rw [if_pos h3] at h2; cases h2
  · omega
end jn
end Go.Proofs.YtknndmhkfonfmaaDoor

/-
  THE PROGRAM's journal: what the laws want of it. JF w0 w F d j s: in w, which the call that began in w0 has made, j is a journal on the disk d, which is s; all that it writes is in the blocks F, which are the call's own. JW, DW: whatever these blocks are.
-/
namespace Go.Proofs.YtknndmhkfonfmaaDoor
open Go.RowKit
/-- a disk of the call's own -/
structure DF (w0 w : World) (F : List Nat) (d : Value) (s : dk.St) : Prop where
  cd : CD w F d s
  under : Below w0.heap.size w0 w
  own : ∀ k ∈ F, w0.heap.size ≤ k
def DW (w0 w : World) (d : Value) (s : dk.St) : Prop := ∃ F, DF w0 w F d s
/-- a journal of the call's own: its struct is in the block p, its disk in Fd; in the light it goes by the newest head -/
def JF (w0 w : World) (F : List Nat) (d j : Value) (s : dk.St) : Prop := ∃ (p : Nat) (Fd : List Nat) (k : hd.H), j = .pointer (some ⟨p, 0, none⟩) ∧ F = p :: Fd ∧ p ∉ Fd ∧ w0.heap.size ≤ p ∧ JM w p d k ∧ DF w0 w Fd d s ∧ jn.Link s k
def JW (w0 w : World) (d j : Value) (s : dk.St) : Prop := ∃ F, JF w0 w F d j s
variable {w0 w w1 w' : World} {F : List Nat} {d j : Value} {s : dk.St}
theorem DF.below (h : DF w0 w F d s) (hb : Below w.heap.size w w') : DF w0 w' F d s := ⟨h.cd.below hb, h.under.trans (hb.mono h.under.size), h.own⟩
theorem DW.below (h : DW w0 w d s) (hb : Below w.heap.size w w') : DW w0 w' d s := h.elim fun F h => ⟨F, h.below hb⟩
theorem DW.form (h : DW w0 w d s) : ∃ p, d = .pointer (some ⟨p, 0, none⟩) := h.elim fun _ h => h.cd.form
theorem DW.under (h : DW w0 w d s) : Below w0.heap.size w0 w := h.elim fun _ h => h.under
theorem dw_step (h : DF w0 w F d s) {F' : List Nat} {s' : dk.St} (hd : CD w' F' d s') (hc : Chg w w' F) (hs : Sub w F' F) : DF w0 w' F' d s' :=
  ⟨hd, ((Chg.of_below (h.under.mono (Nat.le_refl _)) F).trans hc (Sub.refl _ _)).below (Nat.le_refl _) h.own, fun k hk => (hs k hk).elim (h.own k) (fun e => Nat.le_trans h.under.size e)⟩
theorem df_new (n : Nat) (h : 64 ≤ n) (h2 : n ≤ 4096) (w0 : World) (hb : Below w0.heap.size w0 w) : Calls Tryd.prog 6 #[.int .i64 n] w fun e w' => ∃ d F, e = .returned (.tuple #[d, .int .i64 0]) ∧ DF w0 w' F d (fresh n) :=
  (cd_new n h h2).mono fun e w' h => by
    obtain ⟨F, d, h1, h2, h3, h4⟩ := h
    exact ⟨d, F, h1, h2, hb.trans (h3.mono hb.size), fun k hk => Nat.le_trans hb.size (h4 k hk)⟩
theorem dw_new (n : Nat) (h : 64 ≤ n) (h2 : n ≤ 4096) (w0 : World) (hb : Below w0.heap.size w0 w) : Calls Tryd.prog 6 #[.int .i64 n] w fun e w' => ∃ d, e = .returned (.tuple #[d, .int .i64 0]) ∧ DW w0 w' d (fresh n) :=
  (df_new n h h2 w0 hb).mono fun e w' h => by
    obtain ⟨d, F, h1, h2⟩ := h
    exact ⟨d, h1, F, h2⟩
theorem df_dark (h : DF w0 w F d s) : Calls Tryd.prog 12 #[d] w fun e w' => e = .returned (.bool s.black) ∧ w = w' := cd_dark h.cd
theorem df_crash (A : Option Addr) (n cp : Nat) (l : List Int) (hl : IS w A n cp l) (hA : 0 < n → ∀ b o, A = some ⟨b, o, none⟩ → b < w0.heap.size) (h : DF w0 w F d s) : Calls Tryd.prog 13 #[d, .slice A n cp] w fun e w' => ∃ F', e = .returned (.int .i64 0) ∧ DF w0 w' F' d (dk.crash s l) ∧ Chg w w' F ∧ Sub w F' F := by
  refine (cd_crash A n cp l hl (fun h0 b o e hk => by have := hA h0 b o e; have := h.own b hk; omega) h.cd).mono fun e w' h' => ?_
  obtain ⟨F', e1, e2, e3, e4⟩ := h'
  exact ⟨F', e1, dw_step h e2 e3 e4, e3, e4⟩
/-! ### the landed journal -/
theorem JF.df (h : JF w0 w F d j s) : ∃ Fd, DF w0 w Fd d s ∧ ∀ k ∈ Fd, k ∈ F := by
  obtain ⟨p, Fd, k, rfl, rfl, h1, h2, h3, h4, h5⟩ := h
  exact ⟨Fd, h4, fun k hk => List.mem_cons_of_mem _ hk⟩
theorem JF.keep (h : JF w0 w F d j s) (hb : Below w0.heap.size w0 w') (_hs : w.heap.size ≤ w'.heap.size) (hk : Same w w' F) : JF w0 w' F d j s := by
  obtain ⟨p, Fd, k, rfl, rfl, h1, h2, h3, h4, h5⟩ := h
  exact ⟨p, Fd, k, rfl, rfl, h1, h2, (hk p (List.mem_cons_self ..)).trans h3, ⟨h4.cd.keep (hk.sub fun x hx => List.mem_cons_of_mem _ hx), hb, h4.own⟩, h5⟩
theorem JF.there (h : JF w0 w F d j s) : Ther w F := by
  obtain ⟨p, Fd, k, rfl, rfl, h1, h2, h3, h4, h5⟩ := h
  intro x hx
  rcases List.mem_cons.1 hx with rfl | hx
  · exact h3.lt
  · exact h4.cd.there x hx
theorem JF.below (h : JF w0 w F d j s) (hb : Below w.heap.size w w') : JF w0 w' F d j s := by
  have hu : Below w0.heap.size w0 w := by obtain ⟨p, Fd, k, rfl, rfl, h1, h2, h3, h4, h5⟩ := h; exact h4.under
  exact h.keep (hu.trans (hb.mono hu.size)) hb.size (fun x hx => hb.block x (h.there x hx))
theorem JF.form (h : JF w0 w F d j s) : ∃ p, j = .pointer (some ⟨p, 0, none⟩) := by
  obtain ⟨p, Fd, k, rfl, h0⟩ := h
  exact ⟨p, rfl⟩
theorem JF.at_ (h : JF w0 w F d j s) : ∀ k ∈ F, w0.heap.size ≤ k := by
  obtain ⟨p, Fd, k, rfl, rfl, h1, h2, h3, h4, h5⟩ := h
  intro x hx
  rcases List.mem_cons.1 hx with rfl | hx
  · exact h2
  · exact h4.own x hx
/-- behind a call that wrote to the journal and to its disk -/
theorem jf_step {p : Nat} {k' : hd.H} {s' : dk.St} {Fd Fd' : List Nat} (hp : p ∉ Fd) (h2 : w0.heap.size ≤ p) (hpw : p < w.heap.size) (h4 : DF w0 w Fd d s) (hd' : CD w' Fd' d s') (hm : JM w' p d k') (hl : jn.Link s' k') (hc : Chg w w' (p :: Fd)) (hs : Sub w Fd' Fd) :
    JF w0 w' (p :: Fd') d (.pointer (some ⟨p, 0, none⟩)) s' ∧ Sub w (p :: Fd') (p :: Fd) := by
  have hpF : p ∉ Fd' := fun hm => (hs p hm).elim hp (by omega)
  refine ⟨⟨p, Fd', k', rfl, rfl, hpF, h2, hm, ⟨hd', ((Chg.of_below (h4.under.mono (Nat.le_refl _)) (p :: Fd)).trans hc (Sub.refl _ _)).below (Nat.le_refl _) (fun x hx => ?_), fun x hx => ?_⟩, hl⟩, fun x hx => ?_⟩
  · rcases List.mem_cons.1 hx with rfl | hx
    · exact h2
    · exact h4.own x hx
  · exact (hs x hx).elim (h4.own x) (fun e => Nat.le_trans h4.under.size e)
  · rcases List.mem_cons.1 hx with rfl | hx
    · exact .inl (List.mem_cons_self ..)
    · exact (hs x hx).imp (fun e => List.mem_cons_of_mem _ e) id
theorem jf_arm (n : Int) (hn : n ≤ 9223372036854775807) (h : JF w0 w F d j s) : Calls Tryd.prog 8 #[d, .int .i64 n] w fun e w' => ∃ F', e = .returned (.int .i64 (dk.arm s n).1) ∧ JF w0 w' F' d j (dk.arm s n).2 ∧ Chg w w' F ∧ Sub w F' F := by
  obtain ⟨p, Fd, k, rfl, rfl, h1, h2, h3, h4, h5⟩ := h
  refine (cd_arm n hn h4.cd).mono fun e w' h' => ?_
  obtain ⟨F', e1, e2, e3, e4⟩ := h'
  have hm := h3.chg e3 h1
  have hc : Chg w w' (p :: Fd) := e3.mono (fun x hx => .inl (List.mem_cons_of_mem _ hx))
  obtain ⟨g1, g2⟩ := jf_step h1 h2 h3.lt h4 e2 hm (h5.arm n) hc e4
  exact ⟨_, e1, g1, hc, g2⟩
theorem jf_make (h : DF w0 w F d s) (ht : Tabs w0) (hm : s.many + 4200 < 1048576 ∧ s.L.length + 4200 < 1048576) : Calls Tryd.prog 7 #[d] w fun e w' =>
    ∃ v F', e = .returned (.tuple #[v, .int .i64 (jn.make s).1]) ∧ ((jn.make s).1 = 0 → JF w0 w' F' d v (jn.make s).2) ∧ (¬ (jn.make s).1 = 0 → v = .pointer none ∧ DF w0 w' F' d (jn.make s).2) ∧ Chg w w' F ∧ Sub w F' F := by
  obtain ⟨q, hq⟩ := h.cd.form
  have hmk := jn.makeR_make h.cd.ok
  refine (cj_make hq h.cd (ht.below h.under) hm).mono fun e w' h' => ?_
  rw [hmk] at h'
  obtain ⟨v, p, F', e1, e2, e3, e4, e5, e6, e7, e8⟩ := h'
  have hdf := dw_step h e2 e7 e8
  by_cases h0 : (jn.make s).1 = 0
  · obtain ⟨rfl, hj⟩ := e3 h0
    refine ⟨_, p :: F', e1, fun _ => ⟨p, F', hd.zero, rfl, rfl, e6, Nat.le_trans h.under.size e5, hj, hdf, jn.make_link h.cd.ok h0⟩, fun hn => absurd h0 hn, e7, fun x hx => ?_⟩
    rcases List.mem_cons.1 hx with rfl | hx
    · exact .inr e5
    · exact e8 x hx
  · exact ⟨v, F', e1, fun hn => absurd hn h0, fun _ => ⟨e4 h0, hdf⟩, e7, e8⟩
theorem jf_open (h : DF w0 w F d s) (ht : Tabs w0) : Calls Tryd.prog 14 #[d] w fun e w' =>
    ∃ v F', e = .returned (.tuple #[v, .int .i64 (jn.opens s)]) ∧ (jn.opens s = 0 → JF w0 w' F' d v s) ∧ (¬ jn.opens s = 0 → v = .pointer none) ∧ Below w.heap.size w w' ∧ Sub w F' F := by
  obtain ⟨q, hq⟩ := h.cd.form
  refine (cj_open hq h.cd (ht.below h.under)).mono fun e w' h' => ?_
  obtain ⟨v, p, e1, e2, e3, e4, e5⟩ := h'
  by_cases h0 : jn.opens s = 0
  · obtain ⟨rfl, hj⟩ := e2 h0
    have hpF : p ∉ F := fun hm => by have := h.cd.there p hm; omega
    refine ⟨_, p :: F, e1, fun _ => ⟨p, F, _, rfl, rfl, hpF, Nat.le_trans h.under.size e4, hj, h.below e5, jn.open_link h0⟩, fun hn => absurd h0 hn, e5, fun x hx => ?_⟩
    rcases List.mem_cons.1 hx with rfl | hx
    · exact .inr e4
    · exact .inl hx
  · exact ⟨v, F, e1, fun hn => absurd hn h0, e3, e5, Sub.refl _ _⟩
theorem jf_append {c N : Nat} {k : hd.H} {was : List (List UInt8)} (h : JF w0 w F d j s) (ht : Tabs w0) (g : jn.Good s c N k was) (hn : hd.num (N + 1) = true) (hm : s.many + 4200 < 1048576)
    {A : Option Addr} {n cp : Nat} {b : List UInt8} (hB : BS w A n cp b) (_hA : 0 < n → ∀ x o, A = some ⟨x, o, none⟩ → x ∉ F) : Calls Tryd.prog 10 #[j, .slice A n cp] w fun e w' =>
    ∃ F', e = .returned (.int .i64 (jn.append s k b).1) ∧ JF w0 w' F' d j (jn.append s k b).2 ∧ Chg w w' F ∧ Sub w F' F := by
  obtain ⟨p, Fd, k0, rfl, rfl, h1, h2, h3, h4, h5⟩ := h
  obtain ⟨q, hq⟩ := h4.cd.form
  obtain ⟨l1, l2, l3⟩ := h5 g.light
  rw [g.newest] at l1
  simp only at l1
  subst l1
  have hmay := g.fit.may
  have hmy := hd.may_ok hmay
  have hhalf := jn.half_le g.ok
  have h64 := g.ok.some
  have e0 : jn.rd s 0 = s.S.getD 0 dk.zero := jn.rd_sure g.light g.sure (k := 0) (by omega)
  have e1 : jn.rd s 1 = s.S.getD 1 dk.zero := jn.rd_sure g.light g.sure (k := 1) (by omega)
  have hcp := jn.count_pos b.length
  rw [← jn.blocks_length] at hcp
  have hr := jn.addR_append g.ok g.sure hmy.1 b
  refine (cj_append hq h3 h1 h4.cd (ht.below h4.under) hmay g.fits hB ⟨hm, by rw [g.sure]; simp⟩ (fun _ _ hroom => ?_)).mono fun e w' h' => ?_
  · rw [jn.next_ok, e0, e1, g.two.newest]
    exact (hd.put_err _ _).2 (by
      rw [hn, Bool.true_and]
      exact jn.may_of hmy.1 (show k.blocks + (jn.blocks b).length ≤ 4096 by omega) (show k.batches + 1 ≤ k.blocks + (jn.blocks b).length by omega))
  · rw [hr] at h'
    obtain ⟨F', r1, r2, r3, r4, r5⟩ := h'
    have hlink : jn.Link (jn.append s k b).2 (if (jn.append s k b).1 = 0 then jn.appendH k b else k) := by
      by_cases hbig : 1048576 < b.length
      · have ea : jn.append s k b = (3, s) := by rw [jn.append, if_pos hbig]
        rw [ea, if_neg (show ¬ (3 : Int) = 0 by decide)]
        exact g.link
      · by_cases hroom : jn.half s < k.blocks + (jn.blocks b).length
        · rw [jn.append_full g b (by omega) hroom, if_neg (show ¬ (10 : Int) = 0 by decide)]
          exact g.link
        · rcases (jn.append_cases g hn b (by omega) (by omega)).2 with ⟨a1, a2, _⟩ | ⟨a1, a2, _⟩
          · rw [if_pos a1]; exact a2.link
          · exact jn.link_dark a2
    obtain ⟨g1, g2⟩ := jf_step h1 h2 h3.lt h4 r2 r3 hlink r4 r5
    exact ⟨_, r1, g1, r4, g2⟩
theorem jf_replace {c N : Nat} {k : hd.H} {was : List (List UInt8)} (h : JF w0 w F d j s) (ht : Tabs w0) (g : jn.Good s c N k was) (hn : hd.num (N + 1) = true) (hm : s.many + 4200 < 1048576)
    {A : Option Addr} {n cp : Nat} {b : List UInt8} (hB : BS w A n cp b) (_hA : 0 < n → ∀ x o, A = some ⟨x, o, none⟩ → x ∉ F) : Calls Tryd.prog 9 #[j, .slice A n cp] w fun e w' =>
    ∃ F', e = .returned (.int .i64 (jn.replace s k b).1) ∧ JF w0 w' F' d j (jn.replace s k b).2 ∧ Chg w w' F ∧ Sub w F' F := by
  obtain ⟨p, Fd, k0, rfl, rfl, h1, h2, h3, h4, h5⟩ := h
  obtain ⟨q, hq⟩ := h4.cd.form
  obtain ⟨l1, l2, l3⟩ := h5 g.light
  rw [g.newest] at l1
  simp only at l1
  subst l1
  have hmay := g.fit.may
  have hmy := hd.may_ok hmay
  have hhalf := jn.half_le g.ok
  have h64 := g.ok.some
  have e0 : jn.rd s 0 = s.S.getD 0 dk.zero := jn.rd_sure g.light g.sure (k := 0) (by omega)
  have e1 : jn.rd s 1 = s.S.getD 1 dk.zero := jn.rd_sure g.light g.sure (k := 1) (by omega)
  have hcp := jn.count_pos b.length
  rw [← jn.blocks_length] at hcp
  have hbk2 : (1 - k.bank).toNat ≤ 1 := by rcases jn.bank_cases hmy.1 with e | e <;> rw [e] <;> decide
  have hr := jn.addR_replace g.ok g.sure hmy.1 b
  refine (cj_replace hq h3 h1 h4.cd (ht.below h4.under) hmay hB ⟨hm, by rw [g.sure]; simp⟩ (fun _ _ hroom => ?_)).mono fun e w' h' => ?_
  · rw [jn.next_ok, e0, e1, g.two.newest]
    exact (hd.put_err _ _).2 (by
      rw [hn, Bool.true_and]
      exact jn.may_of (h := jn.replaceH k b) hbk2 (show (jn.blocks b).length ≤ 4096 by omega) (show 1 ≤ (jn.blocks b).length by omega))
  · rw [hr] at h'
    obtain ⟨F', r1, r2, r3, r4, r5⟩ := h'
    have hlink : jn.Link (jn.replace s k b).2 (if (jn.replace s k b).1 = 0 then jn.replaceH k b else k) := by
      by_cases hbig : 1048576 < b.length
      · have ea : jn.replace s k b = (3, s) := by rw [jn.replace, if_pos hbig]
        rw [ea, if_neg (show ¬ (3 : Int) = 0 by decide)]
        exact g.link
      · by_cases hroom : jn.half s < (jn.blocks b).length
        · rw [jn.replace_full g b (by omega) hroom, if_neg (show ¬ (10 : Int) = 0 by decide)]
          exact g.link
        · rcases (jn.replace_cases g hn b (by omega) (by omega)).2 with ⟨a1, a2, _⟩ | ⟨a1, a2, _⟩
          · rw [if_pos a1]; exact a2.link
          · exact jn.link_dark a2
    obtain ⟨g1, g2⟩ := jf_step h1 h2 h3.lt h4 r2 r3 hlink r4 r5
    exact ⟨_, r1, g1, r4, g2⟩
theorem link_may {s : dk.St} {k : hd.H} (h : (jn.newest s).2.1 = k) : hd.may k = true := by
  have hg : ∀ x : dk.Blk, hd.may (hd.get x).2.1 = true := fun x => by
    by_cases h : (hd.get x).2.2 = 0
    · exact (hd.get_num h).2.2
    · rw [(hd.get_err h).2]; rfl
  rw [← h]
  unfold jn.newest hd.newest
  split
  · rfl
  · split
    · exact hg _
    · exact hg _
theorem jf_batches (h : JF w0 w F d j s) (hl : s.black = false) : Calls Tryd.prog 16 #[j] w fun e w' =>
    ∃ A n c, e = .returned (.slice A n c) ∧ RS w' A n c (jn.batches s (jn.newest s).2.1).1 ∧ Below w.heap.size w w' := by
  obtain ⟨p, Fd, k, rfl, rfl, h1, h2, h3, h4, h5⟩ := h
  obtain ⟨q, hq⟩ := h4.cd.form
  obtain ⟨l1, l2, l3⟩ := h5 hl
  rw [l1]
  refine (cj_batches0 hq h3 h4.cd (link_may l1) l2 hl).mono fun e w' h' => ?_
  obtain ⟨A, n, c, e1, e2, _, e3⟩ := h'
  exact ⟨A, n, c, e1, e2 l3, e3⟩
theorem jf_room (h : JF w0 w F d j s) (hl : s.black = false) : Calls Tryd.prog 18 #[j] w fun e w' =>
    e = .returned (.int .i64 ((jn.half s : Int) - ((jn.newest s).2.1.blocks : Int))) ∧ Below w.heap.size w w' := by
  obtain ⟨p, Fd, k, rfl, rfl, h1, h2, h3, h4, h5⟩ := h
  obtain ⟨q, hq⟩ := h4.cd.form
  obtain ⟨l1, l2, l3⟩ := h5 hl
  rw [l1]
  exact cj_room hq h3 h4.cd (link_may l1)
theorem jf_head (h : JF w0 w F d j s) (hl : s.black = false) : Calls Tryd.prog 20 #[j] w fun e w' =>
    e = .returned (hd.val (jn.newest s).2.1) ∧ Below w.heap.size w w' := by
  obtain ⟨p, Fd, k, rfl, rfl, h1, h2, h3, h4, h5⟩ := h
  obtain ⟨q, hq⟩ := h4.cd.form
  obtain ⟨l1, l2, l3⟩ := h5 hl
  rw [l1]
  exact cj_head hq h3
/-! ### whatever the blocks are -/
theorem JF.under (h : JF w0 w F d j s) : Below w0.heap.size w0 w := h.df.elim fun _ h => h.1.under
theorem JW.dw (h : JW w0 w d j s) : DW w0 w d s := h.elim fun _ h => h.df.elim fun Fd h => ⟨Fd, h.1⟩
theorem JW.below (h : JW w0 w d j s) (hb : Below w.heap.size w w') : JW w0 w' d j s := h.elim fun F h => ⟨F, h.below hb⟩
theorem JW.form (h : JW w0 w d j s) : ∃ p, j = .pointer (some ⟨p, 0, none⟩) := h.elim fun _ h => h.form
theorem jw_make (h : DW w0 w d s) (ht : Tabs w0) (hm : s.many + 4200 < 1048576 ∧ s.L.length + 4200 < 1048576) : Calls Tryd.prog 7 #[d] w fun e w' =>
    ∃ v, e = .returned (.tuple #[v, .int .i64 (jn.make s).1]) ∧ ((jn.make s).1 = 0 → JW w0 w' d v (jn.make s).2) ∧ (¬ (jn.make s).1 = 0 → v = .pointer none) ∧ DW w0 w' d (jn.make s).2 := by
  obtain ⟨F, h⟩ := h
  refine (jf_make h ht hm).mono fun e w' h' => ?_
  obtain ⟨v, F', e1, e2, e3, _⟩ := h'
  refine ⟨v, e1, fun h0 => ⟨F', e2 h0⟩, fun h0 => (e3 h0).1, ?_⟩
  by_cases h0 : (jn.make s).1 = 0
  · exact JW.dw ⟨F', e2 h0⟩
  · exact ⟨F', (e3 h0).2⟩
theorem jw_open (h : DW w0 w d s) (ht : Tabs w0) : Calls Tryd.prog 14 #[d] w fun e w' =>
    ∃ v, e = .returned (.tuple #[v, .int .i64 (jn.opens s)]) ∧ (jn.opens s = 0 → JW w0 w' d v s) ∧ (¬ jn.opens s = 0 → v = .pointer none) ∧ DW w0 w' d s := by
  obtain ⟨F, h⟩ := h
  refine (jf_open h ht).mono fun e w' h' => ?_
  obtain ⟨v, F', e1, e2, e3, e4, _⟩ := h'
  exact ⟨v, e1, fun h0 => ⟨F', e2 h0⟩, e3, F, h.below e4⟩
theorem jw_append {c N : Nat} {k : hd.H} {was : List (List UInt8)} (h : JW w0 w d j s) (ht : Tabs w0) (g : jn.Good s c N k was) (hn : hd.num (N + 1) = true) (hm : s.many + 4200 < 1048576) (hb : Below w.heap.size w w1)
    {A : Option Addr} {n cp : Nat} {b : List UInt8} (hB : BS w1 A n cp b) (hA : 0 < n → ∀ x o, A = some ⟨x, o, none⟩ → x < w0.heap.size ∨ w.heap.size ≤ x) : Calls Tryd.prog 10 #[j, .slice A n cp] w1 fun e w' =>
    e = .returned (.int .i64 (jn.append s k b).1) ∧ JW w0 w' d j (jn.append s k b).2 := by
  obtain ⟨F, h⟩ := h
  refine (jf_append (h.below hb) ht g hn hm hB (fun h0 x o e hk => by have := h.there x hk; have := h.at_ x hk; have := hA h0 x o e; omega)).mono fun e w' h' => ?_
  obtain ⟨F', e1, e2, _⟩ := h'
  exact ⟨e1, F', e2⟩
theorem jw_replace {c N : Nat} {k : hd.H} {was : List (List UInt8)} (h : JW w0 w d j s) (ht : Tabs w0) (g : jn.Good s c N k was) (hn : hd.num (N + 1) = true) (hm : s.many + 4200 < 1048576) (hb : Below w.heap.size w w1)
    {A : Option Addr} {n cp : Nat} {b : List UInt8} (hB : BS w1 A n cp b) (hA : 0 < n → ∀ x o, A = some ⟨x, o, none⟩ → x < w0.heap.size ∨ w.heap.size ≤ x) : Calls Tryd.prog 9 #[j, .slice A n cp] w1 fun e w' =>
    e = .returned (.int .i64 (jn.replace s k b).1) ∧ JW w0 w' d j (jn.replace s k b).2 := by
  obtain ⟨F, h⟩ := h
  refine (jf_replace (h.below hb) ht g hn hm hB (fun h0 x o e hk => by have := h.there x hk; have := h.at_ x hk; have := hA h0 x o e; omega)).mono fun e w' h' => ?_
  obtain ⟨F', e1, e2, _⟩ := h'
  exact ⟨e1, F', e2⟩
theorem jw_batches (h : JW w0 w d j s) (hl : s.black = false) : Calls Tryd.prog 16 #[j] w fun e w' =>
    ∃ A n c, e = .returned (.slice A n c) ∧ RS w' A n c (jn.batches s (jn.newest s).2.1).1 ∧ Below w.heap.size w w' := h.elim fun _ h => jf_batches h hl
theorem jw_room (h : JW w0 w d j s) (hl : s.black = false) : Calls Tryd.prog 18 #[j] w fun e w' =>
    e = .returned (.int .i64 ((jn.half s : Int) - ((jn.newest s).2.1.blocks : Int))) ∧ Below w.heap.size w w' := h.elim fun _ h => jf_room h hl
theorem jw_head (h : JW w0 w d j s) (hl : s.black = false) : Calls Tryd.prog 20 #[j] w fun e w' =>
    e = .returned (hd.val (jn.newest s).2.1) ∧ Below w.heap.size w w' := h.elim fun _ h => jf_head h hl
end Go.Proofs.YtknndmhkfonfmaaDoor

/-
  PURE: what lives does.
-/
namespace Go.Proofs.YtknndmhkfonfmaaDoor
open Go.RowKit
namespace jn
theorem opens_fresh {n : Nat} (h : 64 ≤ n) : opens (fresh n) = 5 := by
  have hr : ∀ k : Nat, k < n → rd (fresh n) (k : Int) = dk.zero := fun k hk => by
    refine (rd_sure rfl rfl (by simpa [fresh] using hk)).trans ?_
    show (List.replicate n dk.zero).getD k dk.zero = dk.zero
    rw [List.getD_eq_getElem?_getD, List.getElem?_replicate, if_pos hk]
    rfl
  have e : jn.newest (fresh n) = (0, hd.zero, 7) := by
    have e0 : rd (fresh n) 0 = dk.zero := hr 0 (by omega)
    have e1 : rd (fresh n) 1 = dk.zero := hr 1 (by omega)
    rw [jn.newest, e0, e1]
    exact newest_zero
  unfold jn.opens
  rw [e, if_neg (show ¬ ((fresh n).black = true) from fun h => Bool.noConfusion h), if_pos (.inl (by simp))]
structure Lived (s1 s2 s3 s4 : St) : Prop where
  e1 : make (fresh 66) = (0, s1)
  g1 : Good s1 0 1 hd.zero []
  m1 : s1.many + 4200 < 1048576
  h1 : half s1 = 32
  e2 : append s1 hd.zero (List.replicate 125 0) = (0, s2)
  g2 : Good s2 1 2 ⟨0, 2, 1⟩ [List.replicate 125 0]
  m2 : s2.many + 4200 < 1048576
  e3 : append s2 ⟨0, 2, 1⟩ [] = (0, s3)
  g3 : Good s3 0 3 ⟨0, 3, 2⟩ [List.replicate 125 0, []]
  m3 : s3.many + 4200 < 1048576
  h3 : half s3 = 32
  e4 : replace s3 ⟨0, 3, 2⟩ [1, 2, 3] = (0, s4)
  g4 : Good s4 1 4 ⟨1, 1, 1⟩ [[1, 2, 3]]
  m4 : s4.many + 4200 < 1048576
  h4 : half s4 = 32
  e5 : append s4 ⟨1, 1, 1⟩ (List.replicate 3968 0) = (10, s4)
theorem blocks_many (b : List UInt8) {k : Nat} (h : count (b.length + 4) = k) : (blocks b).length = k := (blocks_length b).trans h
theorem lived : ∃ s1 s2 s3 s4, Lived s1 s2 s3 s4 := by
  have hf : (fresh 66).S.length = 66 := rfl
  obtain ⟨a1, a2, a3, a4, a5⟩ := make_good (fresh_ok (n := 66) (by omega) (by omega)) rfl ⟨rfl, rfl⟩
  have n0 : (fresh 66).many = 0 := rfl
  rw [n0] at a4
  rw [hf] at a3
  obtain ⟨s1, hs1⟩ : ∃ s1, (make (fresh 66)).2 = s1 := ⟨_, rfl⟩
  rw [hs1] at a2 a3 a4 a5
  have e1 : make (fresh 66) = (0, s1) := Prod.ext a1 hs1
  have h1 : half s1 = 32 := by unfold half; rw [a3]
  have l1 := blocks_many (List.replicate 125 0) (k := 2) (by rw [List.length_replicate]; rfl)
  obtain ⟨b1, b2, b3, b4, b5⟩ := append_calm a2 a5 (by decide) (List.replicate 125 0) (by rw [List.length_replicate]; omega) (by rw [l1, h1]; decide)
  have k1 : appendH hd.zero (List.replicate 125 0) = ⟨0, 2, 1⟩ := by unfold appendH; rw [l1]; rfl
  rw [k1] at b2
  rw [l1, a4] at b4
  rw [a3] at b3
  obtain ⟨s2, hs2⟩ : ∃ s, (append s1 hd.zero (List.replicate 125 0)).2 = s := ⟨_, rfl⟩
  rw [hs2] at b2 b3 b4 b5
  have h2 : half s2 = 32 := by unfold half; rw [b3]
  have l2 := blocks_many [] (k := 1) rfl
  obtain ⟨c1, c2, c3, c4, c5⟩ := append_calm b2 b5 (by decide) [] (by decide) (by rw [l2, h2]; decide)
  have k2 : appendH ⟨0, 2, 1⟩ [] = ⟨0, 3, 2⟩ := by unfold appendH; rw [l2]
  rw [k2] at c2
  rw [l2, b4] at c4
  rw [b3] at c3
  obtain ⟨s3, hs3⟩ : ∃ s, (append s2 ⟨0, 2, 1⟩ []).2 = s := ⟨_, rfl⟩
  rw [hs3] at c2 c3 c4 c5
  have h3 : half s3 = 32 := by unfold half; rw [c3]
  have l3 := blocks_many [1, 2, 3] (k := 1) rfl
  obtain ⟨d1, d2, d3, d4, d5⟩ := replace_calm c2 c5 (by decide) [1, 2, 3] (by decide) (by rw [l3, h3]; decide)
  have k3 : replaceH ⟨0, 3, 2⟩ [1, 2, 3] = ⟨1, 1, 1⟩ := by unfold replaceH; rw [l3]; rfl
  rw [k3] at d2
  rw [l3, c4] at d4
  rw [c3] at d3
  obtain ⟨s4, hs4⟩ : ∃ s, (replace s3 ⟨0, 3, 2⟩ [1, 2, 3]).2 = s := ⟨_, rfl⟩
  rw [hs4] at d2 d3 d4 d5
  have h4 : half s4 = 32 := by unfold half; rw [d3]
  have l4 := blocks_many (List.replicate 3968 0) (k := 32) (by rw [List.length_replicate]; rfl)
  refine ⟨s1, s2, s3, s4, e1, a2, by rw [a4]; decide, h1, Prod.ext b1 hs2, b2, by rw [b4]; decide, Prod.ext c1 hs3, c2, by rw [c4]; decide, h3, Prod.ext d1 hs4, d2, by rw [d4]; decide, h4, ?_⟩
  exact append_full d2 _ (by rw [List.length_replicate]; omega) (by rw [l4, h4]; decide)
end jn
end Go.Proofs.YtknndmhkfonfmaaDoor

/-
  cardexlaw07: lives.
-/
namespace Go.Proofs.YtknndmhkfonfmaaDoor
open Go.RowKit
set_option maxHeartbeats 4000000 in
set_option maxRecDepth 100000 in
theorem lives07_any (w : World) (ht : Tabs w) : Calls Tryd.prog 17 #[] w fun e w' => e = .returned (.bool true) ∧ Below w.heap.size w w' := by
  obtain ⟨i0, hi, hz0, hz1, hz2⟩ := info_parts info_u8
  obtain ⟨s1, s2, s3, s4, L⟩ := jn.lived
  have HOP := Lib.hid (jn.opens_fresh (n := 66) (by omega))
  have HL := Lib.hid L
  have HF := Lib.hid (show (fresh 66).many + 4200 < 1048576 ∧ (fresh 66).L.length + 4200 < 1048576 from ⟨by decide, by decide⟩)
  clear L
  have hmk : ∀ W, (Instr.makeSlice 23 (.int .i64 125) (.int .i64 125)).run Tryd.prog W = .ok (.slice (some ⟨W.heap.size, 0, none⟩) 125 125) (W.alloc (.cells (zeroB 125) 5)) := fun W => run_make_bytes (P := Tryd.prog) 23 5 i0 Tryd.underlying23 hi hz0 hz1 hz2 .i64 .i64 125 (by omega) W
  have hmk2 : ∀ W, (Instr.makeSlice 23 (.int .i64 3968) (.int .i64 3968)).run Tryd.prog W = .ok (.slice (some ⟨W.heap.size, 0, none⟩) 3968 3968) (W.alloc (.cells (zeroB 3968) 5)) := fun W => run_make_bytes (P := Tryd.prog) 23 5 i0 Tryd.underlying23 hi hz0 hz1 hz2 .i64 .i64 3968 (by omega) W
  have hfd : ∀ W, (Instr.field 51 (hd.val ⟨1, 1, 1⟩) 0).run Tryd.prog W = .ok (.int .u8 1) W := fun _ => by kernel_rfl
  go_enter Tryd.func17, Tryd.ntmps17
  go_wp2_with fail
  refine (dw_new 66 (by omega) (by omega) w (Below.refl _ _)).mono ?_
  rintro e w1 ⟨d, rfl, D1⟩
  obtain ⟨p, rfl⟩ := D1.form
  go_wp2_with fail
  refine (jw_open D1 ht).mono ?_
  rintro e w2 ⟨v, rfl, -, hv, D2⟩
  obtain rfl := hv (by rw [HOP.out]; decide)
  rw [HOP.out]
  clear D1 hv
  go_wp2_with fail
  refine (jw_make D2 ht HF.out).mono ?_
  rintro e w3 ⟨j, rfl, hj, -, -⟩
  have J3 := hj (by rw [HL.out.e1])
  rw [HL.out.e1] at J3 ⊢
  obtain ⟨q, rfl⟩ := J3.form
  clear D2 hj
  go_wp2_with fail
  refine (jw_room J3 HL.out.g1.light).mono ?_
  rintro e w4 ⟨rfl, b4⟩
  have J4 := J3.below b4
  rw [HL.out.g1.newest, HL.out.h1, show ((32 : Nat) : Int) - (((0 + 1, hd.zero, (0 : Int)) : Nat × hd.H × Int).2.1.blocks : Int) = 32 from rfl]
  clear J3
  have hB4 : BS (w4.alloc (.cells (zeroB 125) 5)) (some ⟨w4.heap.size, 0, none⟩) 125 125 (List.replicate 125 0) := by
    have h := ((zeroB_row w4 5 125).own_all (base := 0) (Nat.zero_le _) (by simp)).bs
    simpa using h
  have H5 := Lib.hid (jw_append J4 ht HL.out.g1 (by decide) HL.out.m1 ((Below.refl _ _).alloc (Nat.le_refl _) (.cells (zeroB 125) 5)) hB4 (fun _ x o e => by injection e with e; injection e with e _; exact .inr (by omega)))
  clear hB4 J4 b4
  go_wp2_with fail
  refine H5.out.mono ?_
  rintro e w5 ⟨rfl, J5⟩
  rw [HL.out.e2] at J5 ⊢
  clear H5
  go_wp2_with fail
  refine (jw_append J5 ht HL.out.g2 (by decide) HL.out.m2 (Below.refl _ _) (BS.nil_ w5) (fun _ x o e => by cases e)).mono ?_
  rintro e w6 ⟨rfl, J6⟩
  rw [HL.out.e3] at J6 ⊢
  clear J5
  go_wp2_with fail
  refine (jw_room J6 HL.out.g3.light).mono ?_
  rintro e w7 ⟨rfl, b7⟩
  have J7 := J6.below b7
  rw [HL.out.g3.newest, HL.out.h3]
  clear J6
  have hB7 : BS (w7.alloc (.cells #[.int .u8 1, .int .u8 2, .int .u8 3] 5)) (some ⟨w7.heap.size, 0, none⟩) 3 3 [1, 2, 3] := BS.lit w7 5 [1, 2, 3] _ rfl 3 rfl (by omega)
  have H8 := Lib.hid (jw_replace J7 ht HL.out.g3 (by decide) HL.out.m3 ((Below.refl _ _).alloc (Nat.le_refl _) (.cells #[.int .u8 1, .int .u8 2, .int .u8 3] 5)) hB7 (fun _ x o e => by injection e with e; injection e with e _; exact .inr (by omega)))
  clear hB7 J7 b7
  go_wp2_with fail
  refine H8.out.mono ?_
  rintro e w8 ⟨rfl, J8⟩
  rw [HL.out.e4] at J8 ⊢
  clear H8
  go_wp2_with fail
  refine (jw_batches J8 HL.out.g4.light).mono ?_
  rintro e w9 ⟨A, n, c, rfl, hR, b9⟩
  have J9 := J8.below b9
  rw [HL.out.g4.newest] at hR
  simp only at hR
  rw [HL.out.g4.batches] at hR
  have hn := hR.len
  have hc := hR.cap
  simp only [List.length_cons, List.length_nil] at hn
  obtain rfl : n = 1 := by omega
  obtain ⟨xb, xo, rfl, -⟩ := hR.has (by omega)
  obtain ⟨Z, zc, hz, hZ⟩ := rs_at hR (i := 0) (by omega)
  change w9.cell? ⟨xb, xo, none⟩ = some (.slice Z 3 zc) at hz
  change BS w9 Z 3 zc [1, 2, 3] at hZ
  have ba : Below w9.heap.size w9 (w9.alloc (.cells #[.int .u8 1, .int .u8 2, .int .u8 3] 5)) := (Below.refl _ _).alloc (Nat.le_refl _) _
  have J10 := J9.below ba
  have HS := Lib.hid (same_true _ _ _ _ _ _ [1, 2, 3] (w9.alloc (.cells #[.int .u8 1, .int .u8 2, .int .u8 3] 5)) (hZ.below ba) (BS.lit w9 5 [1, 2, 3] _ rfl 3 rfl (by omega)))
  clear J9 b9 hR hn hZ J8
  go_wp2_with fail
  refine HS.out.mono ?_
  rintro e w10 ⟨rfl, rfl⟩
  clear HS
  generalize w9.alloc (.cells #[.int .u8 1, .int .u8 2, .int .u8 3] 5) = W at *
  clear ba hz
  go_wp2_with fail
  refine (jw_room J10 HL.out.g4.light).mono ?_
  rintro e w11 ⟨rfl, b11⟩
  have J11 := J10.below b11
  rw [HL.out.g4.newest, HL.out.h4, show ((32 : Nat) : Int) - (((1 : Nat) : Int)) = 31 from rfl]
  clear J10 b11
  go_wp2_with fail
  refine (jw_head J11 HL.out.g4.light).mono ?_
  rintro e w12 ⟨rfl, b12⟩
  have J12 := J11.below b12
  rw [HL.out.g4.newest]
  clear J11 b12
  have hB13 : BS (w12.alloc (.cells (zeroB 3968) 5)) (some ⟨w12.heap.size, 0, none⟩) 3968 3968 (List.replicate 3968 0) := by
    have h := ((zeroB_row w12 5 3968).own_all (base := 0) (Nat.zero_le _) (by simp)).bs
    simpa using h
  have H13 := Lib.hid (jw_append J12 ht HL.out.g4 (by decide) HL.out.m4 ((Below.refl _ _).alloc (Nat.le_refl _) (.cells (zeroB 3968) 5)) hB13 (fun _ x o e => by injection e with e; injection e with e _; exact .inr (by omega)))
  clear hB13 J12
  generalize zeroB 3968 = zb at *
  go_wp2_with fail
  refine H13.out.mono ?_
  rintro e w14 ⟨rfl, J14⟩
  rw [HL.out.e5] at J14 ⊢
  go_wp2_with fail
  go_ret
  exact ⟨rfl, J14.dw.under⟩
end Go.Proofs.YtknndmhkfonfmaaDoor

/-
  contracts of the program's disk where there is none: nil, or one that New did not make.
-/
namespace Go.Proofs.YtknndmhkfonfmaaDoor
open Go.RowKit
variable {w : World} {d : Value}

/-- no disk: nil, or a struct of 0s -/
def ND (w : World) (d : Value) : Prop := d = .pointer none ∨ ∃ p, d = .pointer (some ⟨p, 0, none⟩) ∧ w.heap[p]? = some (.cells #[.slice none 0 0, .slice none 0 0, .int .i64 0, .bool false, .int .i64 0] 48 (0, 0))
theorem ND.below {w' : World} (h : ND w d) (hb : Below w.heap.size w w') : ND w' d :=
  h.imp id fun ⟨p, h1, h2⟩ => ⟨p, h1, (hb.block p (Array.getElem?_eq_some_iff.1 h2).1).trans h2⟩
theorem nd_none (h : ND w d) : Calls Tryd.prog 26 #[d] w fun e w' => e = .returned (.bool true) ∧ w = w' := by
  rcases h with rfl | ⟨p, rfl, hp⟩
  · go_enter Tryd.func26, Tryd.ntmps26
    go_wp2
    go_ret
    exact ⟨rfl, rfl⟩
  · have c0 : w.cell? ⟨p, 0, none⟩ = some (.slice none 0 0) := by rw [cell_of_row _ _ 0 _ _ _ hp]; rfl
    go_enter Tryd.func26, Tryd.ntmps26
    go_wp2
    go_ret
    exact ⟨rfl, rfl⟩
theorem nd_dark (h : ND w d) : Calls Tryd.prog 12 #[d] w fun e w' => e = .returned (.bool false) ∧ w = w' := by
  rcases h with rfl | ⟨p, rfl, hp⟩
  · go_enter Tryd.func12, Tryd.ntmps12
    go_wp2
    go_ret
    exact ⟨rfl, rfl⟩
  · have c0 : w.cell? ⟨p, 3, none⟩ = some (.bool false) := by rw [cell_of_row _ _ 3 _ _ _ hp]; rfl
    go_enter Tryd.func12, Tryd.ntmps12
    go_wp2
    go_ret
    exact ⟨rfl, rfl⟩
theorem nd_blocks (h : ND w d) : Calls Tryd.prog 44 #[d] w fun e w' => e = .returned (.int .i64 0) ∧ w = w' := by
  rcases h with rfl | ⟨p, rfl, hp⟩
  · go_enter Tryd.func44, Tryd.ntmps44
    go_wp2
    go_ret
    exact ⟨rfl, rfl⟩
  · have c0 : w.cell? ⟨p, 0, none⟩ = some (.slice none 0 0) := by rw [cell_of_row _ _ 0 _ _ _ hp]; rfl
    go_enter Tryd.func44, Tryd.ntmps44
    go_wp2
    go_ret
    exact ⟨rfl, rfl⟩
theorem nd_has (n : Int) (h : ND w d) : Calls Tryd.prog 69 #[d, .int .i64 n] w fun e w' => e = .returned (.int .i64 1) ∧ w = w' := by
  have HN := Lib.hid (nd_none h)
  go_enter Tryd.func69, Tryd.ntmps69
  go_wp2_with fail
  refine HN.out.mono ?_
  rintro e w1 ⟨rfl, rfl⟩
  go_wp2_with fail
  go_ret
  exact ⟨rfl, rfl⟩
theorem nd_lit (h : ND w d) : Calls Tryd.prog 23 #[d] w fun e w' => e = .returned (.int .i64 1) ∧ w = w' := by
  have HN := Lib.hid (nd_none h)
  go_enter Tryd.func23, Tryd.ntmps23
  go_wp2_with fail
  refine HN.out.mono ?_
  rintro e w1 ⟨rfl, rfl⟩
  go_wp2_with fail
  go_ret
  exact ⟨rfl, rfl⟩
theorem nd_usable (n : Int) (h : ND w d) : Calls Tryd.prog 54 #[d, .int .i64 n] w fun e w' => e = .returned (.int .i64 1) ∧ w = w' := by
  have HN := Lib.hid (nd_lit h)
  go_enter Tryd.func54, Tryd.ntmps54
  go_wp2_with fail
  refine HN.out.mono ?_
  rintro e w1 ⟨rfl, rfl⟩
  go_wp2_with fail
  go_ret
  exact ⟨rfl, rfl⟩
set_option maxRecDepth 100000 in
theorem nd_read (n : Int) (h : ND w d) : Calls Tryd.prog 42 #[d, .int .i64 n] w fun e w' => e = .returned (.tuple #[dk.val dk.zero, .int .i64 1]) ∧ Below w.heap.size w w' := by
  obtain ⟨hz, -⟩ := zero_of_info zero_blk
  have hrow := heap_alloc_new w (.cells (dk.cells dk.zero).toArray 62)
  have HN := Lib.hid (nd_usable n (h.below ((Below.refl _ _).alloc (Nat.le_refl _) (.cells (dk.cells dk.zero).toArray 62))))
  go_enter Tryd.func42, Tryd.ntmps42
  go_wp2_with fail
  refine HN.out.mono ?_
  rintro e w1 ⟨rfl, rfl⟩
  go_wp2_with (refine wp_st0 (.tmp 4) (.tmp 13) dk.zero hrow zero_len zero_len rfl rfl rfl rfl ?_; intro W hW hc)
  exact bodyPost_ret (results_cell_tmp rfl rfl (blk_load (blk_range hW) zero_len)) rfl ⟨rfl, new_chg hc⟩
theorem nd_write (n : Int) (b : dk.Blk) (h : ND w d) : Calls Tryd.prog 37 #[d, .int .i64 n, dk.val b] w fun e w' => e = .returned (.int .i64 1) ∧ Below w.heap.size w w' := by
  have hb1 := (Below.refl w.heap.size w).alloc (Nat.le_refl _) (.cells (dk.cells b).toArray 62)
  have HN := Lib.hid (nd_usable n (h.below hb1))
  go_enter Tryd.func37, Tryd.ntmps37
  go_wp2_with fail
  refine HN.out.mono ?_
  rintro e w1 ⟨rfl, rfl⟩
  go_wp2_with fail
  go_ret
  exact ⟨rfl, hb1⟩
theorem nd_flush (h : ND w d) : Calls Tryd.prog 38 #[d] w fun e w' => e = .returned (.int .i64 1) ∧ w = w' := by
  have HN := Lib.hid (nd_lit h)
  go_enter Tryd.func38, Tryd.ntmps38
  go_wp2_with fail
  refine HN.out.mono ?_
  rintro e w1 ⟨rfl, rfl⟩
  go_wp2_with fail
  go_ret
  exact ⟨rfl, rfl⟩
theorem nd_arm (n : Int) (h : ND w d) : Calls Tryd.prog 8 #[d, .int .i64 n] w fun e w' => e = .returned (.int .i64 1) ∧ w = w' := by
  have HN := Lib.hid (nd_lit h)
  go_enter Tryd.func8, Tryd.ntmps8
  go_wp2_with fail
  refine HN.out.mono ?_
  rintro e w1 ⟨rfl, rfl⟩
  go_wp2_with fail
  go_ret
  exact ⟨rfl, rfl⟩
theorem nd_crash (A : Option Addr) (n c : Nat) (h : ND w d) : Calls Tryd.prog 13 #[d, .slice A n c] w fun e w' => e = .returned (.int .i64 1) ∧ w = w' := by
  have HN := Lib.hid (nd_none h)
  go_enter Tryd.func13, Tryd.ntmps13
  go_wp2_with fail
  refine HN.out.mono ?_
  rintro e w1 ⟨rfl, rfl⟩
  go_wp2_with fail
  go_ret
  exact ⟨rfl, rfl⟩
end Go.Proofs.YtknndmhkfonfmaaDoor

/-
  THE PROGRAM's journal, of no disk, and of none.
-/
namespace Go.Proofs.YtknndmhkfonfmaaDoor
open Go.RowKit Go.Shelf
variable {w w' : World} {F : List Nat} {d : Value} {s : dk.St}
set_option maxHeartbeats 4000000 in
set_option maxRecDepth 100000 in
/-- the steps that write blocks and flush, whatever the disk is -/
theorem cwritten_no (dp : Option Addr) (a : Nat) (hd : d = .pointer dp) (ha : a ≤ 1048576) {A : Option Addr} {n c : Nat} {l : List dk.Blk} (hl : BlS w A n c l) (hn : n ≤ 524288) (hF : Ther w F) :
    Calls Tryd.prog 22 #[d, .int .i64 a, .slice A n c] w fun e w' => ∃ g cap fs, e = .returned (.slice (some ⟨g, 0, none⟩) (n + 1) cap) ∧
      w'.ownsRow w.heap.size 59 1 (.slice (some ⟨g, 0, none⟩) (n + 1) cap) (n + 1) (fs.map FV.val) ∧ StepsOf w' F d fs (jn.wrs a l ++ [.fl]) ∧ Below w.heap.size w w' := by
  subst hd
  obtain ⟨hz, -⟩ := zero_of_info zero_blk
  have e0 := heap_alloc_new w (.cells #[.pointer dp] 25)
  have e1 := heap_alloc_new (w.alloc (.cells #[.pointer dp] 25)) (.cells #[.int .i64 a] 3)
  have e00 := (Below.heap_alloc (w.alloc (.cells #[.pointer dp] 25)) (.cells #[.int .i64 a] 3) w.heap.size (by simp)).trans e0
  have b1 : Below w.heap.size w (w.alloc (.cells #[.pointer dp] 25)) := (Below.refl _ _).alloc (Nat.le_refl _) _
  have b2 := b1.alloc b1.size (.cells #[.int .i64 a] 3)
  rw [show (w.alloc (.cells #[.pointer dp] 25)).heap.size = w.heap.size + 1 from by simp] at e1
  obtain ⟨W2, hW2⟩ : ∃ W2, (w.alloc (.cells #[.pointer dp] 25)).alloc (.cells #[.int .i64 a] 3) = W2 := ⟨_, rfl⟩
  rw [hW2] at e1 e00 b2
  have hlt : w.heap.size + 1 < W2.heap.size := (Array.getElem?_eq_some_iff.1 e1).1
  have hl2 := hl.below b2
  have hcap := hl.cap
  have hmax := hl.max
  have hlen := hl.len
  have HWRS := Lib.hid (fun i (hi : i < l.length) => (show jn.wrs a (l.take (i + 1)) = jn.wrs a (l.take i) ++ [.wr (a + i) l[i]] from by
    rw [List.take_add_one, List.getElem?_eq_getElem hi]
    simp only [Option.toList_some]
    rw [jn.wrs_snoc, List.length_take, Nat.min_eq_left (by omega)]))
  have HLENS := Lib.hid hl.lens
  clear e0 b1 hl
  go_enter Tryd.func22, Tryd.ntmps22
  go_wp2_with fail
  go_loopw [7, 12] (fun v t wr => ∃ (i : Nat) (fs : List FV), t = .int .i64 i ∧ i ≤ n ∧ wr.ownsRow W2.heap.size 59 1 v i (fs.map FV.val) ∧ StepsOf wr F (.pointer dp) fs (jn.wrs a (l.take i)) ∧ Below W2.heap.size W2 wr) (fun _ t _ => n - (intOf t).toNat)
  case atStart => exact ⟨0, [], rfl, by omega, World.ownsRow_nil _ _ _ _, StepsOf.nil_, Below.refl _ _⟩
  case round =>
    obtain ⟨i, fs, rfl, hi, hown, hst, hb⟩ := hrel
    have hsz := hb.size
    by_cases hlt2 : i < n
    · obtain ⟨g, rfl, hgl, hr⟩ := (hl2.below hb).has (by omega)
      have hil : i < l.length := by omega
      have hrng := hr i hil
      have hxl := HLENS.out _ (List.getElem_mem hil)
      have hws := HWRS.out i hil
      generalize l[i] = x at *
      have HWS := Lib.hid hws
      clear hr hws
      have nI := (Below.heap_alloc (wr.alloc (.cells #[.int .i64 i] 3)) (.cells (dk.cells dk.zero).toArray 62) wr.heap.size (by simp)).trans (heap_alloc_new wr (.cells #[.int .i64 i] 3))
      have nB := heap_alloc_new (wr.alloc (.cells #[.int .i64 i] 3)) (.cells (dk.cells dk.zero).toArray 62)
      rw [show (wr.alloc (.cells #[.int .i64 i] 3)).heap.size = wr.heap.size + 1 from by simp] at nB
      have bA : Below wr.heap.size wr ((wr.alloc (.cells #[.int .i64 i] 3)).alloc (.cells (dk.cells dk.zero).toArray 62)) := ((Below.refl _ _).alloc (Nat.le_refl _) _).alloc (by simp) _
      obtain ⟨WA, hWA⟩ : ∃ WA, (wr.alloc (.cells #[.int .i64 i] 3)).alloc (.cells (dk.cells dk.zero).toArray 62) = WA := ⟨_, rfl⟩
      rw [hWA] at nI nB bA
      have hsA : wr.heap.size + 1 < WA.heap.size := (Array.getElem?_eq_some_iff.1 nB).1
      obtain ⟨X, hX⟩ : ∃ X, wr.heap.size = X := ⟨_, rfl⟩
      rw [hX] at nI nB bA hsA
      have hvlt := own_lt hown
      have nF : ∀ q, w.heap.size ≤ q → q ∉ F := fun q hq hm => by have := hF q hm; omega
      have E00 := Lib.hid ((hb.block _ (show w.heap.size < W2.heap.size by omega)).trans e00)
      have E1 := Lib.hid ((hb.block _ hlt).trans e1)
      go_wp2_with (first
        | refine wp_ld (.tmp 15) x hrng hxl rfl rfl rfl ?_
        | (refine wp_st0 (.tmp 9) (.tmp 16) x nB zero_len hxl rfl rfl rfl rfl ?_; intro w5 W5 c5; have b5 := bA.trans (c5.below (B := X) (by omega) (fun k hk => by simp at hk; omega)); have nI5 := (c5.block X (by omega) (by simp)).trans nI; have own5 := own_keepB (w' := w5) hown (fun k hk => b5.block k (by have := hvlt k hk; omega)); have st5 := hst.below (hX ▸ b5); have hs5 := c5.size; have all5 := st5.app (StepsOf.one (show StepOf w5 F (.pointer dp) ⟨36, #[], #[.pointer (some ⟨w.heap.size, 0, none⟩), .pointer (some ⟨w.heap.size + 1, 0, none⟩), .pointer (some ⟨X, 0, none⟩), .pointer (some ⟨X + 1, 0, none⟩)]⟩ (.wr (a + i) x) from ⟨w.heap.size, w.heap.size + 1, X, X + 1, a, i, rfl, rfl, ha, by omega, hxl, (b5.block _ (by omega)).trans E00.out, (b5.block _ (by omega)).trans E1.out, nI5, W5, nF _ (by omega), nF _ (by omega), nF _ (by omega), nF _ (by omega)⟩)); rw [← HWS.out] at all5; clear nB nI)
        | refine wp_bsf (.tmp 18) (v := .func (.func 36) #[] #[.pointer (some ⟨w.heap.size, 0, none⟩), .pointer (some ⟨w.heap.size + 1, 0, none⟩), .pointer (some ⟨X, 0, none⟩), .pointer (some ⟨X + 1, 0, none⟩)]) rfl rfl rfl rfl ?_
        | (at_builtin; refine wp_apf (.tmp 17) (.tmp 19) (m := 1) (ys := [_]) (own_alloc own5 _) (by simp; omega) (cells_new _ _ _) (by intro u hu; simp at hu; rw [hu]; rfl) rfl (by omega) (by omega) rfl rfl rfl rfl ?_; intro gg cp w7 own7 g7 at7 lt7; have all7 := (all5.below ((Below.refl _ _).alloc (Nat.le_refl _) _)).grown g7 (own_fn (own_alloc own5 _)); have hb7 := ((hb.trans (b5.mono (by omega))).alloc (by omega) _).grown g7 (by simp; omega) (fun k hk => own_base own5 k hk)))
      exact ⟨⟨i + 1, _, by go_num, by omega, by rw [List.map_append]; exact own7, all7, hb7⟩, by simp [intOf]; omega⟩
    · obtain rfl : i = n := by omega
      have htk : l.take i = l := List.take_of_length_le (by omega)
      rw [htk] at hst
      have cD : wr.cell? ⟨w.heap.size, 0, none⟩ = some (.pointer dp) := by rw [cell_of_row _ _ 0 _ _ _ ((hb.block _ (show w.heap.size < W2.heap.size by omega)).trans e00)]; rfl
      have all5 := hst.app (StepsOf.one (show StepOf wr F (.pointer dp) ⟨38, #[.pointer dp], #[]⟩ .fl from rfl))
      clear htk
      go_wp2_with (first
        | refine wp_bsf (.tmp 24) (v := .func (.func 38) #[.pointer dp] #[]) rfl rfl rfl rfl ?_
        | (at_builtin; refine wp_apf (.tmp 22) (.tmp 25) (m := 1) (ys := [_]) (own_alloc hown _) (by simp; omega) (cells_new _ _ _) (by intro u hu; simp at hu; rw [hu]; rfl) rfl (by omega) (by omega) rfl rfl rfl rfl ?_; intro gg cp w7 own7 g7 at7 lt7; have all7 := (all5.below ((Below.refl _ _).alloc (Nat.le_refl _) _)).grown g7 (own_fn (own_alloc hown _)); have hb7 := (hb.alloc (by omega) _).grown g7 (by simp; omega) (fun k hk => own_base hown k hk)))
      go_ret
      exact ⟨gg, cp, _, rfl, by rw [List.map_append]; exact ownsRow_base own7 (by omega), all7, b2.trans (hb7.mono (by omega))⟩
set_option maxHeartbeats 1000000 in
set_option maxRecDepth 100000 in
/-- steps on no disk: the first one is refused -/
theorem crun_no {g n c : Nat} {fs : List FV} {at_ : Nat} {b : dk.Blk} {L : List jn.Op} (hn : fs.length = n) (_hnc : n ≤ c) (_hc : c ≤ 9223372036854775807)
    (hrow : ∀ i (h : i < fs.length), w.cell? ⟨g, i, none⟩ = some fs[i].val) (hst : StepsOf w F d fs (.wr at_ b :: L)) (hd : ND w d) :
    Calls Tryd.prog 35 #[.slice (some ⟨g, 0, none⟩) n c] w fun e w' => e = .returned (.int .i64 1) ∧ Below w.heap.size w w' := by
  have hl : fs.length = L.length + 1 := hst.1
  have h0 := hst.2 0 (by omega) (.wr at_ b) rfl
  have hc0 := hrow 0 (by omega)
  have hen := h0.enter
  have hcall : Calls Tryd.prog fs[0].f (fs[0].first ++ fs[0].cap) w fun e w' => e = .returned (.int .i64 1) ∧ Below w.heap.size w w' := by
    obtain ⟨D, T, I, B, a, i, h1, rfl, h3, h4, h5, hD, hT, hI, hB, -⟩ := h0
    rw [h1]
    have cD : w.cell? ⟨D, 0, none⟩ = some d := by rw [cell_of_row _ _ 0 _ _ _ hD]; rfl
    have cT : w.cell? ⟨T, 0, none⟩ = some (.int .i64 a) := by rw [cell_of_row _ _ 0 _ _ _ hT]; rfl
    have cI : w.cell? ⟨I, 0, none⟩ = some (.int .i64 i) := by rw [cell_of_row _ _ 0 _ _ _ hI]; rfl
    have gB := blk_range hB
    have HW := Lib.hid (nd_write ((a : Int) + (i : Int)) b hd)
    show Calls Tryd.prog 36 #[.pointer (some ⟨D, 0, none⟩), .pointer (some ⟨T, 0, none⟩), .pointer (some ⟨I, 0, none⟩), .pointer (some ⟨B, 0, none⟩)] w _
    clear hD hT hI hB hst hrow hc0 hen h1
    rcases hd with rfl | ⟨p, rfl, -⟩
    all_goals
      go_enter Tryd.func36, Tryd.ntmps36
      go_wp2_with (refine wp_ld (.tmp 3) b gB h5 rfl rfl rfl ?_)
      refine HW.out.mono ?_
      rintro e w2 ⟨rfl, hb⟩
      go_wp2_with fail
      go_ret
      exact ⟨rfl, hb⟩
  unfold FV.val at hc0
  generalize fs[0]'(by omega) = x at *
  obtain ⟨f, first, cap⟩ := x
  have HST := Lib.hid hcall
  have hn0 : 0 < n := by omega
  clear hcall h0 hst hrow hd
  go_enter Tryd.func35, Tryd.ntmps35
  go_wp2_with fail
  go_loopw [8] (fun t wr => t = .int .i64 0 ∧ wr = w) (fun t _ => 0)
  case atStart => exact ⟨rfl, rfl⟩
  case round =>
    obtain ⟨rfl, rfl⟩ := hrel
    go_wp2_with fail
    refine HST.out.mono ?_
    rintro e w2 ⟨rfl, hb⟩
    go_wp2_with fail
    go_ret
    exact ⟨rfl, hb⟩
set_option maxHeartbeats 8000000 in
set_option maxRecDepth 100000 in
theorem cj_lay_no {p g m c gn cn at0 : Nat} {dp : Option Addr} {b0 : dk.Blk} {k : hd.H} {fs : List FV} {L : List jn.Op} (hd0 : d = .pointer dp) (hm : JM w p d k)
    (hown : w.ownsRow 0 59 1 (.slice (some ⟨g, 0, none⟩) m c) m (fs.map FV.val)) (hgp : g ≠ p) (hst : StepsOf w [] d fs (.wr at0 b0 :: L)) (hfm : fs.length = m) (hmm : m ≤ 524288)
    {a b : dk.Blk} (hnow : BlS w (some ⟨gn, 0, none⟩) 2 cn [a, b]) (hD : ND w d) (ht : Tabs w) {h : hd.H} (hok : h.Ok) (hput : (hd.put (jn.nx a b).1 h).2 = 0) :
    Calls Tryd.prog 21 #[.pointer (some ⟨p, 0, none⟩), .slice (some ⟨g, 0, none⟩) m c, .slice (some ⟨gn, 0, none⟩) 2 cn, hd.val h] w fun e w' => e = .returned (.int .i64 1) ∧ Chg w w' [g] := by
  subst hd0
  obtain ⟨hz, -⟩ := zero_of_info zero_blk
  have ha := hnow.lens a (by simp)
  have hb := hnow.lens b (by simp)
  obtain ⟨gn', egn, hgnl, hrng⟩ := hnow.has (by omega)
  injection egn with egn
  injection egn with egn _
  subst egn
  have ra := hrng 0 (by simp)
  have rb := hrng 1 (by simp)
  simp only [List.getElem_cons_zero, List.getElem_cons_succ, Nat.zero_mul, Nat.one_mul] at ra rb
  have hcn := hnow.cap
  have hcn2 := hnow.max
  have uB := Tryd.underlying62
  have iA := info_blk' ha
  have iB := info_blk' hb
  have m1 := HM.new w 51 h
  have b1 : Below w.heap.size w (w.alloc (.cells #[bv h.bank, .int .u32 h.blocks, .int .u32 h.batches] 51)) := (Below.refl _ _).alloc (Nat.le_refl _) _
  have b1d := b1.drew
  obtain ⟨W1, hW1⟩ : ∃ W1, (w.alloc (.cells #[bv h.bank, .int .u32 h.blocks, .int .u32 h.batches] 51)) = W1 := ⟨_, rfl⟩
  rw [hW1] at m1 b1 b1d
  obtain ⟨H, hH⟩ : ∃ H, w.heap.size = H := ⟨_, rfl⟩
  rw [hH] at m1
  have HNX := Lib.hid (fun W (hb' : Below w.heap.size w W) => cj_next a b ha hb W (ht.below hb'))
  have HPUT := Lib.hid (fun W (hb' : Below w.heap.size w W) => ch_put (jn.nx a b).1 (jn.nx_lt a b) h hok W (ht.below hb'))
  rw [hput] at HPUT
  have hXl := hd.put_len (jn.nx a b).1 h
  have hpos := jn.nx_pos a b
  obtain ⟨N, hN⟩ : ∃ N, (jn.nx a b).1 = N := ⟨_, rfl⟩
  obtain ⟨at_, hat⟩ : ∃ t, (jn.nx a b).2.toNat = t := ⟨_, rfl⟩
  rw [hat] at hpos
  obtain ⟨hp1, hp2⟩ := hpos
  rw [hN, hp1] at HNX
  rw [hN] at HPUT hXl
  generalize (hd.put N h).1 = X at *
  have hHw : w.heap.size ≤ H := by omega
  clear hN hat hp1 hput hrng hnow
  have S1 := b1.drew
  go_enter Tryd.func21, Tryd.ntmps21
  go_wp2_with fail
  refine wp_region_held_drew (S := fun W => W.rangeAt gn 0 (dk.cells a) ∧ W.rangeAt gn 128 (dk.cells b)) (by kernel_rfl) ⟨dk.range_below ra b1d, dk.range_below rb b1d⟩ (fun hHeld => ?_)
  refine wpAnyH_take (i := 0) (v := ?_) rfl (by kernel_rfl) (by kernel_rfl) (by kernel_rfl) (fun _ _ _ h => h) (Or.inl ⟨by rfl, ?_⟩) hHeld ?_
  rotate_left
  · intro w hSw; clear hSw; go_simp; try rfl
  simp only [List.getElem_toArray, List.getElem_cons_zero, Act.put, List.setIfInBounds_toArray, List.set_cons_zero, List.set_cons_succ]
  refine wpAnyH_take (i := 1) (v := ?_) rfl (by kernel_rfl) (by kernel_rfl) (by kernel_rfl) (fun _ _ _ h => h) (Or.inl ⟨by rfl, ?_⟩) hHeld ?_
  rotate_left
  · intro w hSw; clear hSw; go_simp; try rfl
  simp only [List.getElem_toArray, List.getElem_cons_zero, List.getElem_cons_succ, Act.put, List.setIfInBounds_toArray, List.set_cons_zero, List.set_cons_succ]
  refine wpAnyH_take (i := 2) (v := dk.val a) rfl (by kernel_rfl) (by kernel_rfl) (by kernel_rfl) (fun _ _ _ h => h) (yieldsIf_load_mid (by rfl) 62 (.tmp 16) rfl gn (0) rfl (dk.cells a) _ (fun w h => h.1) uB rfl iA) hHeld ?_
  simp only [List.getElem_toArray, List.getElem_cons_zero, List.getElem_cons_succ, Act.put, List.setIfInBounds_toArray, List.set_cons_zero, List.set_cons_succ]
  refine wpAnyH_take (i := 3) (v := ?_) rfl (by kernel_rfl) (by kernel_rfl) (by kernel_rfl) (fun _ _ _ h => h) (Or.inl ⟨by rfl, ?_⟩) hHeld ?_
  rotate_left
  · intro w hSw; clear hSw; go_simp; try rfl
  simp only [List.getElem_toArray, List.getElem_cons_zero, List.getElem_cons_succ, Act.put, List.setIfInBounds_toArray, List.set_cons_zero, List.set_cons_succ]
  refine wpAnyH_take (i := 4) (v := ?_) rfl (by kernel_rfl) (by kernel_rfl) (by kernel_rfl) (fun _ _ _ h => h) (Or.inl ⟨by rfl, ?_⟩) hHeld ?_
  rotate_left
  · intro w hSw; clear hSw; go_simp; try rfl
  simp only [List.getElem_toArray, List.getElem_cons_zero, List.getElem_cons_succ, Act.put, List.setIfInBounds_toArray, List.set_cons_zero, List.set_cons_succ]
  refine wpAnyH_take (i := 5) (v := dk.val b) rfl (by kernel_rfl) (by kernel_rfl) (by kernel_rfl) (fun _ _ _ h => h) (yieldsIf_load_mid (by rfl) 62 (.tmp 19) rfl gn (128) rfl (dk.cells b) _ (fun w h => h.2) uB rfl iB) hHeld ?_
  simp only [List.getElem_toArray, List.getElem_cons_zero, List.getElem_cons_succ, Act.put, List.setIfInBounds_toArray, List.set_cons_zero, List.set_cons_succ]
  refine wpAnyH_ready (rs := [6]) (by kernel_rfl) (by simp) ?_
  refine AllReadyH.cons rfl (fun K hK => ?_) AllReadyH.nil
  rw [if_pos (by rfl)]
  go_simp
  refine (HNX.out _ b1d).mono ?_
  rintro e w2 ⟨rfl, b2⟩
  have m2 := (HM.drew m1).below b2 (HM.drew m1).lt
  have b12 := b1d.trans (b2.mono b1d.size)
  refine hK.out _ _ ⟨dk.range_below hHeld.1 b2, dk.range_below hHeld.2 b2⟩ (fun hHeld => ?_)
  clear hK K
  refine wpAnyH_take (i := 7) (v := ?_) rfl (by kernel_rfl) (by kernel_rfl) (by kernel_rfl) (fun _ _ _ h => h) (Or.inl ⟨by rfl, ?_⟩) hHeld ?_
  rotate_left
  · intro w hSw; clear hSw; go_simp; try rfl
  simp only [List.getElem_toArray, List.getElem_cons_zero, List.getElem_cons_succ, Act.put, List.setIfInBounds_toArray, List.set_cons_zero, List.set_cons_succ]
  refine wpAnyH_take (i := 8) (v := ?_) rfl (by kernel_rfl) (by kernel_rfl) (by kernel_rfl) (fun _ _ _ h => h) (Or.inl ⟨by rfl, ?_⟩) hHeld ?_
  rotate_left
  · intro w hSw; clear hSw; go_simp; try rfl
  simp only [List.getElem_toArray, List.getElem_cons_zero, List.getElem_cons_succ, Act.put, List.setIfInBounds_toArray, List.set_cons_zero, List.set_cons_succ]
  refine wpAnyH_take (i := 9) (v := ?_) rfl (by kernel_rfl) (by kernel_rfl) (by kernel_rfl) (fun _ _ _ h => h) (Or.inl ⟨by rfl, ?_⟩) hHeld ?_
  rotate_left
  · intro w hSw; clear hSw; go_simp; try rfl
  simp only [List.getElem_toArray, List.getElem_cons_zero, List.getElem_cons_succ, Act.put, List.setIfInBounds_toArray, List.set_cons_zero, List.set_cons_succ]
  refine wpAnyH_take (i := 10) (v := ?_) rfl (by kernel_rfl) (by kernel_rfl) (by kernel_rfl) (fun _ _ _ h => h) (Or.inl ⟨by rfl, ?_⟩) hHeld ?_
  rotate_left
  · intro w hSw; clear hSw; go_simp; try rfl
  simp only [List.getElem_toArray, List.getElem_cons_zero, List.getElem_cons_succ, Act.put, List.setIfInBounds_toArray, List.set_cons_zero, List.set_cons_succ]
  refine wpAnyH_take (i := 11) (v := ?_) rfl (by kernel_rfl) (by kernel_rfl) (by kernel_rfl) (fun _ _ _ h => h) (Or.inl ⟨by rfl, ?_⟩) hHeld ?_
  rotate_left
  · intro w hSw; clear hSw; go_simp; try rfl
  simp only [List.getElem_toArray, List.getElem_cons_zero, List.getElem_cons_succ, Act.put, List.setIfInBounds_toArray, List.set_cons_zero, List.set_cons_succ]
  refine wpAnyH_done (by kernel_rfl) ?_ _
  clear HNX b1 b1d S1 m1 hW1 b2 hHeld
  go_wp2_with (refine wp_ldh (.tmp 7) h m2 rfl rfl rfl ?_)
  refine (HPUT.out w2 b12).mono ?_
  rintro e w3 ⟨rfl, b3⟩
  have b13 := b12.trans (b3.mono b12.size)
  have m3 := m2.below b3 m2.lt
  have n3 := heap_alloc_new w3 (.cells (dk.cells dk.zero).toArray 62)
  obtain ⟨X3, hX3⟩ : ∃ X, w3.heap.size = X := ⟨_, rfl⟩
  rw [hX3] at n3
  clear HPUT b12 m2
  go_wp2_with (refine wp_st0 (.tmp 11) (.tmp 28) X n3 zero_len hXl rfl rfl rfl rfl ?_; intro w4 n4 c4; rw [← hX3] at c4; have b4 := new_chg c4; have b14 := b13.trans (b4.mono b13.size); have m4 := m3.below b4 m3.lt; clear n3 m3)
  have hX3l : w.heap.size ≤ X3 := by have := b13.size; omega
  have b14d := b14.drew
  have hm4 : JM w4.drew p (.pointer dp) k := hm.below b14d hm.lt
  have n4d : w4.drew.heap[X3]? = some (.cells (dk.cells X).toArray 62 (0, 0)) := n4
  have m4d := HM.drew m4
  have iX := info_blk' hXl
  have own4 := own_keepB (w' := w4.drew) hown (fun k' hk' => b14d.block k' (own_lt hown k' hk'))
  have st4 := hst.below b14d
  have hF4 : Ther w4.drew [] := fun x hx => by simp at hx
  clear n4 m4 c4 b4 b14 b13 b3 hX3 hH
  refine wp_region_held_drew (S := fun W => JM W p (.pointer dp) k ∧ W.heap[X3]? = some (.cells (dk.cells X).toArray 62 (0, 0))) (by kernel_rfl) ⟨hm4, n4d⟩ (fun hHeld => ?_)
  generalize w4.drew = wd at *
  refine wpAnyH_take (i := 0) (v := ?_) rfl (by kernel_rfl) (by kernel_rfl) (by kernel_rfl) (fun _ _ _ h => h) (Or.inl ⟨by rfl, ?_⟩) hHeld ?_
  rotate_left
  · intro w hSw; clear hSw; go_simp; try rfl
  simp only [List.getElem_toArray, List.getElem_cons_zero, Act.put, List.setIfInBounds_toArray, List.set_cons_zero, List.set_cons_succ]
  refine wpAnyH_take (i := 1) (v := ?_) rfl (by kernel_rfl) (by kernel_rfl) (by kernel_rfl) (fun _ _ _ h => h) (Or.inl ⟨by rfl, ?_⟩) hHeld ?_
  rotate_left
  · intro w hSw; clear hSw; go_simp; try rfl
  simp only [List.getElem_toArray, List.getElem_cons_zero, List.getElem_cons_succ, Act.put, List.setIfInBounds_toArray, List.set_cons_zero, List.set_cons_succ]
  refine wpAnyH_take (i := 2) (v := ?_) rfl (by kernel_rfl) (by kernel_rfl) (by kernel_rfl) (fun _ _ _ h => h) (Or.inl ⟨by rfl, ?_⟩) hHeld ?_
  rotate_left
  · intro w hSw; clear hSw; go_simp; try rfl
  simp only [List.getElem_toArray, List.getElem_cons_zero, List.getElem_cons_succ, Act.put, List.setIfInBounds_toArray, List.set_cons_zero, List.set_cons_succ]
  refine wpAnyH_take (i := 3) (v := ?_) rfl (by kernel_rfl) (by kernel_rfl) (by kernel_rfl) (fun _ _ _ h => h) (Or.inl ⟨by rfl, ?_⟩) hHeld ?_
  rotate_left
  · intro w hSw; clear hSw; go_simp; try rfl
  simp only [List.getElem_toArray, List.getElem_cons_zero, List.getElem_cons_succ, Act.put, List.setIfInBounds_toArray, List.set_cons_zero, List.set_cons_succ]
  refine wpAnyH_take (i := 4) (v := ?_) rfl (by kernel_rfl) (by kernel_rfl) (by kernel_rfl) (fun _ _ _ h => h) (Or.inl ⟨by rfl, ?_⟩) hHeld ?_
  rotate_left
  · intro w hSw; have c0 := hSw.1.c0; clear hSw; go_simp; try rfl
  simp only [List.getElem_toArray, List.getElem_cons_zero, List.getElem_cons_succ, Act.put, List.setIfInBounds_toArray, List.set_cons_zero, List.set_cons_succ]
  refine wpAnyH_take (i := 5) (v := ?_) rfl (by kernel_rfl) (by kernel_rfl) (by kernel_rfl) (fun _ _ _ h => h) (Or.inl ⟨by rfl, ?_⟩) hHeld ?_
  rotate_left
  · intro w hSw; clear hSw; go_simp; try rfl
  simp only [List.getElem_toArray, List.getElem_cons_zero, List.getElem_cons_succ, Act.put, List.setIfInBounds_toArray, List.set_cons_zero, List.set_cons_succ]
  refine wpAnyH_take (i := 6) (v := dk.val X) rfl (by kernel_rfl) (by kernel_rfl) (by kernel_rfl) (fun _ _ _ h => h) (yieldsIf_load_mid (by rfl) 62 (.tmp 11) rfl X3 (0) rfl (dk.cells X) _ (fun w h => (blk_range h.2)) uB rfl iX) hHeld ?_
  simp only [List.getElem_toArray, List.getElem_cons_zero, List.getElem_cons_succ, Act.put, List.setIfInBounds_toArray, List.set_cons_zero, List.set_cons_succ]
  refine wpAnyH_ready (rs := [7]) (by kernel_rfl) (by simp) ?_
  refine AllReadyH.cons rfl (fun K hK => ?_) AllReadyH.nil
  rw [if_pos (by rfl)]
  refine wpo_bs1 (.tmp 38) X hXl rfl rfl ?_
  have hlX := (Array.getElem?_eq_some_iff.1 hHeld.2).1
  refine hK.out _ _ ⟨hHeld.1.below ((Below.refl _ _).alloc (Nat.le_refl _) _) hHeld.1.lt, (Below.heap_alloc _ _ _ hlX).trans hHeld.2⟩ (fun hHeld => ?_)
  clear hK K
  simp only [List.getElem_toArray, List.getElem_cons_zero, List.getElem_cons_succ, Act.put, List.setIfInBounds_toArray, List.set_cons_zero, List.set_cons_succ]
  have rw5 := heap_alloc_new wd (.cells (dk.cells X).toArray 62)
  have b5 : Below wd.heap.size wd (wd.alloc (.cells (dk.cells X).toArray 62)) := (Below.refl _ _).alloc (Nat.le_refl _) _
  obtain ⟨w5, hw5⟩ : ∃ w5, wd.alloc (.cells (dk.cells X).toArray 62) = w5 := ⟨_, rfl⟩
  rw [hw5] at rw5 b5 hHeld ⊢
  have hbls : BlS w5 (some ⟨wd.heap.size, 0, none⟩) 1 1 [X] := RowBl.bls (l := [X]) (show w5.heap[_]? = _ by rw [rw5]; simp [dk.cellsS]) (by simp; exact hXl) rfl (by omega)
  refine wpAnyH_ready (rs := [8]) (by kernel_rfl) (by simp) ?_
  refine AllReadyH.cons rfl (fun K hK => ?_) AllReadyH.nil
  rw [if_pos (by rfl)]
  go_simp
  refine (cwritten_no dp at_ rfl (by omega) hbls (by omega) (hF4.mono b5.size)).mono ?_
  rintro e w6 ⟨g2, cap2, fs2, rfl, own2, st2, b6⟩
  have b56 := b5.trans (b6.mono b5.size)
  have hm6 := hHeld.1.below b6 hHeld.1.lt
  have n6 := (b6.block X3 (Array.getElem?_eq_some_iff.1 hHeld.2).1).trans hHeld.2
  refine hK.out _ _ ⟨hm6, n6⟩ (fun hHeld => ?_)
  clear hK K
  have own6 := own_keepB (w' := w6) own4 (fun k' hk' => b56.block k' (own_lt own4 k' hk'))
  have st6 := st4.below b56
  have hl2 : fs2.length = 2 := st2.1
  refine wpAnyH_ready (rs := [9]) (by kernel_rfl) (by simp) ?_
  refine AllReadyH.cons rfl (fun K hK => ?_) AllReadyH.nil
  rw [if_pos (by rfl)]
  refine wpo_apf (.tmp 32) (.tmp 40) (m := 2) (ys := fs2.map FV.val) own6 (by omega) (fun j u hj => by
    have hj2 : j < 2 := by
      have := (List.getElem?_eq_some_iff.1 hj).1
      rwa [List.length_map, hl2] at this
    rw [own2.cellAt j (by omega)]
    exact hj) (by intro u hu; obtain ⟨y, _, rfl⟩ := List.mem_map.1 hu; rfl) (by rw [List.length_map, hl2]) (by omega) (by omega) rfl rfl rfl ?_
  intro g3 cap3 w7 own7 g7 at7 lt7
  rw [← List.map_append] at own7
  have c67 := Chg.grown g7
  have st7 := (st6.app st2).grown g7 (own_fn own6)
  have hgX : g ≠ X3 := fun e => by
    have := own_lt hown g rfl
    omega
  have hm7 := hm6.chg c67 (by simp [Value.ownBlock]; exact fun e => hgp e.symm)
  have n7 := (c67.block X3 (Array.getElem?_eq_some_iff.1 n6).1 (by simp [Value.ownBlock]; exact fun e => hgX e.symm)).trans n6
  refine hK.out _ _ ⟨hm7, n7⟩ (fun hHeld => ?_)
  clear hK K
  refine wpAnyH_take (i := 10) (v := ?_) rfl (by kernel_rfl) (by kernel_rfl) (by kernel_rfl) (fun _ _ _ h => h) (Or.inl ⟨by rfl, ?_⟩) hHeld ?_
  rotate_left
  · intro w hSw; clear hSw; go_simp; try rfl
  simp only [List.getElem_toArray, List.getElem_cons_zero, List.getElem_cons_succ, Act.put, List.setIfInBounds_toArray, List.set_cons_zero, List.set_cons_succ]
  refine wpAnyH_done (by kernel_rfl) ?_ _
  have hD6 := (hD.below b14d).below b56
  have hD7 : ND w7 (.pointer dp) := by
    rcases hD6 with h6 | ⟨y, h6, h7⟩
    · exact .inl h6
    · exact .inr ⟨y, h6, (c67.block y (Array.getElem?_eq_some_iff.1 h7).1 (by
        simp only [Value.ownBlock, Option.toList_some, List.mem_singleton]
        intro e
        obtain ⟨cs, h8⟩ := own_fn own6 g rfl
        rw [e, h8] at h7
        have h9 := Option.some.inj h7
        simp only [Obj.cells.injEq] at h9
        exact absurd h9.2.1 (by decide))).trans h7⟩
  obtain ⟨hcap1, hcap2⟩ : m + 2 ≤ cap3 ∧ cap3 ≤ 9223372036854775807 := by
    rcases own7.2 with ⟨e, _⟩ | ⟨_, _, _, e, _, _, h1, h2, _⟩
    · cases e
    · injection e with _ _ e
      subst e
      exact ⟨h1, by rw [maxLen_eq] at h2; exact h2⟩
  have hlen7 : (fs ++ fs2).length = m + 2 := by rw [List.length_append, hfm, hl2]
  have hrow7 : ∀ i (hi : i < (fs ++ fs2).length), w7.cell? ⟨g3, i, none⟩ = some (fs ++ fs2)[i].val := fun i hi => by
    rw [own7.cellAt i (by omega), List.getElem?_map, List.getElem?_eq_getElem hi]
    rfl
  have hrun := crun_no hlen7 hcap1 hcap2 hrow7 st7 hD7
  have HRUN := Lib.hid hrun
  have c47 : Chg wd w7 [g] := (Chg.of_below b56 [g]).trans c67 (fun x hx => .inl hx)
  have hc07 : Chg w w7 [g] := (Chg.of_below b14d [g]).trans c47 (Sub.refl _ _)
  have hw7 : w.heap.size ≤ w7.heap.size := hc07.size
  clear hrun hD6 hD7 own7 own6 own4 own2 st7 st6 st4 st2 g7 hrow7 hHeld n7 n6 n4d hm4 hm6 b5 b6 b56 c47 c67 rw5 hw5 hbls m4d lt7 hlen7 at7
  go_wp2_with fail
  refine HRUN.out.mono ?_
  rintro e w8 ⟨rfl, b8⟩
  clear HRUN
  go_wp2_with fail
  go_ret
  exact ⟨rfl, hc07.trans (Chg.of_below b8 [g]) (Sub.refl _ _)⟩
set_option maxHeartbeats 4000000 in
set_option maxRecDepth 100000 in
theorem cn_make (hD : ND w d) (ht : Tabs w) : Calls Tryd.prog 7 #[d] w fun e w' => e = .returned (.tuple #[.pointer none, .int .i64 1]) ∧ Below w.heap.size w w' := by
  obtain ⟨dp, rfl⟩ : ∃ dp, d = .pointer dp := by
    rcases hD with e | ⟨p, e, _⟩
    · exact ⟨_, e⟩
    · exact ⟨_, e⟩
  obtain ⟨i0, hi0, hz0, hs0, hb0⟩ := info_parts5 info_blk3'
  have hmk := fun W => run_make (P := Tryd.prog) W 45 62 i0 _ Tryd.underlying45 hi0 hz0 .i64 .i64 (2 : Int) (2 : Int) (by omega) (by omega) (by rw [hb0]; omega) (by omega)
  rw [hs0] at hmk
  simp only [show Int.toNat 2 = 2 from rfl, made_blocks] at hmk
  obtain ⟨C, hC⟩ : ∃ C, (dk.cellsS (List.replicate 2 dk.zero)).toArray = C := ⟨_, rfl⟩
  rw [hC] at hmk
  have r1 := heap_alloc_new w (.cells #[.pointer dp, Value.int .u8 0, .int .u32 0, .int .u32 0] 53)
  have b1 : Below w.heap.size w (w.alloc (.cells #[.pointer dp, Value.int .u8 0, .int .u32 0, .int .u32 0] 53)) := (Below.refl _ _).alloc (Nat.le_refl _) _
  have r2 := heap_alloc_new (w.alloc (.cells #[.pointer dp, Value.int .u8 0, .int .u32 0, .int .u32 0] 53)) (.cells C 62)
  have b2 := b1.alloc b1.size (.cells C 62)
  have r12 := (Below.heap_alloc (w.alloc (.cells #[.pointer dp, Value.int .u8 0, .int .u32 0, .int .u32 0] 53)) (.cells C 62) w.heap.size (by simp)).trans r1
  rw [show (w.alloc (.cells #[.pointer dp, Value.int .u8 0, .int .u32 0, .int .u32 0] 53)).heap.size = w.heap.size + 1 from by simp] at r2
  obtain ⟨W2, hW2⟩ : ∃ W2, (w.alloc (.cells #[.pointer dp, Value.int .u8 0, .int .u32 0, .int .u32 0] 53)).alloc (.cells C 62) = W2 := ⟨_, rfl⟩
  rw [hW2] at r2 b2 r12
  have hrow := row_two W2 (w.heap.size + 1) C hC r2
  have hnow : BlS W2 (some ⟨w.heap.size + 1, 0, none⟩) 2 2 [dk.zero, dk.zero] := RowBl.bls hrow (by intro x hx; simp at hx; rw [hx]; rfl) rfl (by omega)
  have hm2 : JM W2 w.heap.size (.pointer dp) hd.zero := r12
  have hD2 := hD.below b2
  have hlt2 : w.heap.size + 1 < W2.heap.size := hrow.lt
  have hwr := cwritten_no (F := []) dp 0 rfl (by omega) hnow (by omega) (fun x hx => by simp at hx)
  rw [Int.natCast_zero] at hwr
  have HWR := Lib.hid hwr
  clear hwr
  have HLAY := Lib.hid (fun (w3 : World) (g c : Nat) (fs : List FV) (hb : Below W2.heap.size W2 w3) (hown : w3.ownsRow W2.heap.size 59 1 (.slice (some ⟨g, 0, none⟩) 3 c) 3 (fs.map FV.val)) (hst : StepsOf w3 [] (.pointer dp) fs (jn.wrs 0 [dk.zero, dk.zero] ++ [.fl])) =>
    cj_lay_no (h := hd.zero) (b0 := dk.zero) (L := jn.wrs 1 [dk.zero] ++ [.fl]) rfl (hm2.below hb hm2.lt) (ownsRow_base hown (Nat.zero_le _)) (by have := own_base hown g rfl; omega) hst (hst.1.trans rfl) (by omega) (hnow.below hb) (hD2.below hb) (ht.below (b2.trans (hb.mono b2.size))) hd.zero_ok (by
      rw [jn.next_ok, jn.newest_zero]
      rfl))
  clear hC hD2 r1 r2 r12 hrow hnow hm2 b1 hD
  go_enter Tryd.func7, Tryd.ntmps7
  go_wp2_with fail
  refine HWR.out.mono ?_
  rintro e w3 ⟨g, c, fs, rfl, own3, st3, b3⟩
  have hLY := HLAY.out w3 g c fs b3 own3 st3
  have HLY := Lib.hid hLY
  have b23 := b2.trans (b3.mono b2.size)
  have hg3 := own_base own3 g rfl
  clear HLAY HWR hLY own3 st3
  go_wp2_with fail
  refine HLY.out.mono ?_
  rintro e w4 ⟨rfl, c4⟩
  clear HLY
  go_wp2_with fail
  go_ret2
  exact ⟨rfl, b23.trans (c4.below (B := w.heap.size) b23.size (fun x hx => by simp at hx; omega))⟩
set_option maxHeartbeats 4000000 in
set_option maxRecDepth 100000 in
theorem cn_open (hD : ND w d) : Calls Tryd.prog 14 #[d] w fun e w' => e = .returned (.tuple #[.pointer none, .int .i64 1]) ∧ Below w.heap.size w w' := by
  obtain ⟨dp, rfl⟩ : ∃ dp, d = .pointer dp := by
    rcases hD with e | ⟨p, e, _⟩
    · exact ⟨_, e⟩
    · exact ⟨_, e⟩
  have HREAD := Lib.hid (cj_read_no (w := w) (.pointer dp) 0 2 (by omega) (by omega) (by omega) 1 (by decide) (fun W hb => (nd_read 0 (hD.below hb)).mono (by
    rintro e w' ⟨h1, h2⟩
    exact ⟨_, rfl, h1, h2⟩)))
  clear hD
  go_enter Tryd.func14, Tryd.ntmps14
  go_wp2_with fail
  refine HREAD.out.mono ?_
  rintro e w2 ⟨rfl, b2⟩
  clear HREAD
  go_wp2_with fail
  go_ret2
  exact ⟨rfl, b2⟩
/-- no journal, or one of 0s -/
def NJ (w : World) (j : Value) : Prop := j = .pointer none ∨ ∃ g, j = .pointer (some ⟨g, 0, none⟩) ∧ w.heap[g]? = some (.cells #[.pointer none, .int .u8 0, .int .u32 0, .int .u32 0] 53 (0, 0))
variable {j : Value}
theorem NJ.below (h : NJ w j) (hb : Below w.heap.size w w') : NJ w' j := h.imp id fun ⟨g, e, h⟩ => ⟨g, e, (hb.block g (Array.getElem?_eq_some_iff.1 h).1).trans h⟩
theorem cn_none (h : NJ w j) : Calls Tryd.prog 24 #[j] w fun e w' => e = .returned (.bool true) ∧ w = w' := by
  rcases h with rfl | ⟨p, rfl, hp⟩
  · go_enter Tryd.func24, Tryd.ntmps24
    go_wp2_with fail
    go_ret
    exact ⟨rfl, rfl⟩
  · have c0 : w.cell? ⟨p, 0, none⟩ = some (.pointer none) := by rw [cell_of_row _ _ 0 _ _ _ hp]; rfl
    go_enter Tryd.func24, Tryd.ntmps24
    go_wp2_with fail
    go_ret
    exact ⟨rfl, rfl⟩
set_option maxRecDepth 100000 in
theorem cn_append (h : NJ w j) (A : Option Addr) (n c : Nat) : Calls Tryd.prog 10 #[j, .slice A n c] w fun e w' => e = .returned (.int .i64 1) ∧ Below w.heap.size w w' := by
  have HN := Lib.hid (cn_none h)
  obtain ⟨jp, rfl⟩ : ∃ jp, j = .pointer jp := by
    rcases h with e | ⟨p, e, _⟩
    · exact ⟨_, e⟩
    · exact ⟨_, e⟩
  clear h
  go_enter Tryd.func10, Tryd.ntmps10
  go_wp2_with fail
  refine HN.out.mono ?_
  rintro e w1 ⟨rfl, rfl⟩
  go_wp2_with fail
  go_ret
  exact ⟨rfl, Below.refl _ _⟩
set_option maxRecDepth 100000 in
theorem cn_replace (h : NJ w j) (A : Option Addr) (n c : Nat) : Calls Tryd.prog 9 #[j, .slice A n c] w fun e w' => e = .returned (.int .i64 1) ∧ Below w.heap.size w w' := by
  have HN := Lib.hid (cn_none h)
  obtain ⟨jp, rfl⟩ : ∃ jp, j = .pointer jp := by
    rcases h with e | ⟨p, e, _⟩
    · exact ⟨_, e⟩
    · exact ⟨_, e⟩
  clear h
  go_enter Tryd.func9, Tryd.ntmps9
  go_wp2_with fail
  refine HN.out.mono ?_
  rintro e w1 ⟨rfl, rfl⟩
  go_wp2_with fail
  go_ret
  exact ⟨rfl, Below.refl _ _⟩
set_option maxRecDepth 100000 in
theorem cn_batches (h : NJ w j) : Calls Tryd.prog 16 #[j] w fun e w' => ∃ A c, e = .returned (.slice A 0 c) ∧ Below w.heap.size w w' := by
  have HN := Lib.hid (cn_none h)
  obtain ⟨jp, rfl⟩ : ∃ jp, j = .pointer jp := by
    rcases h with e | ⟨p, e, _⟩
    · exact ⟨_, e⟩
    · exact ⟨_, e⟩
  clear h
  go_enter Tryd.func16, Tryd.ntmps16
  go_wp2_with fail
  refine HN.out.mono ?_
  rintro e w1 ⟨rfl, rfl⟩
  go_wp2_with fail
  go_ret
  exact ⟨none, 0, rfl, Below.refl _ _⟩
set_option maxRecDepth 100000 in
theorem cn_room (h : NJ w j) : Calls Tryd.prog 18 #[j] w fun e w' => e = .returned (.int .i64 0) ∧ Below w.heap.size w w' := by
  have HN := Lib.hid (cn_none h)
  obtain ⟨jp, rfl⟩ : ∃ jp, j = .pointer jp := by
    rcases h with e | ⟨p, e, _⟩
    · exact ⟨_, e⟩
    · exact ⟨_, e⟩
  clear h
  go_enter Tryd.func18, Tryd.ntmps18
  go_wp2_with fail
  refine HN.out.mono ?_
  rintro e w1 ⟨rfl, rfl⟩
  go_wp2_with fail
  go_ret
  exact ⟨rfl, Below.refl _ _⟩
set_option maxRecDepth 100000 in
theorem cn_head (h : NJ w j) : Calls Tryd.prog 20 #[j] w fun e w' => e = .returned (hd.val hd.zero) ∧ Below w.heap.size w w' := by
  obtain ⟨hzh, -⟩ := zero_of_info info_head
  have n1 := HM.new w 51 hd.zero
  have b1 : Below w.heap.size w (w.alloc (.cells #[bv hd.zero.bank, .int .u32 hd.zero.blocks, .int .u32 hd.zero.batches] 51)) := (Below.refl _ _).alloc (Nat.le_refl _) _
  obtain ⟨W1, hW1⟩ : ∃ W1, w.alloc (.cells #[bv hd.zero.bank, .int .u32 hd.zero.blocks, .int .u32 hd.zero.batches] 51) = W1 := ⟨_, rfl⟩
  rw [hW1] at n1 b1
  have HN := Lib.hid (cn_none (h.below b1))
  obtain ⟨jp, rfl⟩ : ∃ jp, j = .pointer jp := by
    rcases h with e | ⟨p, e, _⟩
    · exact ⟨_, e⟩
    · exact ⟨_, e⟩
  clear h
  go_enter Tryd.func20, Tryd.ntmps20
  go_wp2_with fail
  refine HN.out.mono ?_
  rintro e w1 ⟨rfl, rfl⟩
  clear hW1 HN
  go_wp2_with (refine wp_sth (.tmp 2) (.tmp 5) hd.zero hd.zero n1 rfl rfl rfl rfl ?_; intro w2 n2 c2)
  exact bodyPost_ret (results_cell rfl rfl (head_load n2)) rfl ⟨rfl, b1.trans (c2.below (B := w.heap.size) b1.size (fun x hx => by simp at hx; omega))⟩
end Go.Proofs.YtknndmhkfonfmaaDoor

/-
  cardexlaw07's walks: JournalNil. (jzero: the zero cells of the landed journal's struct.)
-/
namespace Go.Proofs.YtknndmhkfonfmaaDoor
open Go.RowKit
/-- the cells of a journal.Journal of 0s (the landed struct's) -/
def jzero : Array Value := #[.pointer none, .int .u8 0, .int .u32 0, .int .u32 0]
abbrev ND7 (w : World) (d : Value) : Prop := ND w d
variable {w w' : World} {d j : Value}
theorem nj_make (h : ND7 w d) (ht : Tabs w) : Calls Tryd.prog 7 #[d] w fun e w' => e = .returned (.tuple #[.pointer none, .int .i64 1]) ∧ Below w.heap.size w w' := cn_make h ht
theorem nj_open (h : ND7 w d) : Calls Tryd.prog 14 #[d] w fun e w' => e = .returned (.tuple #[.pointer none, .int .i64 1]) ∧ Below w.heap.size w w' := cn_open h
theorem nj_append (h : NJ w j) (A : Option Addr) (n c : Nat) (b : List UInt8) (_ : BS w A n c b) : Calls Tryd.prog 10 #[j, .slice A n c] w fun e w' => e = .returned (.int .i64 1) ∧ Below w.heap.size w w' := cn_append h A n c
theorem nj_replace (h : NJ w j) (A : Option Addr) (n c : Nat) (b : List UInt8) (_ : BS w A n c b) : Calls Tryd.prog 9 #[j, .slice A n c] w fun e w' => e = .returned (.int .i64 1) ∧ Below w.heap.size w w' := cn_replace h A n c
theorem nj_batches (h : NJ w j) : Calls Tryd.prog 16 #[j] w fun e w' => ∃ A c, e = .returned (.slice A 0 c) ∧ Below w.heap.size w w' := cn_batches h
theorem nj_room (h : NJ w j) : Calls Tryd.prog 18 #[j] w fun e w' => e = .returned (.int .i64 0) ∧ Below w.heap.size w w' := cn_room h
theorem nj_head (h : NJ w j) : Calls Tryd.prog 20 #[j] w fun e w' => e = .returned (hd.val hd.zero) ∧ Below w.heap.size w w' := cn_head h
set_option maxHeartbeats 4000000 in
set_option maxRecDepth 100000 in
theorem walk_JournalNil (A : Option Addr) (n c : Nat) (b : List UInt8) (z : Bool) (w : World) (h : BS w A n c b) (_ : n ≤ 140737488351232) (ht : Tabs w) :
    Calls Tryd.prog 5 #[.slice A n c, .bool z] w fun e w' => e = .returned (.bool true) ∧ Below w.heap.size w w' := by
  obtain ⟨hzh, -⟩ := zero_of_info info_head
  have E1 := eq_head hd.zero hd.zero hd.zero_ok hd.zero_ok
  rw [decide_eq_true rfl] at E1
  have a1 := (Below.refl w.heap.size w).alloc (Nat.le_refl _) (.cells #[.slice none 0 0, .slice none 0 0, .int .i64 0, .bool false, .int .i64 0] 48)
  have a2 := a1.alloc a1.size (.cells jzero 53)
  have D1 : ND7 (w.alloc (.cells #[.slice none 0 0, .slice none 0 0, .int .i64 0, .bool false, .int .i64 0] 48)) (.pointer (some ⟨w.heap.size, 0, none⟩)) := .inr ⟨_, rfl, heap_alloc_new w _⟩
  have D2 := D1.below ((Below.refl _ _).alloc (Nat.le_refl _) (.cells jzero 53))
  have N2 : NJ ((w.alloc (.cells #[.slice none 0 0, .slice none 0 0, .int .i64 0, .bool false, .int .i64 0] 48)).alloc (.cells jzero 53)) (.pointer (some ⟨w.heap.size + 1, 0, none⟩)) := .inr ⟨_, rfl, by rw [← World.size_alloc w (.cells #[.slice none 0 0, .slice none 0 0, .int .i64 0, .bool false, .int .i64 0] 48)]; exact heap_alloc_new _ _⟩
  have D0 : ND7 w (.pointer none) := .inl rfl
  have N0 : NJ w (.pointer none) := .inl rfl
  simp only [jzero] at D2 a2
  unfold jzero at N2
  have hB2 := h.below a2
  cases z
  all_goals
    go_enter Tryd.func5, Tryd.ntmps5
    go_wp2_with fail
  · skip
    have L := Below.refl w.heap.size w
    have D := D0
    have N := N0
    have Bs := h
    clear D0 N0 D1 D2 N2 a1 a2
    clear hB2 hzh
    refine (nj_make D (ht.below L)).mono ?_
    rintro e w1 ⟨rfl, b1⟩
    have L1 := L.trans (b1.mono L.size)
    have D1 := D.below b1
    have N1 := N.below b1
    have B1 := Bs.below b1
    clear D N Bs b1
    go_wp2_with fail
    refine (nj_open D1).mono ?_
    rintro e w2 ⟨rfl, b2⟩
    have L2 := L1.trans (b2.mono L1.size)
    have N2 := N1.below b2
    have B2 := B1.below b2
    clear D1 N1 B1 b2
    go_wp2_with fail
    refine (nj_append N2 A n c b B2).mono ?_
    rintro e w3 ⟨rfl, b3⟩
    have L3 := L2.trans (b3.mono L2.size)
    have N3 := N2.below b3
    have B3 := B2.below b3
    clear N2 B2 b3
    go_wp2_with fail
    refine (nj_replace N3 A n c b B3).mono ?_
    rintro e w4 ⟨rfl, b4⟩
    have L4 := L3.trans (b4.mono L3.size)
    have N4 := N3.below b4
    clear N3 B3 b4
    go_wp2_with fail
    refine (nj_batches N4).mono ?_
    rintro e w5 ⟨A5, c5, rfl, b5⟩
    have L5 := L4.trans (b5.mono L4.size)
    have N5 := N4.below b5
    clear N4 b5
    go_wp2_with fail
    refine (nj_room N5).mono ?_
    rintro e w6 ⟨rfl, b6⟩
    have L6 := L5.trans (b6.mono L5.size)
    have N6 := N5.below b6
    clear N5 b6
    go_wp2_with fail
    refine (nj_head N6).mono ?_
    rintro e w7 ⟨rfl, b7⟩
    have L7 := L6.trans (b7.mono L6.size)
    clear N6 b7
    go_wp2_with fail
    refine (lives07_any _ (ht.below L7)).mono ?_
    rintro e w8 ⟨rfl, b8⟩
    go_wp2_with fail
    go_ret
    exact ⟨rfl, L7.trans (b8.mono L7.size)⟩
  · skip
    have L := a2
    have D := D2
    have N := N2
    have Bs := hB2
    clear D0 N0 D1 D2 N2 a1 a2
    clear hB2 hzh
    generalize (w.alloc (.cells #[.slice none 0 0, .slice none 0 0, .int .i64 0, .bool false, .int .i64 0] 48)).alloc (.cells #[.pointer none, .int .u8 0, .int .u32 0, .int .u32 0] 53) = W2 at *
    refine (nj_make D (ht.below L)).mono ?_
    rintro e w1 ⟨rfl, b1⟩
    have L1 := L.trans (b1.mono L.size)
    have D1 := D.below b1
    have N1 := N.below b1
    have B1 := Bs.below b1
    clear D N Bs b1
    go_wp2_with fail
    refine (nj_open D1).mono ?_
    rintro e w2 ⟨rfl, b2⟩
    have L2 := L1.trans (b2.mono L1.size)
    have N2 := N1.below b2
    have B2 := B1.below b2
    clear D1 N1 B1 b2
    go_wp2_with fail
    refine (nj_append N2 A n c b B2).mono ?_
    rintro e w3 ⟨rfl, b3⟩
    have L3 := L2.trans (b3.mono L2.size)
    have N3 := N2.below b3
    have B3 := B2.below b3
    clear N2 B2 b3
    go_wp2_with fail
    refine (nj_replace N3 A n c b B3).mono ?_
    rintro e w4 ⟨rfl, b4⟩
    have L4 := L3.trans (b4.mono L3.size)
    have N4 := N3.below b4
    clear N3 B3 b4
    go_wp2_with fail
    refine (nj_batches N4).mono ?_
    rintro e w5 ⟨A5, c5, rfl, b5⟩
    have L5 := L4.trans (b5.mono L4.size)
    have N5 := N4.below b5
    clear N4 b5
    go_wp2_with fail
    refine (nj_room N5).mono ?_
    rintro e w6 ⟨rfl, b6⟩
    have L6 := L5.trans (b6.mono L5.size)
    have N6 := N5.below b6
    clear N5 b6
    go_wp2_with fail
    refine (nj_head N6).mono ?_
    rintro e w7 ⟨rfl, b7⟩
    have L7 := L6.trans (b7.mono L6.size)
    clear N6 b7
    go_wp2_with fail
    refine (lives07_any _ (ht.below L7)).mono ?_
    rintro e w8 ⟨rfl, b8⟩
    go_wp2_with fail
    go_ret
    exact ⟨rfl, L7.trans (b8.mono L7.size)⟩
end Go.Proofs.YtknndmhkfonfmaaDoor

/-
  what the laws of the journal are given: batches to lay.
-/
namespace Go.Proofs.YtknndmhkfonfmaaDoor
open Go.ChangeShapes Go.WideShapes Go.ChangeAt Go.RowKit
set_option maxRecDepth 100000 in
/-- a slice of bytes by its cell, whatever its bulk -/
theorem open_bytes_cell {H : Type} {enc : TypeId × Value → H} {W : World} {fuel : Nat} {cs : List Value} {d : DataW H} {pl : List MemPlace} (h : DataW.trod enc Tryd.prog W 0 (fun _ => true) true fuel 23 cs = some (d, pl)) (hw : ∀ n ∈ d.weights Tryd.prog 23, n ≤ reachBytes) :
    ∃ A n c l, cs = [.slice A n c] ∧ BS W A n c l ∧ n ≤ 140737488351232 := by
  have hrb : reachBytes = 140737488351232 := by decide
  have b8 : Tryd.prog.bytesOf 5 = 1 := by kernel_rfl
  rcases open_ints Tryd.underlying23 Tryd.underlying5 (by kernel_rfl) h with ⟨hcs, hx⟩ | ⟨a, len, cap, zs, hcs, _, hl, hm, hz, hx, hcell, hwz⟩
  · exact ⟨none, 0, 0, [], hcs, ⟨rfl, Nat.le_refl _, by omega, by omega, fun h => absurd h (by omega)⟩, by omega⟩
  · simp only [if_true] at hz
    simp only [Prod.mk.injEq] at hx
    obtain ⟨rfl, rfl⟩ := hx
    simp only [DataW.weights, Tryd.underlying23, b8] at hw
    have h1 := hw _ (List.mem_cons_self ..)
    simp only [lits, List.length_map, List.length_take, List.length_drop, hz, hrb] at h1
    have hlen : len ≤ 140737488351232 := by omega
    obtain ⟨l, hll, hB⟩ := bs_of_row (A := some a) hl hm hz hwz (fun e => by cases e) (fun a' ha i hi => by
      injection ha with ha
      subst ha
      exact hcell i (by omega)) (by omega)
    exact ⟨some a, len, cap, l, hcs, hB, hlen⟩
/-- a batch to lay: in the place of all?, its bytes -/
structure LC where
  all : Bool
  pA : Option Addr
  pn : Nat
  pc : Nat
  b : List UInt8
instance : Inhabited LC := ⟨⟨false, none, 0, 0, []⟩⟩
/-- THE SLICE OF BATCHES '.slice A n c' READS AS l IN w. -/
structure LS (w : World) (A : Option Addr) (n c : Nat) (l : List LC) : Prop where
  len : l.length = n
  cap : n ≤ c
  max : c ≤ 9223372036854775807
  ok : ∀ x ∈ l, BS w x.pA x.pn x.pc x.b
  has : 0 < n → ∃ b o, A = some ⟨b, o, none⟩ ∧ b < w.heap.size ∧ ∀ i (h : i < l.length), w.cell? ⟨b, o + i * 2, none⟩ = some (.bool l[i].all) ∧ w.cell? ⟨b, o + i * 2 + 1, none⟩ = some (.slice l[i].pA l[i].pn l[i].pc)
theorem LS.below {w w' : World} {A : Option Addr} {n c : Nat} {l : List LC} (h : LS w A n c l) (hb : Below w.heap.size w w') : LS w' A n c l :=
  ⟨h.len, h.cap, h.max, fun x hx => (h.ok x hx).below hb, fun hn => by
    obtain ⟨b, o, e, hbl, hc⟩ := h.has hn
    refine ⟨b, o, e, Nat.lt_of_lt_of_le hbl hb.size, fun i hi => ?_⟩
    obtain ⟨h1, h2⟩ := hc i hi
    exact ⟨(hb.cell (p := ⟨b, o + i * 2, none⟩) hbl).trans h1, (hb.cell (p := ⟨b, o + i * 2 + 1, none⟩) hbl).trans h2⟩⟩
set_option maxRecDepth 100000 in
theorem open_lays {H : Type} {enc : TypeId × Value → H} {W : World} {base : Nat} {v : Value} {d : DataW H} {ps : List MemPlace}
    (hval : Value.okWide Tryd.prog W .any base 22 v) (h : DataW.Trod enc Tryd.prog W 0 (fun _ => true) true 22 v d ps) (hw : ∀ n ∈ d.weights Tryd.prog 22, n ≤ reachBytes) :
    ∃ A n c l, v = .slice A n c ∧ LS W A n c l := by
  obtain ⟨a0, len, cap, rfl⟩ := okWide_slice Tryd.underlying22 hval
  obtain ⟨fuel, hf⟩ := h
  rcases Deep.open_slice_pairs Tryd.underlying22 Tryd.underlying34 (by kernel_rfl) (by kernel_rfl) (by kernel_rfl) (by kernel_rfl) (by kernel_rfl) hf with ⟨hcs, hx⟩ | ⟨a, len', cap', m, n, V0, V1, D0, D1, P0, P1, hcs, _, hl, hm, hmm, hx, hr⟩
  · simp [Value.cells] at hcs
    obtain ⟨rfl, rfl, rfl⟩ := hcs
    exact ⟨none, 0, 0, [], rfl, rfl, Nat.le_refl _, by omega, by simp, fun h => absurd h (by omega)⟩
  · simp [Value.cells] at hcs
    obtain ⟨rfl, rfl, rfl⟩ := hcs
    simp only [if_true] at hmm
    have hmm' := hmm.symm
    subst hmm'
    simp only [Prod.mk.injEq] at hx
    obtain ⟨rfl, rfl⟩ := hx
    rw [maxLen_eq] at hm
    simp only [DataW.weights, Tryd.underlying22] at hw
    have each : ∀ i, i < len → ∃ y : LC, BS W y.pA y.pn y.pc y.b ∧ W.cell? (a.add (i * 2)) = some (.bool y.all) ∧ W.cell? (a.add (i * 2 + 1)) = some (.slice y.pA y.pn y.pc) := fun i hi => by
      obtain ⟨h0, h1, t0, t1⟩ := hr i (by omega)
      obtain ⟨q, e0, _⟩ := DataW.trod_bool (P := Tryd.prog) (by kernel_rfl) t0
      obtain ⟨A, n, c, l, e1, hB, _⟩ := open_bytes_cell t1 (fun n hn => by
        refine hw _ (List.mem_cons_of_mem _ (List.mem_append_left _ (weightsAll_mem (d := .agg [D0 i, D1 i]) (List.mem_map.2 ⟨i, List.mem_range.2 hi, rfl⟩) ?_)))
        simp only [DataW.weights, Tryd.underlying34]
        exact List.mem_append_right _ (List.mem_append_left _ hn))
      simp only [List.cons.injEq, and_true] at e0 e1
      exact ⟨⟨q, A, n, c, l⟩, hB, by rw [h0, e0], by rw [h1, e1]⟩
    obtain ⟨Y, hY⟩ := Deep.choose_lt each
    refine ⟨some a, len, cap, (List.range len).map Y, rfl, by simp, hl, hm, fun x hx => ?_, fun h0 => ?_⟩
    · obtain ⟨i, hi, rfl⟩ := List.mem_map.1 hx
      exact (hY i (List.mem_range.1 hi)).1
    · have hc0 := (hY 0 h0).2.1
      rw [Nat.zero_mul] at hc0
      have hsp : a.spot = none := by
        have : a.add 0 = a := by simp [Addr.add]
        rw [this] at hc0
        unfold World.cell? at hc0
        split at hc0
        · cases hsp : a.spot with
          | none => rfl
          | some x => simp [hsp] at hc0
        · cases hc0
      obtain ⟨b, o, sp⟩ := a
      simp only at hsp
      subst hsp
      refine ⟨b, o, rfl, World.block_lt_of_cell? _ _ hc0, fun i hi => ?_⟩
      have hi' : i < len := by simpa using hi
      obtain ⟨_, h1, h2⟩ := hY i hi'
      rw [Addr.add_lit] at h1 h2
      simp only [List.getElem_map, List.getElem_range]
      exact ⟨h1, by rw [Nat.add_assoc]; exact h2⟩
end Go.Proofs.YtknndmhkfonfmaaDoor

/-
  cardexlaw07's walks: JournalRoom.
-/
namespace Go.Proofs.YtknndmhkfonfmaaDoor
open Go.RowKit
/-- a journal where JournalRoom stands behind i rounds -/
structure jn.At (n i : Nat) (s : dk.St) (k : hd.H) (was : List (List UInt8)) : Prop where
  good : ∃ c N, jn.Good s c N k was ∧ N ≤ i + 1 ∧ 1 ≤ N
  cut : s.cut = 0
  len : s.S.length = n
  many : s.many ≤ 5 + 40 * (i : Int)
theorem jn.At.mono {n i : Nat} {s : dk.St} {k : hd.H} {was : List (List UInt8)} (h : jn.At n i s k was) : jn.At n (i + 1) s k was := by
  obtain ⟨⟨c, N, g, h1, h2⟩, a, b, d⟩ := h
  exact ⟨⟨c, N, g, by omega, h2⟩, a, b, by omega⟩
theorem jn.At.num {n i : Nat} {s : dk.St} {k : hd.H} {was : List (List UInt8)} (h : jn.At n i s k was) (hi : i ≤ 40) : ∃ c N, jn.Good s c N k was ∧ hd.num (N + 1) = true ∧ N ≤ i + 1 ∧ 1 ≤ N := by
  obtain ⟨⟨c, N, g, h1, h2⟩, a, b, d⟩ := h
  refine ⟨c, N, g, ?_, h1, h2⟩
  simp [hd.num]
  omega
theorem jn.At.few {n i : Nat} {s : dk.St} {k : hd.H} {was : List (List UInt8)} (h : jn.At n i s k was) (hi : i ≤ 40) : s.many + 4200 < 1048576 := by
  have := h.many
  omega
theorem jn.At.light {n i : Nat} {s : dk.St} {k : hd.H} {was : List (List UInt8)} (h : jn.At n i s k was) : s.black = false := by
  obtain ⟨⟨c, N, g, _⟩, _⟩ := h
  exact g.light
theorem jn.At.newest {n i : Nat} {s : dk.St} {k : hd.H} {was : List (List UInt8)} (h : jn.At n i s k was) : (jn.newest s).2.1 = k := by
  obtain ⟨⟨c, N, g, _⟩, _⟩ := h
  rw [g.newest]
theorem jn.At.batches {n i : Nat} {s : dk.St} {k : hd.H} {was : List (List UInt8)} (h : jn.At n i s k was) : (jn.batches s (jn.newest s).2.1).1 = was := by
  rw [h.newest]
  obtain ⟨⟨c, N, g, _⟩, _⟩ := h
  rw [g.batches]
theorem jn.At.sizes {n i : Nat} {s : dk.St} {k : hd.H} {was : List (List UInt8)} (h : jn.At n i s k was) : was.length ≤ 4096 ∧ k.blocks ≤ jn.half s ∧ jn.half s ≤ 2047 := by
  obtain ⟨⟨c, N, g, _⟩, _⟩ := h
  have h1 := jn.parse_length _ g.reads
  have h2 := hd.may_ok g.two.may
  have h3 := jn.half_le g.ok
  simp only at h1
  exact ⟨by omega, g.fits, h3⟩
theorem jn.blocks_few (b : List UInt8) (hb : b.length ≤ 3000) : (jn.blocks b).length ≤ 24 := by
  rw [jn.blocks_length]
  unfold jn.count
  omega
theorem jn.At.append {n i : Nat} {s : dk.St} {k : hd.H} {was : List (List UInt8)} (h : jn.At n i s k was) (hi : i < 40) (b : List UInt8) (hb : b.length ≤ 3000) :
    (k.blocks + (jn.blocks b).length ≤ jn.half s ∧ ∃ s', jn.append s k b = (0, s') ∧ jn.half s' = jn.half s ∧ jn.At n (i + 1) s' (jn.appendH k b) (was ++ [b])) ∨ (jn.half s < k.blocks + (jn.blocks b).length ∧ jn.append s k b = (10, s)) := by
  obtain ⟨c, N, g, hn, h1, h2⟩ := h.num (by omega)
  have h24 := jn.blocks_few b hb
  by_cases hroom : k.blocks + (jn.blocks b).length ≤ jn.half s
  · obtain ⟨e1, e2, e3, e4, e5⟩ := jn.append_calm g h.cut hn b (by omega) hroom
    have h3 := h.many
    refine .inl ⟨hroom, _, Prod.ext e1 rfl, by unfold jn.half; rw [e3], ⟨_, _, e2, by omega, by omega⟩, e5, e3.trans h.len, by rw [e4]; omega⟩
  · exact .inr ⟨by omega, jn.append_full g b (by omega) (by omega)⟩
theorem jn.At.replace {n i : Nat} {s : dk.St} {k : hd.H} {was : List (List UInt8)} (h : jn.At n i s k was) (hi : i < 40) (b : List UInt8) (hb : b.length ≤ 3000) :
    ((jn.blocks b).length ≤ jn.half s ∧ ∃ s', jn.replace s k b = (0, s') ∧ jn.half s' = jn.half s ∧ jn.At n (i + 1) s' (jn.replaceH k b) [b]) ∨ (jn.half s < (jn.blocks b).length ∧ jn.replace s k b = (10, s)) := by
  obtain ⟨c, N, g, hn, h1, h2⟩ := h.num (by omega)
  have h24 := jn.blocks_few b hb
  by_cases hroom : (jn.blocks b).length ≤ jn.half s
  · obtain ⟨e1, e2, e3, e4, e5⟩ := jn.replace_calm g h.cut hn b (by omega) hroom
    have h3 := h.many
    refine .inl ⟨hroom, _, Prod.ext e1 rfl, by unfold jn.half; rw [e3], ⟨_, _, e2, by omega, by omega⟩, e5, e3.trans h.len, by rw [e4]; omega⟩
  · exact .inr ⟨by omega, jn.replace_full g b (by omega) (by omega)⟩
set_option maxHeartbeats 4000000 in
set_option maxRecDepth 100000 in
theorem walk_JournalRoom (x : UInt8) (A : Option Addr) (n c : Nat) (l : List LC) (w : World) (h : LS w A n c l) (ht : Tabs w) :
    Calls Tryd.prog 4 #[bv x, .slice A n c] w fun e w' => e = .returned (.bool true) ∧ Below w.heap.size w w' := by
  have hx := x.toNat_lt
  obtain ⟨m, hm⟩ : ∃ m, 64 + x.toNat = m := ⟨_, rfl⟩
  have hmi : (64 : Int) + (x.toNat : Int) = (m : Int) := by omega
  have hm64 : 64 ≤ m ∧ m ≤ 319 := by omega
  obtain ⟨hm1, hm2⟩ := hm64
  have HF := Lib.hid (show (fresh m).many + 4200 < 1048576 ∧ (fresh m).L.length + 4200 < 1048576 from ⟨show (0 : Int) + 4200 < 1048576 by decide, show (0 : Nat) + 4200 < 1048576 by decide⟩)
  have hmk := jn.make_good (fresh_ok (n := m) (by omega) (by omega)) rfl ⟨rfl, rfl⟩
  have hSl : (fresh m).S.length = m := by simp [fresh]
  rw [hSl, show (fresh m).many = 0 from rfl] at hmk
  obtain ⟨s1, hs1⟩ : ∃ s1, (jn.make (fresh m)).2 = s1 := ⟨_, rfl⟩
  rw [hs1] at hmk
  obtain ⟨a1, a2, a3, a4, a5⟩ := hmk
  have HM := Lib.hid (show jn.make (fresh m) = (0, s1) from Prod.ext a1 hs1)
  have HG := Lib.hid a2
  have hh : ((m : Int) - 2) / 2 = (jn.half s1 : Int) ∧ ((m : Int) - 2).tdiv 2 = (jn.half s1 : Int) := by
    have e : jn.half s1 = (m - 2) / 2 := by unfold jn.half; rw [a3]
    rw [Int.tdiv_eq_ediv_of_nonneg (by omega), e]
    omega
  have HAT := Lib.hid (show jn.At m 0 s1 hd.zero [] from ⟨⟨0, 1, a2, by omega, by omega⟩, a5, a3, by omega⟩)
  clear hs1 a1 a2 a4 a5 hm hx
  go_enter Tryd.func4, Tryd.ntmps4
  go_wp2_with fail
  refine (dw_new m (by omega) (by omega) w (Below.refl _ _)).mono ?_
  rintro e w1 ⟨d, rfl, D1⟩
  obtain ⟨p, rfl⟩ := D1.form
  go_wp2_with fail
  refine (jw_make D1 ht HF.out).mono ?_
  rintro e w3 ⟨j, rfl, hj, -, -⟩
  have J3 := hj (by rw [HM.out])
  rw [HM.out] at J3 ⊢
  obtain ⟨q, rfl⟩ := J3.form
  clear D1 hj
  go_wp2_with fail
  refine (jw_room J3 HG.out.light).mono ?_
  rintro e w4 ⟨rfl, b4⟩
  have J4 := J3.below b4
  rw [HG.out.newest, show ((jn.half s1 : Nat) : Int) - (((0 + 1, hd.zero, (0 : Int)) : Nat × hd.H × Int).2.1.blocks : Int) = (jn.half s1 : Int) from Int.sub_zero _]
  clear J3 b4
  obtain ⟨hh1, hh2⟩ := hh
  go_wp2_with fail
  have HH := Lib.hid (show jn.half s1 = (m - 2) / 2 by unfold jn.half; rw [a3])
  clear HF hSl a3 HM HG hh1 hh2
  go_loopw [10] (fun t wr => ∃ (i : Nat) (s : dk.St) (k : hd.H) (was : List (List UInt8)), t = .int .i64 i ∧ i ≤ n ∧ i ≤ 40 ∧ JW w wr (.pointer (some ⟨p, 0, none⟩)) (.pointer (some ⟨q, 0, none⟩)) s ∧ Hid (jn.At m i s k was) ∧ Hid (jn.half s = (m - 2) / 2)) (fun t _ => n - (intOf t).toNat)
  case atStart => exact ⟨0, s1, hd.zero, [], rfl, by omega, by omega, J4, HAT, HH⟩
  case round =>
    clear HAT HH J4
    obtain ⟨i, s, k, was, rfl, hin, hi40, J, HAT, HH⟩ := hrel
    by_cases hlt : i < n ∧ i < 40
    · obtain ⟨hi1, hi2⟩ := hlt
      have hi1' : (i : Int) < (n : Int) := by omega
      have hi2' : (i : Int) < 40 := by omega
      have hb0 := J.dw.under
      obtain ⟨b, o, rfl, hbl, hcell⟩ := (h.below hb0).has (by omega)
      obtain ⟨q0, q1⟩ := hcell i (by rw [h.len]; exact hi1)
      obtain ⟨y, hy⟩ : ∃ y, l[i]'(by rw [h.len]; exact hi1) = y := ⟨_, rfl⟩
      rw [hy] at q0 q1
      have hyB : BS w y.pA y.pn y.pc y.b := h.ok y (by rw [← hy]; exact List.getElem_mem _)
      have hyA : ∀ z o, y.pA = some ⟨z, o, none⟩ → 0 < y.pn → z < w.heap.size := fun z o' e h0 => by
        obtain ⟨b', o2, e2, hb', _⟩ := hyB.has h0
        rw [e] at e2
        injection e2 with e2
        injection e2 with e2 _
        omega
      obtain ⟨all, pA, pn, pc, yb⟩ := y
      simp only at q0 q1 hyB hyA
      have hcap := hyB.cap
      have hmax := hyB.max
      obtain ⟨mm, hmm⟩ : ∃ mm, min pn 3000 = mm := ⟨_, rfl⟩
      have hm3 : mm ≤ pn ∧ mm ≤ 3000 := by omega
      clear hy hcell hbl
      have hif : (if (3000 : Int) < (pn : Int) then (3000 : Int) else (pn : Int)) = (mm : Int) := by
        split
        · omega
        · omega
      have bD : Below wr.heap.size wr wr.drew := (Chg.drew wr []).below (Nat.le_refl _) (by simp)
      have JD : JW w wr.drew (.pointer (some ⟨p, 0, none⟩)) (.pointer (some ⟨q, 0, none⟩)) s := J.below bD
      have hbD : Below w.heap.size w wr.drew := JD.dw.under
      have hB1 : BS w pA mm pc (yb.take mm) := hyB.take hm3.1
      have hb3 : (yb.take mm).length ≤ 3000 := by rw [List.length_take]; omega
      have hA1 : ∀ z o, pA = some ⟨z, o, none⟩ → 0 < mm → z < w.heap.size := fun z o e h0 => hyA z o e (by omega)
      obtain ⟨bb, hbb⟩ : ∃ bb, yb.take mm = bb := ⟨_, rfl⟩
      rw [hbb] at hB1 hb3
      have hbl : bb.length = mm := hB1.len
      clear hbb hyB hyA hmm
      have hT : (jn.blocks bb).length = (mm + 131) / 128 := by
        rw [jn.blocks_length, hbl]
        unfold jn.count
        rfl
      have h24 := jn.blocks_few bb hb3
      obtain ⟨T, hTe⟩ : ∃ T, (jn.blocks bb).length = T := ⟨_, rfl⟩
      rw [hTe] at hT h24
      obtain ⟨row, hrow⟩ : ∃ row, leBytes mm 4 ++ bb = row := ⟨_, rfl⟩
      have hrl : row.length = mm + 4 := by rw [← hrow, List.length_append, leBytes_length, hbl]; omega
      obtain ⟨R, hR⟩ : ∃ R, row.length = R := ⟨_, rfl⟩
      have hR4 : R ≤ 3004 := by omega
      have hTi : ((R : Int) + 128 - 1) / 128 = (T : Int) ∧ ((R : Int) + 128 - 1).tdiv 128 = (T : Int) := by
        rw [Int.tdiv_eq_ediv_of_nonneg (by omega)]
        omega
      obtain ⟨hT2, hT3⟩ := hTi
      have hsz := HAT.out.sizes
      have hap := HAT.out.append hi2 bb hb3
      have hre := HAT.out.replace hi2 bb hb3
      rw [hTe] at hap hre
      have HAP := Lib.hid hap
      have HRE := Lib.hid hre
      clear hap hre hT hrl
      go_wp2_with fail
      go_region
      all_goals
        have q0D : wr.drew.cell? ⟨b, o + i * 2, none⟩ = some (.bool all) := q0
        have HR := Lib.hid (rrow_any pA mm pc bb wr.drew (hB1.below hbD) (by omega))
        rw [hrow] at HR
        generalize wr.drew = wd at *
        clear J hb0 q0 q1 hif bD
        go_wp2_with fail
        refine HR.out.mono ?_
        rintro e w5 ⟨v5, rfl, o5, b5⟩
        obtain ⟨A5, c5, rfl, -⟩ := o5.form
        rw [hR]
        have J5 := JD.below b5
        clear o5 HR JD hrow hR
        go_wp2_with fail
        refine (jw_room J5 HAT.out.light).mono ?_
        rintro e w6 ⟨rfl, b6⟩
        have J6 := J5.below b6
        rw [HAT.out.newest]
        clear J5
        go_wp2_with fail
        refine (jw_batches J6 HAT.out.light).mono ?_
        rintro e w7 ⟨A7, n7, c7, rfl, hR7, b7⟩
        have J7 := J6.below b7
        rw [HAT.out.batches] at hR7
        have hl7 := hR7.len
        have q0E : w7.cell? ⟨b, o + i * 2, none⟩ = some (.bool all) := by
          have hbt : b < wd.heap.size := World.block_lt_of_cell? _ _ q0D
          exact ((b5.trans ((b6.mono b5.size).trans (b7.mono (Nat.le_trans b5.size b6.size)))).cell (p := ⟨b, o + i * 2, none⟩) hbt).trans q0D
        clear J6 hR7 q0D b5 b6 b7 hbD
        subst hl7
        obtain ⟨hs1, hs2, hs3⟩ := hsz
        cases all
        · clear HRE
          have HA := Lib.hid (fun W (hb : Below w7.heap.size w7 W) => HAT.out.num (by omega) |>.elim fun c0 h0 => h0.elim fun N0 h1 => jw_append J7 ht h1.1 h1.2.1 (HAT.out.few (by omega)) hb (hB1.below (J7.dw.under.trans (hb.mono J7.dw.under.size))) (fun h0 z o e => .inl (hA1 z o e h0)))
          go_wp2_with fail
          refine (HA.out _ (Below.refl _ _)).mono ?_
          rintro e w8 ⟨rfl, J8⟩
          rcases HAP.out with ⟨hroom, s', e1, e2, HAT2⟩ | ⟨hroom, e1⟩
          · rw [e1] at J8 ⊢
            clear HA HAP e1
            have hr1 : (T : Int) ≤ (jn.half s : Int) - (k.blocks : Int) := by omega
            have HAT3 := Lib.hid HAT2
            have hkb : (jn.appendH k bb).blocks = k.blocks + T := by rw [← hTe]; rfl
            go_wp2_with fail
            refine (jw_room J8 HAT3.out.light).mono ?_
            rintro e w9 ⟨rfl, b9⟩
            have J9 := J8.below b9
            rw [HAT3.out.newest, hkb, e2, show (jn.half s : Int) - ((k.blocks + T : Nat) : Int) = (jn.half s : Int) - (k.blocks : Int) - (T : Int) by omega]
            go_wp2_with fail
            refine (jw_batches J9 HAT3.out.light).mono ?_
            rintro e w10 ⟨A10, n10, c10, rfl, hR10, b10⟩
            have J10 := J9.below b10
            rw [HAT3.out.batches] at hR10
            have hl10 := hR10.len
            rw [List.length_append, List.length_singleton] at hl10
            subst hl10
            clear J8 J9 J7 hR10 b9 b10
            go_wp2_with fail
            go_roundw
            case rel => exact ⟨i + 1, s', _, _, by go_num, by omega, by omega, J10, HAT3, by rw [e2]; exact HH⟩
            case measure => simp [intOf]; omega
          · rw [e1] at J8 ⊢
            clear HA HAP e1
            have hr1 : ¬ (T : Int) ≤ (jn.half s : Int) - (k.blocks : Int) := by omega
            clear J7
            go_wp2_with fail
            go_roundw
            case rel => exact ⟨i + 1, s, _, _, by go_num, by omega, by omega, J8, HAT.out.mono, HH⟩
            case measure => simp [intOf]; omega
        · clear HAP
          have hh1 : ((m : Int) - 2) / 2 = (jn.half s : Int) ∧ ((m : Int) - 2).tdiv 2 = (jn.half s : Int) := by
            rw [Int.tdiv_eq_ediv_of_nonneg (by omega), HH.out]
            omega
          obtain ⟨hh1, hh2⟩ := hh1
          have HA := Lib.hid (fun W (hb : Below w7.heap.size w7 W) => HAT.out.num (by omega) |>.elim fun c0 h0 => h0.elim fun N0 h1 => jw_replace J7 ht h1.1 h1.2.1 (HAT.out.few (by omega)) hb (hB1.below (J7.dw.under.trans (hb.mono J7.dw.under.size))) (fun h0 z o e => .inl (hA1 z o e h0)))
          go_wp2_with fail
          refine (HA.out _ (Below.refl _ _)).mono ?_
          rintro e w8 ⟨rfl, J8⟩
          clear hh1 hh2
          rcases HRE.out with ⟨hroom, s', e1, e2, HAT2⟩ | ⟨hroom, e1⟩
          · rw [e1] at J8 ⊢
            clear HA HRE e1
            have hr1 : (T : Int) ≤ (jn.half s : Int) := by omega
            have HAT3 := Lib.hid HAT2
            have hkb : (jn.replaceH k bb).blocks = T := hTe
            go_wp2_with fail
            refine (jw_room J8 HAT3.out.light).mono ?_
            rintro e w9 ⟨rfl, b9⟩
            have J9 := J8.below b9
            rw [HAT3.out.newest, hkb, e2]
            go_wp2_with fail
            refine (jw_batches J9 HAT3.out.light).mono ?_
            rintro e w10 ⟨A10, n10, c10, rfl, hR10, b10⟩
            have J10 := J9.below b10
            rw [HAT3.out.batches] at hR10
            have hl10 := hR10.len
            simp only [List.length_cons, List.length_nil] at hl10
            subst hl10
            clear J8 J9 J7 hR10 b9 b10
            go_wp2_with fail
            go_roundw
            case rel => exact ⟨i + 1, s', _, _, by go_num, by omega, by omega, J10, HAT3, by rw [e2]; exact HH⟩
            case measure => simp [intOf]; omega
          · rw [e1] at J8 ⊢
            clear HA HRE e1
            have hr1 : ¬ (T : Int) ≤ (jn.half s : Int) := by omega
            clear J7
            go_wp2_with fail
            go_roundw
            case rel => exact ⟨i + 1, s, _, _, by go_num, by omega, by omega, J8, HAT.out.mono, HH⟩
            case measure => simp [intOf]; omega
    · have hb0 := J.dw.under
      have hi' : ¬ (i : Int) < (n : Int) ∨ ((i : Int) < (n : Int) ∧ ¬ (i : Int) < 40) := by omega
      clear J
      rcases hi' with h1 | ⟨h1, h2⟩
      · go_wp2_with fail
        refine (lives07_any _ (ht.below hb0)).mono ?_
        rintro e w9 ⟨rfl, b9⟩
        go_wp2_with fail
        go_ret
        exact ⟨rfl, hb0.trans (b9.mono hb0.size)⟩
      · go_wp2_with fail
        refine (lives07_any _ (ht.below hb0)).mono ?_
        rintro e w9 ⟨rfl, b9⟩
        go_wp2_with fail
        go_ret
        exact ⟨rfl, hb0.trans (b9.mono hb0.size)⟩
end Go.Proofs.YtknndmhkfonfmaaDoor

/-
  BYTE SLICES IN A ROW OF THE CALL's OWN, apart from blocks that others write: kept by what writes there; a copy of the row.
-/
namespace Go.Proofs.YtknndmhkfonfmaaDoor
open Go.RowKit
theorem OwnRs.keepB {e8 eS : TypeId} {w w' : World} {base : Nat} {v : Value} {ll : List (List UInt8)} {vs : List Value} (h : OwnRs e8 eS w base v ll vs) (hv : ∀ k, k < w.heap.size → v.ownBlock = some k → w'.heap[k]? = w.heap[k]?)
    (hx : ∀ x ∈ vs, ∀ k, k < w.heap.size → x.ownBlock = some k → w'.heap[k]? = w.heap[k]?) : OwnRs e8 eS w' base v ll vs := by
  refine ⟨h.len, ⟨h.row.1, h.row.2.imp id ?_⟩, fun i l hl => ?_⟩
  · rintro ⟨g, cap, cur, a, b, c, d⟩
    exact ⟨g, cap, cur, a, b, (hv g (Array.getElem?_eq_some_iff.1 c).1 (by rw [a]; rfl)).trans c, d⟩
  · obtain ⟨A, c, h1, h2, h3⟩ := h.each i l hl
    refine ⟨A, c, h1, ?_, h3⟩
    have hm := List.mem_of_getElem? h1
    rcases h2 with hn | ⟨g, r, a, b, c2, d⟩
    · exact .inl hn
    · exact .inr ⟨g, r, a, b, (hx _ hm g (Array.getElem?_eq_some_iff.1 c2).1 (by rw [a]; rfl)).trans c2, d⟩
/-- rows of the call's own, apart from the blocks of F -/
structure KR (e8 eS : TypeId) (w0 w : World) (F : List Nat) (v : Value) (ll : List (List UInt8)) (vs : List Value) : Prop where
  own : OwnRs e8 eS w w0.heap.size v ll vs
  far : ∀ k, v.ownBlock = some k → k ∉ F
  fars : ∀ x ∈ vs, ∀ k, x.ownBlock = some k → k ∉ F
  nil : ll = [] → v = .slice none 0 0
namespace KR
variable {e8 eS : TypeId} {w0 w w' : World} {F F' : List Nat} {v : Value} {ll : List (List UInt8)} {vs : List Value}
theorem nil_ (e8 eS : TypeId) (w0 w : World) (F : List Nat) : KR e8 eS w0 w F (.slice none 0 0) [] [] := ⟨OwnRs.nil_ _ _ _ _, fun k h => by simp [Value.ownBlock] at h, fun x h => (by cases h), fun _ => rfl⟩
theorem in_ (h : OwnRs e8 eS w w0.heap.size v ll vs) : ∀ x ∈ vs, ∀ k, x.ownBlock = some k → k < w.heap.size := fun x hx k hk => by
  obtain ⟨i, hi, rfl⟩ := List.mem_iff_getElem.1 hx
  obtain ⟨A, c, h1, h2, h3⟩ := h.each i (ll[i]'(by rw [← h.len]; exact hi)) (List.getElem?_eq_getElem _)
  rw [List.getElem?_eq_getElem hi] at h1
  injection h1 with h1
  rw [h1] at hk
  exact (h2.lt k hk).2
theorem chg (h : KR e8 eS w0 w F v ll vs) (hc : Chg w w' F) (hs : Sub w F' F) : KR e8 eS w0 w' F' v ll vs :=
  ⟨h.own.keepB (fun k hk hv => hc.block k hk (h.far k hv)) (fun x hx k hk hv => hc.block k hk (h.fars x hx k hv)),
    fun k hk hm => (hs k hm).elim (h.far k hk) (fun e => by have := (h.own.lt k hk).2; omega),
    fun x hx k hk hm => (hs k hm).elim (h.fars x hx k hk) (fun e => by have := in_ h.own x hx k hk; omega), h.nil⟩
/-- rows are apart from another row's block -/
theorem grown {row : Option Nat} (h : KR e8 eS w0 w F v ll vs) (hg : w.grownBy w' row) (hD : ∀ k, row = some k → v.ownBlock ≠ some k ∧ ∀ x ∈ vs, x.ownBlock ≠ some k) : KR e8 eS w0 w' F v ll vs :=
  ⟨h.own.keepB (fun k hk hv => hg.block k hk (fun e => (hD k e.symm).1 hv)) (fun x hx k hk hv => hg.block k hk (fun e => (hD k e.symm).2 x hx hv)), h.far, h.fars, h.nil⟩
/-- one more -/
theorem more {x : Value} {l : List UInt8} {g n cap : Nat} {o : Obj} (h : KR e8 eS w0 w F v ll vs) (hF : ∀ k ∈ F, k < w.heap.size) (hx : ∀ k, x.ownBlock = some k → k ∉ F)
    (h8 : OwnRs e8 eS w' w0.heap.size (.slice (some ⟨g, 0, none⟩) n cap) (ll ++ [l]) (vs ++ [x])) (hat : v.ownBlock = some g ∨ g = (w.alloc o).heap.size) : KR e8 eS w0 w' F (.slice (some ⟨g, 0, none⟩) n cap) (ll ++ [l]) (vs ++ [x]) := by
  refine ⟨h8, fun k hk hm => ?_, fun y hy k hk => ?_, fun e => by simp at e⟩
  · have e : g = k := by simpa [Value.ownBlock] using hk
    subst e
    rcases hat with e | e
    · exact h.far g e hm
    · have := hF g hm
      simp at e
      omega
  · rcases List.mem_append.1 hy with hy | hy
    · exact h.fars y hy k hk
    · rw [List.mem_singleton.1 hy] at hk
      exact hx k hk
theorem same {o : Obj} (h : KR e8 eS w0 w F v ll vs) (hF : ∀ k ∈ F, k < w.heap.size) (hg : (w.alloc o).grownBy w' v.ownBlock) : Same w w' F := fun k hk => by
  have h1 := hF k hk
  rw [hg.block k (by simp; omega) (fun e => h.far k e.symm hk)]
  exact Below.heap_alloc w o k h1
theorem below (h : KR e8 eS w0 w F v ll vs) (hb : Below w.heap.size w w') : KR e8 eS w0 w' F v ll vs := h.chg (Chg.of_below hb F) (Sub.refl _ _)
end KR
section
variable {ops : Array Oper} {rest : List Oper} {o : Oper} {a : Act} {w : World} {Q : Exit → Act → World → Prop}
set_option maxRecDepth 100000 in
/-- a row is copied: append(nil, row...) -/
theorem wp_rows (x y : Operand) {v : Value} {ll : List (List UInt8)} {vs : List Value} {base : Nat} (hown : OwnRs 5 23 w base v ll vs) (hnil : ll = [] → v = .slice none 0 0) (hn : ll.length ≤ 1048576) (hbase : base ≤ w.heap.size) (hgd : o.guard = none)
    (ho : o.op = .call { callee := .builtin .append, args := #[x, y], argTypes := #[32, 32] }) (hx : a.eval x = .slice none 0 0) (hy : a.eval y = v)
    (h : ∀ A c W', OwnRs 5 23 W' base (.slice A ll.length c) ll vs → Below w.heap.size w W' → (∀ k, (Value.slice A ll.length c).ownBlock = some k → w.heap.size ≤ k) → (ll = [] → Value.slice A ll.length c = .slice none 0 0) → wpList Tryd.prog ops Q rest (a.put o.dst (.slice A ll.length c)) W') : wpList Tryd.prog ops Q (o :: rest) a w := by
  obtain ⟨i0, hi0, hz0, hs0, hb0⟩ := info_parts24 info_bs
  by_cases he : ll = []
  · subst he
    have hv := hnil rfl
    refine wpList_append_own_none hgd x y 32 ho base 23 i0 1 Tryd.underlying32 hi0 (.slice none 0 0) 0 [] hx (World.ownsRow_nil _ _ _ _) (hy.trans hv) ?_
    have hvs : vs = [] := List.eq_nil_of_length_eq_zero hown.len
    subst hvs
    exact h none 0 w (OwnRs.nil_ _ _ _ _) (Below.refl _ _) (fun k hk => by simp [Value.ownBlock] at hk) (fun _ => rfl)
  · have hpos : 0 < ll.length := List.length_pos_iff.2 he
    rcases hown.row.2 with ⟨rfl, h0⟩ | ⟨g, cap, cur, rfl, hb, hg, h1, h2, h3, h4⟩
    · omega
    · rw [Nat.mul_one] at h4
      have hlen := hown.len
      refine wpList_append_lies _ hgd x y 32 ho base 23 i0 _ 1 24 Tryd.underlying32 hi0 hz0 hs0 hb0 rfl (by omega) (.slice none 0 0) 0 [] hx (World.ownsRow_nil _ _ _ _) ⟨g, 0, none⟩ ll.length cap vs hy (by rw [hlen, Nat.mul_one]) ?_ ?_ hpos (by rw [maxLen_eq]; omega) (by omega) hbase _ rfl ?_
      · intro j u hu
        have hj := (List.getElem?_eq_some_iff.1 hu).1
        rw [Addr.add_lit, Nat.zero_add, cell_of_row w g j _ _ _ hg]
        rw [← h4, List.getElem?_take_of_lt (by omega), Array.getElem?_toList] at hu
        exact hu
      · intro u hu
        obtain ⟨i, hi, rfl⟩ := List.mem_iff_getElem.1 hu
        obtain ⟨A, c, e1, -, -⟩ := hown.each i (ll[i]'(by omega)) (List.getElem?_eq_getElem _)
        rw [List.getElem?_eq_getElem hi] at e1
        injection e1 with e1
        rw [e1]
        rfl
      · intro g' cap' W' r1 r2 r3 r4
        have hg' : g' = w.heap.size := r3.elim (fun e => by simp [Value.ownBlock] at e) id
        have hbe : Below w.heap.size w W' := (Below.refl _ _).grown r2 (Nat.le_refl _) (fun k hk => by simp [Value.ownBlock] at hk)
        have hk := hown.below hbe (Nat.le_refl _)
        rw [Nat.zero_add] at r1 ⊢
        rw [List.nil_append] at r1
        refine h (some ⟨g', 0, none⟩) cap' W' ⟨hlen, r1, fun i l hl => ?_⟩ hbe (fun k hk => ?_) (fun e => absurd e he)
        · obtain ⟨A, c, e1, e2, _⟩ := hk.each i l hl
          obtain ⟨A2, c2, e3, e4, _⟩ := hown.each i l hl
          rw [e3] at e1
          injection e1 with e1
          injection e1 with e5 _ e6
          subst e5 e6
          refine ⟨A2, c2, e3, e2, fun k hk e => ?_⟩
          have h5 := (e4.lt k hk).2
          have h6 : g' = k := by simpa [Value.ownBlock] using e
          omega
        · have h6 : g' = k := by simpa [Value.ownBlock] using hk
          omega
end
end Go.Proofs.YtknndmhkfonfmaaDoor
