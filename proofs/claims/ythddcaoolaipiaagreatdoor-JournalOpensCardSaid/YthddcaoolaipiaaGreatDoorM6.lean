/-
  PURE: steps, one behind the other, are what lay, Append, Replace, Make come to; what a journal that goes by its head has of its disk.
-/
import Derived.Test.YthddcaoolaipiaaGreatDoorM5
import Derived.Test.YthddcaoolaipiaaGreatDoorM3
import Derived.Test.YthddcaoolaipiaaGreatDoorM4
import Derived.Test.YthddcaoolaipiaaGreatDoorM1
import Derived.Test.YthddcaoolaipiaaGreatDoorM2
import Derived.Test.YthddcaoolaipiaaGreatDoorRows
import Derived.Test.YthddcaoolaipiaaGreatDoorCards
import Derived.Test.YthddcaoolaipiaaGreatDoorTie
import Derived.Deep.DeepHandedRow
import Derived.Lib.LaidTab
namespace Go.Proofs.YthddcaoolaipiaaGreatDoor
namespace jn
theorem run_one (t : St) (o : Op) : runOps t [o] = opR t o := by
  simp only [runOps]
  split
  · rename_i h
    exact Prod.ext h.symm rfl
  · rfl
theorem ops_lay {s : St} {at_ : Nat} {l : List Blk} {h : hd.H} {a b : Blk}
    (hD : (writes s at_ l).1 = 0 → (dk.flush (writes s at_ l).2).1 = 0 → rd (dk.flush (writes s at_ l).2).2 0 = a ∧ rd (dk.flush (writes s at_ l).2).2 1 = b) (hx : NextOk a b) :
    runOps s (layOps a b (wrs at_ l ++ [.fl]) h) = lay s at_ l h := by
  unfold layOps
  rw [runOps_app, runOps_app, runOps_wrs]
  by_cases h1 : (writes s at_ l).1 = 0
  · rw [if_pos h1, run_one]
    show (if (dk.flush (writes s at_ l).2).1 = 0 then _ else _) = _
    by_cases h2 : (dk.flush (writes s at_ l).2).1 = 0
    · have h3 := hD h1 h2
      unfold jn.lay
      rw [if_pos h1, if_pos h2, if_pos h2]
      show runOps (dk.flush (writes s at_ l).2).2 _ = _
      generalize (dk.flush (writes s at_ l).2).2 = t at *
      have hp := nx_pos a b
      unfold jn.layH jn.newest
      rw [h3.1, h3.2]
      have e1 : (nx a b).1 = (hd.newest a b).1 + 1 := by rw [hx]
      have e2 : (nx a b).2 = sl.next a b := by rw [hx]
      rw [← e1, ← e2, hp.1, Int.toNat_natCast]
      show (if (dk.write t _ _).1 = 0 then runOps _ [Op.fl] else dk.write t _ _) = _
      rw [run_one]
      rfl
    · have e : jn.lay s at_ l h = dk.flush (writes s at_ l).2 := by unfold jn.lay; rw [if_pos h1, if_neg h2]
      rw [e, if_neg h2]
      rfl
  · have e : jn.lay s at_ l h = writes s at_ l := by unfold jn.lay; rw [if_neg h1]
    rw [e, if_neg h1, if_neg h1]
theorem asks_zero_light {s : St} {n : Int} (h : dk.asks s n = 0) : s.black = false := by
  unfold dk.asks at h
  by_cases hb : s.black = true
  · rw [if_pos hb] at h; cases h
  · simpa using hb
/-- what stands in the heads behind steps that wrote others -/
theorem rd_behind {s : St} (ok : s.Ok) (hb : s.black = false) (hL : s.L = []) {at_ : Nat} {l : List Blk} (hl : ∀ b ∈ l, b.length = 128) (h2 : 2 ≤ at_) (hat : at_ + l.length ≤ s.S.length)
    (w1 : (writes s at_ l).1 = 0) (f1 : (dk.flush (writes s at_ l).2).1 = 0) : rd (dk.flush (writes s at_ l).2).2 0 = rd s 0 ∧ rd (dk.flush (writes s at_ l).2).2 1 = rd s 1 := by
  have h64 := ok.some
  rcases writes_cases l s at_ hb hat hl with ⟨_, w2, w3, w4, w5⟩ | ⟨w1', _⟩
  · rw [hL, List.nil_append] at w4
    rcases flush_cases w2 with ⟨_, f2, f3, f4, f5⟩ | ⟨f1', _⟩
    · rw [w3, w4] at f3
      have ha := agree_lay _ s.S (zipAt_in l at_ hl)
      generalize (dk.flush (writes s at_ l).2).2 = t at *
      have hlen : t.S.length = s.S.length := by rw [f3]; exact ha.len
      have e0 : rd t 0 = t.S.getD 0 dk.zero := rd_sure f2 f4 (k := 0) (by omega)
      have e1 : rd t 1 = t.S.getD 1 dk.zero := rd_sure f2 f4 (k := 1) (by omega)
      have g0 : rd s 0 = s.S.getD 0 dk.zero := rd_sure hb hL (k := 0) (by omega)
      have g1 : rd s 1 = s.S.getD 1 dk.zero := rd_sure hb hL (k := 1) (by omega)
      rw [e0, e1, g0, g1, f3]
      exact ⟨ha.get 0 (.inl (by omega)), ha.get 1 (.inl (by omega))⟩
    · rw [f1'] at f1; cases f1
  · rw [w1'] at w1; cases w1
theorem addR_append {s : St} (ok : s.Ok) (hL : s.L = []) {k : hd.H} (hbk : k.bank.toNat ≤ 1) (hx : s.black = false → NextOk (rd s 0) (rd s 1)) (b : List UInt8) : addR s k b = append s k b := by
  unfold addR jn.append
  split
  · rfl
  · split
    · rfl
    · rename_i hb
      have hb : s.black = false := by simpa using hb
      split
      · rfl
      · rename_i hroom
        obtain ⟨g1, g2⟩ := first_most ok hbk
        exact ops_lay (fun w1 f1 => rd_behind ok hb hL (blocks_len b) (by omega) (by omega) w1 f1) (hx hb)
theorem addR_replace {s : St} (ok : s.Ok) (hL : s.L = []) {k : hd.H} (hbk : k.bank.toNat ≤ 1) (hx : s.black = false → NextOk (rd s 0) (rd s 1)) (b : List UInt8) : addR s ⟨1 - k.bank, 0, 0⟩ b = replace s k b := by
  have hbk2 : (1 - k.bank).toNat ≤ 1 := by rcases bank_cases hbk with e | e <;> rw [e] <;> decide
  unfold addR jn.replace
  simp only [Nat.zero_add, Nat.add_zero]
  split
  · rfl
  · split
    · rfl
    · rename_i hb
      have hb : s.black = false := by simpa using hb
      split
      · rfl
      · rename_i hroom
        obtain ⟨g1, g2⟩ := first_most ok hbk2
        exact ops_lay (fun w1 f1 => rd_behind ok hb hL (blocks_len b) (by omega) (by omega) w1 f1) (hx hb)
theorem lay_app : ∀ (L M : List (Int × Blk)) (S : List Blk), dk.lay S (L ++ M) = dk.lay (dk.lay S L) M
  | [], _, _ => rfl
  | x :: L, M, S => by rw [List.cons_append, dk.lay, dk.lay, lay_app L M]
/-- the heads are 0 behind Make's first steps -/
theorem make_zero {s : St} (ok : s.Ok) (hb : s.black = false) (w1 : (writes s 0 [dk.zero, dk.zero]).1 = 0) (f1 : (dk.flush (writes s 0 [dk.zero, dk.zero]).2).1 = 0) :
    rd (dk.flush (writes s 0 [dk.zero, dk.zero]).2).2 0 = dk.zero ∧ rd (dk.flush (writes s 0 [dk.zero, dk.zero]).2).2 1 = dk.zero ∧ (dk.flush (writes s 0 [dk.zero, dk.zero]).2).2.black = false ∧ (dk.flush (writes s 0 [dk.zero, dk.zero]).2).2.L = [] := by
  have h64 := ok.some
  have hl : ∀ b ∈ [dk.zero, dk.zero], b.length = 128 := by intro x hx; simp at hx; rw [hx]; rfl
  rcases writes_cases [dk.zero, dk.zero] s 0 hb (by simp; omega) hl with ⟨_, w2, w3, w4, w5⟩ | ⟨w1', _⟩
  · rcases flush_cases w2 with ⟨_, f2, f3, f4, f5⟩ | ⟨f1', _⟩
    · rw [w3, w4, lay_app] at f3
      have hll : (dk.lay s.S s.L).length = s.S.length := dk.lay_length _ _
      have z0 := lay_zip [dk.zero, dk.zero] 0 (dk.lay s.S s.L) (by simp; omega) 0 (by simp)
      have z1 := lay_zip [dk.zero, dk.zero] 0 (dk.lay s.S s.L) (by simp; omega) 1 (by simp)
      generalize (dk.flush (writes s 0 [dk.zero, dk.zero]).2).2 = t at *
      have hlen : t.S.length = s.S.length := by rw [f3, dk.lay_length]; exact hll
      have e0 : rd t 0 = t.S.getD 0 dk.zero := rd_sure f2 f4 (k := 0) (by omega)
      have e1 : rd t 1 = t.S.getD 1 dk.zero := rd_sure f2 f4 (k := 1) (by omega)
      rw [e0, e1, f3]
      exact ⟨z0, z1, f2, f4⟩
    · rw [f1'] at f1; cases f1
  · rw [w1'] at w1; cases w1
theorem makeR_make {s : St} (ok : s.Ok) : makeR s = make s := by
  unfold makeR jn.make
  by_cases hb : s.black = true
  · rw [if_pos hb]
    have hq : dk.asks s 0 = 9 := by unfold dk.asks; rw [if_pos hb]
    have hw : dk.write s 0 dk.zero = (9, s) := by unfold dk.write; rw [if_neg (by rw [hq]; decide), hq]
    show (if (dk.write s 0 dk.zero).1 = 0 then _ else dk.write s 0 dk.zero) = _
    rw [hw, if_neg (show ¬ (9 : Int) = 0 by decide)]
  · rw [if_neg hb]
    have hb : s.black = false := by simpa using hb
    exact ops_lay (fun w1 f1 => ⟨(make_zero ok hb w1 f1).1, (make_zero ok hb w1 f1).2.1⟩) next_ok_zero
/-- WHAT A JOURNAL THAT GOES BY A HEAD HAS OF ITS DISK, in the light -/
def Link (s : St) (k : hd.H) : Prop := s.black = false → (newest s).2.1 = k ∧ k.blocks ≤ half s ∧ (batches s k).2 = true
theorem Link.same {s s' : St} {k : hd.H} (h : Link s k) (hS : s'.S = s.S) (hL : s'.L = s.L) (hb : s'.black = s.black) : Link s' k := by
  obtain ⟨S, L, cut, black, many⟩ := s
  obtain ⟨S', L', cut', black', many'⟩ := s'
  simp only at hS hL hb
  subst hS hL hb
  intro hl
  have hr : ∀ n, rd ⟨S', L', cut', black', many'⟩ n = rd ⟨S', L', cut, black', many⟩ n := fun n => rfl
  obtain ⟨h1, h2, h3⟩ := h hl
  exact ⟨h1, h2, h3⟩
theorem Link.arm {s : St} {k : hd.H} (h : Link s k) (n : Int) : Link (dk.arm s n).2 k := by
  unfold dk.arm
  split
  · exact h
  · split
    · exact h
    · exact h.same rfl rfl rfl
theorem Good.link {s : St} {c N : Nat} {h : hd.H} {was : List (List UInt8)} (g : Good s c N h was) : Link s h := fun _ => ⟨by rw [g.newest], g.fits, by rw [g.batches]⟩
theorem link_dark {s : St} {k : hd.H} (h : s.black = true) : Link s k := fun hl => by rw [h] at hl; cases hl
theorem make_link {s : St} (ok : s.Ok) (h0 : (make s).1 = 0) : Link (make s).2 hd.zero := by
  unfold jn.make at h0 ⊢
  by_cases hb : s.black = true
  · rw [if_pos hb] at h0; cases h0
  · rw [if_neg hb] at h0 ⊢
    have hb : s.black = false := by simpa using hb
    have hokw : (writes s 0 [dk.zero, dk.zero]).2.Ok := Ok.writes _ 0 ok (by intro x hx; simp at hx; rw [hx]; rfl)
    unfold jn.lay at h0 ⊢
    by_cases w1 : (writes s 0 [dk.zero, dk.zero]).1 = 0
    · rw [if_pos w1] at h0 ⊢
      by_cases f1 : (dk.flush (writes s 0 [dk.zero, dk.zero]).2).1 = 0
      · rw [if_pos f1] at h0 ⊢
        obtain ⟨z0, z1, z2, z3⟩ := make_zero ok hb w1 f1
        have hokf := dk.Ok.flush hokw
        generalize (dk.flush (writes s 0 [dk.zero, dk.zero]).2).2 = t at *
        have hN : (newest t).1 = 0 := by unfold newest; rw [z0, z1, newest_zero]
        rcases layH_new hokf z2 z3 hN (h' := hd.zero) (by decide) (by decide) with ⟨_, a2, a3, a4, a5, a6⟩ | ⟨a1, _⟩
        · intro _
          refine ⟨by rw [a4], Nat.zero_le _, ?_⟩
          unfold batches
          rw [if_neg (by exact Nat.not_lt_zero _)]
          rfl
        · rw [a1] at h0; cases h0
      · rw [if_neg f1] at h0; exact absurd h0 f1
    · rw [if_neg w1] at h0; exact absurd h0 w1
theorem open_link {s : St} (h : opens s = 0) : Link s (newest s).2.1 := fun hl => by
  have h2 : (batches s (newest s).2.1).2 = true := by
    unfold opens at h
    rw [if_neg (by rw [hl]; decide)] at h
    by_cases h1 : ¬ (newest s).2.2 = 0 ∨ 2305843009213693952 < (newest s).1
    · rw [if_pos h1] at h; cases h
    · rw [if_neg h1] at h
      by_cases h3 : (batches s (newest s).2.1).2 = true
      · exact h3
      · rw [if_neg h3] at h; cases h
  refine ⟨rfl, ?_, h2⟩
  unfold batches at h2
  by_cases h3 : half s < (newest s).2.1.blocks
  · rw [if_pos h3] at h2; cases h2
  · omega
end jn
end Go.Proofs.YthddcaoolaipiaaGreatDoor

/-
  THE PROGRAM's journal: what the laws want of it. JF w0 w F d j s: in w, which the call that began in w0 has made, j is a journal on the disk d, which is s; all that it writes is in the blocks F, which are the call's own. JW, DW: whatever these blocks are.
-/
namespace Go.Proofs.YthddcaoolaipiaaGreatDoor
open Go.RowKit
/-- a disk of the call's own -/
structure DF (w0 w : World) (F : List Nat) (d : Value) (s : dk.St) : Prop where
  cd : CD w F d s
  under : Below w0.heap.size w0 w
  own : ∀ k ∈ F, w0.heap.size ≤ k
def DW (w0 w : World) (d : Value) (s : dk.St) : Prop := ∃ F, DF w0 w F d s
/-- a journal of the call's own: its struct is in the block p, its disk in Fd; in the light it goes by the newest head -/
def JF (w0 w : World) (F : List Nat) (d j : Value) (s : dk.St) : Prop := ∃ (p : Nat) (Fd : List Nat) (k : hd.H), j = .pointer (some ⟨p, 0, none⟩) ∧ F = p :: Fd ∧ p ∉ Fd ∧ w0.heap.size ≤ p ∧ JM w p d k ∧ DF w0 w Fd d s ∧ jn.Link s k
def JW (w0 w : World) (d j : Value) (s : dk.St) : Prop := ∃ F, JF w0 w F d j s
variable {w0 w w1 w' : World} {F : List Nat} {d j : Value} {s : dk.St}
theorem DF.below (h : DF w0 w F d s) (hb : Below w.heap.size w w') : DF w0 w' F d s := ⟨h.cd.below hb, h.under.trans (hb.mono h.under.size), h.own⟩
theorem DW.below (h : DW w0 w d s) (hb : Below w.heap.size w w') : DW w0 w' d s := h.elim fun F h => ⟨F, h.below hb⟩
theorem DW.form (h : DW w0 w d s) : ∃ p, d = .pointer (some ⟨p, 0, none⟩) := h.elim fun _ h => h.cd.form
theorem DW.under (h : DW w0 w d s) : Below w0.heap.size w0 w := h.elim fun _ h => h.under
theorem dw_step (h : DF w0 w F d s) {F' : List Nat} {s' : dk.St} (hd : CD w' F' d s') (hc : Chg w w' F) (hs : Sub w F' F) : DF w0 w' F' d s' :=
  ⟨hd, ((Chg.of_below (h.under.mono (Nat.le_refl _)) F).trans hc (Sub.refl _ _)).below (Nat.le_refl _) h.own, fun k hk => (hs k hk).elim (h.own k) (fun e => Nat.le_trans h.under.size e)⟩
theorem df_new (n : Nat) (h : 64 ≤ n) (h2 : n ≤ 4096) (w0 : World) (hb : Below w0.heap.size w0 w) : Calls Tryz.prog 5 #[.int .i64 n] w fun e w' => ∃ d F, e = .returned (.tuple #[d, .int .i64 0]) ∧ DF w0 w' F d (fresh n) :=
  (cd_new n h h2).mono fun e w' h => by
    obtain ⟨F, d, h1, h2, h3, h4⟩ := h
    exact ⟨d, F, h1, h2, hb.trans (h3.mono hb.size), fun k hk => Nat.le_trans hb.size (h4 k hk)⟩
theorem dw_new (n : Nat) (h : 64 ≤ n) (h2 : n ≤ 4096) (w0 : World) (hb : Below w0.heap.size w0 w) : Calls Tryz.prog 5 #[.int .i64 n] w fun e w' => ∃ d, e = .returned (.tuple #[d, .int .i64 0]) ∧ DW w0 w' d (fresh n) :=
  (df_new n h h2 w0 hb).mono fun e w' h => by
    obtain ⟨d, F, h1, h2⟩ := h
    exact ⟨d, h1, F, h2⟩
theorem df_dark (h : DF w0 w F d s) : Calls Tryz.prog 8 #[d] w fun e w' => e = .returned (.bool s.black) ∧ w = w' := cd_dark h.cd
theorem df_crash (A : Option Addr) (n cp : Nat) (l : List Int) (hl : IS w A n cp l) (hA : 0 < n → ∀ b o, A = some ⟨b, o, none⟩ → b < w0.heap.size) (h : DF w0 w F d s) : Calls Tryz.prog 10 #[d, .slice A n cp] w fun e w' => ∃ F', e = .returned (.int .i64 0) ∧ DF w0 w' F' d (dk.crash s l) ∧ Chg w w' F ∧ Sub w F' F := by
  refine (cd_crash A n cp l hl (fun h0 b o e hk => by have := hA h0 b o e; have := h.own b hk; omega) h.cd).mono fun e w' h' => ?_
  obtain ⟨F', e1, e2, e3, e4⟩ := h'
  exact ⟨F', e1, dw_step h e2 e3 e4, e3, e4⟩
/-! ### the landed journal -/
theorem JF.df (h : JF w0 w F d j s) : ∃ Fd, DF w0 w Fd d s ∧ ∀ k ∈ Fd, k ∈ F := by
  obtain ⟨p, Fd, k, rfl, rfl, h1, h2, h3, h4, h5⟩ := h
  exact ⟨Fd, h4, fun k hk => List.mem_cons_of_mem _ hk⟩
theorem JF.keep (h : JF w0 w F d j s) (hb : Below w0.heap.size w0 w') (_hs : w.heap.size ≤ w'.heap.size) (hk : Same w w' F) : JF w0 w' F d j s := by
  obtain ⟨p, Fd, k, rfl, rfl, h1, h2, h3, h4, h5⟩ := h
  exact ⟨p, Fd, k, rfl, rfl, h1, h2, (hk p (List.mem_cons_self ..)).trans h3, ⟨h4.cd.keep (hk.sub fun x hx => List.mem_cons_of_mem _ hx), hb, h4.own⟩, h5⟩
theorem JF.there (h : JF w0 w F d j s) : Ther w F := by
  obtain ⟨p, Fd, k, rfl, rfl, h1, h2, h3, h4, h5⟩ := h
  intro x hx
  rcases List.mem_cons.1 hx with rfl | hx
  · exact h3.lt
  · exact h4.cd.there x hx
theorem JF.below (h : JF w0 w F d j s) (hb : Below w.heap.size w w') : JF w0 w' F d j s := by
  have hu : Below w0.heap.size w0 w := by obtain ⟨p, Fd, k, rfl, rfl, h1, h2, h3, h4, h5⟩ := h; exact h4.under
  exact h.keep (hu.trans (hb.mono hu.size)) hb.size (fun x hx => hb.block x (h.there x hx))
theorem JF.form (h : JF w0 w F d j s) : ∃ p, j = .pointer (some ⟨p, 0, none⟩) := by
  obtain ⟨p, Fd, k, rfl, h0⟩ := h
  exact ⟨p, rfl⟩
theorem JF.at_ (h : JF w0 w F d j s) : ∀ k ∈ F, w0.heap.size ≤ k := by
  obtain ⟨p, Fd, k, rfl, rfl, h1, h2, h3, h4, h5⟩ := h
  intro x hx
  rcases List.mem_cons.1 hx with rfl | hx
  · exact h2
  · exact h4.own x hx
/-- behind a call that wrote to the journal and to its disk -/
theorem jf_step {p : Nat} {k' : hd.H} {s' : dk.St} {Fd Fd' : List Nat} (hp : p ∉ Fd) (h2 : w0.heap.size ≤ p) (hpw : p < w.heap.size) (h4 : DF w0 w Fd d s) (hd' : CD w' Fd' d s') (hm : JM w' p d k') (hl : jn.Link s' k') (hc : Chg w w' (p :: Fd)) (hs : Sub w Fd' Fd) :
    JF w0 w' (p :: Fd') d (.pointer (some ⟨p, 0, none⟩)) s' ∧ Sub w (p :: Fd') (p :: Fd) := by
  have hpF : p ∉ Fd' := fun hm => (hs p hm).elim hp (by omega)
  refine ⟨⟨p, Fd', k', rfl, rfl, hpF, h2, hm, ⟨hd', ((Chg.of_below (h4.under.mono (Nat.le_refl _)) (p :: Fd)).trans hc (Sub.refl _ _)).below (Nat.le_refl _) (fun x hx => ?_), fun x hx => ?_⟩, hl⟩, fun x hx => ?_⟩
  · rcases List.mem_cons.1 hx with rfl | hx
    · exact h2
    · exact h4.own x hx
  · exact (hs x hx).elim (h4.own x) (fun e => Nat.le_trans h4.under.size e)
  · rcases List.mem_cons.1 hx with rfl | hx
    · exact .inl (List.mem_cons_self ..)
    · exact (hs x hx).imp (fun e => List.mem_cons_of_mem _ e) id
theorem jf_arm (n : Int) (hn : n ≤ 9223372036854775807) (h : JF w0 w F d j s) : Calls Tryz.prog 28 #[d, .int .i64 n] w fun e w' => ∃ F', e = .returned (.int .i64 (dk.arm s n).1) ∧ JF w0 w' F' d j (dk.arm s n).2 ∧ Chg w w' F ∧ Sub w F' F := by
  obtain ⟨p, Fd, k, rfl, rfl, h1, h2, h3, h4, h5⟩ := h
  refine (cd_arm n hn h4.cd).mono fun e w' h' => ?_
  obtain ⟨F', e1, e2, e3, e4⟩ := h'
  have hm := h3.chg e3 h1
  have hc : Chg w w' (p :: Fd) := e3.mono (fun x hx => .inl (List.mem_cons_of_mem _ hx))
  obtain ⟨g1, g2⟩ := jf_step h1 h2 h3.lt h4 e2 hm (h5.arm n) hc e4
  exact ⟨_, e1, g1, hc, g2⟩
theorem jf_make (h : DF w0 w F d s) (ht : Tabs w0) (hm : s.many + 4200 < 1048576 ∧ s.L.length + 4200 < 1048576) : Calls Tryz.prog 26 #[d] w fun e w' =>
    ∃ v F', e = .returned (.tuple #[v, .int .i64 (jn.make s).1]) ∧ ((jn.make s).1 = 0 → JF w0 w' F' d v (jn.make s).2) ∧ (¬ (jn.make s).1 = 0 → v = .pointer none ∧ DF w0 w' F' d (jn.make s).2) ∧ Chg w w' F ∧ Sub w F' F := by
  obtain ⟨q, hq⟩ := h.cd.form
  have hmk := jn.makeR_make h.cd.ok
  refine (cj_make hq h.cd (ht.below h.under) hm).mono fun e w' h' => ?_
  rw [hmk] at h'
  obtain ⟨v, p, F', e1, e2, e3, e4, e5, e6, e7, e8⟩ := h'
  have hdf := dw_step h e2 e7 e8
  by_cases h0 : (jn.make s).1 = 0
  · obtain ⟨rfl, hj⟩ := e3 h0
    refine ⟨_, p :: F', e1, fun _ => ⟨p, F', hd.zero, rfl, rfl, e6, Nat.le_trans h.under.size e5, hj, hdf, jn.make_link h.cd.ok h0⟩, fun hn => absurd h0 hn, e7, fun x hx => ?_⟩
    rcases List.mem_cons.1 hx with rfl | hx
    · exact .inr e5
    · exact e8 x hx
  · exact ⟨v, F', e1, fun hn => absurd hn h0, fun _ => ⟨e4 h0, hdf⟩, e7, e8⟩
theorem jf_open (h : DF w0 w F d s) (ht : Tabs w0) : Calls Tryz.prog 34 #[d] w fun e w' =>
    ∃ v F', e = .returned (.tuple #[v, .int .i64 (jn.opens s)]) ∧ (jn.opens s = 0 → JF w0 w' F' d v s) ∧ (¬ jn.opens s = 0 → v = .pointer none) ∧ Below w.heap.size w w' ∧ Sub w F' F := by
  obtain ⟨q, hq⟩ := h.cd.form
  refine (cj_open hq h.cd (ht.below h.under)).mono fun e w' h' => ?_
  obtain ⟨v, p, e1, e2, e3, e4, e5⟩ := h'
  by_cases h0 : jn.opens s = 0
  · obtain ⟨rfl, hj⟩ := e2 h0
    have hpF : p ∉ F := fun hm => by have := h.cd.there p hm; omega
    refine ⟨_, p :: F, e1, fun _ => ⟨p, F, _, rfl, rfl, hpF, Nat.le_trans h.under.size e4, hj, h.below e5, jn.open_link h0⟩, fun hn => absurd h0 hn, e5, fun x hx => ?_⟩
    rcases List.mem_cons.1 hx with rfl | hx
    · exact .inr e4
    · exact .inl hx
  · exact ⟨v, F, e1, fun hn => absurd hn h0, e3, e5, Sub.refl _ _⟩
theorem jf_append {c N : Nat} {k : hd.H} {was : List (List UInt8)} (h : JF w0 w F d j s) (ht : Tabs w0) (g : jn.Good s c N k was) (hn : hd.num (N + 1) = true) (hm : s.many + 4200 < 1048576)
    {A : Option Addr} {n cp : Nat} {b : List UInt8} (hB : BS w A n cp b) (_hA : 0 < n → ∀ x o, A = some ⟨x, o, none⟩ → x ∉ F) : Calls Tryz.prog 22 #[j, .slice A n cp] w fun e w' =>
    ∃ F', e = .returned (.int .i64 (jn.append s k b).1) ∧ JF w0 w' F' d j (jn.append s k b).2 ∧ Chg w w' F ∧ Sub w F' F := by
  obtain ⟨p, Fd, k0, rfl, rfl, h1, h2, h3, h4, h5⟩ := h
  obtain ⟨q, hq⟩ := h4.cd.form
  obtain ⟨l1, l2, l3⟩ := h5 g.light
  rw [g.newest] at l1
  simp only at l1
  subst l1
  have hmay := g.fit.may
  have hmy := hd.may_ok hmay
  have hhalf := jn.half_le g.ok
  have h64 := g.ok.some
  have e0 : jn.rd s 0 = s.S.getD 0 dk.zero := jn.rd_sure g.light g.sure (k := 0) (by omega)
  have e1 : jn.rd s 1 = s.S.getD 1 dk.zero := jn.rd_sure g.light g.sure (k := 1) (by omega)
  have hnx : jn.NextOk (jn.rd s 0) (jn.rd s 1) := by rw [e0, e1]; exact g.two.next_ok
  have hcp := jn.count_pos b.length
  rw [← jn.blocks_length] at hcp
  have hr := jn.addR_append g.ok g.sure hmy.1 (fun _ => hnx) b
  refine (cj_append hq h3 h1 h4.cd (ht.below h4.under) hmay g.fits hB ⟨hm, by rw [g.sure]; simp⟩ (fun _ _ hroom => ?_)).mono fun e w' h' => ?_
  · rw [hnx, e0, e1, g.two.newest]
    exact (hd.put_err _ _).2 (by
      rw [hn, Bool.true_and]
      exact jn.may_of hmy.1 (show k.blocks + (jn.blocks b).length ≤ 4096 by omega) (show k.batches + 1 ≤ k.blocks + (jn.blocks b).length by omega))
  · rw [hr] at h'
    obtain ⟨F', r1, r2, r3, r4, r5⟩ := h'
    have hlink : jn.Link (jn.append s k b).2 (if (jn.append s k b).1 = 0 then jn.appendH k b else k) := by
      by_cases hbig : 1048576 < b.length
      · have ea : jn.append s k b = (3, s) := by rw [jn.append, if_pos hbig]
        rw [ea, if_neg (show ¬ (3 : Int) = 0 by decide)]
        exact g.link
      · by_cases hroom : jn.half s < k.blocks + (jn.blocks b).length
        · rw [jn.append_full g b (by omega) hroom, if_neg (show ¬ (10 : Int) = 0 by decide)]
          exact g.link
        · rcases (jn.append_cases g hn b (by omega) (by omega)).2 with ⟨a1, a2, _⟩ | ⟨a1, a2, _⟩
          · rw [if_pos a1]; exact a2.link
          · exact jn.link_dark a2
    obtain ⟨g1, g2⟩ := jf_step h1 h2 h3.lt h4 r2 r3 hlink r4 r5
    exact ⟨_, r1, g1, r4, g2⟩
theorem jf_replace {c N : Nat} {k : hd.H} {was : List (List UInt8)} (h : JF w0 w F d j s) (ht : Tabs w0) (g : jn.Good s c N k was) (hn : hd.num (N + 1) = true) (hm : s.many + 4200 < 1048576)
    {A : Option Addr} {n cp : Nat} {b : List UInt8} (hB : BS w A n cp b) (_hA : 0 < n → ∀ x o, A = some ⟨x, o, none⟩ → x ∉ F) : Calls Tryz.prog 24 #[j, .slice A n cp] w fun e w' =>
    ∃ F', e = .returned (.int .i64 (jn.replace s k b).1) ∧ JF w0 w' F' d j (jn.replace s k b).2 ∧ Chg w w' F ∧ Sub w F' F := by
  obtain ⟨p, Fd, k0, rfl, rfl, h1, h2, h3, h4, h5⟩ := h
  obtain ⟨q, hq⟩ := h4.cd.form
  obtain ⟨l1, l2, l3⟩ := h5 g.light
  rw [g.newest] at l1
  simp only at l1
  subst l1
  have hmay := g.fit.may
  have hmy := hd.may_ok hmay
  have hhalf := jn.half_le g.ok
  have h64 := g.ok.some
  have e0 : jn.rd s 0 = s.S.getD 0 dk.zero := jn.rd_sure g.light g.sure (k := 0) (by omega)
  have e1 : jn.rd s 1 = s.S.getD 1 dk.zero := jn.rd_sure g.light g.sure (k := 1) (by omega)
  have hnx : jn.NextOk (jn.rd s 0) (jn.rd s 1) := by rw [e0, e1]; exact g.two.next_ok
  have hcp := jn.count_pos b.length
  rw [← jn.blocks_length] at hcp
  have hbk2 : (1 - k.bank).toNat ≤ 1 := by rcases jn.bank_cases hmy.1 with e | e <;> rw [e] <;> decide
  have hr := jn.addR_replace g.ok g.sure hmy.1 (fun _ => hnx) b
  refine (cj_replace hq h3 h1 h4.cd (ht.below h4.under) hmay hB ⟨hm, by rw [g.sure]; simp⟩ (fun _ _ hroom => ?_)).mono fun e w' h' => ?_
  · rw [hnx, e0, e1, g.two.newest]
    exact (hd.put_err _ _).2 (by
      rw [hn, Bool.true_and]
      exact jn.may_of (h := jn.replaceH k b) hbk2 (show (jn.blocks b).length ≤ 4096 by omega) (show 1 ≤ (jn.blocks b).length by omega))
  · rw [hr] at h'
    obtain ⟨F', r1, r2, r3, r4, r5⟩ := h'
    have hlink : jn.Link (jn.replace s k b).2 (if (jn.replace s k b).1 = 0 then jn.replaceH k b else k) := by
      by_cases hbig : 1048576 < b.length
      · have ea : jn.replace s k b = (3, s) := by rw [jn.replace, if_pos hbig]
        rw [ea, if_neg (show ¬ (3 : Int) = 0 by decide)]
        exact g.link
      · by_cases hroom : jn.half s < (jn.blocks b).length
        · rw [jn.replace_full g b (by omega) hroom, if_neg (show ¬ (10 : Int) = 0 by decide)]
          exact g.link
        · rcases (jn.replace_cases g hn b (by omega) (by omega)).2 with ⟨a1, a2, _⟩ | ⟨a1, a2, _⟩
          · rw [if_pos a1]; exact a2.link
          · exact jn.link_dark a2
    obtain ⟨g1, g2⟩ := jf_step h1 h2 h3.lt h4 r2 r3 hlink r4 r5
    exact ⟨_, r1, g1, r4, g2⟩
theorem link_may {s : dk.St} {k : hd.H} (h : (jn.newest s).2.1 = k) : hd.may k = true := by
  have hg : ∀ x : dk.Blk, hd.may (hd.get x).2.1 = true := fun x => by
    by_cases h : (hd.get x).2.2 = 0
    · exact (hd.get_num h).2.2
    · rw [(hd.get_err h).2]; rfl
  rw [← h]
  unfold jn.newest hd.newest
  split
  · rfl
  · split
    · exact hg _
    · exact hg _
theorem jf_batches (h : JF w0 w F d j s) (hl : s.black = false) : Calls Tryz.prog 37 #[j] w fun e w' =>
    ∃ A n c, e = .returned (.slice A n c) ∧ RS w' A n c (jn.batches s (jn.newest s).2.1).1 ∧ Below w.heap.size w w' := by
  obtain ⟨p, Fd, k, rfl, rfl, h1, h2, h3, h4, h5⟩ := h
  obtain ⟨q, hq⟩ := h4.cd.form
  obtain ⟨l1, l2, l3⟩ := h5 hl
  rw [l1]
  refine (cj_batches0 hq h3 h4.cd (link_may l1) l2 hl).mono fun e w' h' => ?_
  obtain ⟨A, n, c, e1, e2, _, e3⟩ := h'
  exact ⟨A, n, c, e1, e2 l3, e3⟩
theorem jf_room (h : JF w0 w F d j s) (hl : s.black = false) : Calls Tryz.prog 39 #[j] w fun e w' =>
    e = .returned (.int .i64 ((jn.half s : Int) - ((jn.newest s).2.1.blocks : Int))) ∧ Below w.heap.size w w' := by
  obtain ⟨p, Fd, k, rfl, rfl, h1, h2, h3, h4, h5⟩ := h
  obtain ⟨q, hq⟩ := h4.cd.form
  obtain ⟨l1, l2, l3⟩ := h5 hl
  rw [l1]
  exact cj_room hq h3 h4.cd (link_may l1)
theorem jf_head (h : JF w0 w F d j s) (hl : s.black = false) : Calls Tryz.prog 41 #[j] w fun e w' =>
    e = .returned (hd.val (jn.newest s).2.1) ∧ Below w.heap.size w w' := by
  obtain ⟨p, Fd, k, rfl, rfl, h1, h2, h3, h4, h5⟩ := h
  obtain ⟨q, hq⟩ := h4.cd.form
  obtain ⟨l1, l2, l3⟩ := h5 hl
  rw [l1]
  exact cj_head hq h3
/-! ### whatever the blocks are -/
theorem JF.under (h : JF w0 w F d j s) : Below w0.heap.size w0 w := h.df.elim fun _ h => h.1.under
theorem JW.dw (h : JW w0 w d j s) : DW w0 w d s := h.elim fun _ h => h.df.elim fun Fd h => ⟨Fd, h.1⟩
theorem JW.below (h : JW w0 w d j s) (hb : Below w.heap.size w w') : JW w0 w' d j s := h.elim fun F h => ⟨F, h.below hb⟩
theorem JW.form (h : JW w0 w d j s) : ∃ p, j = .pointer (some ⟨p, 0, none⟩) := h.elim fun _ h => h.form
theorem jw_make (h : DW w0 w d s) (ht : Tabs w0) (hm : s.many + 4200 < 1048576 ∧ s.L.length + 4200 < 1048576) : Calls Tryz.prog 26 #[d] w fun e w' =>
    ∃ v, e = .returned (.tuple #[v, .int .i64 (jn.make s).1]) ∧ ((jn.make s).1 = 0 → JW w0 w' d v (jn.make s).2) ∧ (¬ (jn.make s).1 = 0 → v = .pointer none) ∧ DW w0 w' d (jn.make s).2 := by
  obtain ⟨F, h⟩ := h
  refine (jf_make h ht hm).mono fun e w' h' => ?_
  obtain ⟨v, F', e1, e2, e3, _⟩ := h'
  refine ⟨v, e1, fun h0 => ⟨F', e2 h0⟩, fun h0 => (e3 h0).1, ?_⟩
  by_cases h0 : (jn.make s).1 = 0
  · exact JW.dw ⟨F', e2 h0⟩
  · exact ⟨F', (e3 h0).2⟩
theorem jw_open (h : DW w0 w d s) (ht : Tabs w0) : Calls Tryz.prog 34 #[d] w fun e w' =>
    ∃ v, e = .returned (.tuple #[v, .int .i64 (jn.opens s)]) ∧ (jn.opens s = 0 → JW w0 w' d v s) ∧ (¬ jn.opens s = 0 → v = .pointer none) ∧ DW w0 w' d s := by
  obtain ⟨F, h⟩ := h
  refine (jf_open h ht).mono fun e w' h' => ?_
  obtain ⟨v, F', e1, e2, e3, e4, _⟩ := h'
  exact ⟨v, e1, fun h0 => ⟨F', e2 h0⟩, e3, F, h.below e4⟩
theorem jw_append {c N : Nat} {k : hd.H} {was : List (List UInt8)} (h : JW w0 w d j s) (ht : Tabs w0) (g : jn.Good s c N k was) (hn : hd.num (N + 1) = true) (hm : s.many + 4200 < 1048576) (hb : Below w.heap.size w w1)
    {A : Option Addr} {n cp : Nat} {b : List UInt8} (hB : BS w1 A n cp b) (hA : 0 < n → ∀ x o, A = some ⟨x, o, none⟩ → x < w0.heap.size ∨ w.heap.size ≤ x) : Calls Tryz.prog 22 #[j, .slice A n cp] w1 fun e w' =>
    e = .returned (.int .i64 (jn.append s k b).1) ∧ JW w0 w' d j (jn.append s k b).2 := by
  obtain ⟨F, h⟩ := h
  refine (jf_append (h.below hb) ht g hn hm hB (fun h0 x o e hk => by have := h.there x hk; have := h.at_ x hk; have := hA h0 x o e; omega)).mono fun e w' h' => ?_
  obtain ⟨F', e1, e2, _⟩ := h'
  exact ⟨e1, F', e2⟩
theorem jw_replace {c N : Nat} {k : hd.H} {was : List (List UInt8)} (h : JW w0 w d j s) (ht : Tabs w0) (g : jn.Good s c N k was) (hn : hd.num (N + 1) = true) (hm : s.many + 4200 < 1048576) (hb : Below w.heap.size w w1)
    {A : Option Addr} {n cp : Nat} {b : List UInt8} (hB : BS w1 A n cp b) (hA : 0 < n → ∀ x o, A = some ⟨x, o, none⟩ → x < w0.heap.size ∨ w.heap.size ≤ x) : Calls Tryz.prog 24 #[j, .slice A n cp] w1 fun e w' =>
    e = .returned (.int .i64 (jn.replace s k b).1) ∧ JW w0 w' d j (jn.replace s k b).2 := by
  obtain ⟨F, h⟩ := h
  refine (jf_replace (h.below hb) ht g hn hm hB (fun h0 x o e hk => by have := h.there x hk; have := h.at_ x hk; have := hA h0 x o e; omega)).mono fun e w' h' => ?_
  obtain ⟨F', e1, e2, _⟩ := h'
  exact ⟨e1, F', e2⟩
theorem jw_batches (h : JW w0 w d j s) (hl : s.black = false) : Calls Tryz.prog 37 #[j] w fun e w' =>
    ∃ A n c, e = .returned (.slice A n c) ∧ RS w' A n c (jn.batches s (jn.newest s).2.1).1 ∧ Below w.heap.size w w' := h.elim fun _ h => jf_batches h hl
theorem jw_room (h : JW w0 w d j s) (hl : s.black = false) : Calls Tryz.prog 39 #[j] w fun e w' =>
    e = .returned (.int .i64 ((jn.half s : Int) - ((jn.newest s).2.1.blocks : Int))) ∧ Below w.heap.size w w' := h.elim fun _ h => jf_room h hl
theorem jw_head (h : JW w0 w d j s) (hl : s.black = false) : Calls Tryz.prog 41 #[j] w fun e w' =>
    e = .returned (hd.val (jn.newest s).2.1) ∧ Below w.heap.size w w' := h.elim fun _ h => jf_head h hl
end Go.Proofs.YthddcaoolaipiaaGreatDoor

/-
  contracts of cardexref07: Make, Append, Replace.
-/
namespace Go.Proofs.YthddcaoolaipiaaGreatDoor
open Go.RowKit
variable {w w' : World} {F : List Nat} {d j : Value} {s : dk.St}
theorem RJ.rd {q p : Nat} (h : RJ w F (.pointer (some ⟨q, 0, none⟩)) s) (hq : w.heap[q]? = some (.cells #[.pointer (some ⟨p, 0, none⟩)] 89 (0, 0))) : RD w F (.pointer (some ⟨p, 0, none⟩)) s := by
  obtain ⟨q', p', e, h1, _, h2⟩ := h
  injection e with e
  injection e with e
  injection e with e
  subst e
  rw [hq] at h1
  injection h1 with h1
  injection h1 with h1
  have h3 := congrArg (fun a : Array Value => a[0]?) h1
  simp only [List.getElem?_toArray, List.getElem?_cons_zero, Option.some.injEq] at h3
  rw [h3]
  exact h2
theorem RJ.there' (h : RJ w F j s) : Ther w F := h.elim fun _ h => h.elim fun _ h => h.2.2.2.there
namespace jn
theorem zz_len : ∀ b ∈ ([dk.zero, dk.zero] : List Blk), b.length = 128 := fun b hb => by
  simp at hb
  rw [hb]
  exact List.length_replicate
end jn
theorem own_two (w : World) (C : Array Value) (hC : (dk.cellsS (List.replicate 2 dk.zero)).toArray = C) : (w.alloc (.cells C 43)).ownsRow 0 43 128 (.slice (some ⟨w.heap.size, 0, none⟩) 2 2) 2 (dk.cellsS [dk.zero, dk.zero]) := by
  have hl : (dk.cellsS [dk.zero, dk.zero]).length = 2 * 128 := by
    simp only [dk.cellsS, List.map_cons, List.map_nil, List.flatten_cons, List.flatten_nil, List.length_append, List.length_map, List.length_nil, dk.cells, zero_len]
  refine ⟨hl, .inr ⟨w.heap.size, 2, C, rfl, Nat.zero_le _, heap_alloc_new w _, Nat.le_refl _, by rw [maxLen_eq]; omega, ?_, ?_⟩⟩
  · rw [← hC, List.size_toArray]; exact hl
  · rw [← hC, List.toList_toArray]; exact List.take_of_length_le (Nat.le_of_eq hl)
set_option maxHeartbeats 4000000 in
set_option maxRecDepth 100000 in
theorem rj_make (h : RD w F d s) (hf : s.many + 10 < 1048576 ∧ s.L.length + 10 < 1048576) : Calls Tryz.prog 27 #[d] w fun e w' =>
    ∃ v F', e = .returned (.tuple #[v, .int .i64 (jn.make s).1]) ∧ ((jn.make s).1 = 0 → RJ w' F' v (jn.make s).2) ∧ (¬ (jn.make s).1 = 0 → v = .pointer none) ∧ RD w' F' d (jn.make s).2 ∧ Chg w w' F ∧ Sub w F' F ∧ NewP w v := by
  obtain ⟨p, rfl⟩ := h.form
  have HD := Lib.hid (rd_dark h)
  by_cases hdark : s.black = true
  · have ho : jn.make s = (9, s) := by rw [jn.make, if_pos hdark]
    rw [hdark] at HD
    rw [ho]
    clear ho hdark
    go_enter Tryz.func27, Tryz.ntmps27
    go_wp2_with fail
    refine HD.out.mono ?_
    rintro e w2 ⟨rfl, rfl⟩
    go_wp2_with fail
    go_ret2
    exact ⟨_, F, rfl, fun h => absurd h (by decide), fun _ => rfl, h, Chg.refl _ _, Sub.refl _ _, newp_none w⟩
  · have hmk0 : jn.make s = jn.lay s 0 [dk.zero, dk.zero] hd.zero := by rw [jn.make, if_neg hdark]
    have hdk : s.black = false := by simpa using hdark
    rw [hdk] at HD
    obtain ⟨i0, hi0, hz0, hs0, hb0⟩ := info_parts4 info_blk3
    have hmk := fun W => run_make (P := Tryz.prog) W 58 43 i0 _ Tryz.underlying58 hi0 hz0 .i64 .i64 (2 : Int) (2 : Int) (by omega) (by omega) (by rw [hb0]; omega) (by omega)
    rw [hs0] at hmk
    simp only [show Int.toNat 2 = 2 from rfl, made_blocks] at hmk
    obtain ⟨C, hC⟩ : ∃ C, (dk.cellsS (List.replicate 2 dk.zero)).toArray = C := ⟨_, rfl⟩
    rw [hC] at hmk
    have b1 : Below w.heap.size w (w.alloc (.cells #[.pointer (some ⟨p, 0, none⟩)] 89)) := (Below.refl _ _).alloc (Nat.le_refl _) _
    have r1 := heap_alloc_new w (.cells #[.pointer (some ⟨p, 0, none⟩)] 89)
    have hlt1 : w.heap.size < (w.alloc (.cells #[.pointer (some ⟨p, 0, none⟩)] 89)).heap.size := (Array.getElem?_eq_some_iff.1 r1).1
    have r2 := (Below.heap_alloc (w.alloc (.cells #[.pointer (some ⟨p, 0, none⟩)] 89)) (.cells C 43) w.heap.size hlt1).trans r1
    have hq : w.heap.size ∉ F := fun hm => Nat.lt_irrefl _ (h.there _ hm)
    have b2 := b1.alloc b1.size (.cells C 43)
    have own := own_two (w.alloc (.cells #[.pointer (some ⟨p, 0, none⟩)] 89)) C hC
    have hj := RJ.of r2 hq (h.below b2)
    have hl := rj_lay hj 0 (by omega) _ [dk.zero, dk.zero] (by simp) jn.zz_len own (fun k hk hm => by simp only [Value.ownBlock, Option.some.injEq] at hk; have := h.there k hm; omega) hd.zero hd.zero_ok (by simp; omega)
    rw [← hmk0] at hl
    have HL := Lib.hid hl
    rw [show (w.alloc (.cells #[.pointer (some ⟨p, 0, none⟩)] 89)).heap.size = w.heap.size + 1 from by simp] at HL
    obtain ⟨r, hr⟩ : ∃ r, (jn.make s).1 = r := ⟨_, rfl⟩
    obtain ⟨t, ht⟩ : ∃ t, (jn.make s).2 = t := ⟨_, rfl⟩
    rw [hr, ht] at HL ⊢
    have HC := Lib.hid hC
    have hrd : ∀ w3, Chg ((w.alloc (.cells #[.pointer (some ⟨p, 0, none⟩)] 89)).alloc (.cells C 43)) w3 F → w3.heap[w.heap.size]? = some (.cells #[.pointer (some ⟨p, 0, none⟩)] 89 (0, 0)) := fun w3 hc => (hc.block _ (Nat.lt_of_lt_of_le hlt1 (by simp)) hq).trans r2
    clear hl own r1 r2 hj hr ht hmk0 hdk hdark hlt1 hC b1
    have hrj : ∀ w3 F3 q, RJ w3 F3 (.pointer (some ⟨q, 0, none⟩)) t → Chg ((w.alloc (.cells #[.pointer (some ⟨p, 0, none⟩)] 89)).alloc (.cells C 43)) w3 F → Sub ((w.alloc (.cells #[.pointer (some ⟨p, 0, none⟩)] 89)).alloc (.cells C 43)) F3 F → Chg w w3 F ∧ Sub w F3 F := fun w3 F3 q _ x1 x2 =>
      ⟨(Chg.of_below b2 F).trans x1 (Sub.refl _ _), fun x hx => (x2 x hx).imp id (fun e => Nat.le_trans b2.size e)⟩
    have HRJ := Lib.hid hrj
    have HRD := Lib.hid hrd
    clear hrj b2 hrd
    by_cases hr0 : r = 0
    · subst hr0
      go_enter Tryz.func27, Tryz.ntmps27
      go_wp2_with fail
      refine HD.out.mono ?_
      rintro e w2 ⟨rfl, rfl⟩
      go_wp2_with fail
      refine HL.out.mono ?_
      rintro e w3 ⟨F3, rfl, hj3, hc3, hs3⟩
      obtain ⟨x1, x2⟩ := HRJ.out w3 F3 _ hj3 hc3 hs3
      go_wp2_with fail
      go_ret2
      exact ⟨_, F3, rfl, fun _ => hj3, fun h => absurd trivial h, hj3.rd (HRD.out w3 hc3), x1, x2, newp_at (Nat.le_refl _)⟩
    · have hne : (r != 0) = true := by simpa using hr0
      have HR0 := Lib.hid hr0
      clear hr0
      go_enter Tryz.func27, Tryz.ntmps27
      go_wp2_with fail
      refine HD.out.mono ?_
      rintro e w2 ⟨rfl, rfl⟩
      go_wp2_with fail
      refine HL.out.mono ?_
      rintro e w3 ⟨F3, rfl, hj3, hc3, hs3⟩
      obtain ⟨x1, x2⟩ := HRJ.out w3 F3 _ hj3 hc3 hs3
      go_wp2_with fail
      go_ret2
      exact ⟨_, F3, rfl, fun h => absurd h HR0.out, fun _ => rfl, hj3.rd (HRD.out w3 hc3), x1, x2, newp_none w⟩
set_option maxHeartbeats 4000000 in
set_option maxRecDepth 100000 in
theorem rj_append (h : RJ w F j s) {A : Option Addr} {n c : Nat} {b : List UInt8} (hB : BS w A n c b) (hn64 : n ≤ 140737488355320) (hf : s.many + 2100 < 1048576 ∧ s.L.length + 2100 < 1048576) :
    Calls Tryz.prog 23 #[j, .slice A n c] w fun e w' => ∃ F', e = .returned (.int .i64 (jn.append s (jn.newest s).2.1 b).1) ∧ RJ w' F' j (jn.append s (jn.newest s).2.1 b).2 ∧ Chg w w' F ∧ Sub w F' F := by
  have hl := hB.len
  obtain ⟨q, p, rfl, hq, hqF, hR⟩ := h
  have h : RJ w F (.pointer (some ⟨q, 0, none⟩)) s := RJ.of hq hqF hR
  by_cases h1 : 1048576 < n
  · have ho : jn.append s (jn.newest s).2.1 b = (3, s) := by rw [jn.append, if_pos (by omega)]
    rw [ho]
    clear ho
    go_enter Tryz.func23, Tryz.ntmps23
    go_wp2_with fail
    go_ret
    exact ⟨F, rfl, h, Chg.refl _ _, Sub.refl _ _⟩
  · have HBK := Lib.hid (rj_blocks A n c b w hB (by omega))
    have h1' : (n : Int) ≤ 1048576 := by omega
    have HD := Lib.hid (fun W (hW : Below w.heap.size w W) => rd_dark (hR.below hW))
    have hnl := h.ok
    cases hdk : s.black with
    | true =>
      have ho : jn.append s (jn.newest s).2.1 b = (9, s) := by rw [jn.append, if_neg (by omega), if_pos hdk]
      rw [ho]
      rw [hdk] at HD
      clear ho hdk
      go_enter Tryz.func23, Tryz.ntmps23
      go_wp2_with fail
      refine HBK.out.mono ?_
      rintro e w2 ⟨v, rfl, own2, b2⟩
      have q2 := (b2.block q (Array.getElem?_eq_some_iff.1 hq).1).trans hq
      have cq : w2.cell? ⟨q, 0, none⟩ = some (.pointer (some ⟨p, 0, none⟩)) := by rw [cell_of_row _ _ 0 _ _ _ q2]; rfl
      go_wp2_with fail
      refine (HD.out w2 b2).mono ?_
      rintro e w3 ⟨rfl, rfl⟩
      go_wp2_with fail
      go_ret
      exact ⟨F, rfl, h.below b2, Chg.of_below b2 F, Sub.refl _ _⟩
    | false =>
      obtain ⟨hzh, -⟩ := zero_of_info info_head
      rw [hdk] at HD
      have hmay := hd.newest_may (jn.rd s 0) (jn.rd s 1)
      rw [show hd.newest (jn.rd s 0) (jn.rd s 1) = jn.newest s from rfl] at hmay
      have hhalf := jn.half_le hnl
      have HN := Lib.hid (fun W (hW : Below w.heap.size w W) => rj_newest (h.below hW))
      have happ : jn.append s (jn.newest s).2.1 b = if jn.half s < (jn.newest s).2.1.blocks + (jn.blocks b).length then (10, s) else jn.lay s (jn.first s (jn.newest s).2.1.bank + (jn.newest s).2.1.blocks) (jn.blocks b) (jn.appendH (jn.newest s).2.1 b) := by
        rw [jn.append, if_neg (by omega), if_neg (by rw [hdk]; simp)]
      obtain ⟨N, hN⟩ : ∃ e, (jn.newest s).1 = e := ⟨_, rfl⟩
      obtain ⟨kk, hkk⟩ : ∃ e, (jn.newest s).2.1 = e := ⟨_, rfl⟩
      obtain ⟨f, hff⟩ : ∃ e, (jn.newest s).2.2 = e := ⟨_, rfl⟩
      rw [hN, hkk, hff] at HN
      rw [hkk] at hmay happ ⊢
      obtain ⟨hb1, hb2, hb3⟩ := hd.may_ok hmay
      have hbl := jn.blocks_len b
      have hcp := jn.count_pos b.length
      rw [← jn.blocks_length] at hcp
      obtain ⟨L, hL⟩ : ∃ L, jn.blocks b = L := ⟨_, rfl⟩
      have hah : jn.appendH kk b = ⟨kk.bank, kk.blocks + L.length, kk.batches + 1⟩ := by rw [jn.appendH, hL]
      rw [hL] at HBK hbl hcp happ
      rw [hah] at happ
      have HAPP := Lib.hid happ
      have HB := Lib.hid (fun W (hW : Below w.heap.size w W) n => rj_bank ((h.below hW).drewN n))
      have HF := Lib.hid (fun W (hW : RJ W F (.pointer (some ⟨q, 0, none⟩)) s) => rj_first kk.bank hW)
      have hfst := jn.first_most hnl hb1
      have hww : IntKind.i64.wrap (kk.blocks : Int) = (kk.blocks : Int) := IntWalk.i64_in _ ⟨by omega, by omega⟩
      have hwd : IntKind.i64.wrap ((jn.half s : Int) - (kk.blocks : Int)) = (jn.half s : Int) - (kk.blocks : Int) := IntWalk.i64_in _ ⟨by omega, by omega⟩
      have hS4096 := hnl.most
      clear happ hN hkk hff hmay hL hah hdk hnl
      go_enter Tryz.func23, Tryz.ntmps23
      go_wp2_with fail
      refine HBK.out.mono ?_
      rintro e w2 ⟨v, rfl, own2, b2⟩
      obtain ⟨A2, c2, rfl, hc21, hc22, hA2⟩ := own_form own2
      have q2 := (b2.block q (Array.getElem?_eq_some_iff.1 hq).1).trans hq
      have cq : w2.cell? ⟨q, 0, none⟩ = some (.pointer (some ⟨p, 0, none⟩)) := by rw [cell_of_row _ _ 0 _ _ _ q2]; rfl
      go_wp2_with fail
      refine (HD.out w2 b2).mono ?_
      rintro e w3 ⟨rfl, rfl⟩
      go_wp2_with fail
      refine (HN.out _ b2).mono ?_
      rintro e w3 ⟨rfl, b3⟩
      have n3 := HM.new w3 53 hd.zero
      obtain ⟨X3, hX3⟩ : ∃ X, w3.heap.size = X := ⟨_, rfl⟩
      rw [hX3] at n3
      have own3 := own_keepB (w' := w3) own2 (fun x hx => b3.block x (own_lt own2 x hx))
      clear HN HD cq q2 HBK
      by_cases hroom : jn.half s < kk.blocks + L.length
      · have ho := HAPP.out
        rw [if_pos hroom] at ho
        have HO := Lib.hid ho
        have hroom' : (L.length : Int) > (jn.half s : Int) - (kk.blocks : Int) := by omega
        clear ho hroom
        go_wp2_with (refine wp_sth (.tmp 7) (.tmp 23) kk hd.zero n3 rfl rfl rfl rfl ?_; intro w4 n4 hc4; rw [← hX3] at hc4; have b4 := new_chg hc4; have b24 := b2.trans ((b3.mono b2.size).trans (b4.mono (Nat.le_trans b2.size b3.size))); have HB4 := Lib.hid (HB.out _ b24); have c1 := n4.c1)
        go_quiet (first | (go_at_call 54; exact quiet_is (HB4.out _)))
        go_wp2_with fail
        go_ret
        exact ⟨F, ret_int (by rw [HO.out]), by rw [HO.out]; exact (h.below b24).drewN _, (Chg.of_below b24 F).trans (Chg.drewN _ _ F) (Sub.refl _ _), Sub.refl _ _⟩
      · have ho := HAPP.out
        rw [if_neg hroom] at ho
        have HO := Lib.hid ho
        have hroom' : (L.length : Int) ≤ (jn.half s : Int) - (kk.blocks : Int) := by omega
        have hwu1 : IntKind.u32.wrap (L.length : Int) = (L.length : Int) := IntWalk.u32_in _ ⟨by omega, by omega⟩
        have hwu2 : IntKind.u32.wrap ((kk.blocks : Int) + (L.length : Int)) = (kk.blocks : Int) + (L.length : Int) := IntWalk.u32_in _ ⟨by omega, by omega⟩
        have hwu3 : IntKind.u32.wrap ((kk.batches : Int) + 1) = (kk.batches : Int) + 1 := IntWalk.u32_in _ ⟨by omega, by omega⟩
        have hwu4 : IntKind.i64.wrap ((jn.first s kk.bank : Int) + (kk.blocks : Int)) = (jn.first s kk.bank : Int) + (kk.blocks : Int) := IntWalk.i64_in _ ⟨by omega, by omega⟩
        clear ho
        go_wp2_with (refine wp_sth (.tmp 7) (.tmp 23) kk hd.zero n3 rfl rfl rfl rfl ?_; intro w4 n4 hc4; rw [← hX3] at hc4; have b4 := new_chg hc4; have b24 := b2.trans ((b3.mono b2.size).trans (b4.mono (Nat.le_trans b2.size b3.size))); have HB4 := Lib.hid (HB.out _ b24); have c1 := n4.c1)
        go_quiet (first | (go_at_call 54; exact quiet_is (HB4.out _)))
        have own4 := own_keepB (w' := w4) own3 (fun x hx => b4.block x (own_lt own3 x hx))
        have hlt4 := own_lt own4
        have k0 : (w4.drewN nq).cell? ⟨X3, 0, none⟩ = some (bv kk.bank) := n4.c0
        have k1 : (w4.drewN nq).cell? ⟨X3, 1, none⟩ = some (.int .u32 kk.blocks) := n4.c1
        have k2 : (w4.drewN nq).cell? ⟨X3, 2, none⟩ = some (.int .u32 kk.batches) := n4.c2
        have hj5 : RJ (w4.drewN nq) F (.pointer (some ⟨q, 0, none⟩)) s := (h.below b24).drewN nq
        have b25 : Below w.heap.size w (w4.drewN nq) := ⟨b24.os, b24.tape, b24.output, b24.size, b24.block⟩
        have own5 : (w4.drewN nq).ownsRow w.heap.size 43 128 (.slice A2 L.length c2) L.length (dk.cellsS L) := own4
        have hlt5 : ∀ k, (Value.slice A2 L.length c2).ownBlock = some k → k ∉ F := fun k hk hm => by
          have := h.there' k hm
          rcases own2.2 with ⟨e, _⟩ | ⟨g, _, _, e, hg, _⟩
          · injection e with e1 _ _; rw [e1] at hk; simp [Value.ownBlock] at hk
          · injection e with e1 _ _; rw [e1] at hk; simp only [Value.ownBlock, Option.some.injEq] at hk; omega
        generalize w4.drewN nq = w5 at *
        have C1 : ∀ W, W = w5.drew → Calls Tryz.prog 56 #[.pointer (some ⟨q, 0, none⟩), bv kk.bank] W fun e w'' => e = .returned (.int .i64 (jn.first s kk.bank)) ∧ w'' = W := by
          rintro W rfl
          exact (HF.out _ hj5.drew).mono fun e w' h => ⟨h.1, h.2.symm⟩
        have HC1 := Lib.hid C1
        have hlay := rj_lay (hj5.drew) (jn.first s kk.bank + kk.blocks) (by omega) (.slice A2 L.length c2) L (by omega) hbl (ownsRow_base (w := w5.drew) own5 (Nat.zero_le _)) hlt5 ⟨kk.bank, kk.blocks + L.length, kk.batches + 1⟩ ⟨by show kk.blocks + L.length < 4294967296; omega, by show kk.batches + 1 < 4294967296; omega⟩ (by omega)
        rw [← HO.out] at hlay
        simp only [hd.val] at hlay
        rw [show ((kk.batches + 1 : Nat) : Int) = (kk.batches : Int) + 1 from by omega, show ((kk.blocks + L.length : Nat) : Int) = (kk.blocks : Int) + (L.length : Int) from by omega, show ((jn.first s kk.bank + kk.blocks : Nat) : Int) = (jn.first s kk.bank : Int) + (kk.blocks : Int) from by omega] at hlay
        have HLAY := Lib.hid hlay
        clear hlay C1 hc4 n4 HB4 c1 hroom b4 own4 hlt4 HB HF
        go_wp2_with fail
        refine wp_region_still_tail 22 (by kernel_rfl) (by kernel_rfl) ?_
        simp only [List.take_succ_cons, List.take_zero, List.drop_succ_cons, List.drop_zero]
        iterate 4 still_step
        still_call (HC1.out _ rfl)
        repeat still_step
        refine wpStill_nil ?_
        change wpList _ _ _ _ _ w5.drew
        clear k0 k1 k2 HC1 hwu1 hwu2 hwu3 hwu4
        go_wp2_with fail
        refine HLAY.out.mono ?_
        rintro e w6 ⟨F6, rfl, hj6, hc6, hs6⟩
        go_wp2_with fail
        go_ret
        exact ⟨F6, rfl, hj6, ((Chg.of_below b25 F).trans (Chg.drew w5 F) (Sub.refl _ _)).trans hc6 (Sub.refl _ _), fun x hx => (hs6 x hx).imp id (fun e => Nat.le_trans b25.size e)⟩
set_option maxHeartbeats 4000000 in
set_option maxRecDepth 100000 in
theorem rj_replace (h : RJ w F j s) {A : Option Addr} {n c : Nat} {b : List UInt8} (hB : BS w A n c b) (hn64 : n ≤ 140737488355320) (hf : s.many + 2100 < 1048576 ∧ s.L.length + 2100 < 1048576) :
    Calls Tryz.prog 25 #[j, .slice A n c] w fun e w' => ∃ F', e = .returned (.int .i64 (jn.replace s (jn.newest s).2.1 b).1) ∧ RJ w' F' j (jn.replace s (jn.newest s).2.1 b).2 ∧ Chg w w' F ∧ Sub w F' F := by
  have hl := hB.len
  obtain ⟨q, p, rfl, hq, hqF, hR⟩ := h
  have h : RJ w F (.pointer (some ⟨q, 0, none⟩)) s := RJ.of hq hqF hR
  by_cases h1 : 1048576 < n
  · have ho : jn.replace s (jn.newest s).2.1 b = (3, s) := by rw [jn.replace, if_pos (by omega)]
    rw [ho]
    clear ho
    go_enter Tryz.func25, Tryz.ntmps25
    go_wp2_with fail
    go_ret
    exact ⟨F, rfl, h, Chg.refl _ _, Sub.refl _ _⟩
  · have HBK := Lib.hid (rj_blocks A n c b w hB (by omega))
    have h1' : (n : Int) ≤ 1048576 := by omega
    have HD := Lib.hid (fun W (hW : Below w.heap.size w W) => rd_dark (hR.below hW))
    have hnl := h.ok
    cases hdk : s.black with
    | true =>
      have ho : jn.replace s (jn.newest s).2.1 b = (9, s) := by rw [jn.replace, if_neg (by omega), if_pos hdk]
      rw [ho]
      rw [hdk] at HD
      clear ho hdk
      go_enter Tryz.func25, Tryz.ntmps25
      go_wp2_with fail
      refine HBK.out.mono ?_
      rintro e w2 ⟨v, rfl, own2, b2⟩
      have q2 := (b2.block q (Array.getElem?_eq_some_iff.1 hq).1).trans hq
      have cq : w2.cell? ⟨q, 0, none⟩ = some (.pointer (some ⟨p, 0, none⟩)) := by rw [cell_of_row _ _ 0 _ _ _ q2]; rfl
      go_wp2_with fail
      refine (HD.out w2 b2).mono ?_
      rintro e w3 ⟨rfl, rfl⟩
      go_wp2_with fail
      go_ret
      exact ⟨F, rfl, h.below b2, Chg.of_below b2 F, Sub.refl _ _⟩
    | false =>
      obtain ⟨hzh, -⟩ := zero_of_info info_head
      rw [hdk] at HD
      have hmay := hd.newest_may (jn.rd s 0) (jn.rd s 1)
      rw [show hd.newest (jn.rd s 0) (jn.rd s 1) = jn.newest s from rfl] at hmay
      have hhalf := jn.half_le hnl
      have HN := Lib.hid (fun W (hW : Below w.heap.size w W) => rj_newest (h.below hW))
      have happ : jn.replace s (jn.newest s).2.1 b = if jn.half s < (jn.blocks b).length then (10, s) else jn.lay s (jn.first s (1 - (jn.newest s).2.1.bank)) (jn.blocks b) (jn.replaceH (jn.newest s).2.1 b) := by
        rw [jn.replace, if_neg (by omega), if_neg (by rw [hdk]; simp)]
      obtain ⟨N, hN⟩ : ∃ e, (jn.newest s).1 = e := ⟨_, rfl⟩
      obtain ⟨kk, hkk⟩ : ∃ e, (jn.newest s).2.1 = e := ⟨_, rfl⟩
      obtain ⟨f, hff⟩ : ∃ e, (jn.newest s).2.2 = e := ⟨_, rfl⟩
      rw [hN, hkk, hff] at HN
      rw [hkk] at hmay happ ⊢
      obtain ⟨hb1, hb2, hb3⟩ := hd.may_ok hmay
      have hbl := jn.blocks_len b
      have hcp := jn.count_pos b.length
      rw [← jn.blocks_length] at hcp
      obtain ⟨L, hL⟩ : ∃ L, jn.blocks b = L := ⟨_, rfl⟩
      have hah : jn.replaceH kk b = ⟨1 - kk.bank, L.length, 1⟩ := by rw [jn.replaceH, hL]
      rw [hL] at HBK hbl hcp happ
      rw [hah] at happ
      have HAPP := Lib.hid happ
      have HB := Lib.hid (fun W (hW : Below w.heap.size w W) => rj_bank (h.below hW))
      have hbk : (1 - kk.bank).toNat ≤ 1 ∧ ((1 - kk.bank).toNat : Int) = 1 - (kk.bank.toNat : Int) := by
        rcases jn.bank_cases hb1 with e | e <;> rw [e] <;> decide
      have HF := Lib.hid (fun W (hW : RJ W F (.pointer (some ⟨q, 0, none⟩)) s) => rj_first (1 - kk.bank) hW)
      have hfst := jn.first_most hnl hbk.1
      have hw8 : IntKind.u8.wrap (1 - (kk.bank.toNat : Int)) = 1 - (kk.bank.toNat : Int) := IntWalk.u8_in _ ⟨by omega, by omega⟩
      have hS4096 := hnl.most
      clear happ hN hkk hff hmay hL hah hdk hnl
      go_enter Tryz.func25, Tryz.ntmps25
      go_wp2_with fail
      refine HBK.out.mono ?_
      rintro e w2 ⟨v, rfl, own2, b2⟩
      obtain ⟨A2, c2, rfl, hc21, hc22, hA2⟩ := own_form own2
      have q2 := (b2.block q (Array.getElem?_eq_some_iff.1 hq).1).trans hq
      have cq : w2.cell? ⟨q, 0, none⟩ = some (.pointer (some ⟨p, 0, none⟩)) := by rw [cell_of_row _ _ 0 _ _ _ q2]; rfl
      go_wp2_with fail
      refine (HD.out w2 b2).mono ?_
      rintro e w3 ⟨rfl, rfl⟩
      clear HD cq q2 HBK
      by_cases hroom : jn.half s < L.length
      · have ho := HAPP.out
        rw [if_pos hroom] at ho
        have HO := Lib.hid ho
        have hroom' : (jn.half s : Int) < (L.length : Int) := by omega
        clear ho hroom
        go_wp2_with fail
        refine (HB.out _ b2).mono ?_
        rintro e w3 ⟨rfl, rfl⟩
        go_wp2_with fail
        go_ret
        exact ⟨F, ret_int (by rw [HO.out]), by rw [HO.out]; exact h.below b2, Chg.of_below b2 F, Sub.refl _ _⟩
      · have ho := HAPP.out
        rw [if_neg hroom] at ho
        have HO := Lib.hid ho
        have hroom' : (L.length : Int) ≤ (jn.half s : Int) := by omega
        have hwu1 : IntKind.u32.wrap (L.length : Int) = (L.length : Int) := IntWalk.u32_in _ ⟨by omega, by omega⟩
        clear ho
        go_wp2_with fail
        refine (HB.out _ b2).mono ?_
        rintro e w3 ⟨rfl, rfl⟩
        go_wp2_with fail
        refine (HN.out _ b2).mono ?_
        rintro e w3 ⟨rfl, b3⟩
        have n3 := HM.new w3 53 hd.zero
        obtain ⟨X3, hX3⟩ : ∃ X, w3.heap.size = X := ⟨_, rfl⟩
        rw [hX3] at n3
        have own3 := own_keepB (w' := w3) own2 (fun x hx => b3.block x (own_lt own2 x hx))
        clear HN
        go_wp2_with (refine wp_sth (.tmp 7) (.tmp 28) kk hd.zero n3 rfl rfl rfl rfl ?_; intro w4 n4 hc4; rw [← hX3] at hc4; have b4 := new_chg hc4; have b24 := b2.trans ((b3.mono b2.size).trans (b4.mono (Nat.le_trans b2.size b3.size))))
        have own5 := own_keepB (w' := w4) own3 (fun x hx => b4.block x (own_lt own3 x hx))
        have k0 := n4.c0
        have k1 := n4.c1
        have k2 := n4.c2
        have hj5 := h.below b24
        have hlt5 : ∀ k, (Value.slice A2 L.length c2).ownBlock = some k → k ∉ F := fun k hk hm => by
          have := h.there' k hm
          rcases own2.2 with ⟨e, _⟩ | ⟨g, _, _, e, hg, _⟩
          · injection e with e1 _ _; rw [e1] at hk; simp [Value.ownBlock] at hk
          · injection e with e1 _ _; rw [e1] at hk; simp only [Value.ownBlock, Option.some.injEq] at hk; omega
        have C1 : ∀ W, W = w4.drew → Calls Tryz.prog 56 #[.pointer (some ⟨q, 0, none⟩), .int .u8 (1 - (kk.bank.toNat : Int))] W fun e w'' => e = .returned (.int .i64 (jn.first s (1 - kk.bank))) ∧ w'' = W := by
          rintro W rfl
          have := HF.out _ hj5.drew
          rw [bv, hbk.2] at this
          exact this.mono fun e w' h => ⟨h.1, h.2.symm⟩
        have HC1 := Lib.hid C1
        have hlay := rj_lay (hj5.drew) (jn.first s (1 - kk.bank)) (by omega) (.slice A2 L.length c2) L (by omega) hbl (ownsRow_base (w := w4.drew) own5 (Nat.zero_le _)) hlt5 ⟨1 - kk.bank, L.length, 1⟩ ⟨by show L.length < 4294967296; omega, by show 1 < 4294967296; omega⟩ (by omega)
        rw [← HO.out] at hlay
        simp only [hd.val, bv, hbk.2] at hlay
        have HLAY := Lib.hid hlay
        clear hlay C1 hc4 n4 hroom b4 HB HF
        refine wp_region_still_tail 14 (by kernel_rfl) (by kernel_rfl) ?_
        simp only [List.take_succ_cons, List.take_zero, List.drop_succ_cons, List.drop_zero]
        iterate 5 still_step
        still_call (HC1.out _ rfl)
        repeat still_step
        refine wpStill_nil ?_
        change wpList _ _ _ _ _ w4.drew
        clear k0 k1 k2 HC1 hwu1 hw8
        go_wp2_with fail
        refine HLAY.out.mono ?_
        rintro e w6 ⟨F6, rfl, hj6, hc6, hs6⟩
        go_wp2_with fail
        go_ret
        exact ⟨F6, rfl, hj6, ((Chg.of_below b24 F).trans (Chg.drew w4 F) (Sub.refl _ _)).trans hc6 (Sub.refl _ _), fun x hx => (hs6 x hx).imp id (fun e => Nat.le_trans b24.size e)⟩
end Go.Proofs.YthddcaoolaipiaaGreatDoor

/-
  cardexlaw07: a journal on a disk, and the document's (desk): open, alike.
-/
namespace Go.Proofs.YthddcaoolaipiaaGreatDoor
open Go.RowKit
section
variable {w w1 w2 w3 : World} {F F' G G' H : List Nat}
/-- two calls, one behind the other, each of which changes its own -/
theorem desk_two (hb : Below w.heap.size w w1) (hG : Ther w G) (hA : Apt F G) (c1 : Chg w1 w2 F) (u1 : Sub w1 F' F) (hF' : Ther w2 F') (c2 : Chg w2 w3 G) (u2 : Sub w2 G' G) (hFH : ∀ k ∈ F, k ∈ H) (hGH : ∀ k ∈ G, k ∈ H) :
    Same w2 w3 F' ∧ Apt F' G' ∧ Chg w w3 H ∧ Sub w F' H ∧ Sub w G' H := by
  have hG1 : Ther w1 G := hG.mono hb.size
  have a1 : Apt F' G := hA.step u1 hG1
  have sF : Sub w F H := fun k hk => .inl (hFH k hk)
  have sG : Sub w G H := fun k hk => .inl (hGH k hk)
  refine ⟨c2.same a1.symm hF', (a1.symm.step u2 hF').symm, ?_, ?_, ?_⟩
  · exact ((Chg.of_below hb H).trans c1 sF).trans c2 sG
  · exact u1.trans sF hb.size
  · exact u2.trans sG (Nat.le_trans hb.size c1.size)
end
theorem rd_same {w w' : World} {G : List Nat} {a b : Nat} {s s' : dk.St} (h : RD w G (.pointer (some ⟨a, 0, none⟩)) s) (h' : RD w' G (.pointer (some ⟨b, 0, none⟩)) s') : a = b := by
  obtain ⟨p, g, c, r, v, e, hG, _⟩ := h
  obtain ⟨p', g', c', r', v', e', hG', _⟩ := h'
  injection e with e; injection e with e; injection e with e
  injection e' with e'; injection e' with e'; injection e' with e'
  rw [hG] at hG'
  simp only [dk.fp, List.cons.injEq] at hG'
  omega
/-- the document's journal on the document's disk, whose blocks are G; its own block is not in F -/
def RK (w0 w : World) (F G : List Nat) (k : Value) (q : Nat) : Prop := ∃ x, k = .pointer (some ⟨x, 0, none⟩) ∧ w.heap[x]? = some (.cells #[.pointer (some ⟨q, 0, none⟩)] 89 (0, 0)) ∧ x ∉ F ∧ x ∉ G ∧ w0.heap.size ≤ x
/-- THE DESK -/
structure DK (w0 w : World) (D p q : Nat) (F G : List Nat) (jv kv : Value) (s : dk.St) (b : Option Bool) : Prop where
  cell : w.heap[D]? = some (.cells #[.pointer (some ⟨p, 0, none⟩), .pointer (some ⟨q, 0, none⟩), jv, kv] 34 (0, 0))
  dF : D ∉ F
  dG : D ∉ G
  at_ : w0.heap.size ≤ D
  ownF : ∀ k ∈ F, w0.heap.size ≤ k
  ownG : ∀ k ∈ G, w0.heap.size ≤ k
  apt : Apt F G
  thF : Ther w F
  rd : RD w G (.pointer (some ⟨q, 0, none⟩)) s
  df : ∃ Fd, DF w0 w Fd (.pointer (some ⟨p, 0, none⟩)) s ∧ ∀ k ∈ Fd, k ∈ F
  prog : b = some true → JF w0 w F (.pointer (some ⟨p, 0, none⟩)) jv s
  docu : b = some true → RK w0 w F G kv q
  no : b = some false → jv = .pointer none ∧ kv = .pointer none
variable {w0 w w' : World} {D p q : Nat} {F G : List Nat} {jv kv : Value} {s : dk.St} {b : Option Bool}
theorem RK.below (h : RK w0 w F G kv q) (hb : Below w.heap.size w w') : RK w0 w' F G kv q := by
  obtain ⟨x, e, h1, h2⟩ := h
  exact ⟨x, e, (hb.block x (Array.getElem?_eq_some_iff.1 h1).1).trans h1, h2⟩
theorem RK.rj (h : RK w0 w F G kv q) (hr : RD w G (.pointer (some ⟨q, 0, none⟩)) s) : RJ w G kv s := by
  obtain ⟨x, rfl, h1, _, h3, _⟩ := h
  exact RJ.of h1 h3 hr
theorem RK.of_rj (h : RJ w G kv s) (hr : RD w G (.pointer (some ⟨q, 0, none⟩)) s) (hF : ∀ x, kv = .pointer (some ⟨x, 0, none⟩) → x ∉ F ∧ w0.heap.size ≤ x) : RK w0 w F G kv q := by
  obtain ⟨x, p', rfl, h1, h2, h3⟩ := h
  obtain rfl := rd_same hr h3
  obtain ⟨h4, h5⟩ := hF x rfl
  exact ⟨x, rfl, h1, h4, h2, h5⟩
namespace DK
theorem lt (h : DK w0 w D p q F G jv kv s b) : D < w.heap.size := (Array.getElem?_eq_some_iff.1 h.cell).1
theorem thG (h : DK w0 w D p q F G jv kv s b) : Ther w G := h.rd.there
theorem under (h : DK w0 w D p q F G jv kv s b) : Below w0.heap.size w0 w := h.df.elim fun _ h => h.1.under
theorem ok (h : DK w0 w D p q F G jv kv s b) : s.Ok := h.rd.ok
theorem below (h : DK w0 w D p q F G jv kv s b) (hb : Below w.heap.size w w') : DK w0 w' D p q F G jv kv s b :=
  ⟨(hb.block D h.lt).trans h.cell, h.dF, h.dG, h.at_, h.ownF, h.ownG, h.apt, h.thF.mono hb.size, h.rd.below hb, h.df.elim fun Fd hd => ⟨Fd, hd.1.below hb, hd.2⟩, fun e => (h.prog e).below hb, fun e => (h.docu e).below hb, h.no⟩
theorem c0 (h : DK w0 w D p q F G jv kv s b) : w.cell? ⟨D, 0, none⟩ = some (.pointer (some ⟨p, 0, none⟩)) := by rw [cell_of_row _ _ 0 _ _ _ h.cell]; rfl
theorem c1 (h : DK w0 w D p q F G jv kv s b) : w.cell? ⟨D, 1, none⟩ = some (.pointer (some ⟨q, 0, none⟩)) := by rw [cell_of_row _ _ 1 _ _ _ h.cell]; rfl
theorem c2 (h : DK w0 w D p q F G jv kv s b) : w.cell? ⟨D, 2, none⟩ = some jv := by rw [cell_of_row _ _ 2 _ _ _ h.cell]; rfl
theorem c3 (h : DK w0 w D p q F G jv kv s b) : w.cell? ⟨D, 3, none⟩ = some kv := by rw [cell_of_row _ _ 3 _ _ _ h.cell]; rfl
end DK
/-- the journals are put down -/
theorem desk_set {w3 : World} {F2 : List Nat} {jv' kv' : Value} {b' : Option Bool} (hcell : w3.heap[D]? = some (.cells #[.pointer (some ⟨p, 0, none⟩), .pointer (some ⟨q, 0, none⟩), jv, kv] 34 (0, 0))) (dF : D ∉ F2) (dG : D ∉ G) (hat : w0.heap.size ≤ D)
    (ownF : ∀ k ∈ F2, w0.heap.size ≤ k) (ownG : ∀ k ∈ G, w0.heap.size ≤ k) (apt : Apt F2 G) (thF : Ther w3 F2) (rd : RD w3 G (.pointer (some ⟨q, 0, none⟩)) s) (df : ∃ Fd, DF w0 w3 Fd (.pointer (some ⟨p, 0, none⟩)) s ∧ ∀ k ∈ Fd, k ∈ F2)
    (prog : b' = some true → JF w0 w3 F2 (.pointer (some ⟨p, 0, none⟩)) jv' s) (docu : b' = some true → RK w0 w3 F2 G kv' q) (no : b' = some false → jv' = .pointer none ∧ kv' = .pointer none) :
    DK w0 ((w3.setCell ⟨D, 2, none⟩ jv').setCell ⟨D, 3, none⟩ kv') D p q F2 G jv' kv' s b' := by
  have hc : Chg w3 ((w3.setCell ⟨D, 2, none⟩ jv').setCell ⟨D, 3, none⟩ kv') [D] := (Chg.setCell _ _ _ _).trans (Chg.setCell _ _ _ _) (Sub.refl _ _)
  obtain ⟨Fd, hd, hFd⟩ := df
  have hunder : Below w0.heap.size w0 ((w3.setCell ⟨D, 2, none⟩ jv').setCell ⟨D, 3, none⟩ kv') := ((Chg.of_below hd.under [D]).trans hc (Sub.refl _ _)).below (Nat.le_refl _) (fun k hk => by rw [List.mem_singleton.1 hk]; exact hat)
  have hsame : ∀ {L : List Nat}, D ∉ L → Ther w3 L → Same w3 ((w3.setCell ⟨D, 2, none⟩ jv').setCell ⟨D, 3, none⟩ kv') L := fun hD hT k hk => hc.block k (hT k hk) (fun hm => hD (by rw [← List.mem_singleton.1 hm]; exact hk))
  refine ⟨?_, dF, dG, hat, ownF, ownG, apt, thF.mono hc.size, rd.keep (hsame dG rd.there), ⟨Fd, ⟨hd.cd.keep (hsame (fun hm => dF (hFd _ hm)) (fun k hk => thF k (hFd k hk))), hunder, hd.own⟩, hFd⟩, fun e => (prog e).keep hunder hc.size (hsame dF thF), fun e => ?_, no⟩
  · have h1 := block_set (i := 2) hcell jv'
    have h2 := block_set (i := 3) h1 kv'
    exact h2.trans (by simp)
  · obtain ⟨x, rfl, h1, h2⟩ := docu e
    have hxD : x ≠ D := fun e => by
      rw [e, hcell] at h1
      injection h1 with h1
      injection h1 with h1
      have := congrArg Array.size h1
      simp at this
    exact ⟨x, rfl, (hc.block x (Array.getElem?_eq_some_iff.1 h1).1 (fun hm => hxD (List.mem_singleton.1 hm))).trans h1, h2⟩
/-- one call of the program's, one of the document's: the desk behind them -/
theorem desk_mid {w1 : World} (h : DK w0 w D p q F G jv kv s b) (c1 : Chg w w1 F) : RD w1 G (.pointer (some ⟨q, 0, none⟩)) s := h.rd.keep (c1.same h.apt h.thG)
theorem desk_step {w1 w2 : World} {F1 G2 : List Nat} {s1 : dk.St} {b' : Option Bool} (h : DK w0 w D p q F G jv kv s b) (c1 : Chg w w1 F) (u1 : Sub w F1 F) (t1 : Ther w1 F1) (df1 : ∃ Fd, DF w0 w1 Fd (.pointer (some ⟨p, 0, none⟩)) s1 ∧ ∀ k ∈ Fd, k ∈ F1)
    (pr1 : b' = some true → JF w0 w1 F1 (.pointer (some ⟨p, 0, none⟩)) jv s1) (hb' : b' = b ∨ b' = none) (c2 : Chg w1 w2 G) (u2 : Sub w1 G2 G) (r2 : RD w2 G2 (.pointer (some ⟨q, 0, none⟩)) s1) : DK w0 w2 D p q F1 G2 jv kv s1 b' := by
  obtain ⟨sF, aFG, cH, sF2, sG2⟩ := desk_two (H := F ++ G) (Below.refl w.heap.size w) h.thG h.apt c1 u1 t1 c2 u2 (fun k hk => List.mem_append_left _ hk) (fun k hk => List.mem_append_right _ hk)
  have hDH : D ∉ F ++ G := fun hm => (List.mem_append.1 hm).elim h.dF h.dG
  obtain ⟨Fd, hd, hFd⟩ := df1
  have hunder : Below w0.heap.size w0 w2 := ((Chg.of_below h.under (F ++ G)).trans cH (Sub.refl _ _)).below (Nat.le_refl _) (fun k hk => (List.mem_append.1 hk).elim (h.ownF k) (h.ownG k))
  have hlt := h.lt
  have hs1 := c1.size
  refine ⟨(cH.block D hlt hDH).trans h.cell, fun hm => (u1 D hm).elim h.dF (fun e => by omega), fun hm => (u2 D hm).elim h.dG (fun e => by omega), h.at_, fun k hk => (u1 k hk).elim (h.ownF k) (fun e => Nat.le_trans h.under.size e),
    fun k hk => (u2 k hk).elim (h.ownG k) (fun e => Nat.le_trans h.under.size (Nat.le_trans c1.size e)), aFG, t1.mono c2.size, r2, ⟨Fd, ⟨hd.cd.keep (fun k hk => sF k (hFd k hk)), hunder, hd.own⟩, hFd⟩, fun e => (pr1 e).keep hunder c2.size sF, fun e => ?_, fun e => ?_⟩
  · rcases hb' with rfl | rfl
    · obtain ⟨x, rfl, h1, h2, h3, h4⟩ := h.docu e
      have hx := (Array.getElem?_eq_some_iff.1 h1).1
      exact ⟨x, rfl, (cH.block x hx (fun hm => (List.mem_append.1 hm).elim h2 h3)).trans h1, fun hm => (u1 x hm).elim h2 (fun e => by omega), fun hm => (u2 x hm).elim h3 (fun e => by omega), h4⟩
    · cases e
  · rcases hb' with rfl | rfl
    · exact h.no e
    · cases e
set_option maxHeartbeats 4000000 in
set_option maxRecDepth 100000 in
theorem desk_open (h : DK w0 w D p q F G jv kv s b) (ht : Tabs w0) : Calls Tryz.prog 12 #[.pointer (some ⟨D, 0, none⟩)] w fun e w' =>
    ∃ F' jv' kv', e = .returned (.bool true) ∧ DK w0 w' D p q F' G jv' kv' s (some (decide (jn.opens s = 0))) ∧ Chg w w' [D] := by
  obtain ⟨Fd, hdf, hFd⟩ := h.df
  have k0 := h.c0
  have k1 := h.c1
  have HO := Lib.hid (jf_open hdf ht)
  have hcell := h.cell
  have hlt := h.lt
  have hthG := h.thG
  have H0 := Lib.hid h
  by_cases hr : jn.opens s = 0
  · rw [decide_eq_true hr]
    rw [hr] at HO
    have HR := Lib.hid hr
    clear hr
    go_enter Tryz.func12, Tryz.ntmps12
    go_wp2_with fail
    refine HO.out.mono ?_
    rintro e w2 ⟨v, F2, rfl, hj, -, b2, s2⟩
    have hj := hj trivial
    obtain ⟨jq, rfl⟩ := hj.form
    have h2 := (h.below b2).rd
    have ho := rj_open h2
    rw [HR.out] at ho
    have HO2 := Lib.hid ho
    have k1' : w2.cell? ⟨D, 1, none⟩ = some (.pointer (some ⟨q, 0, none⟩)) := (b2.cell (p := ⟨D, 1, none⟩) hlt).trans k1
    clear ho
    go_wp2_with fail
    refine HO2.out.mono ?_
    rintro e w3 ⟨v3, rfl, hk, -, b3, hnew⟩
    have hk := hk trivial
    have hform : ∃ x, v3 = .pointer (some ⟨x, 0, none⟩) := by obtain ⟨x, _, e, _⟩ := hk; exact ⟨x, e⟩
    obtain ⟨kq, rfl⟩ := hform
    have hkq := hnew kq rfl
    have b23 := b2.trans (b3.mono b2.size)
    have h3 := h.below b23
    have hj3 := hj.below b3
    have e2 := h3.c2
    have e3 := h3.c3
    have f2 : w3.frozen? ⟨D, 2, none⟩ = false := by simp [World.frozen?, h3.cell]
    have f3 : w3.frozen? ⟨D, 3, none⟩ = false := by simp [World.frozen?, h3.cell]
    have hF2 : ∀ k ∈ F2, k ∈ F ∨ w.heap.size ≤ k := fun k hk => (s2 k hk).imp (hFd k) id
    have hDF2 : D ∉ F2 := fun hm => (hF2 D hm).elim h.dF (fun e => by omega)
    have hfin := desk_set (b' := some true) (jv' := .pointer (some ⟨jq, 0, none⟩)) (kv' := .pointer (some ⟨kq, 0, none⟩)) h3.cell hDF2 h.dG h.at_ (fun k hk => (hF2 k hk).elim (h.ownF k) (fun e => Nat.le_trans h.under.size e)) h.ownG
      (fun k hk hg => (hF2 k hk).elim (fun e => h.apt k e hg) (fun e => by have := hthG k hg; omega)) hj3.there h3.rd hj3.df (fun _ => hj3) (fun _ => RK.of_rj hk h3.rd (fun x e => by
        injection e with e; injection e with e; injection e with e
        subst e
        exact ⟨fun hm => by have := hj.there _ hm; omega, by have := h.under.size; have := b2.size; omega⟩)) (fun e => by cases e)
    have HFIN := Lib.hid hfin
    have hch : Chg w ((w3.setCell ⟨D, 2, none⟩ (.pointer (some ⟨jq, 0, none⟩))).setCell ⟨D, 3, none⟩ (.pointer (some ⟨kq, 0, none⟩))) [D] := (Chg.of_below b23 [D]).trans ((Chg.setCell _ _ _ _).trans (Chg.setCell _ _ _ _) (Sub.refl _ _)) (Sub.refl _ _)
    have HCH := Lib.hid hch
    clear hch h3 hfin hj hj3 hk hnew b23 HO2 HO hcell k1 k0
    go_wp2_with fail
    go_ret
    exact ⟨F2, _, _, rfl, HFIN.out, HCH.out⟩
  · rw [decide_eq_false hr]
    obtain ⟨r, hre⟩ : ∃ r, jn.opens s = r := ⟨_, rfl⟩
    rw [hre] at HO hr
    have HR := Lib.hid hre
    have HR0 := Lib.hid hr
    have hne : (r == 0) = false := by simpa using hr
    clear hr hre
    go_enter Tryz.func12, Tryz.ntmps12
    go_wp2_with fail
    refine HO.out.mono ?_
    rintro e w2 ⟨v, F2, rfl, -, hv, b2, -⟩
    obtain rfl := hv HR0.out
    have h2 := (h.below b2).rd
    have ho := rj_open h2
    rw [HR.out] at ho
    have HO2 := Lib.hid ho
    have k1' : w2.cell? ⟨D, 1, none⟩ = some (.pointer (some ⟨q, 0, none⟩)) := (b2.cell (p := ⟨D, 1, none⟩) hlt).trans k1
    clear ho hv
    go_wp2_with fail
    refine HO2.out.mono ?_
    rintro e w3 ⟨v3, rfl, -, hk, b3, -⟩
    obtain rfl := hk HR0.out
    have b23 := b2.trans (b3.mono b2.size)
    have h3 := h.below b23
    have e2 := h3.c2
    have e3 := h3.c3
    have f2 : w3.frozen? ⟨D, 2, none⟩ = false := by simp [World.frozen?, h3.cell]
    have f3 : w3.frozen? ⟨D, 3, none⟩ = false := by simp [World.frozen?, h3.cell]
    have hfin := desk_set (b' := some false) (jv' := .pointer none) (kv' := .pointer none) h3.cell (fun hm => h.dF (hFd _ hm)) h.dG h.at_ (fun k hk => h.ownF k (hFd k hk)) h.ownG
      (fun k hk hg => h.apt k (hFd k hk) hg) (fun k hk => h3.thF k (hFd k hk)) h3.rd ⟨Fd, hdf.below b23, fun _ hk => hk⟩ (fun e => by cases e) (fun e => by cases e) (fun _ => ⟨rfl, rfl⟩)
    have HFIN := Lib.hid hfin
    have hch : Chg w ((w3.setCell ⟨D, 2, none⟩ (.pointer none)).setCell ⟨D, 3, none⟩ (.pointer none)) [D] := (Chg.of_below b23 [D]).trans ((Chg.setCell _ _ _ _).trans (Chg.setCell _ _ _ _) (Sub.refl _ _)) (Sub.refl _ _)
    have HCH := Lib.hid hch
    clear hch h3 hfin hk b23 HO2 HO hcell k1 k0
    go_wp2_with fail
    go_ret
    exact ⟨Fd, _, _, rfl, HFIN.out, HCH.out⟩
set_option maxHeartbeats 4000000 in
set_option maxRecDepth 100000 in
theorem desk_alike {b : Bool} (h : DK w0 w D p q F G jv kv s (some b)) (hl : s.black = false) : Calls Tryz.prog 13 #[.pointer (some ⟨D, 0, none⟩)] w fun e w' => e = .returned (.bool true) ∧ Below w.heap.size w w' := by
  have k2 := h.c2
  have k3 := h.c3
  cases b with
  | false =>
    obtain ⟨rfl, rfl⟩ := h.no rfl
    go_enter Tryz.func13, Tryz.ntmps13
    go_wp2_with fail
    go_ret
    exact ⟨rfl, Below.refl _ _⟩
  | true =>
    obtain ⟨jq, rfl⟩ := (h.prog rfl).form
    obtain ⟨kq, rfl, -⟩ := h.docu rfl
    have hkk := (hd.newest_may (jn.rd s 0) (jn.rd s 1))
    have hkk := hd.may_Ok hkk
    rw [show hd.newest (jn.rd s 0) (jn.rd s 1) = jn.newest s from rfl] at hkk
    have hE := fun W => eq_head (jn.newest s).2.1 (jn.newest s).2.1 hkk hkk W
    simp only [decide_true] at hE
    go_enter Tryz.func13, Tryz.ntmps13
    go_wp2_with fail
    have hD1 : DK w0 w.drew D p q F G (.pointer (some ⟨jq, 0, none⟩)) (.pointer (some ⟨kq, 0, none⟩)) s (some true) := h.below ((Below.refl _ _).drew)
    clear k2 k3
    refine wp_region_held_drew (S := fun W => W.heap[D]? = some (.cells #[.pointer (some ⟨p, 0, none⟩), .pointer (some ⟨q, 0, none⟩), .pointer (some ⟨jq, 0, none⟩), .pointer (some ⟨kq, 0, none⟩)] 34 (0, 0))) (by kernel_rfl) hD1.cell (fun hHeld => ?_)
    refine wpAnyH_take (i := 0) (v := ?_) rfl (by kernel_rfl) (by kernel_rfl) (by kernel_rfl) (fun _ _ _ h => h) (Or.inl ⟨by rfl, ?_⟩) hHeld ?_
    rotate_left
    · intro w hSw; have c2 := (cell_of_row _ _ 2 _ _ _ hSw).trans (by rfl : _ = some (.pointer (some ⟨jq, 0, none⟩))); have c3 := (cell_of_row _ _ 3 _ _ _ hSw).trans (by rfl : _ = some (.pointer (some ⟨kq, 0, none⟩))); clear hSw; go_simp; try rfl
    simp only [List.getElem_toArray, List.getElem_cons_zero, Act.put, List.setIfInBounds_toArray, List.set_cons_zero, List.set_cons_succ]
    refine wpAnyH_take (i := 1) (v := ?_) rfl (by kernel_rfl) (by kernel_rfl) (by kernel_rfl) (fun _ _ _ h => h) (Or.inl ⟨by rfl, ?_⟩) hHeld ?_
    rotate_left
    · intro w hSw; have c2 := (cell_of_row _ _ 2 _ _ _ hSw).trans (by rfl : _ = some (.pointer (some ⟨jq, 0, none⟩))); have c3 := (cell_of_row _ _ 3 _ _ _ hSw).trans (by rfl : _ = some (.pointer (some ⟨kq, 0, none⟩))); clear hSw; go_simp; try rfl
    simp only [List.getElem_toArray, List.getElem_cons_zero, List.getElem_cons_succ, Act.put, List.setIfInBounds_toArray, List.set_cons_zero, List.set_cons_succ]
    refine wpAnyH_take (i := 2) (v := ?_) rfl (by kernel_rfl) (by kernel_rfl) (by kernel_rfl) (fun _ _ _ h => h) (Or.inl ⟨by rfl, ?_⟩) hHeld ?_
    rotate_left
    · intro w hSw; have c2 := (cell_of_row _ _ 2 _ _ _ hSw).trans (by rfl : _ = some (.pointer (some ⟨jq, 0, none⟩))); have c3 := (cell_of_row _ _ 3 _ _ _ hSw).trans (by rfl : _ = some (.pointer (some ⟨kq, 0, none⟩))); clear hSw; go_simp; try rfl
    simp only [List.getElem_toArray, List.getElem_cons_zero, List.getElem_cons_succ, Act.put, List.setIfInBounds_toArray, List.set_cons_zero, List.set_cons_succ]
    refine wpAnyH_take (i := 3) (v := ?_) rfl (by kernel_rfl) (by kernel_rfl) (by kernel_rfl) (fun _ _ _ h => h) (Or.inl ⟨by rfl, ?_⟩) hHeld ?_
    rotate_left
    · intro w hSw; have c2 := (cell_of_row _ _ 2 _ _ _ hSw).trans (by rfl : _ = some (.pointer (some ⟨jq, 0, none⟩))); have c3 := (cell_of_row _ _ 3 _ _ _ hSw).trans (by rfl : _ = some (.pointer (some ⟨kq, 0, none⟩))); clear hSw; go_simp; try rfl
    simp only [List.getElem_toArray, List.getElem_cons_zero, List.getElem_cons_succ, Act.put, List.setIfInBounds_toArray, List.set_cons_zero, List.set_cons_succ]
    refine wpAnyH_take (i := 5) (v := ?_) rfl (by kernel_rfl) (by kernel_rfl) (by kernel_rfl) (fun _ _ _ h => h) (Or.inl ⟨by rfl, ?_⟩) hHeld ?_
    rotate_left
    · intro w hSw; have c2 := (cell_of_row _ _ 2 _ _ _ hSw).trans (by rfl : _ = some (.pointer (some ⟨jq, 0, none⟩))); have c3 := (cell_of_row _ _ 3 _ _ _ hSw).trans (by rfl : _ = some (.pointer (some ⟨kq, 0, none⟩))); clear hSw; go_simp; try rfl
    simp only [List.getElem_toArray, List.getElem_cons_zero, List.getElem_cons_succ, Act.put, List.setIfInBounds_toArray, List.set_cons_zero, List.set_cons_succ]
    refine wpAnyH_take (i := 6) (v := ?_) rfl (by kernel_rfl) (by kernel_rfl) (by kernel_rfl) (fun _ _ _ h => h) (Or.inl ⟨by rfl, ?_⟩) hHeld ?_
    rotate_left
    · intro w hSw; have c2 := (cell_of_row _ _ 2 _ _ _ hSw).trans (by rfl : _ = some (.pointer (some ⟨jq, 0, none⟩))); have c3 := (cell_of_row _ _ 3 _ _ _ hSw).trans (by rfl : _ = some (.pointer (some ⟨kq, 0, none⟩))); clear hSw; go_simp; try rfl
    simp only [List.getElem_toArray, List.getElem_cons_zero, List.getElem_cons_succ, Act.put, List.setIfInBounds_toArray, List.set_cons_zero, List.set_cons_succ]
    refine wpAnyH_take (i := 7) (v := ?_) rfl (by kernel_rfl) (by kernel_rfl) (by kernel_rfl) (fun _ _ _ h => h) (Or.inl ⟨by rfl, ?_⟩) hHeld ?_
    rotate_left
    · intro w hSw; have c2 := (cell_of_row _ _ 2 _ _ _ hSw).trans (by rfl : _ = some (.pointer (some ⟨jq, 0, none⟩))); have c3 := (cell_of_row _ _ 3 _ _ _ hSw).trans (by rfl : _ = some (.pointer (some ⟨kq, 0, none⟩))); clear hSw; go_simp; try rfl
    simp only [List.getElem_toArray, List.getElem_cons_zero, List.getElem_cons_succ, Act.put, List.setIfInBounds_toArray, List.set_cons_zero, List.set_cons_succ]
    refine wpAnyH_take (i := 8) (v := ?_) rfl (by kernel_rfl) (by kernel_rfl) (by kernel_rfl) (fun _ _ _ h => h) (Or.inl ⟨by rfl, ?_⟩) hHeld ?_
    rotate_left
    · intro w hSw; have c2 := (cell_of_row _ _ 2 _ _ _ hSw).trans (by rfl : _ = some (.pointer (some ⟨jq, 0, none⟩))); have c3 := (cell_of_row _ _ 3 _ _ _ hSw).trans (by rfl : _ = some (.pointer (some ⟨kq, 0, none⟩))); clear hSw; go_simp; try rfl
    simp only [List.getElem_toArray, List.getElem_cons_zero, List.getElem_cons_succ, Act.put, List.setIfInBounds_toArray, List.set_cons_zero, List.set_cons_succ]
    refine wpAnyH_ready (rs := [4]) (by kernel_rfl) (by simp) ?_
    refine AllReadyH.cons rfl (fun K hK => ?_) AllReadyH.nil
    rw [if_pos (by rfl)]
    go_simp
    refine (jf_batches (hD1.prog rfl) hl).mono ?_
    rintro e w2 ⟨A2, n2, c2, rfl, hr2, b2⟩
    have hD2 := hD1.below b2
    refine hK.out _ _ hD2.cell (fun hHeld => ?_)
    clear hK K
    refine wpAnyH_ready (rs := [9]) (by kernel_rfl) (by simp) ?_
    refine AllReadyH.cons rfl (fun K hK => ?_) AllReadyH.nil
    rw [if_pos (by rfl)]
    go_simp
    refine (rj_all ((hD2.docu rfl).rj hD2.rd)).mono ?_
    rintro e w3 ⟨A3, n3, c3, rfl, hr3, b3⟩
    have hD3 := hD2.below b3
    refine hK.out _ _ hD3.cell (fun hHeld => ?_)
    clear hK K
    refine wpAnyH_ready (rs := [10]) (by kernel_rfl) (by simp) ?_
    refine AllReadyH.cons rfl (fun K hK => ?_) AllReadyH.nil
    rw [if_pos (by rfl)]
    go_simp
    refine (same_rows (hr2.below b3) hr3).mono ?_
    rintro e w4 ⟨rfl, b4⟩
    have hD4 := hD3.below b4
    refine hK.out _ _ hD4.cell (fun hHeld => ?_)
    clear hK K
    simp only [decide_true]
    refine wpAnyH_take (i := 11) (v := ?_) rfl (by kernel_rfl) (by kernel_rfl) (by kernel_rfl) (fun _ _ _ h => h) (Or.inl ⟨by rfl, ?_⟩) hHeld ?_
    rotate_left
    · intro w hSw; have c2 := (cell_of_row _ _ 2 _ _ _ hSw).trans (by rfl : _ = some (.pointer (some ⟨jq, 0, none⟩))); have c3 := (cell_of_row _ _ 3 _ _ _ hSw).trans (by rfl : _ = some (.pointer (some ⟨kq, 0, none⟩))); clear hSw; go_simp; try rfl
    simp only [List.getElem_toArray, List.getElem_cons_zero, List.getElem_cons_succ, Act.put, List.setIfInBounds_toArray, List.set_cons_zero, List.set_cons_succ]
    refine wpAnyH_take (i := 12) (v := ?_) rfl (by kernel_rfl) (by kernel_rfl) (by kernel_rfl) (fun _ _ _ h => h) (Or.inl ⟨by rfl, ?_⟩) hHeld ?_
    rotate_left
    · intro w hSw; have c2 := (cell_of_row _ _ 2 _ _ _ hSw).trans (by rfl : _ = some (.pointer (some ⟨jq, 0, none⟩))); have c3 := (cell_of_row _ _ 3 _ _ _ hSw).trans (by rfl : _ = some (.pointer (some ⟨kq, 0, none⟩))); clear hSw; go_simp; try rfl
    simp only [List.getElem_toArray, List.getElem_cons_zero, List.getElem_cons_succ, Act.put, List.setIfInBounds_toArray, List.set_cons_zero, List.set_cons_succ]
    refine wpAnyH_take (i := 13) (v := ?_) rfl (by kernel_rfl) (by kernel_rfl) (by kernel_rfl) (fun _ _ _ h => h) (Or.inl ⟨by rfl, ?_⟩) hHeld ?_
    rotate_left
    · intro w hSw; have c2 := (cell_of_row _ _ 2 _ _ _ hSw).trans (by rfl : _ = some (.pointer (some ⟨jq, 0, none⟩))); have c3 := (cell_of_row _ _ 3 _ _ _ hSw).trans (by rfl : _ = some (.pointer (some ⟨kq, 0, none⟩))); clear hSw; go_simp; try rfl
    simp only [List.getElem_toArray, List.getElem_cons_zero, List.getElem_cons_succ, Act.put, List.setIfInBounds_toArray, List.set_cons_zero, List.set_cons_succ]
    refine wpAnyH_take (i := 14) (v := ?_) rfl (by kernel_rfl) (by kernel_rfl) (by kernel_rfl) (fun _ _ _ h => h) (Or.inl ⟨by rfl, ?_⟩) hHeld ?_
    rotate_left
    · intro w hSw; have c2 := (cell_of_row _ _ 2 _ _ _ hSw).trans (by rfl : _ = some (.pointer (some ⟨jq, 0, none⟩))); have c3 := (cell_of_row _ _ 3 _ _ _ hSw).trans (by rfl : _ = some (.pointer (some ⟨kq, 0, none⟩))); clear hSw; go_simp; try rfl
    simp only [List.getElem_toArray, List.getElem_cons_zero, List.getElem_cons_succ, Act.put, List.setIfInBounds_toArray, List.set_cons_zero, List.set_cons_succ]
    refine wpAnyH_take (i := 15) (v := ?_) rfl (by kernel_rfl) (by kernel_rfl) (by kernel_rfl) (fun _ _ _ h => h) (Or.inl ⟨by rfl, ?_⟩) hHeld ?_
    rotate_left
    · intro w hSw; have c2 := (cell_of_row _ _ 2 _ _ _ hSw).trans (by rfl : _ = some (.pointer (some ⟨jq, 0, none⟩))); have c3 := (cell_of_row _ _ 3 _ _ _ hSw).trans (by rfl : _ = some (.pointer (some ⟨kq, 0, none⟩))); clear hSw; go_simp; try rfl
    simp only [List.getElem_toArray, List.getElem_cons_zero, List.getElem_cons_succ, Act.put, List.setIfInBounds_toArray, List.set_cons_zero, List.set_cons_succ]
    refine wpAnyH_take (i := 17) (v := ?_) rfl (by kernel_rfl) (by kernel_rfl) (by kernel_rfl) (fun _ _ _ h => h) (Or.inl ⟨by rfl, ?_⟩) hHeld ?_
    rotate_left
    · intro w hSw; have c2 := (cell_of_row _ _ 2 _ _ _ hSw).trans (by rfl : _ = some (.pointer (some ⟨jq, 0, none⟩))); have c3 := (cell_of_row _ _ 3 _ _ _ hSw).trans (by rfl : _ = some (.pointer (some ⟨kq, 0, none⟩))); clear hSw; go_simp; try rfl
    simp only [List.getElem_toArray, List.getElem_cons_zero, List.getElem_cons_succ, Act.put, List.setIfInBounds_toArray, List.set_cons_zero, List.set_cons_succ]
    refine wpAnyH_take (i := 18) (v := ?_) rfl (by kernel_rfl) (by kernel_rfl) (by kernel_rfl) (fun _ _ _ h => h) (Or.inl ⟨by rfl, ?_⟩) hHeld ?_
    rotate_left
    · intro w hSw; have c2 := (cell_of_row _ _ 2 _ _ _ hSw).trans (by rfl : _ = some (.pointer (some ⟨jq, 0, none⟩))); have c3 := (cell_of_row _ _ 3 _ _ _ hSw).trans (by rfl : _ = some (.pointer (some ⟨kq, 0, none⟩))); clear hSw; go_simp; try rfl
    simp only [List.getElem_toArray, List.getElem_cons_zero, List.getElem_cons_succ, Act.put, List.setIfInBounds_toArray, List.set_cons_zero, List.set_cons_succ]
    refine wpAnyH_take (i := 19) (v := ?_) rfl (by kernel_rfl) (by kernel_rfl) (by kernel_rfl) (fun _ _ _ h => h) (Or.inl ⟨by rfl, ?_⟩) hHeld ?_
    rotate_left
    · intro w hSw; have c2 := (cell_of_row _ _ 2 _ _ _ hSw).trans (by rfl : _ = some (.pointer (some ⟨jq, 0, none⟩))); have c3 := (cell_of_row _ _ 3 _ _ _ hSw).trans (by rfl : _ = some (.pointer (some ⟨kq, 0, none⟩))); clear hSw; go_simp; try rfl
    simp only [List.getElem_toArray, List.getElem_cons_zero, List.getElem_cons_succ, Act.put, List.setIfInBounds_toArray, List.set_cons_zero, List.set_cons_succ]
    refine wpAnyH_take (i := 20) (v := ?_) rfl (by kernel_rfl) (by kernel_rfl) (by kernel_rfl) (fun _ _ _ h => h) (Or.inl ⟨by rfl, ?_⟩) hHeld ?_
    rotate_left
    · intro w hSw; have c2 := (cell_of_row _ _ 2 _ _ _ hSw).trans (by rfl : _ = some (.pointer (some ⟨jq, 0, none⟩))); have c3 := (cell_of_row _ _ 3 _ _ _ hSw).trans (by rfl : _ = some (.pointer (some ⟨kq, 0, none⟩))); clear hSw; go_simp; try rfl
    simp only [List.getElem_toArray, List.getElem_cons_zero, List.getElem_cons_succ, Act.put, List.setIfInBounds_toArray, List.set_cons_zero, List.set_cons_succ]
    refine wpAnyH_ready (rs := [16]) (by kernel_rfl) (by simp) ?_
    refine AllReadyH.cons rfl (fun K hK => ?_) AllReadyH.nil
    rw [if_pos (by rfl)]
    go_simp
    refine (jf_room (hD4.prog rfl) hl).mono ?_
    rintro e w5 ⟨rfl, b5⟩
    have hD5 := hD4.below b5
    refine hK.out _ _ hD5.cell (fun hHeld => ?_)
    clear hK K
    refine wpAnyH_ready (rs := [21]) (by kernel_rfl) (by simp) ?_
    refine AllReadyH.cons rfl (fun K hK => ?_) AllReadyH.nil
    rw [if_pos (by rfl)]
    go_simp
    refine (rj_room ((hD5.docu rfl).rj hD5.rd)).mono ?_
    rintro e w6 ⟨rfl, b6⟩
    have hD6 := hD5.below b6
    refine hK.out _ _ hD6.cell (fun hHeld => ?_)
    clear hK K
    refine wpAnyH_take (i := 22) (v := ?_) rfl (by kernel_rfl) (by kernel_rfl) (by kernel_rfl) (fun _ _ _ h => h) (Or.inl ⟨by rfl, ?_⟩) hHeld ?_
    rotate_left
    · intro w hSw; have c2 := (cell_of_row _ _ 2 _ _ _ hSw).trans (by rfl : _ = some (.pointer (some ⟨jq, 0, none⟩))); have c3 := (cell_of_row _ _ 3 _ _ _ hSw).trans (by rfl : _ = some (.pointer (some ⟨kq, 0, none⟩))); clear hSw; go_simp; try rfl
    simp only [List.getElem_toArray, List.getElem_cons_zero, List.getElem_cons_succ, Act.put, List.setIfInBounds_toArray, List.set_cons_zero, List.set_cons_succ]
    refine wpAnyH_take (i := 23) (v := ?_) rfl (by kernel_rfl) (by kernel_rfl) (by kernel_rfl) (fun _ _ _ h => h) (Or.inl ⟨by rfl, ?_⟩) hHeld ?_
    rotate_left
    · intro w hSw; have c2 := (cell_of_row _ _ 2 _ _ _ hSw).trans (by rfl : _ = some (.pointer (some ⟨jq, 0, none⟩))); have c3 := (cell_of_row _ _ 3 _ _ _ hSw).trans (by rfl : _ = some (.pointer (some ⟨kq, 0, none⟩))); clear hSw; go_simp; try rfl
    simp only [List.getElem_toArray, List.getElem_cons_zero, List.getElem_cons_succ, Act.put, List.setIfInBounds_toArray, List.set_cons_zero, List.set_cons_succ]
    refine wpAnyH_take (i := 24) (v := ?_) rfl (by kernel_rfl) (by kernel_rfl) (by kernel_rfl) (fun _ _ _ h => h) (Or.inl ⟨by rfl, ?_⟩) hHeld ?_
    rotate_left
    · intro w hSw; have c2 := (cell_of_row _ _ 2 _ _ _ hSw).trans (by rfl : _ = some (.pointer (some ⟨jq, 0, none⟩))); have c3 := (cell_of_row _ _ 3 _ _ _ hSw).trans (by rfl : _ = some (.pointer (some ⟨kq, 0, none⟩))); clear hSw; go_simp; try rfl
    simp only [List.getElem_toArray, List.getElem_cons_zero, List.getElem_cons_succ, Act.put, List.setIfInBounds_toArray, List.set_cons_zero, List.set_cons_succ]
    refine wpAnyH_take (i := 25) (v := ?_) rfl (by kernel_rfl) (by kernel_rfl) (by kernel_rfl) (fun _ _ _ h => h) (Or.inl ⟨by rfl, ?_⟩) hHeld ?_
    rotate_left
    · intro w hSw; have c2 := (cell_of_row _ _ 2 _ _ _ hSw).trans (by rfl : _ = some (.pointer (some ⟨jq, 0, none⟩))); have c3 := (cell_of_row _ _ 3 _ _ _ hSw).trans (by rfl : _ = some (.pointer (some ⟨kq, 0, none⟩))); clear hSw; go_simp; try rfl
    simp only [List.getElem_toArray, List.getElem_cons_zero, List.getElem_cons_succ, Act.put, List.setIfInBounds_toArray, List.set_cons_zero, List.set_cons_succ]
    refine wpAnyH_take (i := 26) (v := ?_) rfl (by kernel_rfl) (by kernel_rfl) (by kernel_rfl) (fun _ _ _ h => h) (Or.inl ⟨by rfl, ?_⟩) hHeld ?_
    rotate_left
    · intro w hSw; have c2 := (cell_of_row _ _ 2 _ _ _ hSw).trans (by rfl : _ = some (.pointer (some ⟨jq, 0, none⟩))); have c3 := (cell_of_row _ _ 3 _ _ _ hSw).trans (by rfl : _ = some (.pointer (some ⟨kq, 0, none⟩))); clear hSw; go_simp; try rfl
    simp only [List.getElem_toArray, List.getElem_cons_zero, List.getElem_cons_succ, Act.put, List.setIfInBounds_toArray, List.set_cons_zero, List.set_cons_succ]
    refine wpAnyH_take (i := 27) (v := ?_) rfl (by kernel_rfl) (by kernel_rfl) (by kernel_rfl) (fun _ _ _ h => h) (Or.inl ⟨by rfl, ?_⟩) hHeld ?_
    rotate_left
    · intro w hSw; have c2 := (cell_of_row _ _ 2 _ _ _ hSw).trans (by rfl : _ = some (.pointer (some ⟨jq, 0, none⟩))); have c3 := (cell_of_row _ _ 3 _ _ _ hSw).trans (by rfl : _ = some (.pointer (some ⟨kq, 0, none⟩))); clear hSw; go_simp; try rfl
    simp only [List.getElem_toArray, List.getElem_cons_zero, List.getElem_cons_succ, Act.put, List.setIfInBounds_toArray, List.set_cons_zero, List.set_cons_succ]
    refine wpAnyH_take (i := 28) (v := ?_) rfl (by kernel_rfl) (by kernel_rfl) (by kernel_rfl) (fun _ _ _ h => h) (Or.inl ⟨by rfl, ?_⟩) hHeld ?_
    rotate_left
    · intro w hSw; have c2 := (cell_of_row _ _ 2 _ _ _ hSw).trans (by rfl : _ = some (.pointer (some ⟨jq, 0, none⟩))); have c3 := (cell_of_row _ _ 3 _ _ _ hSw).trans (by rfl : _ = some (.pointer (some ⟨kq, 0, none⟩))); clear hSw; go_simp; try rfl
    simp only [List.getElem_toArray, List.getElem_cons_zero, List.getElem_cons_succ, Act.put, List.setIfInBounds_toArray, List.set_cons_zero, List.set_cons_succ]
    refine wpAnyH_take (i := 30) (v := ?_) rfl (by kernel_rfl) (by kernel_rfl) (by kernel_rfl) (fun _ _ _ h => h) (Or.inl ⟨by rfl, ?_⟩) hHeld ?_
    rotate_left
    · intro w hSw; have c2 := (cell_of_row _ _ 2 _ _ _ hSw).trans (by rfl : _ = some (.pointer (some ⟨jq, 0, none⟩))); have c3 := (cell_of_row _ _ 3 _ _ _ hSw).trans (by rfl : _ = some (.pointer (some ⟨kq, 0, none⟩))); clear hSw; go_simp; try rfl
    simp only [List.getElem_toArray, List.getElem_cons_zero, List.getElem_cons_succ, Act.put, List.setIfInBounds_toArray, List.set_cons_zero, List.set_cons_succ]
    refine wpAnyH_take (i := 31) (v := ?_) rfl (by kernel_rfl) (by kernel_rfl) (by kernel_rfl) (fun _ _ _ h => h) (Or.inl ⟨by rfl, ?_⟩) hHeld ?_
    rotate_left
    · intro w hSw; have c2 := (cell_of_row _ _ 2 _ _ _ hSw).trans (by rfl : _ = some (.pointer (some ⟨jq, 0, none⟩))); have c3 := (cell_of_row _ _ 3 _ _ _ hSw).trans (by rfl : _ = some (.pointer (some ⟨kq, 0, none⟩))); clear hSw; go_simp; try rfl
    simp only [List.getElem_toArray, List.getElem_cons_zero, List.getElem_cons_succ, Act.put, List.setIfInBounds_toArray, List.set_cons_zero, List.set_cons_succ]
    refine wpAnyH_take (i := 32) (v := ?_) rfl (by kernel_rfl) (by kernel_rfl) (by kernel_rfl) (fun _ _ _ h => h) (Or.inl ⟨by rfl, ?_⟩) hHeld ?_
    rotate_left
    · intro w hSw; have c2 := (cell_of_row _ _ 2 _ _ _ hSw).trans (by rfl : _ = some (.pointer (some ⟨jq, 0, none⟩))); have c3 := (cell_of_row _ _ 3 _ _ _ hSw).trans (by rfl : _ = some (.pointer (some ⟨kq, 0, none⟩))); clear hSw; go_simp; try rfl
    simp only [List.getElem_toArray, List.getElem_cons_zero, List.getElem_cons_succ, Act.put, List.setIfInBounds_toArray, List.set_cons_zero, List.set_cons_succ]
    refine wpAnyH_take (i := 33) (v := ?_) rfl (by kernel_rfl) (by kernel_rfl) (by kernel_rfl) (fun _ _ _ h => h) (Or.inl ⟨by rfl, ?_⟩) hHeld ?_
    rotate_left
    · intro w hSw; have c2 := (cell_of_row _ _ 2 _ _ _ hSw).trans (by rfl : _ = some (.pointer (some ⟨jq, 0, none⟩))); have c3 := (cell_of_row _ _ 3 _ _ _ hSw).trans (by rfl : _ = some (.pointer (some ⟨kq, 0, none⟩))); clear hSw; go_simp; try rfl
    simp only [List.getElem_toArray, List.getElem_cons_zero, List.getElem_cons_succ, Act.put, List.setIfInBounds_toArray, List.set_cons_zero, List.set_cons_succ]
    refine wpAnyH_ready (rs := [29]) (by kernel_rfl) (by simp) ?_
    refine AllReadyH.cons rfl (fun K hK => ?_) AllReadyH.nil
    rw [if_pos (by rfl)]
    go_simp
    refine (jf_head (hD6.prog rfl) hl).mono ?_
    rintro e w7 ⟨rfl, b7⟩
    have hD7 := hD6.below b7
    refine hK.out _ _ hD7.cell (fun hHeld => ?_)
    clear hK K
    refine wpAnyH_ready (rs := [34]) (by kernel_rfl) (by simp) ?_
    refine AllReadyH.cons rfl (fun K hK => ?_) AllReadyH.nil
    rw [if_pos (by rfl)]
    go_simp
    refine (rj_head ((hD7.docu rfl).rj hD7.rd)).mono ?_
    rintro e w8 ⟨rfl, b8⟩
    have hD8 := hD7.below b8
    refine hK.out _ _ hD8.cell (fun hHeld => ?_)
    clear hK K
    refine wpAnyH_take (i := 35) (v := ?_) rfl (by kernel_rfl) (by kernel_rfl) (by kernel_rfl) (fun _ _ _ h => h) (Or.inl ⟨by rfl, ?_⟩) hHeld ?_
    rotate_left
    · intro w hSw; have c2 := (cell_of_row _ _ 2 _ _ _ hSw).trans (by rfl : _ = some (.pointer (some ⟨jq, 0, none⟩))); have c3 := (cell_of_row _ _ 3 _ _ _ hSw).trans (by rfl : _ = some (.pointer (some ⟨kq, 0, none⟩))); clear hSw; go_simp; try rfl
    simp only [List.getElem_toArray, List.getElem_cons_zero, List.getElem_cons_succ, Act.put, List.setIfInBounds_toArray, List.set_cons_zero, List.set_cons_succ]
    refine wpAnyH_take (i := 36) (v := ?_) rfl (by kernel_rfl) (by kernel_rfl) (by kernel_rfl) (fun _ _ _ h => h) (Or.inl ⟨by rfl, ?_⟩) hHeld ?_
    rotate_left
    · intro w hSw; have c2 := (cell_of_row _ _ 2 _ _ _ hSw).trans (by rfl : _ = some (.pointer (some ⟨jq, 0, none⟩))); have c3 := (cell_of_row _ _ 3 _ _ _ hSw).trans (by rfl : _ = some (.pointer (some ⟨kq, 0, none⟩))); clear hSw; go_simp; try rfl
    simp only [List.getElem_toArray, List.getElem_cons_zero, List.getElem_cons_succ, Act.put, List.setIfInBounds_toArray, List.set_cons_zero, List.set_cons_succ]
    refine wpAnyH_take (i := 37) (v := ?_) rfl (by kernel_rfl) (by kernel_rfl) (by kernel_rfl) (fun _ _ _ h => h) (Or.inl ⟨by rfl, ?_⟩) hHeld ?_
    rotate_left
    · intro w hSw; have c2 := (cell_of_row _ _ 2 _ _ _ hSw).trans (by rfl : _ = some (.pointer (some ⟨jq, 0, none⟩))); have c3 := (cell_of_row _ _ 3 _ _ _ hSw).trans (by rfl : _ = some (.pointer (some ⟨kq, 0, none⟩))); clear hSw; go_simp; try rfl
    simp only [List.getElem_toArray, List.getElem_cons_zero, List.getElem_cons_succ, Act.put, List.setIfInBounds_toArray, List.set_cons_zero, List.set_cons_succ]
    refine wpAnyH_done (by kernel_rfl) ?_ _
    have x2 := (Below.refl w.heap.size w).drew
    have x3 := x2.trans (b2.mono x2.size)
    have x4 := x3.trans (b3.mono x3.size)
    have x5 := x4.trans (b4.mono x4.size)
    have x6 := x5.trans (b5.mono x5.size)
    have x7 := x6.trans (b6.mono x6.size)
    have x8 := x7.trans (b7.mono x7.size)
    have x9 := x8.trans (b8.mono x8.size)
    clear x2 x3 x4 x5 x6 x7 x8 hHeld hD1 hD2 hD3 hD4 hD5 hD6 hD7 hE hr2 hr3 b2 b3 b4 b5 b6 b7 b8
    go_wp2_with fail
    go_ret
    exact ⟨rfl, x9⟩
end Go.Proofs.YthddcaoolaipiaaGreatDoor

/-
  PURE: what lives does.
-/
namespace Go.Proofs.YthddcaoolaipiaaGreatDoor
open Go.RowKit
namespace jn
theorem opens_fresh {n : Nat} (h : 64 ≤ n) : opens (fresh n) = 5 := by
  have hr : ∀ k : Nat, k < n → rd (fresh n) (k : Int) = dk.zero := fun k hk => by
    refine (rd_sure rfl rfl (by simpa [fresh] using hk)).trans ?_
    show (List.replicate n dk.zero).getD k dk.zero = dk.zero
    rw [List.getD_eq_getElem?_getD, List.getElem?_replicate, if_pos hk]
    rfl
  have e : jn.newest (fresh n) = (0, hd.zero, 7) := by
    have e0 : rd (fresh n) 0 = dk.zero := hr 0 (by omega)
    have e1 : rd (fresh n) 1 = dk.zero := hr 1 (by omega)
    rw [jn.newest, e0, e1]
    exact newest_zero
  unfold jn.opens
  rw [e, if_neg (show ¬ ((fresh n).black = true) from fun h => Bool.noConfusion h), if_pos (.inl (by simp))]
structure Lived (s1 s2 s3 s4 : St) : Prop where
  e1 : make (fresh 66) = (0, s1)
  g1 : Good s1 0 1 hd.zero []
  m1 : s1.many + 4200 < 1048576
  h1 : half s1 = 32
  e2 : append s1 hd.zero (List.replicate 125 0) = (0, s2)
  g2 : Good s2 1 2 ⟨0, 2, 1⟩ [List.replicate 125 0]
  m2 : s2.many + 4200 < 1048576
  e3 : append s2 ⟨0, 2, 1⟩ [] = (0, s3)
  g3 : Good s3 0 3 ⟨0, 3, 2⟩ [List.replicate 125 0, []]
  m3 : s3.many + 4200 < 1048576
  h3 : half s3 = 32
  e4 : replace s3 ⟨0, 3, 2⟩ [1, 2, 3] = (0, s4)
  g4 : Good s4 1 4 ⟨1, 1, 1⟩ [[1, 2, 3]]
  m4 : s4.many + 4200 < 1048576
  h4 : half s4 = 32
  e5 : append s4 ⟨1, 1, 1⟩ (List.replicate 3968 0) = (10, s4)
theorem blocks_many (b : List UInt8) {k : Nat} (h : count (b.length + 4) = k) : (blocks b).length = k := (blocks_length b).trans h
theorem lived : ∃ s1 s2 s3 s4, Lived s1 s2 s3 s4 := by
  have hf : (fresh 66).S.length = 66 := rfl
  obtain ⟨a1, a2, a3, a4, a5⟩ := make_good (fresh_ok (n := 66) (by omega) (by omega)) rfl ⟨rfl, rfl⟩
  have n0 : (fresh 66).many = 0 := rfl
  rw [n0] at a4
  rw [hf] at a3
  obtain ⟨s1, hs1⟩ : ∃ s1, (make (fresh 66)).2 = s1 := ⟨_, rfl⟩
  rw [hs1] at a2 a3 a4 a5
  have e1 : make (fresh 66) = (0, s1) := Prod.ext a1 hs1
  have h1 : half s1 = 32 := by unfold half; rw [a3]
  have l1 := blocks_many (List.replicate 125 0) (k := 2) (by rw [List.length_replicate]; rfl)
  obtain ⟨b1, b2, b3, b4, b5⟩ := append_calm a2 a5 (by decide) (List.replicate 125 0) (by rw [List.length_replicate]; omega) (by rw [l1, h1]; decide)
  have k1 : appendH hd.zero (List.replicate 125 0) = ⟨0, 2, 1⟩ := by unfold appendH; rw [l1]; rfl
  rw [k1] at b2
  rw [l1, a4] at b4
  rw [a3] at b3
  obtain ⟨s2, hs2⟩ : ∃ s, (append s1 hd.zero (List.replicate 125 0)).2 = s := ⟨_, rfl⟩
  rw [hs2] at b2 b3 b4 b5
  have h2 : half s2 = 32 := by unfold half; rw [b3]
  have l2 := blocks_many [] (k := 1) rfl
  obtain ⟨c1, c2, c3, c4, c5⟩ := append_calm b2 b5 (by decide) [] (by decide) (by rw [l2, h2]; decide)
  have k2 : appendH ⟨0, 2, 1⟩ [] = ⟨0, 3, 2⟩ := by unfold appendH; rw [l2]
  rw [k2] at c2
  rw [l2, b4] at c4
  rw [b3] at c3
  obtain ⟨s3, hs3⟩ : ∃ s, (append s2 ⟨0, 2, 1⟩ []).2 = s := ⟨_, rfl⟩
  rw [hs3] at c2 c3 c4 c5
  have h3 : half s3 = 32 := by unfold half; rw [c3]
  have l3 := blocks_many [1, 2, 3] (k := 1) rfl
  obtain ⟨d1, d2, d3, d4, d5⟩ := replace_calm c2 c5 (by decide) [1, 2, 3] (by decide) (by rw [l3, h3]; decide)
  have k3 : replaceH ⟨0, 3, 2⟩ [1, 2, 3] = ⟨1, 1, 1⟩ := by unfold replaceH; rw [l3]; rfl
  rw [k3] at d2
  rw [l3, c4] at d4
  rw [c3] at d3
  obtain ⟨s4, hs4⟩ : ∃ s, (replace s3 ⟨0, 3, 2⟩ [1, 2, 3]).2 = s := ⟨_, rfl⟩
  rw [hs4] at d2 d3 d4 d5
  have h4 : half s4 = 32 := by unfold half; rw [d3]
  have l4 := blocks_many (List.replicate 3968 0) (k := 32) (by rw [List.length_replicate]; rfl)
  refine ⟨s1, s2, s3, s4, e1, a2, by rw [a4]; decide, h1, Prod.ext b1 hs2, b2, by rw [b4]; decide, Prod.ext c1 hs3, c2, by rw [c4]; decide, h3, Prod.ext d1 hs4, d2, by rw [d4]; decide, h4, ?_⟩
  exact append_full d2 _ (by rw [List.length_replicate]; omega) (by rw [l4, h4]; decide)
end jn
end Go.Proofs.YthddcaoolaipiaaGreatDoor

/-
  cardexlaw07: lives.
-/
namespace Go.Proofs.YthddcaoolaipiaaGreatDoor
open Go.RowKit
set_option maxHeartbeats 4000000 in
set_option maxRecDepth 100000 in
theorem lives07_any (w : World) (ht : Tabs w) : Calls Tryz.prog 18 #[] w fun e w' => e = .returned (.bool true) ∧ Below w.heap.size w w' := by
  obtain ⟨i0, hi, hz0, hz1, hz2⟩ := info_parts info_u8
  obtain ⟨s1, s2, s3, s4, L⟩ := jn.lived
  have HOP := Lib.hid (jn.opens_fresh (n := 66) (by omega))
  have HL := Lib.hid L
  have HF := Lib.hid (show (fresh 66).many + 4200 < 1048576 ∧ (fresh 66).L.length + 4200 < 1048576 from ⟨by decide, by decide⟩)
  clear L
  have hmk : ∀ W, (Instr.makeSlice 36 (.int .i64 125) (.int .i64 125)).run Tryz.prog W = .ok (.slice (some ⟨W.heap.size, 0, none⟩) 125 125) (W.alloc (.cells (zeroB 125) 5)) := fun W => run_make_bytes (P := Tryz.prog) 36 5 i0 Tryz.underlying36 hi hz0 hz1 hz2 .i64 .i64 125 (by omega) W
  have hmk2 : ∀ W, (Instr.makeSlice 36 (.int .i64 3968) (.int .i64 3968)).run Tryz.prog W = .ok (.slice (some ⟨W.heap.size, 0, none⟩) 3968 3968) (W.alloc (.cells (zeroB 3968) 5)) := fun W => run_make_bytes (P := Tryz.prog) 36 5 i0 Tryz.underlying36 hi hz0 hz1 hz2 .i64 .i64 3968 (by omega) W
  have hfd : ∀ W, (Instr.field 53 (hd.val ⟨1, 1, 1⟩) 0).run Tryz.prog W = .ok (.int .u8 1) W := fun _ => by kernel_rfl
  go_enter Tryz.func18, Tryz.ntmps18
  go_wp2_with fail
  refine (dw_new 66 (by omega) (by omega) w (Below.refl _ _)).mono ?_
  rintro e w1 ⟨d, rfl, D1⟩
  obtain ⟨p, rfl⟩ := D1.form
  go_wp2_with fail
  refine (jw_open D1 ht).mono ?_
  rintro e w2 ⟨v, rfl, -, hv, D2⟩
  obtain rfl := hv (by rw [HOP.out]; decide)
  rw [HOP.out]
  clear D1 hv
  go_wp2_with fail
  refine (jw_make D2 ht HF.out).mono ?_
  rintro e w3 ⟨j, rfl, hj, -, -⟩
  have J3 := hj (by rw [HL.out.e1])
  rw [HL.out.e1] at J3 ⊢
  obtain ⟨q, rfl⟩ := J3.form
  clear D2 hj
  go_wp2_with fail
  refine (jw_room J3 HL.out.g1.light).mono ?_
  rintro e w4 ⟨rfl, b4⟩
  have J4 := J3.below b4
  rw [HL.out.g1.newest, HL.out.h1, show ((32 : Nat) : Int) - (((0 + 1, hd.zero, (0 : Int)) : Nat × hd.H × Int).2.1.blocks : Int) = 32 from rfl]
  clear J3
  have hB4 : BS (w4.alloc (.cells (zeroB 125) 5)) (some ⟨w4.heap.size, 0, none⟩) 125 125 (List.replicate 125 0) := by
    have h := ((zeroB_row w4 5 125).own_all (base := 0) (Nat.zero_le _) (by simp)).bs
    simpa using h
  have H5 := Lib.hid (jw_append J4 ht HL.out.g1 (by decide) HL.out.m1 ((Below.refl _ _).alloc (Nat.le_refl _) (.cells (zeroB 125) 5)) hB4 (fun _ x o e => by injection e with e; injection e with e _; exact .inr (by omega)))
  clear hB4 J4 b4
  go_wp2_with fail
  refine H5.out.mono ?_
  rintro e w5 ⟨rfl, J5⟩
  rw [HL.out.e2] at J5 ⊢
  clear H5
  go_wp2_with fail
  refine (jw_append J5 ht HL.out.g2 (by decide) HL.out.m2 (Below.refl _ _) (BS.nil_ w5) (fun _ x o e => by cases e)).mono ?_
  rintro e w6 ⟨rfl, J6⟩
  rw [HL.out.e3] at J6 ⊢
  clear J5
  go_wp2_with fail
  refine (jw_room J6 HL.out.g3.light).mono ?_
  rintro e w7 ⟨rfl, b7⟩
  have J7 := J6.below b7
  rw [HL.out.g3.newest, HL.out.h3]
  clear J6
  have hB7 : BS (w7.alloc (.cells #[.int .u8 1, .int .u8 2, .int .u8 3] 5)) (some ⟨w7.heap.size, 0, none⟩) 3 3 [1, 2, 3] := BS.lit w7 5 [1, 2, 3] _ rfl 3 rfl (by omega)
  have H8 := Lib.hid (jw_replace J7 ht HL.out.g3 (by decide) HL.out.m3 ((Below.refl _ _).alloc (Nat.le_refl _) (.cells #[.int .u8 1, .int .u8 2, .int .u8 3] 5)) hB7 (fun _ x o e => by injection e with e; injection e with e _; exact .inr (by omega)))
  clear hB7 J7 b7
  go_wp2_with fail
  refine H8.out.mono ?_
  rintro e w8 ⟨rfl, J8⟩
  rw [HL.out.e4] at J8 ⊢
  clear H8
  go_wp2_with fail
  refine (jw_batches J8 HL.out.g4.light).mono ?_
  rintro e w9 ⟨A, n, c, rfl, hR, b9⟩
  have J9 := J8.below b9
  rw [HL.out.g4.newest] at hR
  simp only at hR
  rw [HL.out.g4.batches] at hR
  have hn := hR.len
  have hc := hR.cap
  simp only [List.length_cons, List.length_nil] at hn
  obtain rfl : n = 1 := by omega
  obtain ⟨xb, xo, rfl, -⟩ := hR.has (by omega)
  obtain ⟨Z, zc, hz, hZ⟩ := rs_at hR (i := 0) (by omega)
  change w9.cell? ⟨xb, xo, none⟩ = some (.slice Z 3 zc) at hz
  change BS w9 Z 3 zc [1, 2, 3] at hZ
  have ba : Below w9.heap.size w9 (w9.alloc (.cells #[.int .u8 1, .int .u8 2, .int .u8 3] 5)) := (Below.refl _ _).alloc (Nat.le_refl _) _
  have J10 := J9.below ba
  have HS := Lib.hid (same_true _ _ _ _ _ _ [1, 2, 3] (w9.alloc (.cells #[.int .u8 1, .int .u8 2, .int .u8 3] 5)) (hZ.below ba) (BS.lit w9 5 [1, 2, 3] _ rfl 3 rfl (by omega)))
  clear J9 b9 hR hn hZ J8
  go_wp2_with fail
  refine HS.out.mono ?_
  rintro e w10 ⟨rfl, rfl⟩
  clear HS
  generalize w9.alloc (.cells #[.int .u8 1, .int .u8 2, .int .u8 3] 5) = W at *
  clear ba hz
  go_wp2_with fail
  refine (jw_room J10 HL.out.g4.light).mono ?_
  rintro e w11 ⟨rfl, b11⟩
  have J11 := J10.below b11
  rw [HL.out.g4.newest, HL.out.h4, show ((32 : Nat) : Int) - (((1 : Nat) : Int)) = 31 from rfl]
  clear J10 b11
  go_wp2_with fail
  refine (jw_head J11 HL.out.g4.light).mono ?_
  rintro e w12 ⟨rfl, b12⟩
  have J12 := J11.below b12
  rw [HL.out.g4.newest]
  clear J11 b12
  have hB13 : BS (w12.alloc (.cells (zeroB 3968) 5)) (some ⟨w12.heap.size, 0, none⟩) 3968 3968 (List.replicate 3968 0) := by
    have h := ((zeroB_row w12 5 3968).own_all (base := 0) (Nat.zero_le _) (by simp)).bs
    simpa using h
  have H13 := Lib.hid (jw_append J12 ht HL.out.g4 (by decide) HL.out.m4 ((Below.refl _ _).alloc (Nat.le_refl _) (.cells (zeroB 3968) 5)) hB13 (fun _ x o e => by injection e with e; injection e with e _; exact .inr (by omega)))
  clear hB13 J12
  generalize zeroB 3968 = zb at *
  go_wp2_with fail
  refine H13.out.mono ?_
  rintro e w14 ⟨rfl, J14⟩
  rw [HL.out.e5] at J14 ⊢
  go_wp2_with fail
  go_ret
  exact ⟨rfl, J14.dw.under⟩
end Go.Proofs.YthddcaoolaipiaaGreatDoor

/-
  cardexlaw07's walk: JournalOpens.
-/
namespace Go.Proofs.YthddcaoolaipiaaGreatDoor
open Go.RowKit
/-- a spot -/
structure SC where
  n : Int
  b : dk.Blk
  is : Bool
  num : Nat
  h : hd.H
instance : Inhabited SC := ⟨⟨0, [], false, 0, hd.zero⟩⟩
def SC.cells (y : SC) : List Value := .int .i64 y.n :: (dk.cells y.b ++ [.bool y.is, .int .u64 y.num, bv y.h.bank, .int .u32 y.h.blocks, .int .u32 y.h.batches])
def SC.blk (y : SC) : dk.Blk := if y.is then (hd.put y.num y.h).1 else y.b
structure SC.Ok (y : SC) : Prop where
  b : y.b.length = 128
  n : -9223372036854775808 ≤ y.n ∧ y.n ≤ 9223372036854775807
  num : y.num < 18446744073709551616
  h : y.h.Ok
theorem SC.blk_len {y : SC} (h : y.Ok) : y.blk.length = 128 := by
  unfold SC.blk
  split
  · exact hd.put_len _ _
  · exact h.b
theorem SC.length {y : SC} (h : y.Ok) : y.cells.length = 134 := by simp [SC.cells, dk.cells, h.b]
theorem SC.get (y : SC) (h : y.Ok) (j : Nat) (v : Value) (hj : [Value.bool y.is, .int .u64 y.num, bv y.h.bank, .int .u32 y.h.blocks, .int .u32 y.h.batches][j]? = some v) : y.cells[129 + j]? = some v := by
  have hl : (dk.cells y.b).length = 128 := by rw [List.length_map]; exact h.b
  rw [show 129 + j = (128 + j) + 1 from by omega]
  simp only [SC.cells, List.getElem?_cons_succ]
  rw [List.getElem?_append_right (by omega), hl, show 128 + j - 128 = j from by omega]
  exact hj
theorem SC.row1 {y : SC} {w : World} {g : Nat} {t : TypeId} {fr : Nat × Nat} (h : w.heap[g]? = some (.cells y.cells.toArray t fr)) : w.rangeAt g 1 (dk.cells y.b) := by
  refine range_of h 1 _ fun j v hj => ?_
  have hjl : j < (dk.cells y.b).length := (List.getElem?_eq_some_iff.1 hj).1
  rw [show 1 + j = j + 1 from by omega]
  simp only [SC.cells, List.getElem?_cons_succ]
  rw [List.getElem?_append_left hjl]
  exact hj
namespace jn
theorem write_S (s : St) (n : Int) (b : Blk) : (dk.write s n b).2.S = s.S := by
  unfold dk.write
  split
  · split
    · exact dk.step_S s
    · exact dk.step_S s
  · rfl
/-- a disk to which spots are written -/
structure SI (m i : Nat) (s : St) : Prop where
  ok : s.Ok
  len : s.S.length = m
  many : s.many ≤ i
  loose : s.L.length ≤ i
  calm : Calm s
theorem SI.start {m : Nat} (h : 64 ≤ m) (h2 : m ≤ 4096) : SI m 0 (fresh m) := ⟨fresh_ok h h2, by simp [fresh], by simp [fresh], by simp [fresh], rfl, rfl⟩
theorem SI.write {m i : Nat} {s : St} (h : SI m i s) (n : Int) {b : Blk} (hb : b.length = 128) : SI m (i + 1) (dk.write s n b).2 := by
  have hf := write_few s n b
  have h1 := h.many
  have h2 := h.loose
  exact ⟨dk.Ok.write h.ok hb, by rw [write_S]; exact h.len, by omega, by omega, (write_calm h.calm n b).2⟩
end jn
theorem _root_.Go.RowKit.Below.trans_b {w0 w w' : World} (h : Below w0.heap.size w0 w) (b : Below w.heap.size w w') : Below w0.heap.size w0 w' := h.trans (b.mono h.size)
theorem _root_.Go.RowKit.Below.trans_f {w0 w w' : World} {F : List Nat} (h : Below w0.heap.size w0 w) (hc : Chg w w' F) (hF : ∀ k ∈ F, w0.heap.size ≤ k) : Below w0.heap.size w0 w' := ((Chg.of_below h F).trans hc (Sub.refl _ _)).below (Nat.le_refl _) hF
theorem df_write {w0 w : World} {F : List Nat} {d : Value} {s : dk.St} (n : Int) (b : dk.Blk) (hb : b.length = 128) (h : DF w0 w F d s) (hf : s.Few) : Calls Tryz.prog 19 #[d, .int .i64 n, dk.val b] w fun e w' =>
    ∃ F', e = .returned (.int .i64 (dk.write s n b).1) ∧ DF w0 w' F' d (dk.write s n b).2 ∧ Chg w w' F ∧ Sub w F' F := by
  refine (cd_write n b hb h.cd hf).mono fun e w' h' => ?_
  obtain ⟨F', e1, e2, e3, e4⟩ := h'
  exact ⟨F', e1, dw_step h e2 e3 e4, e3, e4⟩
/-- THE SLICE OF SPOTS '.slice A n c' READS AS l IN w. -/
structure SS (w : World) (A : Option Addr) (n c : Nat) (l : List SC) : Prop where
  len : l.length = n
  cap : n ≤ c
  max : c ≤ 9223372036854775807
  ok : ∀ x ∈ l, x.Ok
  has : 0 < n → ∃ b o, A = some ⟨b, o, none⟩ ∧ b < w.heap.size ∧ ∀ i (h : i < l.length), w.rangeAt b (o + i * 134) l[i].cells
theorem size_spot : (Tryz.prog.info? 55).map (·.size) = some 134 := by kernel_rfl
theorem size_spot' {y : SC} (h : y.Ok) : (Tryz.prog.info? 55).map (·.size) = some y.cells.length := by rw [SC.length h]; exact size_spot
set_option maxHeartbeats 2000000 in
set_option maxRecDepth 100000 in
theorem spot_block (y : SC) (hy : y.Ok) (w : World) : Calls Tryz.prog 20 #[.agg y.cells.toArray] w fun e w' => e = .returned (dk.val y.blk) ∧ Below w.heap.size w w' := by
  obtain ⟨hz, -⟩ := zero_of_info zero_blk
  have r1 := heap_alloc_new w (.cells y.cells.toArray 55)
  have b1 : Below w.heap.size w (w.alloc (.cells y.cells.toArray 55)) := (Below.refl _ _).alloc (Nat.le_refl _) _
  have hl1 : w.heap.size < (w.alloc (.cells y.cells.toArray 55)).heap.size := (Array.getElem?_eq_some_iff.1 r1).1
  have r2 := (Below.heap_alloc (w.alloc (.cells y.cells.toArray 55)) (.cells (dk.cells dk.zero).toArray 43) w.heap.size hl1).trans r1
  have s2 := heap_alloc_new (w.alloc (.cells y.cells.toArray 55)) (.cells (dk.cells dk.zero).toArray 43)
  rw [show (w.alloc (.cells y.cells.toArray 55)).heap.size = w.heap.size + 1 from by simp] at s2
  have b2 := b1.alloc b1.size (.cells (dk.cells dk.zero).toArray 43)
  have cx : ∀ (j : Nat) (v : Value), [Value.bool y.is, .int .u64 y.num, bv y.h.bank, .int .u32 y.h.blocks, .int .u32 y.h.batches][j]? = some v → ((w.alloc (.cells y.cells.toArray 55)).alloc (.cells (dk.cells dk.zero).toArray 43)).cell? ⟨w.heap.size, 129 + j, none⟩ = some v := fun j v hj => by
    rw [cell_of_row _ _ (129 + j) _ _ _ r2]
    simpa using SC.get y hy j v hj
  have c0 := cx 0 _ rfl
  have c1 := cx 1 _ rfl
  have hrh : ((w.alloc (.cells y.cells.toArray 55)).alloc (.cells (dk.cells dk.zero).toArray 43)).rangeAt w.heap.size 131 (hd.cells y.h) := fun j v hj => by
    have hj3 : j < 3 := (List.getElem?_eq_some_iff.1 hj).1
    have := cx (2 + j) v (by rw [← hj]; match j, hj3 with | 0, _ => rfl | 1, _ => rfl | 2, _ => rfl)
    rw [show 131 + j = 129 + (2 + j) from by omega]
    exact this
  have hrb := SC.row1 r2
  have hyb := hy.b
  have HC := Lib.hid cx
  clear cx r2 hl1 r1 b1
  cases his : y.is with
  | false =>
    have hblk : y.blk = y.b := by unfold SC.blk; rw [his]; rfl
    have HB := Lib.hid hblk
    rw [his] at c0
    clear hblk his
    go_enter Tryz.func20, Tryz.ntmps20
    go_wp2_with (first
      | refine wp_ld (.tmp 8) y.b hrb hyb rfl rfl rfl ?_
      | (refine wp_st0 (.tmp 2) (.tmp 9) y.b s2 zero_len hyb rfl rfl rfl rfl ?_; intro w3 W3 hc3))
    refine bodyPost_ret (results_cell rfl rfl (blk_load (blk_range W3) hyb)) rfl ⟨by rw [HB.out], (Chg.of_below b2 [w.heap.size + 1]).trans hc3 (Sub.refl _ _) |>.below (Nat.le_refl _) (fun k hk => by simp at hk; omega)⟩
  | true =>
    have hblk : y.blk = (hd.put y.num y.h).1 := by unfold SC.blk; rw [his]; rfl
    have hput := fun W => rput6_any y.num hy.num y.h hy.h W
    have hYl := hd.put_len y.num y.h
    obtain ⟨Y, hY⟩ : ∃ e, (hd.put y.num y.h).1 = e := ⟨_, rfl⟩
    obtain ⟨ye, hye⟩ : ∃ e, (hd.put y.num y.h).2 = e := ⟨_, rfl⟩
    simp only [hY, hye] at hput
    rw [hY] at hYl hblk
    have HB := Lib.hid hblk
    have HPUT := Lib.hid hput
    rw [his] at c0
    clear hblk his hput hY hye
    go_enter Tryz.func20, Tryz.ntmps20
    go_wp2_with (refine wpList_load_mid rfl _ (.tmp 13) rfl w.heap.size 131 rfl (hd.cells y.h) _ hrh Tryz.underlying53 rfl head_size ?_)
    refine (HPUT.out _).mono ?_
    rintro e w3 ⟨rfl, b3⟩
    have b23 := b2.trans (b3.mono b2.size)
    have s3 := (b3.block _ (Array.getElem?_eq_some_iff.1 s2).1).trans s2
    have n3 := heap_alloc_new w3 (.cells (dk.cells dk.zero).toArray 43)
    obtain ⟨X3, hX3⟩ : ∃ X, w3.heap.size = X := ⟨_, rfl⟩
    rw [hX3] at n3
    have hs3 := (Array.getElem?_eq_some_iff.1 s3).1
    clear s2 b2 HPUT c0 c1 hrb hrh
    go_wp2_with (first
      | (refine wp_st0 (.tmp 3) (.tmp 16) Y n3 zero_len hYl rfl rfl rfl rfl ?_; intro w4 W4 hc4; rw [← hX3] at hc4; have b4 := new_chg hc4; have g4 := blk_range W4; have s4 := (b4.block (w.heap.size + 1) hs3).trans s3; have b24 := b23.trans (b4.mono b23.size))
      | refine wp_ld (.tmp 3) Y g4 hYl rfl rfl rfl ?_
      | (refine wp_st0 (.tmp 2) (.tmp 18) Y s4 zero_len hYl rfl rfl rfl rfl ?_; intro w5 W5 hc5))
    refine bodyPost_ret (results_cell rfl rfl (blk_load (blk_range W5) hYl)) rfl ⟨by rw [HB.out], (Chg.of_below b24 [w.heap.size + 1]).trans hc5 (Sub.refl _ _) |>.below (Nat.le_refl _) (fun k hk => by simp at hk; omega)⟩
set_option maxHeartbeats 8000000 in
set_option maxRecDepth 100000 in
theorem walk_JournalOpens (x : UInt8) (A : Option Addr) (n c : Nat) (l : List SC) (w : World) (hA : SS w A n c l) (ht : Tabs w) :
    Calls Tryz.prog 4 #[bv x, .slice A n c] w fun e w' => e = .returned (.bool true) ∧ Below w.heap.size w w' := by
  have hx := x.toNat_lt
  have hl := hA.len
  have hcap := hA.cap
  have hmax := hA.max
  obtain ⟨m, hm⟩ : ∃ m, m = 64 + x.toNat := ⟨_, rfl⟩
  have hm1 : 64 ≤ m := by omega
  have hm2 : m ≤ 4096 := by omega
  have hww : IntKind.i64.wrap (x.toNat : Int) = (x.toNat : Int) := IntWalk.i64_in _ ⟨by omega, by omega⟩
  have hadd : (64 : Int) + (x.toNat : Int) = (m : Int) := by omega
  have HN := Lib.hid (df_new m hm1 hm2 w (Below.refl w.heap.size w))
  have HR := Lib.hid (fun W => rd_new (w := W) m hm1 hm2)
  have hlives := fun W hT => lives07_any W hT
  have HLV := Lib.hid hlives
  have uS := Tryz.underlying55
  clear hm hlives
  go_enter Tryz.func4, Tryz.ntmps4
  go_wp2_with fail
  refine HN.out.mono ?_
  rintro e w1 ⟨d, F0, rfl, hdf⟩
  obtain ⟨p, rfl⟩ := hdf.cd.form
  go_wp2_with fail
  refine (HR.out w1).mono ?_
  rintro e w2 ⟨G0, d2, rfl, hrd, b2, hG0⟩
  obtain ⟨q, rfl⟩ := hrd.form
  have hu := hdf.under.size
  have hF0 := hdf.cd.there
  have hdf2 := hdf.below b2
  have hapt0 : Apt F0 G0 := fun k hk hg => by have := hF0 k hk; have := hG0 k hg; omega
  have hown0 : ∀ k ∈ G0, w.heap.size ≤ k := fun k hk => by have := hG0 k hk; omega
  have hS0 := jn.SI.start hm1 hm2
  clear hu hF0 hG0 hdf HN HR b2 hww hadd
  go_wp2_with fail
  go_loopw [10] (fun t wr => ∃ (i : Nat) (s : dk.St) (F G : List Nat), t = .int .i64 i ∧ i ≤ n ∧ i ≤ 60 ∧ DF w wr F (.pointer (some ⟨p, 0, none⟩)) s ∧ RD wr G (.pointer (some ⟨q, 0, none⟩)) s ∧ Apt F G ∧ (∀ k ∈ G, w.heap.size ≤ k) ∧ Hid (jn.SI m i s)) (fun t _ => 60 - (intOf t).toNat)
  case atStart => exact ⟨0, fresh m, F0, G0, rfl, by omega, by omega, hdf2, hrd, hapt0, hown0, hS0⟩
  case round =>
    clear hdf2 hrd hapt0 hown0 hS0
    obtain ⟨i, s, F, G, rfl, hin, hi60, hD, hR, hapt, hGo, HS⟩ := hrel
    by_cases hlt : i < n ∧ i < 60
    · obtain ⟨hq1, hq2⟩ := hlt
      obtain ⟨ab, ao, rfl, habl, hrow⟩ := hA.has (by omega)
      have hrg := hrow i (by omega)
      have hyok := hA.ok _ (List.getElem_mem (by omega : i < l.length))
      generalize l[i]'(by omega) = y at *
      have hyb := SC.blk_len hyok
      have iS := size_spot' hyok
      have hKEEP : ∀ W, Below w.heap.size w W → W.rangeAt ab (ao + i * 134) y.cells := fun W hW => dk.range_below hrg hW
      have HKEEP := Lib.hid hKEEP
      have hfew : s.Few := by have h1 := HS.out.many; have h2 := HS.out.loose; exact ⟨by omega, by omega⟩
      have HSB := Lib.hid (fun W => spot_block y hyok W)
      have HPW := Lib.hid (fun W (hW : DF w W F (.pointer (some ⟨p, 0, none⟩)) s) => df_write y.n y.blk hyb hW hfew)
      have HNX := Lib.hid (HS.out.write y.n hyb)
      clear hrow hKEEP
      go_wp2_with fail
      have hKEEP := HKEEP.out
      have hD1 : DF w wr.drew F (.pointer (some ⟨p, 0, none⟩)) s := hD.below (Below.refl _ _).drew
      have hR1 : RD wr.drew G (.pointer (some ⟨q, 0, none⟩)) s := hR.below (Below.refl _ _).drew
      have hB1 := hD1.under
      have hGt := hR1.there
      have hrd := hKEEP _ hB1
      have hsF : ∀ k ∈ F, k < wr.drew.heap.size := hD1.cd.there
      refine wp_region_held_drew (S := fun W => W.rangeAt ab (ao + i * 134) y.cells) (by kernel_rfl) hrd (fun hHeld => ?_)
      refine wpAnyH_take (i := 0) (v := ?_) rfl (by kernel_rfl) (by kernel_rfl) (by kernel_rfl) (fun _ _ _ h => h) (Or.inl ⟨by rfl, ?_⟩) hHeld ?_
      rotate_left
      · intro w hSw; have c0 : w.cell? ⟨ab, ao + i * 134, none⟩ = some (.int .i64 y.n) := (by have := hSw 0 _ rfl; rwa [Nat.add_zero] at this); clear hSw; go_simp; try rfl
      simp only [List.getElem_toArray, List.getElem_cons_zero, Act.put, List.setIfInBounds_toArray, List.set_cons_zero, List.set_cons_succ]
      refine wpAnyH_take (i := 1) (v := ?_) rfl (by kernel_rfl) (by kernel_rfl) (by kernel_rfl) (fun _ _ _ h => h) (Or.inl ⟨by rfl, ?_⟩) hHeld ?_
      rotate_left
      · intro w hSw; have c0 : w.cell? ⟨ab, ao + i * 134, none⟩ = some (.int .i64 y.n) := (by have := hSw 0 _ rfl; rwa [Nat.add_zero] at this); clear hSw; go_simp; try rfl
      simp only [List.getElem_toArray, List.getElem_cons_zero, List.getElem_cons_succ, Act.put, List.setIfInBounds_toArray, List.set_cons_zero, List.set_cons_succ]
      refine wpAnyH_take (i := 2) (v := ?_) rfl (by kernel_rfl) (by kernel_rfl) (by kernel_rfl) (fun _ _ _ h => h) (Or.inl ⟨by rfl, ?_⟩) hHeld ?_
      rotate_left
      · intro w hSw; have c0 : w.cell? ⟨ab, ao + i * 134, none⟩ = some (.int .i64 y.n) := (by have := hSw 0 _ rfl; rwa [Nat.add_zero] at this); clear hSw; go_simp; try rfl
      simp only [List.getElem_toArray, List.getElem_cons_zero, List.getElem_cons_succ, Act.put, List.setIfInBounds_toArray, List.set_cons_zero, List.set_cons_succ]
      refine wpAnyH_take (i := 3) (v := ?_) rfl (by kernel_rfl) (by kernel_rfl) (by kernel_rfl) (fun _ _ _ h => h) (Or.inl ⟨by rfl, ?_⟩) hHeld ?_
      rotate_left
      · intro w hSw; have c0 : w.cell? ⟨ab, ao + i * 134, none⟩ = some (.int .i64 y.n) := (by have := hSw 0 _ rfl; rwa [Nat.add_zero] at this); clear hSw; go_simp; try rfl
      simp only [List.getElem_toArray, List.getElem_cons_zero, List.getElem_cons_succ, Act.put, List.setIfInBounds_toArray, List.set_cons_zero, List.set_cons_succ]
      refine wpAnyH_take (i := 4) (v := ?_) rfl (by kernel_rfl) (by kernel_rfl) (by kernel_rfl) (fun _ _ _ h => h) (Or.inl ⟨by rfl, ?_⟩) hHeld ?_
      rotate_left
      · intro w hSw; have c0 : w.cell? ⟨ab, ao + i * 134, none⟩ = some (.int .i64 y.n) := (by have := hSw 0 _ rfl; rwa [Nat.add_zero] at this); clear hSw; go_simp; try rfl
      simp only [List.getElem_toArray, List.getElem_cons_zero, List.getElem_cons_succ, Act.put, List.setIfInBounds_toArray, List.set_cons_zero, List.set_cons_succ]
      refine wpAnyH_take (i := 5) (v := ?_) rfl (by kernel_rfl) (by kernel_rfl) (by kernel_rfl) (fun _ _ _ h => h) (Or.inl ⟨by rfl, ?_⟩) hHeld ?_
      rotate_left
      · intro w hSw; have c0 : w.cell? ⟨ab, ao + i * 134, none⟩ = some (.int .i64 y.n) := (by have := hSw 0 _ rfl; rwa [Nat.add_zero] at this); clear hSw; go_simp; try rfl
      simp only [List.getElem_toArray, List.getElem_cons_zero, List.getElem_cons_succ, Act.put, List.setIfInBounds_toArray, List.set_cons_zero, List.set_cons_succ]
      refine wpAnyH_take (i := 6) (v := ?_) rfl (by kernel_rfl) (by kernel_rfl) (by kernel_rfl) (fun _ _ _ h => h) (Or.inl ⟨by rfl, ?_⟩) hHeld ?_
      rotate_left
      · intro w hSw; have c0 : w.cell? ⟨ab, ao + i * 134, none⟩ = some (.int .i64 y.n) := (by have := hSw 0 _ rfl; rwa [Nat.add_zero] at this); clear hSw; go_simp; try rfl
      simp only [List.getElem_toArray, List.getElem_cons_zero, List.getElem_cons_succ, Act.put, List.setIfInBounds_toArray, List.set_cons_zero, List.set_cons_succ]
      refine wpAnyH_take (i := 7) (v := ?_) rfl (by kernel_rfl) (by kernel_rfl) (by kernel_rfl) (fun _ _ _ h => h) (Or.inl ⟨by rfl, ?_⟩) hHeld ?_
      rotate_left
      · intro w hSw; have c0 : w.cell? ⟨ab, ao + i * 134, none⟩ = some (.int .i64 y.n) := (by have := hSw 0 _ rfl; rwa [Nat.add_zero] at this); clear hSw; go_simp; try rfl
      simp only [List.getElem_toArray, List.getElem_cons_zero, List.getElem_cons_succ, Act.put, List.setIfInBounds_toArray, List.set_cons_zero, List.set_cons_succ]
      refine wpAnyH_take (i := 8) (v := ?_) rfl (by kernel_rfl) (by kernel_rfl) (by kernel_rfl) (fun _ _ _ h => h) (Or.inl ⟨by rfl, ?_⟩) hHeld ?_
      rotate_left
      · intro w hSw; have c0 : w.cell? ⟨ab, ao + i * 134, none⟩ = some (.int .i64 y.n) := (by have := hSw 0 _ rfl; rwa [Nat.add_zero] at this); clear hSw; go_simp; try rfl
      simp only [List.getElem_toArray, List.getElem_cons_zero, List.getElem_cons_succ, Act.put, List.setIfInBounds_toArray, List.set_cons_zero, List.set_cons_succ]
      refine wpAnyH_take (i := 9) (v := .agg y.cells.toArray) rfl (by kernel_rfl) (by kernel_rfl) (by kernel_rfl) (fun _ _ _ h => h) (yieldsIf_load_mid (by rfl) 55 (.tmp 49) rfl ab (ao + i * 134) rfl y.cells _ (fun w h => h) uS rfl iS) hHeld ?_
      simp only [List.getElem_toArray, List.getElem_cons_zero, List.getElem_cons_succ, Act.put, List.setIfInBounds_toArray, List.set_cons_zero, List.set_cons_succ]
      refine wpAnyH_take (i := 12) (v := ?_) rfl (by kernel_rfl) (by kernel_rfl) (by kernel_rfl) (fun _ _ _ h => h) (Or.inl ⟨by rfl, ?_⟩) hHeld ?_
      rotate_left
      · intro w hSw; have c0 : w.cell? ⟨ab, ao + i * 134, none⟩ = some (.int .i64 y.n) := (by have := hSw 0 _ rfl; rwa [Nat.add_zero] at this); clear hSw; go_simp; try rfl
      simp only [List.getElem_toArray, List.getElem_cons_zero, List.getElem_cons_succ, Act.put, List.setIfInBounds_toArray, List.set_cons_zero, List.set_cons_succ]
      refine wpAnyH_take (i := 13) (v := ?_) rfl (by kernel_rfl) (by kernel_rfl) (by kernel_rfl) (fun _ _ _ h => h) (Or.inl ⟨by rfl, ?_⟩) hHeld ?_
      rotate_left
      · intro w hSw; have c0 : w.cell? ⟨ab, ao + i * 134, none⟩ = some (.int .i64 y.n) := (by have := hSw 0 _ rfl; rwa [Nat.add_zero] at this); clear hSw; go_simp; try rfl
      simp only [List.getElem_toArray, List.getElem_cons_zero, List.getElem_cons_succ, Act.put, List.setIfInBounds_toArray, List.set_cons_zero, List.set_cons_succ]
      refine wpAnyH_take (i := 14) (v := ?_) rfl (by kernel_rfl) (by kernel_rfl) (by kernel_rfl) (fun _ _ _ h => h) (Or.inl ⟨by rfl, ?_⟩) hHeld ?_
      rotate_left
      · intro w hSw; have c0 : w.cell? ⟨ab, ao + i * 134, none⟩ = some (.int .i64 y.n) := (by have := hSw 0 _ rfl; rwa [Nat.add_zero] at this); clear hSw; go_simp; try rfl
      simp only [List.getElem_toArray, List.getElem_cons_zero, List.getElem_cons_succ, Act.put, List.setIfInBounds_toArray, List.set_cons_zero, List.set_cons_succ]
      refine wpAnyH_take (i := 15) (v := ?_) rfl (by kernel_rfl) (by kernel_rfl) (by kernel_rfl) (fun _ _ _ h => h) (Or.inl ⟨by rfl, ?_⟩) hHeld ?_
      rotate_left
      · intro w hSw; have c0 : w.cell? ⟨ab, ao + i * 134, none⟩ = some (.int .i64 y.n) := (by have := hSw 0 _ rfl; rwa [Nat.add_zero] at this); clear hSw; go_simp; try rfl
      simp only [List.getElem_toArray, List.getElem_cons_zero, List.getElem_cons_succ, Act.put, List.setIfInBounds_toArray, List.set_cons_zero, List.set_cons_succ]
      refine wpAnyH_take (i := 16) (v := ?_) rfl (by kernel_rfl) (by kernel_rfl) (by kernel_rfl) (fun _ _ _ h => h) (Or.inl ⟨by rfl, ?_⟩) hHeld ?_
      rotate_left
      · intro w hSw; have c0 : w.cell? ⟨ab, ao + i * 134, none⟩ = some (.int .i64 y.n) := (by have := hSw 0 _ rfl; rwa [Nat.add_zero] at this); clear hSw; go_simp; try rfl
      simp only [List.getElem_toArray, List.getElem_cons_zero, List.getElem_cons_succ, Act.put, List.setIfInBounds_toArray, List.set_cons_zero, List.set_cons_succ]
      refine wpAnyH_take (i := 17) (v := ?_) rfl (by kernel_rfl) (by kernel_rfl) (by kernel_rfl) (fun _ _ _ h => h) (Or.inl ⟨by rfl, ?_⟩) hHeld ?_
      rotate_left
      · intro w hSw; have c0 : w.cell? ⟨ab, ao + i * 134, none⟩ = some (.int .i64 y.n) := (by have := hSw 0 _ rfl; rwa [Nat.add_zero] at this); clear hSw; go_simp; try rfl
      simp only [List.getElem_toArray, List.getElem_cons_zero, List.getElem_cons_succ, Act.put, List.setIfInBounds_toArray, List.set_cons_zero, List.set_cons_succ]
      refine wpAnyH_take (i := 18) (v := ?_) rfl (by kernel_rfl) (by kernel_rfl) (by kernel_rfl) (fun _ _ _ h => h) (Or.inl ⟨by rfl, ?_⟩) hHeld ?_
      rotate_left
      · intro w hSw; have c0 : w.cell? ⟨ab, ao + i * 134, none⟩ = some (.int .i64 y.n) := (by have := hSw 0 _ rfl; rwa [Nat.add_zero] at this); clear hSw; go_simp; try rfl
      simp only [List.getElem_toArray, List.getElem_cons_zero, List.getElem_cons_succ, Act.put, List.setIfInBounds_toArray, List.set_cons_zero, List.set_cons_succ]
      refine wpAnyH_take (i := 19) (v := ?_) rfl (by kernel_rfl) (by kernel_rfl) (by kernel_rfl) (fun _ _ _ h => h) (Or.inl ⟨by rfl, ?_⟩) hHeld ?_
      rotate_left
      · intro w hSw; have c0 : w.cell? ⟨ab, ao + i * 134, none⟩ = some (.int .i64 y.n) := (by have := hSw 0 _ rfl; rwa [Nat.add_zero] at this); clear hSw; go_simp; try rfl
      simp only [List.getElem_toArray, List.getElem_cons_zero, List.getElem_cons_succ, Act.put, List.setIfInBounds_toArray, List.set_cons_zero, List.set_cons_succ]
      refine wpAnyH_take (i := 20) (v := ?_) rfl (by kernel_rfl) (by kernel_rfl) (by kernel_rfl) (fun _ _ _ h => h) (Or.inl ⟨by rfl, ?_⟩) hHeld ?_
      rotate_left
      · intro w hSw; have c0 : w.cell? ⟨ab, ao + i * 134, none⟩ = some (.int .i64 y.n) := (by have := hSw 0 _ rfl; rwa [Nat.add_zero] at this); clear hSw; go_simp; try rfl
      simp only [List.getElem_toArray, List.getElem_cons_zero, List.getElem_cons_succ, Act.put, List.setIfInBounds_toArray, List.set_cons_zero, List.set_cons_succ]
      refine wpAnyH_take (i := 21) (v := .agg y.cells.toArray) rfl (by kernel_rfl) (by kernel_rfl) (by kernel_rfl) (fun _ _ _ h => h) (yieldsIf_load_mid (by rfl) 55 (.tmp 61) rfl ab (ao + i * 134) rfl y.cells _ (fun w h => h) uS rfl iS) hHeld ?_
      simp only [List.getElem_toArray, List.getElem_cons_zero, List.getElem_cons_succ, Act.put, List.setIfInBounds_toArray, List.set_cons_zero, List.set_cons_succ]
      refine wpAnyH_ready (rs := [10]) (by kernel_rfl) (by simp) ?_
      refine AllReadyH.cons rfl (fun K hK => ?_) AllReadyH.nil
      rw [if_pos (by rfl)]
      go_simp
      refine (HSB.out _).mono ?_
      rintro e w2 ⟨rfl, b2⟩
      refine hK.out _ _ (hKEEP _ (hB1.trans_b b2)) (fun hHeld => ?_)
      clear hK K
      refine wpAnyH_ready (rs := [11]) (by kernel_rfl) (by simp) ?_
      refine AllReadyH.cons rfl (fun K hK => ?_) AllReadyH.nil
      rw [if_pos (by rfl)]
      go_simp
      refine (HPW.out _ (hD1.below b2)).mono ?_
      rintro e w3 ⟨F3, rfl, hd3, hc3, hs3⟩
      have hu3 := hd3.under
      refine hK.out _ _ (hKEEP _ hu3) (fun hHeld => ?_)
      clear hK K
      refine wpAnyH_ready (rs := [22]) (by kernel_rfl) (by simp) ?_
      refine AllReadyH.cons rfl (fun K hK => ?_) AllReadyH.nil
      rw [if_pos (by rfl)]
      go_simp
      refine (HSB.out _).mono ?_
      rintro e w4 ⟨rfl, b4⟩
      have hu4 := hu3.trans_b b4
      refine hK.out _ _ (hKEEP _ hu4) (fun hHeld => ?_)
      clear hK K
      have hr4 := ((hR1.below b2).keep (hc3.same hapt (hGt.mono b2.size))).below b4
      refine wpAnyH_ready (rs := [23]) (by kernel_rfl) (by simp) ?_
      refine AllReadyH.cons rfl (fun K hK => ?_) AllReadyH.nil
      rw [if_pos (by rfl)]
      go_simp
      refine (rd_write y.n y.blk hyb hr4 hfew).mono ?_
      rintro e w5 ⟨G5, rfl, hr5, hc5, hs5⟩
      have hu5 : Below w.heap.size w w5 := hu4.trans_f hc5 hGo
      refine hK.out _ _ (hKEEP _ hu5) (fun hHeld => ?_)
      clear hK K
      refine wpAnyH_take (i := 24) (v := ?_) rfl (by kernel_rfl) (by kernel_rfl) (by kernel_rfl) (fun _ _ _ h => h) (Or.inl ⟨by rfl, ?_⟩) hHeld ?_
      rotate_left
      · intro w hSw; have c0 : w.cell? ⟨ab, ao + i * 134, none⟩ = some (.int .i64 y.n) := (by have := hSw 0 _ rfl; rwa [Nat.add_zero] at this); clear hSw; go_simp; try rfl
      simp only [List.getElem_toArray, List.getElem_cons_zero, List.getElem_cons_succ, Act.put, List.setIfInBounds_toArray, List.set_cons_zero, List.set_cons_succ]
      refine wpAnyH_done (by kernel_rfl) ?_ _
      have a3 : Apt F3 G := hapt.step hs3 (hGt.mono b2.size)
      have hd5 : DF w w5 F3 (.pointer (some ⟨p, 0, none⟩)) (dk.write s y.n y.blk).2 := ⟨(hd3.below b4).cd.keep (hc5.same a3.symm ((hd3.below b4).cd.there)), hu5, hd3.own⟩
      have a5 : Apt F3 G5 := (a3.symm.step hs5 ((hd3.below b4).cd.there)).symm
      have hG5 : ∀ k ∈ G5, w.heap.size ≤ k := fun k hk => (hs5 k hk).elim (hGo k) (fun e => Nat.le_trans hu4.size e)
      clear hHeld hu3 hu4 hu5 hr4 hc3 hs3 hc5 hs5 b2 b4 hd3 hD hR hD1 hR1 hGt hsF hapt a3 hrd HSB HPW hKEEP hfew iS hB1 hGo
      go_wp2_with fail
      go_roundw
      case rel => exact ⟨i + 1, _, F3, G5, by go_num, by omega, by omega, hd5, hr5, a5, hG5, HNX.out⟩
      case measure => simp [intOf]; omega
    · have hsm := HS.out.many
      have hlit := HS.out.calm.light
      have hcs : (i < n ∧ ¬ i < 60) ∨ ¬ i < n := by omega
      have b3 : Below wr.heap.size wr (wr.alloc (.cells #[.pointer (some ⟨p, 0, none⟩), .pointer (some ⟨q, 0, none⟩), .pointer none, .pointer none] 34)) := (Below.refl _ _).alloc (Nat.le_refl _) _
      have r3 := heap_alloc_new wr (.cells #[.pointer (some ⟨p, 0, none⟩), .pointer (some ⟨q, 0, none⟩), .pointer none, .pointer none] 34)
      have hFt := hD.cd.there
      have hGt := hR.there
      have hu := hD.under.size
      have hstart : DK w (wr.alloc (.cells #[.pointer (some ⟨p, 0, none⟩), .pointer (some ⟨q, 0, none⟩), .pointer none, .pointer none] 34)) wr.heap.size p q F G (.pointer none) (.pointer none) s (some false) :=
        ⟨r3, fun hm => Nat.lt_irrefl _ (hFt _ hm), fun hm => Nat.lt_irrefl _ (hGt _ hm), by omega, hD.own, hGo, hapt,
          fun k hk => by have := hFt k hk; have := b3.size; omega, hR.below b3, ⟨F, hD.below b3, fun _ h => h⟩, (fun e => by cases e), (fun e => by cases e), fun _ => ⟨rfl, rfl⟩⟩
      have HO := Lib.hid (desk_open hstart ht)
      have HAL := Lib.hid (fun W (D : Nat) F' G' jv kv bb (hW : DK w W D p q F' G' jv kv s (some bb)) => desk_alike hW hlit)
      have HSC := Lib.hid (fun W (D : Nat) F' G' jv kv bb (hW : DK w W D p q F' G' jv kv s bb) => hW.df.elim fun Fd hd => cd_steps hd.1.cd)
      have HSR := Lib.hid (fun W (D : Nat) F' G' jv kv bb (hW : DK w W D p q F' G' jv kv s bb) => rd_steps hW.rd)
      clear hlt hsm hlit b3 r3 hFt hGt hu hstart hD hR hapt hGo HS hA hl hcap hmax
      rcases hcs with ⟨hc1, hc2⟩ | hc1
      all_goals
        go_wp2_with fail
        refine HO.out.mono ?_
        rintro e w4 ⟨F4, jv4, kv4, rfl, h4, -⟩
        clear HO
        go_wp2_with fail
        refine (HAL.out _ _ _ _ _ _ _ h4).mono ?_
        rintro e w5 ⟨rfl, b5⟩
        have h5 := h4.below b5
        clear h4 b5 HAL
        go_wp2_with fail
        refine (HSC.out _ _ _ _ _ _ _ h5).mono ?_
        rintro e w6 ⟨rfl, rfl⟩
        go_wp2_with fail
        refine (HSR.out _ _ _ _ _ _ _ h5).mono ?_
        rintro e w6 ⟨rfl, rfl⟩
        go_wp2_with fail
        refine (HLV.out _ (ht.below h5.under)).mono ?_
        rintro e w6 ⟨rfl, b6⟩
        have hb := h5.under.trans (b6.mono h5.under.size)
        clear h5 b6
        go_wp2_with fail
        go_ret
        exact ⟨rfl, hb⟩
end Go.Proofs.YthddcaoolaipiaaGreatDoor

/-
  what JournalOpens is given: spots.
-/
namespace Go.Proofs.YthddcaoolaipiaaGreatDoor
open Go.ChangeShapes Go.WideShapes Go.ChangeAt Go.RowKit
theorem cells_spotT : Tryz.prog.cellsOf 55 = 134 := by kernel_rfl
theorem cells_boolT : Tryz.prog.cellsOf 4 = 1 := by kernel_rfl
theorem cells_u64T : Tryz.prog.cellsOf 50 = 1 := by kernel_rfl
theorem cells_headT : Tryz.prog.cellsOf 53 = 3 := by kernel_rfl
theorem cells_intT : Tryz.prog.cellsOf 3 = 1 := by kernel_rfl
set_option maxRecDepth 100000 in
theorem i64_rangeS {a : Int} (w : (Lit.int .i64 a).wf = true) : -9223372036854775808 ≤ a ∧ a ≤ 9223372036854775807 := by
  simpa [Lit.wf, IntKind.min, IntKind.max, IntKind.signed, IntKind.bits] using w
set_option maxRecDepth 100000 in
theorem open_headC {H : Type} {enc : TypeId × Value → H} {W : World} {fuel : Nat} {cs : List Value} {x : DataW H × List MemPlace} (h : DataW.trod enc Tryz.prog W 0 (fun _ => true) true fuel 53 cs = some x) :
    ∃ k : hd.H, cs = hd.cells k ∧ k.Ok := by
  obtain ⟨xs, n', _, _, hcl, hxl, hfx⟩ := DataW.trod_struct Tryz.underlying53 h
  rw [cells_headT] at hcl
  have hx2 : xs.length = 3 := hxl
  match xs, hx2, cs, hcl with
  | [x0, x1, x2], _, [c0, c1, c2], _ =>
    have f0 : DataW.trod enc Tryz.prog W 0 (fun _ => true) true n' 5 [c0] = some x0 := hfx 0 _ rfl
    have f1 : DataW.trod enc Tryz.prog W 0 (fun _ => true) true n' 51 [c1] = some x1 := hfx 1 _ rfl
    have f2 : DataW.trod enc Tryz.prog W 0 (fun _ => true) true n' 51 [c2] = some x2 := hfx 2 _ rfl
    obtain ⟨z0, h0, _, w0⟩ := DataW.trod_int Tryz.underlying5 f0
    obtain ⟨z1, h1, _, w1⟩ := DataW.trod_int Tryz.underlying51 f1
    obtain ⟨z2, h2, _, w2⟩ := DataW.trod_int Tryz.underlying51 f2
    obtain ⟨y, hy⟩ := byte_of_wf' w0
    obtain ⟨m1, rfl, n1⟩ := u32_nat w1
    obtain ⟨m2, rfl, n2⟩ := u32_nat w2
    simp only [List.cons.injEq, and_true] at h0 h1 h2
    refine ⟨⟨y, m1, m2⟩, ?_, n1, n2⟩
    rw [h0, h1, h2, hy]
set_option maxRecDepth 100000 in
theorem open_spot {H : Type} {enc : TypeId × Value → H} {W : World} {fuel : Nat} {cs : List Value} {x : DataW H × List MemPlace} (h : DataW.trod enc Tryz.prog W 0 (fun _ => true) true fuel 55 cs = some x) :
    ∃ y : SC, cs = y.cells ∧ y.Ok := by
  obtain ⟨xs, n', _, _, hcl, hxl, hfx⟩ := DataW.trod_struct Tryz.underlying55 h
  rw [cells_spotT] at hcl
  have f0 : DataW.trod enc Tryz.prog W 0 (fun _ => true) true n' 3 ((cs.drop 0).take (Tryz.prog.cellsOf 3)) = xs[0]? := hfx 0 _ rfl
  have f1 : DataW.trod enc Tryz.prog W 0 (fun _ => true) true n' 43 ((cs.drop 1).take (Tryz.prog.cellsOf 43)) = xs[1]? := hfx 1 _ rfl
  have f2 : DataW.trod enc Tryz.prog W 0 (fun _ => true) true n' 4 ((cs.drop 129).take (Tryz.prog.cellsOf 4)) = xs[2]? := hfx 2 _ rfl
  have f3 : DataW.trod enc Tryz.prog W 0 (fun _ => true) true n' 50 ((cs.drop 130).take (Tryz.prog.cellsOf 50)) = xs[3]? := hfx 3 _ rfl
  have f4 : DataW.trod enc Tryz.prog W 0 (fun _ => true) true n' 53 ((cs.drop 131).take (Tryz.prog.cellsOf 53)) = xs[4]? := hfx 4 _ rfl
  have hx2 : xs.length = 5 := hxl
  rw [cells_intT, List.getElem?_eq_getElem (by omega)] at f0
  rw [cells_blk, List.getElem?_eq_getElem (by omega)] at f1
  rw [cells_boolT, List.getElem?_eq_getElem (by omega)] at f2
  rw [cells_u64T, List.getElem?_eq_getElem (by omega)] at f3
  rw [cells_headT, List.getElem?_eq_getElem (by omega)] at f4
  obtain ⟨z0, h0, _, w0⟩ := DataW.trod_int Tryz.underlying3 f0
  obtain ⟨b, hb, hcb⟩ := open_blk f1
  obtain ⟨q2, h2, _⟩ := DataW.trod_bool (P := Tryz.prog) (by kernel_rfl) f2
  obtain ⟨z3, h3, _, w3⟩ := DataW.trod_int Tryz.underlying50 f3
  obtain ⟨k, hk, hok⟩ := open_headC f4
  obtain ⟨m3, rfl, n3⟩ := u64_nat' w3
  refine ⟨⟨z0, b, q2, m3, k⟩, ?_, hb, i64_rangeS w0, n3, hok⟩
  have e : cs = (cs.drop 0).take 1 ++ ((cs.drop 1).take 128 ++ ((cs.drop 129).take 1 ++ ((cs.drop 130).take 1 ++ (cs.drop 131).take 3))) := by
    have e4 : (cs.drop 131).take 3 = cs.drop 131 := List.take_of_length_le (by rw [List.length_drop]; omega)
    have g : ∀ a k : Nat, (cs.drop a).take k ++ cs.drop (a + k) = cs.drop a := fun a k => by rw [← List.drop_drop, List.take_append_drop]
    rw [e4, g 130 1, g 129 1, g 1 128, g 0 1, List.drop_zero]
  rw [e, h0, hcb, h2, h3, hk]
  simp [SC.cells]
set_option maxRecDepth 100000 in
theorem open_spots {H : Type} {enc : TypeId × Value → H} {W : World} {base : Nat} {v : Value} {d : DataW H} {ps : List MemPlace}
    (hval : Value.okWide Tryz.prog W .any base 48 v) (h : DataW.Trod enc Tryz.prog W 0 (fun _ => true) true 48 v d ps) :
    ∃ A n c l, v = .slice A n c ∧ SS W A n c l := by
  obtain ⟨a0, len, cap, rfl⟩ := okWide_slice Tryz.underlying48 hval
  obtain ⟨fuel, hf⟩ := h
  rcases Deep.open_slice Tryz.underlying48 hf with ⟨hcs, hx⟩ | ⟨a, len', cap', m, n, D, Pl, hcs, _, hl, hm, hmm, hx, hr⟩
  · simp [Value.cells] at hcs
    obtain ⟨rfl, rfl, rfl⟩ := hcs
    exact ⟨none, 0, 0, [], rfl, rfl, Nat.le_refl _, by omega, by simp, fun h => absurd h (by omega)⟩
  · simp [Value.cells] at hcs
    obtain ⟨rfl, rfl, rfl⟩ := hcs
    simp only [if_true] at hmm
    have hmm' := hmm.symm
    subst hmm'
    rw [maxLen_eq] at hm
    have each : ∀ i, i < len → ∃ y : SC, y.Ok ∧ W.cells? 0 (a.add (i * 134)) 134 = some y.cells := fun i hi => by
      obtain ⟨cs', h1, h2⟩ := hr i (by omega)
      rw [cells_spotT] at h1
      obtain ⟨y, rfl, hy⟩ := open_spot h2
      exact ⟨y, hy, h1⟩
    obtain ⟨Y, hY⟩ := Deep.choose_lt each
    refine ⟨some a, len, cap, (List.range len).map Y, rfl, by simp, hl, hm, fun x hx => ?_, fun h0 => ?_⟩
    · obtain ⟨i, hi, rfl⟩ := List.mem_map.1 hx
      exact (hY i (List.mem_range.1 hi)).1
    · obtain ⟨b, o, ha, hbl, _, _⟩ := cells_spot (by omega) (hY 0 h0).2
      rw [Nat.zero_mul] at ha
      have ha0 : a = ⟨b, o, none⟩ := by
        have : a.add 0 = a := by simp [Addr.add]
        rw [← this]; exact ha
      subst ha0
      refine ⟨b, o, rfl, hbl, fun i hi => ?_⟩
      have hi' : i < len := by simpa using hi
      obtain ⟨b2, o2, ha2, _, hlen2, hc2⟩ := cells_spot (by omega) (hY i hi').2
      rw [Addr.add_lit] at ha2
      injection ha2 with e1 e2
      subst e1 e2
      simp only [List.getElem_map, List.getElem_range]
      intro j u hj
      have hj' : j < 134 := by
        have := (List.getElem?_eq_some_iff.1 hj).1
        rwa [SC.length (hY i hi').1] at this
      rw [hc2 j hj']
      exact hj
end Go.Proofs.YthddcaoolaipiaaGreatDoor

/-
  the tables that a row lists (crc's of four bits; head's of sizes, where there is one): what the row's list gives, and a world for the witness.
-/
namespace Go.Proofs.YthddcaoolaipiaaGreatDoor.laid
open Go.ChangeShapes Go.WideShapes Go.ChangeAt Go.RowKit

theorem four : Tryz.prog.globalNamed "cardex/crc.fourOn" = some 1 := by kernel_rfl
theorem fourType : (Tryz.prog.globals[1]?).map (·.type) = some 155 := by kernel_rfl
theorem fourCells : Tryz.prog.cellsOf 155 = 16 := by kernel_rfl
theorem wordCells : Tryz.prog.cellsOf 51 = 1 := by kernel_rfl
def words : List Int := [0, 274646895, 549293790, 820201905, 1098587580, 1361435347, 1640403810, 1905808397, 2197175160, 2460548119, 2722870694, 2987750089, 3280807620, 3553878443, 3811616794, 4084100981]
theorem words_on : ∀ i : Fin 16, words.getD i.val 0 = ((crc.on 4 (BitVec.ofNat 32 i.val)).toNat : Int) := by decide +kernel
/-- a variable that is listed, wherever it stands on the list, reads as its datum -/
theorem reads_of {P : Program} {w : World} : ∀ {l : List (String × DataW Unit)} {ps : List MemPlace}, DataW.LaidVars P w l ps → ∀ n d, (n, d) ∈ l →
    ∃ g t cs fuel p, P.globalNamed n = some g ∧ (P.globals[g]?).map (·.type) = some t ∧ w.var? P n = some cs ∧ DataW.trod (fun _ => ()) P w 0 (fun _ => true) false fuel t cs.toList = some (d, p)
  | [], _, _, _, _, hm => by cases hm
  | (n', d') :: r, ps, h, n, d, hm => by
    obtain ⟨g, t, cs, fuel, p, q, h1, h2, h3, h4, h5, _⟩ := h
    rcases List.mem_cons.1 hm with e | e
    · cases e
      exact ⟨g, t, cs, fuel, p, h1, h2, h3, h4⟩
    · exact reads_of h5 n d e
theorem tab_of {P : Program} {W : World} {l : List (String × DataW Unit)} {name : String} {k : IntKind} {zs : List Int} {g : Nat} {t e : TypeId} {n : Nat}
    (hg : P.globalNamed name = some g) (hty : (P.globals[g]?).map (·.type) = some t) (ht : P.underlying t = some (.array n e)) (he : P.underlying e = some (.int k)) (hce : P.cellsOf e = 1) (hct : P.cellsOf t = n)
    (h : laidMet P l W) (hm : (name, Lib.tabData k zs) ∈ l) : Lib.TabIs P W name k zs := by
  obtain ⟨ps, hv, _⟩ := h
  obtain ⟨g', t', cs, fuel, p, hg', ht', hvar, hd⟩ := reads_of hv _ _ hm
  obtain rfl := Option.some.inj (hg.symm.trans hg')
  obtain rfl := Option.some.inj (hty.symm.trans ht')
  unfold Lib.TabIs
  rw [hvar, ← Lib.cells_of_tab ht he hce hct hd]
theorem tab1 {W : World} {l : List (String × DataW Unit)} (h : laidMet Tryz.prog l W) (hm : ("cardex/crc.fourOn", Lib.tabData .u32 words) ∈ l) : Tab W := by
  have ht : Lib.TabIs Tryz.prog W "cardex/crc.fourOn" .u32 words :=
    tab_of four fourType Tryz.underlying155 Tryz.underlying51 wordCells fourCells h hm
  have hc : ∀ i, i < 16 → W.cell? ⟨1, i, none⟩ = some (wv (crc.on 4 (BitVec.ofNat 32 i))) := fun i hi => by
    rw [ht.cell four i (by simpa [words] using hi)]
    have := words_on ⟨i, hi⟩
    simp only at this
    rw [this]
  exact ⟨World.block_lt_of_cell? _ _ (hc 0 (by omega)), hc⟩
theorem siz : Tryz.prog.globalNamed "cardex/head.sizes" = some 0 := by kernel_rfl
theorem sizType : (Tryz.prog.globals[0]?).map (·.type) = some 148 := by kernel_rfl
theorem sizCells : Tryz.prog.cellsOf 148 = 3 := by kernel_rfl
theorem intCells : Tryz.prog.cellsOf 3 = 1 := by kernel_rfl
def sizes : List Int := [1, 4, 4]
theorem tab2 {W : World} {l : List (String × DataW Unit)} (h : laidMet Tryz.prog l W) (hm : ("cardex/head.sizes", Lib.tabData .i64 sizes) ∈ l) : Siz W := by
  have ht : Lib.TabIs Tryz.prog W "cardex/head.sizes" .i64 sizes :=
    tab_of siz sizType Tryz.underlying148 Tryz.underlying3 intCells sizCells h hm
  have h0 := ht.cell siz 0 (by simp [sizes])
  exact ⟨World.block_lt_of_cell? _ _ h0, h0, ht.cell siz 1 (by simp [sizes]), ht.cell siz 2 (by simp [sizes])⟩
def listed : List (String × DataW Unit) := [("cardex/crc.fourOn", Rows.laid_cardex_crc_fourOn), ("cardex/head.sizes", Rows.laid_cardex_head_sizes)]
theorem tab {W : World} (h : laidMetH Tryz.prog listed W) : Tabs W := ⟨tab1 (l := listed) h (.head _), tab2 (l := listed) h (.tail _ (.head _))⟩
/-- a world for the witness: the settled one, with the tables as their initialisers lay them -/
def lay (vs : List Value) : Obj → Obj
  | .cells _ t frozen => .cells vs.toArray t frozen
  | o => o
noncomputable def world (os : Os) : World :=
  { World.holding Tryz.prog os ⟨#[], #[], []⟩ with heap := ((World.holding Tryz.prog os ⟨#[], #[], []⟩).heap.modify 1 (lay (words.map fun z => Value.int .u32 z))).modify 0 (lay (sizes.map fun z => Value.int .i64 z)) }
end Go.Proofs.YthddcaoolaipiaaGreatDoor.laid
