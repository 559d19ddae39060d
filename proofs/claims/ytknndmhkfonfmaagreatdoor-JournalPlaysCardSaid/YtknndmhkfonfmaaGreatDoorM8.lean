/-
  cardexlaw07: a journal on a disk, and the document's (desk): open, alike.
-/
import Derived.Test.YtknndmhkfonfmaaGreatDoorM7
namespace Go.Proofs.YtknndmhkfonfmaaGreatDoor
open Go.RowKit
section
variable {w w1 w2 w3 : World} {F F' G G' H : List Nat}
/-- two calls, one behind the other, each of which changes its own -/
theorem desk_two (hb : Below w.heap.size w w1) (hG : Ther w G) (hA : Apt F G) (c1 : Chg w1 w2 F) (u1 : Sub w1 F' F) (hF' : Ther w2 F') (c2 : Chg w2 w3 G) (u2 : Sub w2 G' G) (hFH : ∀ k ∈ F, k ∈ H) (hGH : ∀ k ∈ G, k ∈ H) :
    Same w2 w3 F' ∧ Apt F' G' ∧ Chg w w3 H ∧ Sub w F' H ∧ Sub w G' H := by
  have hG1 : Ther w1 G := hG.mono hb.size
  have a1 : Apt F' G := hA.step u1 hG1
  have sF : Sub w F H := fun k hk => .inl (hFH k hk)
  have sG : Sub w G H := fun k hk => .inl (hGH k hk)
  refine ⟨c2.same a1.symm hF', (a1.symm.step u2 hF').symm, ?_, ?_, ?_⟩
  · exact ((Chg.of_below hb H).trans c1 sF).trans c2 sG
  · exact u1.trans sF hb.size
  · exact u2.trans sG (Nat.le_trans hb.size c1.size)
end
theorem rd_same {w w' : World} {G : List Nat} {a b : Nat} {s s' : dk.St} (h : RD w G (.pointer (some ⟨a, 0, none⟩)) s) (h' : RD w' G (.pointer (some ⟨b, 0, none⟩)) s') : a = b := by
  obtain ⟨p, g, c, r, v, e, hG, _⟩ := h
  obtain ⟨p', g', c', r', v', e', hG', _⟩ := h'
  injection e with e; injection e with e; injection e with e
  injection e' with e'; injection e' with e'; injection e' with e'
  rw [hG] at hG'
  simp only [dk.fp, List.cons.injEq] at hG'
  omega
/-- the document's journal on the document's disk, whose blocks are G; its own block is not in F -/
def RK (w0 w : World) (F G : List Nat) (k : Value) (q : Nat) : Prop := ∃ x, k = .pointer (some ⟨x, 0, none⟩) ∧ w.heap[x]? = some (.cells #[.pointer (some ⟨q, 0, none⟩)] 89 (0, 0)) ∧ x ∉ F ∧ x ∉ G ∧ w0.heap.size ≤ x
/-- THE DESK -/
structure DK (w0 w : World) (D p q : Nat) (F G : List Nat) (jv kv : Value) (s : dk.St) (b : Option Bool) : Prop where
  cell : w.heap[D]? = some (.cells #[.pointer (some ⟨p, 0, none⟩), .pointer (some ⟨q, 0, none⟩), jv, kv] 34 (0, 0))
  dF : D ∉ F
  dG : D ∉ G
  at_ : w0.heap.size ≤ D
  ownF : ∀ k ∈ F, w0.heap.size ≤ k
  ownG : ∀ k ∈ G, w0.heap.size ≤ k
  apt : Apt F G
  thF : Ther w F
  rd : RD w G (.pointer (some ⟨q, 0, none⟩)) s
  df : ∃ Fd, DF w0 w Fd (.pointer (some ⟨p, 0, none⟩)) s ∧ ∀ k ∈ Fd, k ∈ F
  prog : b = some true → JF w0 w F (.pointer (some ⟨p, 0, none⟩)) jv s
  docu : b = some true → RK w0 w F G kv q
  no : b = some false → jv = .pointer none ∧ kv = .pointer none
variable {w0 w w' : World} {D p q : Nat} {F G : List Nat} {jv kv : Value} {s : dk.St} {b : Option Bool}
theorem RK.below (h : RK w0 w F G kv q) (hb : Below w.heap.size w w') : RK w0 w' F G kv q := by
  obtain ⟨x, e, h1, h2⟩ := h
  exact ⟨x, e, (hb.block x (Array.getElem?_eq_some_iff.1 h1).1).trans h1, h2⟩
theorem RK.rj (h : RK w0 w F G kv q) (hr : RD w G (.pointer (some ⟨q, 0, none⟩)) s) : RJ w G kv s := by
  obtain ⟨x, rfl, h1, _, h3, _⟩ := h
  exact RJ.of h1 h3 hr
theorem RK.of_rj (h : RJ w G kv s) (hr : RD w G (.pointer (some ⟨q, 0, none⟩)) s) (hF : ∀ x, kv = .pointer (some ⟨x, 0, none⟩) → x ∉ F ∧ w0.heap.size ≤ x) : RK w0 w F G kv q := by
  obtain ⟨x, p', rfl, h1, h2, h3⟩ := h
  obtain rfl := rd_same hr h3
  obtain ⟨h4, h5⟩ := hF x rfl
  exact ⟨x, rfl, h1, h4, h2, h5⟩
namespace DK
theorem lt (h : DK w0 w D p q F G jv kv s b) : D < w.heap.size := (Array.getElem?_eq_some_iff.1 h.cell).1
theorem thG (h : DK w0 w D p q F G jv kv s b) : Ther w G := h.rd.there
theorem under (h : DK w0 w D p q F G jv kv s b) : Below w0.heap.size w0 w := h.df.elim fun _ h => h.1.under
theorem ok (h : DK w0 w D p q F G jv kv s b) : s.Ok := h.rd.ok
theorem below (h : DK w0 w D p q F G jv kv s b) (hb : Below w.heap.size w w') : DK w0 w' D p q F G jv kv s b :=
  ⟨(hb.block D h.lt).trans h.cell, h.dF, h.dG, h.at_, h.ownF, h.ownG, h.apt, h.thF.mono hb.size, h.rd.below hb, h.df.elim fun Fd hd => ⟨Fd, hd.1.below hb, hd.2⟩, fun e => (h.prog e).below hb, fun e => (h.docu e).below hb, h.no⟩
theorem c0 (h : DK w0 w D p q F G jv kv s b) : w.cell? ⟨D, 0, none⟩ = some (.pointer (some ⟨p, 0, none⟩)) := by rw [cell_of_row _ _ 0 _ _ _ h.cell]; rfl
theorem c1 (h : DK w0 w D p q F G jv kv s b) : w.cell? ⟨D, 1, none⟩ = some (.pointer (some ⟨q, 0, none⟩)) := by rw [cell_of_row _ _ 1 _ _ _ h.cell]; rfl
theorem c2 (h : DK w0 w D p q F G jv kv s b) : w.cell? ⟨D, 2, none⟩ = some jv := by rw [cell_of_row _ _ 2 _ _ _ h.cell]; rfl
theorem c3 (h : DK w0 w D p q F G jv kv s b) : w.cell? ⟨D, 3, none⟩ = some kv := by rw [cell_of_row _ _ 3 _ _ _ h.cell]; rfl
end DK
/-- the journals are put down -/
theorem desk_set {w3 : World} {F2 : List Nat} {jv' kv' : Value} {b' : Option Bool} (hcell : w3.heap[D]? = some (.cells #[.pointer (some ⟨p, 0, none⟩), .pointer (some ⟨q, 0, none⟩), jv, kv] 34 (0, 0))) (dF : D ∉ F2) (dG : D ∉ G) (hat : w0.heap.size ≤ D)
    (ownF : ∀ k ∈ F2, w0.heap.size ≤ k) (ownG : ∀ k ∈ G, w0.heap.size ≤ k) (apt : Apt F2 G) (thF : Ther w3 F2) (rd : RD w3 G (.pointer (some ⟨q, 0, none⟩)) s) (df : ∃ Fd, DF w0 w3 Fd (.pointer (some ⟨p, 0, none⟩)) s ∧ ∀ k ∈ Fd, k ∈ F2)
    (prog : b' = some true → JF w0 w3 F2 (.pointer (some ⟨p, 0, none⟩)) jv' s) (docu : b' = some true → RK w0 w3 F2 G kv' q) (no : b' = some false → jv' = .pointer none ∧ kv' = .pointer none) :
    DK w0 ((w3.setCell ⟨D, 2, none⟩ jv').setCell ⟨D, 3, none⟩ kv') D p q F2 G jv' kv' s b' := by
  have hc : Chg w3 ((w3.setCell ⟨D, 2, none⟩ jv').setCell ⟨D, 3, none⟩ kv') [D] := (Chg.setCell _ _ _ _).trans (Chg.setCell _ _ _ _) (Sub.refl _ _)
  obtain ⟨Fd, hd, hFd⟩ := df
  have hunder : Below w0.heap.size w0 ((w3.setCell ⟨D, 2, none⟩ jv').setCell ⟨D, 3, none⟩ kv') := ((Chg.of_below hd.under [D]).trans hc (Sub.refl _ _)).below (Nat.le_refl _) (fun k hk => by rw [List.mem_singleton.1 hk]; exact hat)
  have hsame : ∀ {L : List Nat}, D ∉ L → Ther w3 L → Same w3 ((w3.setCell ⟨D, 2, none⟩ jv').setCell ⟨D, 3, none⟩ kv') L := fun hD hT k hk => hc.block k (hT k hk) (fun hm => hD (by rw [← List.mem_singleton.1 hm]; exact hk))
  refine ⟨?_, dF, dG, hat, ownF, ownG, apt, thF.mono hc.size, rd.keep (hsame dG rd.there), ⟨Fd, ⟨hd.cd.keep (hsame (fun hm => dF (hFd _ hm)) (fun k hk => thF k (hFd k hk))), hunder, hd.own⟩, hFd⟩, fun e => (prog e).keep hunder hc.size (hsame dF thF), fun e => ?_, no⟩
  · have h1 := block_set (i := 2) hcell jv'
    have h2 := block_set (i := 3) h1 kv'
    exact h2.trans (by simp)
  · obtain ⟨x, rfl, h1, h2⟩ := docu e
    have hxD : x ≠ D := fun e => by
      rw [e, hcell] at h1
      injection h1 with h1
      injection h1 with h1
      have := congrArg Array.size h1
      simp at this
    exact ⟨x, rfl, (hc.block x (Array.getElem?_eq_some_iff.1 h1).1 (fun hm => hxD (List.mem_singleton.1 hm))).trans h1, h2⟩
/-- one call of the program's, one of the document's: the desk behind them -/
theorem desk_mid {w1 : World} (h : DK w0 w D p q F G jv kv s b) (c1 : Chg w w1 F) : RD w1 G (.pointer (some ⟨q, 0, none⟩)) s := h.rd.keep (c1.same h.apt h.thG)
theorem desk_step {w1 w2 : World} {F1 G2 : List Nat} {s1 : dk.St} {b' : Option Bool} (h : DK w0 w D p q F G jv kv s b) (c1 : Chg w w1 F) (u1 : Sub w F1 F) (t1 : Ther w1 F1) (df1 : ∃ Fd, DF w0 w1 Fd (.pointer (some ⟨p, 0, none⟩)) s1 ∧ ∀ k ∈ Fd, k ∈ F1)
    (pr1 : b' = some true → JF w0 w1 F1 (.pointer (some ⟨p, 0, none⟩)) jv s1) (hb' : b' = b ∨ b' = none) (c2 : Chg w1 w2 G) (u2 : Sub w1 G2 G) (r2 : RD w2 G2 (.pointer (some ⟨q, 0, none⟩)) s1) : DK w0 w2 D p q F1 G2 jv kv s1 b' := by
  obtain ⟨sF, aFG, cH, sF2, sG2⟩ := desk_two (H := F ++ G) (Below.refl w.heap.size w) h.thG h.apt c1 u1 t1 c2 u2 (fun k hk => List.mem_append_left _ hk) (fun k hk => List.mem_append_right _ hk)
  have hDH : D ∉ F ++ G := fun hm => (List.mem_append.1 hm).elim h.dF h.dG
  obtain ⟨Fd, hd, hFd⟩ := df1
  have hunder : Below w0.heap.size w0 w2 := ((Chg.of_below h.under (F ++ G)).trans cH (Sub.refl _ _)).below (Nat.le_refl _) (fun k hk => (List.mem_append.1 hk).elim (h.ownF k) (h.ownG k))
  have hlt := h.lt
  have hs1 := c1.size
  refine ⟨(cH.block D hlt hDH).trans h.cell, fun hm => (u1 D hm).elim h.dF (fun e => by omega), fun hm => (u2 D hm).elim h.dG (fun e => by omega), h.at_, fun k hk => (u1 k hk).elim (h.ownF k) (fun e => Nat.le_trans h.under.size e),
    fun k hk => (u2 k hk).elim (h.ownG k) (fun e => Nat.le_trans h.under.size (Nat.le_trans c1.size e)), aFG, t1.mono c2.size, r2, ⟨Fd, ⟨hd.cd.keep (fun k hk => sF k (hFd k hk)), hunder, hd.own⟩, hFd⟩, fun e => (pr1 e).keep hunder c2.size sF, fun e => ?_, fun e => ?_⟩
  · rcases hb' with rfl | rfl
    · obtain ⟨x, rfl, h1, h2, h3, h4⟩ := h.docu e
      have hx := (Array.getElem?_eq_some_iff.1 h1).1
      exact ⟨x, rfl, (cH.block x hx (fun hm => (List.mem_append.1 hm).elim h2 h3)).trans h1, fun hm => (u1 x hm).elim h2 (fun e => by omega), fun hm => (u2 x hm).elim h3 (fun e => by omega), h4⟩
    · cases e
  · rcases hb' with rfl | rfl
    · exact h.no e
    · cases e
set_option maxHeartbeats 4000000 in
set_option maxRecDepth 100000 in
theorem desk_open (h : DK w0 w D p q F G jv kv s b) (ht : Tabs w0) : Calls Tryz.prog 12 #[.pointer (some ⟨D, 0, none⟩)] w fun e w' =>
    ∃ F' jv' kv', e = .returned (.bool true) ∧ DK w0 w' D p q F' G jv' kv' s (some (decide (jn.opens s = 0))) ∧ Chg w w' [D] := by
  obtain ⟨Fd, hdf, hFd⟩ := h.df
  have k0 := h.c0
  have k1 := h.c1
  have HO := Lib.hid (jf_open hdf ht)
  have hcell := h.cell
  have hlt := h.lt
  have hthG := h.thG
  have H0 := Lib.hid h
  by_cases hr : jn.opens s = 0
  · rw [decide_eq_true hr]
    rw [hr] at HO
    have HR := Lib.hid hr
    clear hr
    go_enter Tryz.func12, Tryz.ntmps12
    go_wp2_with fail
    refine HO.out.mono ?_
    rintro e w2 ⟨v, F2, rfl, hj, -, b2, s2⟩
    have hj := hj trivial
    obtain ⟨jq, rfl⟩ := hj.form
    have h2 := (h.below b2).rd
    have ho := rj_open h2
    rw [HR.out] at ho
    have HO2 := Lib.hid ho
    have k1' : w2.cell? ⟨D, 1, none⟩ = some (.pointer (some ⟨q, 0, none⟩)) := (b2.cell (p := ⟨D, 1, none⟩) hlt).trans k1
    clear ho
    go_wp2_with fail
    refine HO2.out.mono ?_
    rintro e w3 ⟨v3, rfl, hk, -, b3, hnew⟩
    have hk := hk trivial
    have hform : ∃ x, v3 = .pointer (some ⟨x, 0, none⟩) := by obtain ⟨x, _, e, _⟩ := hk; exact ⟨x, e⟩
    obtain ⟨kq, rfl⟩ := hform
    have hkq := hnew kq rfl
    have b23 := b2.trans (b3.mono b2.size)
    have h3 := h.below b23
    have hj3 := hj.below b3
    have e2 := h3.c2
    have e3 := h3.c3
    have f2 : w3.frozen? ⟨D, 2, none⟩ = false := by simp [World.frozen?, h3.cell]
    have f3 : w3.frozen? ⟨D, 3, none⟩ = false := by simp [World.frozen?, h3.cell]
    have hF2 : ∀ k ∈ F2, k ∈ F ∨ w.heap.size ≤ k := fun k hk => (s2 k hk).imp (hFd k) id
    have hDF2 : D ∉ F2 := fun hm => (hF2 D hm).elim h.dF (fun e => by omega)
    have hfin := desk_set (b' := some true) (jv' := .pointer (some ⟨jq, 0, none⟩)) (kv' := .pointer (some ⟨kq, 0, none⟩)) h3.cell hDF2 h.dG h.at_ (fun k hk => (hF2 k hk).elim (h.ownF k) (fun e => Nat.le_trans h.under.size e)) h.ownG
      (fun k hk hg => (hF2 k hk).elim (fun e => h.apt k e hg) (fun e => by have := hthG k hg; omega)) hj3.there h3.rd hj3.df (fun _ => hj3) (fun _ => RK.of_rj hk h3.rd (fun x e => by
        injection e with e; injection e with e; injection e with e
        subst e
        exact ⟨fun hm => by have := hj.there _ hm; omega, by have := h.under.size; have := b2.size; omega⟩)) (fun e => by cases e)
    have HFIN := Lib.hid hfin
    have hch : Chg w ((w3.setCell ⟨D, 2, none⟩ (.pointer (some ⟨jq, 0, none⟩))).setCell ⟨D, 3, none⟩ (.pointer (some ⟨kq, 0, none⟩))) [D] := (Chg.of_below b23 [D]).trans ((Chg.setCell _ _ _ _).trans (Chg.setCell _ _ _ _) (Sub.refl _ _)) (Sub.refl _ _)
    have HCH := Lib.hid hch
    clear hch h3 hfin hj hj3 hk hnew b23 HO2 HO hcell k1 k0
    go_wp2_with fail
    go_ret
    exact ⟨F2, _, _, rfl, HFIN.out, HCH.out⟩
  · rw [decide_eq_false hr]
    obtain ⟨r, hre⟩ : ∃ r, jn.opens s = r := ⟨_, rfl⟩
    rw [hre] at HO hr
    have HR := Lib.hid hre
    have HR0 := Lib.hid hr
    have hne : (r == 0) = false := by simpa using hr
    clear hr hre
    go_enter Tryz.func12, Tryz.ntmps12
    go_wp2_with fail
    refine HO.out.mono ?_
    rintro e w2 ⟨v, F2, rfl, -, hv, b2, -⟩
    obtain rfl := hv HR0.out
    have h2 := (h.below b2).rd
    have ho := rj_open h2
    rw [HR.out] at ho
    have HO2 := Lib.hid ho
    have k1' : w2.cell? ⟨D, 1, none⟩ = some (.pointer (some ⟨q, 0, none⟩)) := (b2.cell (p := ⟨D, 1, none⟩) hlt).trans k1
    clear ho hv
    go_wp2_with fail
    refine HO2.out.mono ?_
    rintro e w3 ⟨v3, rfl, -, hk, b3, -⟩
    obtain rfl := hk HR0.out
    have b23 := b2.trans (b3.mono b2.size)
    have h3 := h.below b23
    have e2 := h3.c2
    have e3 := h3.c3
    have f2 : w3.frozen? ⟨D, 2, none⟩ = false := by simp [World.frozen?, h3.cell]
    have f3 : w3.frozen? ⟨D, 3, none⟩ = false := by simp [World.frozen?, h3.cell]
    have hfin := desk_set (b' := some false) (jv' := .pointer none) (kv' := .pointer none) h3.cell (fun hm => h.dF (hFd _ hm)) h.dG h.at_ (fun k hk => h.ownF k (hFd k hk)) h.ownG
      (fun k hk hg => h.apt k (hFd k hk) hg) (fun k hk => h3.thF k (hFd k hk)) h3.rd ⟨Fd, hdf.below b23, fun _ hk => hk⟩ (fun e => by cases e) (fun e => by cases e) (fun _ => ⟨rfl, rfl⟩)
    have HFIN := Lib.hid hfin
    have hch : Chg w ((w3.setCell ⟨D, 2, none⟩ (.pointer none)).setCell ⟨D, 3, none⟩ (.pointer none)) [D] := (Chg.of_below b23 [D]).trans ((Chg.setCell _ _ _ _).trans (Chg.setCell _ _ _ _) (Sub.refl _ _)) (Sub.refl _ _)
    have HCH := Lib.hid hch
    clear hch h3 hfin hk b23 HO2 HO hcell k1 k0
    go_wp2_with fail
    go_ret
    exact ⟨Fd, _, _, rfl, HFIN.out, HCH.out⟩
set_option maxHeartbeats 4000000 in
set_option maxRecDepth 100000 in
theorem desk_alike {b : Bool} (h : DK w0 w D p q F G jv kv s (some b)) (hl : s.black = false) : Calls Tryz.prog 13 #[.pointer (some ⟨D, 0, none⟩)] w fun e w' => e = .returned (.bool true) ∧ Below w.heap.size w w' := by
  have k2 := h.c2
  have k3 := h.c3
  cases b with
  | false =>
    obtain ⟨rfl, rfl⟩ := h.no rfl
    go_enter Tryz.func13, Tryz.ntmps13
    go_wp2_with fail
    go_ret
    exact ⟨rfl, Below.refl _ _⟩
  | true =>
    obtain ⟨jq, rfl⟩ := (h.prog rfl).form
    obtain ⟨kq, rfl, -⟩ := h.docu rfl
    have hkk := (hd.newest_may (jn.rd s 0) (jn.rd s 1))
    have hkk := hd.may_Ok hkk
    rw [show hd.newest (jn.rd s 0) (jn.rd s 1) = jn.newest s from rfl] at hkk
    have hE := fun W => eq_head (jn.newest s).2.1 (jn.newest s).2.1 hkk hkk W
    simp only [decide_true] at hE
    go_enter Tryz.func13, Tryz.ntmps13
    go_wp2_with fail
    have hD1 : DK w0 w.drew D p q F G (.pointer (some ⟨jq, 0, none⟩)) (.pointer (some ⟨kq, 0, none⟩)) s (some true) := h.below ((Below.refl _ _).drew)
    clear k2 k3
    refine wp_region_held_drew (S := fun W => W.heap[D]? = some (.cells #[.pointer (some ⟨p, 0, none⟩), .pointer (some ⟨q, 0, none⟩), .pointer (some ⟨jq, 0, none⟩), .pointer (some ⟨kq, 0, none⟩)] 34 (0, 0))) (by kernel_rfl) hD1.cell (fun hHeld => ?_)
    refine wpAnyH_take (i := 0) (v := ?_) rfl (by kernel_rfl) (by kernel_rfl) (by kernel_rfl) (fun _ _ _ h => h) (Or.inl ⟨by rfl, ?_⟩) hHeld ?_
    rotate_left
    · intro w hSw; have c2 := (cell_of_row _ _ 2 _ _ _ hSw).trans (by rfl : _ = some (.pointer (some ⟨jq, 0, none⟩))); have c3 := (cell_of_row _ _ 3 _ _ _ hSw).trans (by rfl : _ = some (.pointer (some ⟨kq, 0, none⟩))); clear hSw; go_simp; try rfl
    simp only [List.getElem_toArray, List.getElem_cons_zero, Act.put, List.setIfInBounds_toArray, List.set_cons_zero, List.set_cons_succ]
    refine wpAnyH_take (i := 1) (v := ?_) rfl (by kernel_rfl) (by kernel_rfl) (by kernel_rfl) (fun _ _ _ h => h) (Or.inl ⟨by rfl, ?_⟩) hHeld ?_
    rotate_left
    · intro w hSw; have c2 := (cell_of_row _ _ 2 _ _ _ hSw).trans (by rfl : _ = some (.pointer (some ⟨jq, 0, none⟩))); have c3 := (cell_of_row _ _ 3 _ _ _ hSw).trans (by rfl : _ = some (.pointer (some ⟨kq, 0, none⟩))); clear hSw; go_simp; try rfl
    simp only [List.getElem_toArray, List.getElem_cons_zero, List.getElem_cons_succ, Act.put, List.setIfInBounds_toArray, List.set_cons_zero, List.set_cons_succ]
    refine wpAnyH_take (i := 2) (v := ?_) rfl (by kernel_rfl) (by kernel_rfl) (by kernel_rfl) (fun _ _ _ h => h) (Or.inl ⟨by rfl, ?_⟩) hHeld ?_
    rotate_left
    · intro w hSw; have c2 := (cell_of_row _ _ 2 _ _ _ hSw).trans (by rfl : _ = some (.pointer (some ⟨jq, 0, none⟩))); have c3 := (cell_of_row _ _ 3 _ _ _ hSw).trans (by rfl : _ = some (.pointer (some ⟨kq, 0, none⟩))); clear hSw; go_simp; try rfl
    simp only [List.getElem_toArray, List.getElem_cons_zero, List.getElem_cons_succ, Act.put, List.setIfInBounds_toArray, List.set_cons_zero, List.set_cons_succ]
    refine wpAnyH_take (i := 3) (v := ?_) rfl (by kernel_rfl) (by kernel_rfl) (by kernel_rfl) (fun _ _ _ h => h) (Or.inl ⟨by rfl, ?_⟩) hHeld ?_
    rotate_left
    · intro w hSw; have c2 := (cell_of_row _ _ 2 _ _ _ hSw).trans (by rfl : _ = some (.pointer (some ⟨jq, 0, none⟩))); have c3 := (cell_of_row _ _ 3 _ _ _ hSw).trans (by rfl : _ = some (.pointer (some ⟨kq, 0, none⟩))); clear hSw; go_simp; try rfl
    simp only [List.getElem_toArray, List.getElem_cons_zero, List.getElem_cons_succ, Act.put, List.setIfInBounds_toArray, List.set_cons_zero, List.set_cons_succ]
    refine wpAnyH_take (i := 5) (v := ?_) rfl (by kernel_rfl) (by kernel_rfl) (by kernel_rfl) (fun _ _ _ h => h) (Or.inl ⟨by rfl, ?_⟩) hHeld ?_
    rotate_left
    · intro w hSw; have c2 := (cell_of_row _ _ 2 _ _ _ hSw).trans (by rfl : _ = some (.pointer (some ⟨jq, 0, none⟩))); have c3 := (cell_of_row _ _ 3 _ _ _ hSw).trans (by rfl : _ = some (.pointer (some ⟨kq, 0, none⟩))); clear hSw; go_simp; try rfl
    simp only [List.getElem_toArray, List.getElem_cons_zero, List.getElem_cons_succ, Act.put, List.setIfInBounds_toArray, List.set_cons_zero, List.set_cons_succ]
    refine wpAnyH_take (i := 6) (v := ?_) rfl (by kernel_rfl) (by kernel_rfl) (by kernel_rfl) (fun _ _ _ h => h) (Or.inl ⟨by rfl, ?_⟩) hHeld ?_
    rotate_left
    · intro w hSw; have c2 := (cell_of_row _ _ 2 _ _ _ hSw).trans (by rfl : _ = some (.pointer (some ⟨jq, 0, none⟩))); have c3 := (cell_of_row _ _ 3 _ _ _ hSw).trans (by rfl : _ = some (.pointer (some ⟨kq, 0, none⟩))); clear hSw; go_simp; try rfl
    simp only [List.getElem_toArray, List.getElem_cons_zero, List.getElem_cons_succ, Act.put, List.setIfInBounds_toArray, List.set_cons_zero, List.set_cons_succ]
    refine wpAnyH_take (i := 7) (v := ?_) rfl (by kernel_rfl) (by kernel_rfl) (by kernel_rfl) (fun _ _ _ h => h) (Or.inl ⟨by rfl, ?_⟩) hHeld ?_
    rotate_left
    · intro w hSw; have c2 := (cell_of_row _ _ 2 _ _ _ hSw).trans (by rfl : _ = some (.pointer (some ⟨jq, 0, none⟩))); have c3 := (cell_of_row _ _ 3 _ _ _ hSw).trans (by rfl : _ = some (.pointer (some ⟨kq, 0, none⟩))); clear hSw; go_simp; try rfl
    simp only [List.getElem_toArray, List.getElem_cons_zero, List.getElem_cons_succ, Act.put, List.setIfInBounds_toArray, List.set_cons_zero, List.set_cons_succ]
    refine wpAnyH_take (i := 8) (v := ?_) rfl (by kernel_rfl) (by kernel_rfl) (by kernel_rfl) (fun _ _ _ h => h) (Or.inl ⟨by rfl, ?_⟩) hHeld ?_
    rotate_left
    · intro w hSw; have c2 := (cell_of_row _ _ 2 _ _ _ hSw).trans (by rfl : _ = some (.pointer (some ⟨jq, 0, none⟩))); have c3 := (cell_of_row _ _ 3 _ _ _ hSw).trans (by rfl : _ = some (.pointer (some ⟨kq, 0, none⟩))); clear hSw; go_simp; try rfl
    simp only [List.getElem_toArray, List.getElem_cons_zero, List.getElem_cons_succ, Act.put, List.setIfInBounds_toArray, List.set_cons_zero, List.set_cons_succ]
    refine wpAnyH_ready (rs := [4]) (by kernel_rfl) (by simp) ?_
    refine AllReadyH.cons rfl (fun K hK => ?_) AllReadyH.nil
    rw [if_pos (by rfl)]
    go_simp
    refine (jf_batches (hD1.prog rfl) hl).mono ?_
    rintro e w2 ⟨A2, n2, c2, rfl, hr2, b2⟩
    have hD2 := hD1.below b2
    refine hK.out _ _ hD2.cell (fun hHeld => ?_)
    clear hK K
    refine wpAnyH_ready (rs := [9]) (by kernel_rfl) (by simp) ?_
    refine AllReadyH.cons rfl (fun K hK => ?_) AllReadyH.nil
    rw [if_pos (by rfl)]
    go_simp
    refine (rj_all ((hD2.docu rfl).rj hD2.rd)).mono ?_
    rintro e w3 ⟨A3, n3, c3, rfl, hr3, b3⟩
    have hD3 := hD2.below b3
    refine hK.out _ _ hD3.cell (fun hHeld => ?_)
    clear hK K
    refine wpAnyH_ready (rs := [10]) (by kernel_rfl) (by simp) ?_
    refine AllReadyH.cons rfl (fun K hK => ?_) AllReadyH.nil
    rw [if_pos (by rfl)]
    go_simp
    refine (same_rows (hr2.below b3) hr3).mono ?_
    rintro e w4 ⟨rfl, b4⟩
    have hD4 := hD3.below b4
    refine hK.out _ _ hD4.cell (fun hHeld => ?_)
    clear hK K
    simp only [decide_true]
    refine wpAnyH_take (i := 11) (v := ?_) rfl (by kernel_rfl) (by kernel_rfl) (by kernel_rfl) (fun _ _ _ h => h) (Or.inl ⟨by rfl, ?_⟩) hHeld ?_
    rotate_left
    · intro w hSw; have c2 := (cell_of_row _ _ 2 _ _ _ hSw).trans (by rfl : _ = some (.pointer (some ⟨jq, 0, none⟩))); have c3 := (cell_of_row _ _ 3 _ _ _ hSw).trans (by rfl : _ = some (.pointer (some ⟨kq, 0, none⟩))); clear hSw; go_simp; try rfl
    simp only [List.getElem_toArray, List.getElem_cons_zero, List.getElem_cons_succ, Act.put, List.setIfInBounds_toArray, List.set_cons_zero, List.set_cons_succ]
    refine wpAnyH_take (i := 12) (v := ?_) rfl (by kernel_rfl) (by kernel_rfl) (by kernel_rfl) (fun _ _ _ h => h) (Or.inl ⟨by rfl, ?_⟩) hHeld ?_
    rotate_left
    · intro w hSw; have c2 := (cell_of_row _ _ 2 _ _ _ hSw).trans (by rfl : _ = some (.pointer (some ⟨jq, 0, none⟩))); have c3 := (cell_of_row _ _ 3 _ _ _ hSw).trans (by rfl : _ = some (.pointer (some ⟨kq, 0, none⟩))); clear hSw; go_simp; try rfl
    simp only [List.getElem_toArray, List.getElem_cons_zero, List.getElem_cons_succ, Act.put, List.setIfInBounds_toArray, List.set_cons_zero, List.set_cons_succ]
    refine wpAnyH_take (i := 13) (v := ?_) rfl (by kernel_rfl) (by kernel_rfl) (by kernel_rfl) (fun _ _ _ h => h) (Or.inl ⟨by rfl, ?_⟩) hHeld ?_
    rotate_left
    · intro w hSw; have c2 := (cell_of_row _ _ 2 _ _ _ hSw).trans (by rfl : _ = some (.pointer (some ⟨jq, 0, none⟩))); have c3 := (cell_of_row _ _ 3 _ _ _ hSw).trans (by rfl : _ = some (.pointer (some ⟨kq, 0, none⟩))); clear hSw; go_simp; try rfl
    simp only [List.getElem_toArray, List.getElem_cons_zero, List.getElem_cons_succ, Act.put, List.setIfInBounds_toArray, List.set_cons_zero, List.set_cons_succ]
    refine wpAnyH_take (i := 14) (v := ?_) rfl (by kernel_rfl) (by kernel_rfl) (by kernel_rfl) (fun _ _ _ h => h) (Or.inl ⟨by rfl, ?_⟩) hHeld ?_
    rotate_left
    · intro w hSw; have c2 := (cell_of_row _ _ 2 _ _ _ hSw).trans (by rfl : _ = some (.pointer (some ⟨jq, 0, none⟩))); have c3 := (cell_of_row _ _ 3 _ _ _ hSw).trans (by rfl : _ = some (.pointer (some ⟨kq, 0, none⟩))); clear hSw; go_simp; try rfl
    simp only [List.getElem_toArray, List.getElem_cons_zero, List.getElem_cons_succ, Act.put, List.setIfInBounds_toArray, List.set_cons_zero, List.set_cons_succ]
    refine wpAnyH_take (i := 15) (v := ?_) rfl (by kernel_rfl) (by kernel_rfl) (by kernel_rfl) (fun _ _ _ h => h) (Or.inl ⟨by rfl, ?_⟩) hHeld ?_
    rotate_left
    · intro w hSw; have c2 := (cell_of_row _ _ 2 _ _ _ hSw).trans (by rfl : _ = some (.pointer (some ⟨jq, 0, none⟩))); have c3 := (cell_of_row _ _ 3 _ _ _ hSw).trans (by rfl : _ = some (.pointer (some ⟨kq, 0, none⟩))); clear hSw; go_simp; try rfl
    simp only [List.getElem_toArray, List.getElem_cons_zero, List.getElem_cons_succ, Act.put, List.setIfInBounds_toArray, List.set_cons_zero, List.set_cons_succ]
    refine wpAnyH_take (i := 17) (v := ?_) rfl (by kernel_rfl) (by kernel_rfl) (by kernel_rfl) (fun _ _ _ h => h) (Or.inl ⟨by rfl, ?_⟩) hHeld ?_
    rotate_left
    · intro w hSw; have c2 := (cell_of_row _ _ 2 _ _ _ hSw).trans (by rfl : _ = some (.pointer (some ⟨jq, 0, none⟩))); have c3 := (cell_of_row _ _ 3 _ _ _ hSw).trans (by rfl : _ = some (.pointer (some ⟨kq, 0, none⟩))); clear hSw; go_simp; try rfl
    simp only [List.getElem_toArray, List.getElem_cons_zero, List.getElem_cons_succ, Act.put, List.setIfInBounds_toArray, List.set_cons_zero, List.set_cons_succ]
    refine wpAnyH_take (i := 18) (v := ?_) rfl (by kernel_rfl) (by kernel_rfl) (by kernel_rfl) (fun _ _ _ h => h) (Or.inl ⟨by rfl, ?_⟩) hHeld ?_
    rotate_left
    · intro w hSw; have c2 := (cell_of_row _ _ 2 _ _ _ hSw).trans (by rfl : _ = some (.pointer (some ⟨jq, 0, none⟩))); have c3 := (cell_of_row _ _ 3 _ _ _ hSw).trans (by rfl : _ = some (.pointer (some ⟨kq, 0, none⟩))); clear hSw; go_simp; try rfl
    simp only [List.getElem_toArray, List.getElem_cons_zero, List.getElem_cons_succ, Act.put, List.setIfInBounds_toArray, List.set_cons_zero, List.set_cons_succ]
    refine wpAnyH_take (i := 19) (v := ?_) rfl (by kernel_rfl) (by kernel_rfl) (by kernel_rfl) (fun _ _ _ h => h) (Or.inl ⟨by rfl, ?_⟩) hHeld ?_
    rotate_left
    · intro w hSw; have c2 := (cell_of_row _ _ 2 _ _ _ hSw).trans (by rfl : _ = some (.pointer (some ⟨jq, 0, none⟩))); have c3 := (cell_of_row _ _ 3 _ _ _ hSw).trans (by rfl : _ = some (.pointer (some ⟨kq, 0, none⟩))); clear hSw; go_simp; try rfl
    simp only [List.getElem_toArray, List.getElem_cons_zero, List.getElem_cons_succ, Act.put, List.setIfInBounds_toArray, List.set_cons_zero, List.set_cons_succ]
    refine wpAnyH_take (i := 20) (v := ?_) rfl (by kernel_rfl) (by kernel_rfl) (by kernel_rfl) (fun _ _ _ h => h) (Or.inl ⟨by rfl, ?_⟩) hHeld ?_
    rotate_left
    · intro w hSw; have c2 := (cell_of_row _ _ 2 _ _ _ hSw).trans (by rfl : _ = some (.pointer (some ⟨jq, 0, none⟩))); have c3 := (cell_of_row _ _ 3 _ _ _ hSw).trans (by rfl : _ = some (.pointer (some ⟨kq, 0, none⟩))); clear hSw; go_simp; try rfl
    simp only [List.getElem_toArray, List.getElem_cons_zero, List.getElem_cons_succ, Act.put, List.setIfInBounds_toArray, List.set_cons_zero, List.set_cons_succ]
    refine wpAnyH_ready (rs := [16]) (by kernel_rfl) (by simp) ?_
    refine AllReadyH.cons rfl (fun K hK => ?_) AllReadyH.nil
    rw [if_pos (by rfl)]
    go_simp
    refine (jf_room (hD4.prog rfl) hl).mono ?_
    rintro e w5 ⟨rfl, b5⟩
    have hD5 := hD4.below b5
    refine hK.out _ _ hD5.cell (fun hHeld => ?_)
    clear hK K
    refine wpAnyH_ready (rs := [21]) (by kernel_rfl) (by simp) ?_
    refine AllReadyH.cons rfl (fun K hK => ?_) AllReadyH.nil
    rw [if_pos (by rfl)]
    go_simp
    refine (rj_room ((hD5.docu rfl).rj hD5.rd)).mono ?_
    rintro e w6 ⟨rfl, b6⟩
    have hD6 := hD5.below b6
    refine hK.out _ _ hD6.cell (fun hHeld => ?_)
    clear hK K
    refine wpAnyH_take (i := 22) (v := ?_) rfl (by kernel_rfl) (by kernel_rfl) (by kernel_rfl) (fun _ _ _ h => h) (Or.inl ⟨by rfl, ?_⟩) hHeld ?_
    rotate_left
    · intro w hSw; have c2 := (cell_of_row _ _ 2 _ _ _ hSw).trans (by rfl : _ = some (.pointer (some ⟨jq, 0, none⟩))); have c3 := (cell_of_row _ _ 3 _ _ _ hSw).trans (by rfl : _ = some (.pointer (some ⟨kq, 0, none⟩))); clear hSw; go_simp; try rfl
    simp only [List.getElem_toArray, List.getElem_cons_zero, List.getElem_cons_succ, Act.put, List.setIfInBounds_toArray, List.set_cons_zero, List.set_cons_succ]
    refine wpAnyH_take (i := 23) (v := ?_) rfl (by kernel_rfl) (by kernel_rfl) (by kernel_rfl) (fun _ _ _ h => h) (Or.inl ⟨by rfl, ?_⟩) hHeld ?_
    rotate_left
    · intro w hSw; have c2 := (cell_of_row _ _ 2 _ _ _ hSw).trans (by rfl : _ = some (.pointer (some ⟨jq, 0, none⟩))); have c3 := (cell_of_row _ _ 3 _ _ _ hSw).trans (by rfl : _ = some (.pointer (some ⟨kq, 0, none⟩))); clear hSw; go_simp; try rfl
    simp only [List.getElem_toArray, List.getElem_cons_zero, List.getElem_cons_succ, Act.put, List.setIfInBounds_toArray, List.set_cons_zero, List.set_cons_succ]
    refine wpAnyH_take (i := 24) (v := ?_) rfl (by kernel_rfl) (by kernel_rfl) (by kernel_rfl) (fun _ _ _ h => h) (Or.inl ⟨by rfl, ?_⟩) hHeld ?_
    rotate_left
    · intro w hSw; have c2 := (cell_of_row _ _ 2 _ _ _ hSw).trans (by rfl : _ = some (.pointer (some ⟨jq, 0, none⟩))); have c3 := (cell_of_row _ _ 3 _ _ _ hSw).trans (by rfl : _ = some (.pointer (some ⟨kq, 0, none⟩))); clear hSw; go_simp; try rfl
    simp only [List.getElem_toArray, List.getElem_cons_zero, List.getElem_cons_succ, Act.put, List.setIfInBounds_toArray, List.set_cons_zero, List.set_cons_succ]
    refine wpAnyH_take (i := 25) (v := ?_) rfl (by kernel_rfl) (by kernel_rfl) (by kernel_rfl) (fun _ _ _ h => h) (Or.inl ⟨by rfl, ?_⟩) hHeld ?_
    rotate_left
    · intro w hSw; have c2 := (cell_of_row _ _ 2 _ _ _ hSw).trans (by rfl : _ = some (.pointer (some ⟨jq, 0, none⟩))); have c3 := (cell_of_row _ _ 3 _ _ _ hSw).trans (by rfl : _ = some (.pointer (some ⟨kq, 0, none⟩))); clear hSw; go_simp; try rfl
    simp only [List.getElem_toArray, List.getElem_cons_zero, List.getElem_cons_succ, Act.put, List.setIfInBounds_toArray, List.set_cons_zero, List.set_cons_succ]
    refine wpAnyH_take (i := 26) (v := ?_) rfl (by kernel_rfl) (by kernel_rfl) (by kernel_rfl) (fun _ _ _ h => h) (Or.inl ⟨by rfl, ?_⟩) hHeld ?_
    rotate_left
    · intro w hSw; have c2 := (cell_of_row _ _ 2 _ _ _ hSw).trans (by rfl : _ = some (.pointer (some ⟨jq, 0, none⟩))); have c3 := (cell_of_row _ _ 3 _ _ _ hSw).trans (by rfl : _ = some (.pointer (some ⟨kq, 0, none⟩))); clear hSw; go_simp; try rfl
    simp only [List.getElem_toArray, List.getElem_cons_zero, List.getElem_cons_succ, Act.put, List.setIfInBounds_toArray, List.set_cons_zero, List.set_cons_succ]
    refine wpAnyH_take (i := 27) (v := ?_) rfl (by kernel_rfl) (by kernel_rfl) (by kernel_rfl) (fun _ _ _ h => h) (Or.inl ⟨by rfl, ?_⟩) hHeld ?_
    rotate_left
    · intro w hSw; have c2 := (cell_of_row _ _ 2 _ _ _ hSw).trans (by rfl : _ = some (.pointer (some ⟨jq, 0, none⟩))); have c3 := (cell_of_row _ _ 3 _ _ _ hSw).trans (by rfl : _ = some (.pointer (some ⟨kq, 0, none⟩))); clear hSw; go_simp; try rfl
    simp only [List.getElem_toArray, List.getElem_cons_zero, List.getElem_cons_succ, Act.put, List.setIfInBounds_toArray, List.set_cons_zero, List.set_cons_succ]
    refine wpAnyH_take (i := 28) (v := ?_) rfl (by kernel_rfl) (by kernel_rfl) (by kernel_rfl) (fun _ _ _ h => h) (Or.inl ⟨by rfl, ?_⟩) hHeld ?_
    rotate_left
    · intro w hSw; have c2 := (cell_of_row _ _ 2 _ _ _ hSw).trans (by rfl : _ = some (.pointer (some ⟨jq, 0, none⟩))); have c3 := (cell_of_row _ _ 3 _ _ _ hSw).trans (by rfl : _ = some (.pointer (some ⟨kq, 0, none⟩))); clear hSw; go_simp; try rfl
    simp only [List.getElem_toArray, List.getElem_cons_zero, List.getElem_cons_succ, Act.put, List.setIfInBounds_toArray, List.set_cons_zero, List.set_cons_succ]
    refine wpAnyH_take (i := 30) (v := ?_) rfl (by kernel_rfl) (by kernel_rfl) (by kernel_rfl) (fun _ _ _ h => h) (Or.inl ⟨by rfl, ?_⟩) hHeld ?_
    rotate_left
    · intro w hSw; have c2 := (cell_of_row _ _ 2 _ _ _ hSw).trans (by rfl : _ = some (.pointer (some ⟨jq, 0, none⟩))); have c3 := (cell_of_row _ _ 3 _ _ _ hSw).trans (by rfl : _ = some (.pointer (some ⟨kq, 0, none⟩))); clear hSw; go_simp; try rfl
    simp only [List.getElem_toArray, List.getElem_cons_zero, List.getElem_cons_succ, Act.put, List.setIfInBounds_toArray, List.set_cons_zero, List.set_cons_succ]
    refine wpAnyH_take (i := 31) (v := ?_) rfl (by kernel_rfl) (by kernel_rfl) (by kernel_rfl) (fun _ _ _ h => h) (Or.inl ⟨by rfl, ?_⟩) hHeld ?_
    rotate_left
    · intro w hSw; have c2 := (cell_of_row _ _ 2 _ _ _ hSw).trans (by rfl : _ = some (.pointer (some ⟨jq, 0, none⟩))); have c3 := (cell_of_row _ _ 3 _ _ _ hSw).trans (by rfl : _ = some (.pointer (some ⟨kq, 0, none⟩))); clear hSw; go_simp; try rfl
    simp only [List.getElem_toArray, List.getElem_cons_zero, List.getElem_cons_succ, Act.put, List.setIfInBounds_toArray, List.set_cons_zero, List.set_cons_succ]
    refine wpAnyH_take (i := 32) (v := ?_) rfl (by kernel_rfl) (by kernel_rfl) (by kernel_rfl) (fun _ _ _ h => h) (Or.inl ⟨by rfl, ?_⟩) hHeld ?_
    rotate_left
    · intro w hSw; have c2 := (cell_of_row _ _ 2 _ _ _ hSw).trans (by rfl : _ = some (.pointer (some ⟨jq, 0, none⟩))); have c3 := (cell_of_row _ _ 3 _ _ _ hSw).trans (by rfl : _ = some (.pointer (some ⟨kq, 0, none⟩))); clear hSw; go_simp; try rfl
    simp only [List.getElem_toArray, List.getElem_cons_zero, List.getElem_cons_succ, Act.put, List.setIfInBounds_toArray, List.set_cons_zero, List.set_cons_succ]
    refine wpAnyH_take (i := 33) (v := ?_) rfl (by kernel_rfl) (by kernel_rfl) (by kernel_rfl) (fun _ _ _ h => h) (Or.inl ⟨by rfl, ?_⟩) hHeld ?_
    rotate_left
    · intro w hSw; have c2 := (cell_of_row _ _ 2 _ _ _ hSw).trans (by rfl : _ = some (.pointer (some ⟨jq, 0, none⟩))); have c3 := (cell_of_row _ _ 3 _ _ _ hSw).trans (by rfl : _ = some (.pointer (some ⟨kq, 0, none⟩))); clear hSw; go_simp; try rfl
    simp only [List.getElem_toArray, List.getElem_cons_zero, List.getElem_cons_succ, Act.put, List.setIfInBounds_toArray, List.set_cons_zero, List.set_cons_succ]
    refine wpAnyH_ready (rs := [29]) (by kernel_rfl) (by simp) ?_
    refine AllReadyH.cons rfl (fun K hK => ?_) AllReadyH.nil
    rw [if_pos (by rfl)]
    go_simp
    refine (jf_head (hD6.prog rfl) hl).mono ?_
    rintro e w7 ⟨rfl, b7⟩
    have hD7 := hD6.below b7
    refine hK.out _ _ hD7.cell (fun hHeld => ?_)
    clear hK K
    refine wpAnyH_ready (rs := [34]) (by kernel_rfl) (by simp) ?_
    refine AllReadyH.cons rfl (fun K hK => ?_) AllReadyH.nil
    rw [if_pos (by rfl)]
    go_simp
    refine (rj_head ((hD7.docu rfl).rj hD7.rd)).mono ?_
    rintro e w8 ⟨rfl, b8⟩
    have hD8 := hD7.below b8
    refine hK.out _ _ hD8.cell (fun hHeld => ?_)
    clear hK K
    refine wpAnyH_take (i := 35) (v := ?_) rfl (by kernel_rfl) (by kernel_rfl) (by kernel_rfl) (fun _ _ _ h => h) (Or.inl ⟨by rfl, ?_⟩) hHeld ?_
    rotate_left
    · intro w hSw; have c2 := (cell_of_row _ _ 2 _ _ _ hSw).trans (by rfl : _ = some (.pointer (some ⟨jq, 0, none⟩))); have c3 := (cell_of_row _ _ 3 _ _ _ hSw).trans (by rfl : _ = some (.pointer (some ⟨kq, 0, none⟩))); clear hSw; go_simp; try rfl
    simp only [List.getElem_toArray, List.getElem_cons_zero, List.getElem_cons_succ, Act.put, List.setIfInBounds_toArray, List.set_cons_zero, List.set_cons_succ]
    refine wpAnyH_take (i := 36) (v := ?_) rfl (by kernel_rfl) (by kernel_rfl) (by kernel_rfl) (fun _ _ _ h => h) (Or.inl ⟨by rfl, ?_⟩) hHeld ?_
    rotate_left
    · intro w hSw; have c2 := (cell_of_row _ _ 2 _ _ _ hSw).trans (by rfl : _ = some (.pointer (some ⟨jq, 0, none⟩))); have c3 := (cell_of_row _ _ 3 _ _ _ hSw).trans (by rfl : _ = some (.pointer (some ⟨kq, 0, none⟩))); clear hSw; go_simp; try rfl
    simp only [List.getElem_toArray, List.getElem_cons_zero, List.getElem_cons_succ, Act.put, List.setIfInBounds_toArray, List.set_cons_zero, List.set_cons_succ]
    refine wpAnyH_take (i := 37) (v := ?_) rfl (by kernel_rfl) (by kernel_rfl) (by kernel_rfl) (fun _ _ _ h => h) (Or.inl ⟨by rfl, ?_⟩) hHeld ?_
    rotate_left
    · intro w hSw; have c2 := (cell_of_row _ _ 2 _ _ _ hSw).trans (by rfl : _ = some (.pointer (some ⟨jq, 0, none⟩))); have c3 := (cell_of_row _ _ 3 _ _ _ hSw).trans (by rfl : _ = some (.pointer (some ⟨kq, 0, none⟩))); clear hSw; go_simp; try rfl
    simp only [List.getElem_toArray, List.getElem_cons_zero, List.getElem_cons_succ, Act.put, List.setIfInBounds_toArray, List.set_cons_zero, List.set_cons_succ]
    refine wpAnyH_done (by kernel_rfl) ?_ _
    have x2 := (Below.refl w.heap.size w).drew
    have x3 := x2.trans (b2.mono x2.size)
    have x4 := x3.trans (b3.mono x3.size)
    have x5 := x4.trans (b4.mono x4.size)
    have x6 := x5.trans (b5.mono x5.size)
    have x7 := x6.trans (b6.mono x6.size)
    have x8 := x7.trans (b7.mono x7.size)
    have x9 := x8.trans (b8.mono x8.size)
    clear x2 x3 x4 x5 x6 x7 x8 hHeld hD1 hD2 hD3 hD4 hD5 hD6 hD7 hE hr2 hr3 b2 b3 b4 b5 b6 b7 b8
    go_wp2_with fail
    go_ret
    exact ⟨rfl, x9⟩
end Go.Proofs.YtknndmhkfonfmaaGreatDoor

/-
  PURE: what a journal that is only known by its newest head has of its disk behind Append and Replace: Link again. No program is named here.
-/
namespace Go.Proofs.YtknndmhkfonfmaaGreatDoor
namespace jn
theorem batches_parse {s : St} {N : Nat} {k : hd.H} (f : Fit s N k) (h : (batches s k).2 = true) : ∃ was, parse k.batches (bytesS s.S (first s k.bank) k.blocks) = some (was, []) := by
  have hm := (hd.may_ok f.may).1
  have h1 := first_le f.ok hm
  have h2 := f.fits
  unfold batches at h
  rw [if_neg (by omega), bytes_sure f.light f.sure (by omega)] at h
  generalize parse k.batches (bytesS s.S (first s k.bank) k.blocks) = r at h ⊢
  cases r with
  | none => cases h
  | some x =>
    obtain ⟨a, b⟩ := x
    cases b with
    | nil => exact ⟨a, rfl⟩
    | cons y z => cases h
theorem parse_batches {s : St} {N : Nat} {k : hd.H} (f : Fit s N k) {was : List (List UInt8)} (h : parse k.batches (bytesS s.S (first s k.bank) k.blocks) = some (was, [])) : (batches s k).2 = true := by
  have hm := (hd.may_ok f.may).1
  have h1 := first_le f.ok hm
  have h2 := f.fits
  unfold batches
  rw [if_neg (by omega), bytes_sure f.light f.sure (by omega), h]
  rfl
/-- a head that was laid stands in one of the blocks 0 and 1 -/
theorem layH_agree {t : St} (ok : t.Ok) (hb : t.black = false) (hL : t.L = []) {h' : hd.H} (h0 : (layH t h').1 = 0) : Agree 0 2 t.S (layH t h').2.S := by
  have h64 := ok.some
  have hx := next_two (rd t 0) (rd t 1)
  unfold jn.layH at h0 ⊢
  generalize (hd.put ((jn.newest t).1 + 1) h').1 = Y at *
  obtain ⟨k, hk, hkx⟩ : ∃ k : Nat, (k = 0 ∨ k = 1) ∧ sl.next (rd t 0) (rd t 1) = (k : Int) := by
    rcases hx with e | e
    · exact ⟨0, .inl rfl, e⟩
    · exact ⟨1, .inr rfl, e⟩
  rw [hkx] at h0 ⊢
  rcases write_cases hb (n := k) (by omega) Y with ⟨w1, w2, w3, w4, w5⟩ | ⟨w1, w2, w3, w4, w5⟩
  · rw [if_pos w1] at h0 ⊢
    rw [hL, List.nil_append] at w4
    rcases flush_cases w2 with ⟨f1, f2, f3, f4, f5⟩ | ⟨f1, _⟩
    · rw [f3, w3, w4]
      simp only [dk.lay, Int.toNat_natCast]
      exact agree_set _ (Nat.zero_le _) (by omega) _
    · rw [f1] at h0; cases h0
  · rw [if_neg (by rw [w1]; decide), w1] at h0; cases h0
theorem lay_agree {s : St} (ok : s.Ok) (hb : s.black = false) (hL : s.L = []) {at_ : Nat} {l : List Blk} (hl : ∀ b ∈ l, b.length = 128) (hat : at_ + l.length ≤ s.S.length) {h' : hd.H} (h0 : (lay s at_ l h').1 = 0) :
    ∃ S1, Agree at_ (at_ + l.length) s.S S1 ∧ (∀ i, i < l.length → S1.getD (at_ + i) dk.zero = l.getD i dk.zero) ∧ Agree 0 2 S1 (lay s at_ l h').2.S := by
  have hokw := Ok.writes l at_ ok hl
  unfold jn.lay at h0 ⊢
  rcases writes_cases l s at_ hb hat hl with ⟨w1, w2, w3, w4, w5⟩ | ⟨w1, _⟩
  · rw [if_pos w1] at h0 ⊢
    rw [hL, List.nil_append] at w4
    rcases flush_cases w2 with ⟨f1, f2, f3, f4, f5⟩ | ⟨f1, _⟩
    · rw [if_pos f1] at h0 ⊢
      have hokf := dk.Ok.flush hokw
      rw [w3, w4] at f3
      generalize (dk.flush (writes s at_ l).2).2 = t at *
      refine ⟨t.S, ?_, fun i hi => ?_, layH_agree hokf f2 f4 h0⟩
      · rw [f3]; exact agree_lay _ _ (zipAt_in l at_ hl)
      · rw [f3]; exact lay_zip l at_ s.S hat i hi
    · rw [if_neg (by rw [f1]; decide), f1] at h0; cases h0
  · rw [if_neg (by rw [w1]; decide), w1] at h0; cases h0
theorem lay_link {s : St} (ok : s.Ok) (hb : s.black = false) (hL : s.L = []) {at_ : Nat} {l : List Blk} (hl : ∀ b ∈ l, b.length = 128) (hat : at_ + l.length ≤ s.S.length) {N : Nat} {h' : hd.H} (h0 : (lay s at_ l h').1 = 0) (f : Fit (lay s at_ l h').2 N h')
    (hnow : ∀ S1, Agree at_ (at_ + l.length) s.S S1 → (∀ i, i < l.length → S1.getD (at_ + i) dk.zero = l.getD i dk.zero) → ∃ now, parse h'.batches (bytesS S1 (first s h'.bank) h'.blocks) = some (now, [])) : Link (lay s at_ l h').2 h' := by
  intro _
  obtain ⟨S1, ha, hput, ha2⟩ := lay_agree ok hb hL hl hat h0
  obtain ⟨now, hread⟩ := hnow S1 ha hput
  refine ⟨by rw [f.new], f.fits, parse_batches f (was := now) ?_⟩
  have hh : half (lay s at_ l h').2 = half s := by unfold half; rw [ha2.len, ha.len]
  have hf : first (lay s at_ l h').2 h'.bank = first s h'.bank := by unfold first; rw [hh]
  rw [hf, bytesS_agree ha2 (.inr (first_ge s _))]
  exact hread
theorem append_link {s : St} {N : Nat} {h : hd.H} (f : Fit s N h) (hk : Link s h) (hn : hd.num (N + 1) = true) (b : List UInt8) : Link (append s h b).2 (if (append s h b).1 = 0 then appendH h b else h) := by
  rcases (append_fit f hn b).2 with ⟨a1, a2⟩ | ⟨a1, a2⟩ | ⟨_, a2⟩
  · rw [a1, if_neg (by omega)]
    exact hk
  · rw [if_pos a1]
    obtain ⟨was, hread⟩ := batches_parse f (hk f.light).2.2
    have hm := hd.may_ok f.may
    have hf := first_le f.ok hm.1
    have hfits := f.fits
    unfold jn.append at a1 a2 ⊢
    by_cases hbig : 1048576 < b.length
    · rw [if_pos hbig] at a1; cases a1
    · by_cases hroom : half s < h.blocks + (blocks b).length
      · rw [if_neg hbig, if_neg (by rw [f.light]; simp), if_pos hroom] at a1; cases a1
      · rw [if_neg hbig, if_neg (by rw [f.light]; simp), if_neg hroom] at a1 a2 ⊢
        refine lay_link f.ok f.light f.sure (blocks_len b) (by omega) a1 a2 (fun S1 ha hput => ⟨was ++ [b], ?_⟩)
        show parse (h.batches + 1) (bytesS S1 (first s h.bank) (h.blocks + (blocks b).length)) = _
        rw [bytesS_more, bytesS_agree ha (.inl (Nat.le_refl _)), bytesS_blocks hput, blocks_flatten]
        exact parse_more hread (by rw [bytesS_length f.ok.lenS]; omega) b (by omega)
  · exact link_dark a2
theorem replace_link {s : St} {N : Nat} {h : hd.H} (f : Fit s N h) (hk : Link s h) (hn : hd.num (N + 1) = true) (b : List UInt8) : Link (replace s h b).2 (if (replace s h b).1 = 0 then replaceH h b else h) := by
  rcases (replace_fit f hn b).2 with ⟨a1, a2⟩ | ⟨a1, a2⟩ | ⟨_, a2⟩
  · rw [a1, if_neg (by omega)]
    exact hk
  · rw [if_pos a1]
    have hm := hd.may_ok f.may
    have hbk2 : (1 - h.bank).toNat ≤ 1 := by rcases bank_cases hm.1 with e | e <;> rw [e] <;> decide
    have hf := first_le f.ok hbk2
    unfold jn.replace at a1 a2 ⊢
    by_cases hbig : 1048576 < b.length
    · rw [if_pos hbig] at a1; cases a1
    · by_cases hroom : half s < (blocks b).length
      · rw [if_neg hbig, if_neg (by rw [f.light]; simp), if_pos hroom] at a1; cases a1
      · rw [if_neg hbig, if_neg (by rw [f.light]; simp), if_neg hroom] at a1 a2 ⊢
        refine lay_link f.ok f.light f.sure (blocks_len b) (by omega) a1 a2 (fun S1 ha hput => ⟨[b], ?_⟩)
        show parse 1 (bytesS S1 (first s (1 - h.bank)) (blocks b).length) = _
        rw [bytesS_blocks hput, blocks_flatten]
        exact parse_only b (by omega)
  · exact link_dark a2
end jn
end Go.Proofs.YtknndmhkfonfmaaGreatDoor

/-
  THE PROGRAM's journal over a disk whose bytes others have spoilt: Append and Replace by the newest head alone (Fit), whatever the other block is.
-/
namespace Go.Proofs.YtknndmhkfonfmaaGreatDoor
open Go.RowKit
variable {w0 w w1 w' : World} {F : List Nat} {d j : Value} {s : dk.St}
theorem jf_appendF {N : Nat} {k : hd.H} (h : JF w0 w F d j s) (ht : Tabs w0) (f : jn.Fit s N k) (hn : hd.num (N + 1) = true) (hm : s.many + 4200 < 1048576)
    {A : Option Addr} {n cp : Nat} {b : List UInt8} (hB : BS w A n cp b) (_hA : 0 < n → ∀ x o, A = some ⟨x, o, none⟩ → x ∉ F) : Calls Tryz.prog 22 #[j, .slice A n cp] w fun e w' =>
    ∃ F', e = .returned (.int .i64 (jn.append s k b).1) ∧ JF w0 w' F' d j (jn.append s k b).2 ∧ Chg w w' F ∧ Sub w F' F := by
  obtain ⟨p, Fd, k0, rfl, rfl, h1, h2, h3, h4, h5⟩ := h
  obtain ⟨q, hq⟩ := h4.cd.form
  obtain ⟨l1, l2, l3⟩ := h5 f.light
  rw [f.new] at l1
  simp only at l1
  subst l1
  have hmay := f.may
  have hmy := hd.may_ok hmay
  have hhalf := jn.half_le f.ok
  have hnew := f.new
  unfold jn.newest at hnew
  have hcp := jn.count_pos b.length
  rw [← jn.blocks_length] at hcp
  have hr := jn.addR_append f.ok f.sure hmy.1 b
  refine (cj_append hq h3 h1 h4.cd (ht.below h4.under) hmay f.fits hB ⟨hm, by rw [f.sure]; simp⟩ (fun _ _ hroom => ?_)).mono fun e w' h' => ?_
  · rw [jn.next_ok, hnew]
    exact (hd.put_err _ _).2 (by
      rw [hn, Bool.true_and]
      exact jn.may_of hmy.1 (show k.blocks + (jn.blocks b).length ≤ 4096 by omega) (show k.batches + 1 ≤ k.blocks + (jn.blocks b).length by omega))
  · rw [hr] at h'
    obtain ⟨F', r1, r2, r3, r4, r5⟩ := h'
    obtain ⟨g1, g2⟩ := jf_step h1 h2 h3.lt h4 r2 r3 (jn.append_link f h5 hn b) r4 r5
    exact ⟨_, r1, g1, r4, g2⟩
theorem jf_replaceF {N : Nat} {k : hd.H} (h : JF w0 w F d j s) (ht : Tabs w0) (f : jn.Fit s N k) (hn : hd.num (N + 1) = true) (hm : s.many + 4200 < 1048576)
    {A : Option Addr} {n cp : Nat} {b : List UInt8} (hB : BS w A n cp b) (_hA : 0 < n → ∀ x o, A = some ⟨x, o, none⟩ → x ∉ F) : Calls Tryz.prog 24 #[j, .slice A n cp] w fun e w' =>
    ∃ F', e = .returned (.int .i64 (jn.replace s k b).1) ∧ JF w0 w' F' d j (jn.replace s k b).2 ∧ Chg w w' F ∧ Sub w F' F := by
  obtain ⟨p, Fd, k0, rfl, rfl, h1, h2, h3, h4, h5⟩ := h
  obtain ⟨q, hq⟩ := h4.cd.form
  obtain ⟨l1, l2, l3⟩ := h5 f.light
  rw [f.new] at l1
  simp only at l1
  subst l1
  have hmay := f.may
  have hmy := hd.may_ok hmay
  have hhalf := jn.half_le f.ok
  have hnew := f.new
  unfold jn.newest at hnew
  have hcp := jn.count_pos b.length
  rw [← jn.blocks_length] at hcp
  have hbk2 : (1 - k.bank).toNat ≤ 1 := by rcases jn.bank_cases hmy.1 with e | e <;> rw [e] <;> decide
  have hr := jn.addR_replace f.ok f.sure hmy.1 b
  refine (cj_replace hq h3 h1 h4.cd (ht.below h4.under) hmay hB ⟨hm, by rw [f.sure]; simp⟩ (fun _ _ hroom => ?_)).mono fun e w' h' => ?_
  · rw [jn.next_ok, hnew]
    exact (hd.put_err _ _).2 (by
      rw [hn, Bool.true_and]
      exact jn.may_of (h := jn.replaceH k b) hbk2 (show (jn.blocks b).length ≤ 4096 by omega) (show 1 ≤ (jn.blocks b).length by omega))
  · rw [hr] at h'
    obtain ⟨F', r1, r2, r3, r4, r5⟩ := h'
    obtain ⟨g1, g2⟩ := jf_step h1 h2 h3.lt h4 r2 r3 (jn.replace_link f h5 hn b) r4 r5
    exact ⟨_, r1, g1, r4, g2⟩
end Go.Proofs.YtknndmhkfonfmaaGreatDoor
