/-
  what the laws of the batch are given: tables and changes (the second form).
-/
import Derived.Test.YtlchfadfbepapaaBatchM
import Derived.Test.YtlchfadfbepapaaBulk
import Derived.Test.YtlchfadfbepapaaLaw
import Derived.Deep.Slices
namespace Go.Proofs.Ytlchfadfbepapaa
open Go.ChangeShapes Go.WideShapes Go.ChangeAt Go.RowKit
set_option maxRecDepth 100000 in
/-- a slice of bytes by its cell, of small bulk -/
theorem open_bytes_bulk {H : Type} {enc : TypeId × Value → H} {W : World} {fuel : Nat} {cs : List Value} {d : DataW H} {pl : List MemPlace} (h : DataW.trod enc Try.prog W 0 (fun _ => true) true fuel 24 cs = some (d, pl)) (hk : Rows.uptoBulk d ≤ 1048576) :
    ∃ A n c l, cs = [.slice A n c] ∧ BS W A n c l ∧ n ≤ 1048576 := by
  rcases open_ints Try.underlying24 Try.underlying5 (by kernel_rfl) h with ⟨hcs, hx⟩ | ⟨a, len, cap, zs, hcs, _, hl, hm, hz, hx, hcell, hwz⟩
  · exact ⟨none, 0, 0, [], hcs, ⟨rfl, Nat.le_refl _, by omega, by omega, fun h => absurd h (by omega)⟩, by omega⟩
  · simp only [if_true] at hz
    simp only [Prod.mk.injEq] at hx
    obtain ⟨rfl, rfl⟩ := hx
    simp only [Rows.uptoBulk] at hk
    have h1 := bulks.many (H := H) (lits .u8 (zs.take len))
    simp only [lits, List.length_map, List.length_take] at h1 hk
    have hlen : len ≤ 1048576 := by omega
    obtain ⟨l, rfl⟩ := bytes_of_wf hwz
    simp only [List.length_map] at hz hcell
    rw [maxLen_eq] at hm
    refine ⟨some a, len, cap, l.take len, hcs, ⟨by simp; omega, hl, hm, by omega, fun h0 => ?_⟩, hlen⟩
    have hc0 := hcell 0 (by omega)
    have hsp : a.spot = none := by
      have : a.add 0 = a := by simp [Addr.add]
      rw [this] at hc0
      unfold World.cell? at hc0
      split at hc0
      · cases hsp : a.spot with
        | none => rfl
        | some x => simp [hsp] at hc0
      · cases hc0
    obtain ⟨b, o, sp⟩ := a
    simp only at hsp
    subst hsp
    refine ⟨b, o, rfl, World.block_lt_of_cell? _ _ hc0, fun i hi => ?_⟩
    have hi' : i < l.length := by simp at hi; omega
    have := hcell i (by omega)
    rw [Addr.add_lit] at this
    rw [this]
    simp [List.getD, hi']
theorem cells_spot8 {W : World} {n : Nat} {a : Addr} {cs : List Value} (hn : 0 < n) (h : W.cells? 0 a n = some cs) : ∃ b o, a = ⟨b, o, none⟩ ∧ b < W.heap.size ∧ cs.length = n ∧ ∀ i, i < n → W.cell? ⟨b, o + i, none⟩ = cs[i]? := by
  obtain ⟨_, hlen, hget⟩ := World.cells?_some h
  have h0 := hget 0 hn
  rw [List.getElem?_eq_getElem (by omega)] at h0
  have hsp : a.spot = none := by
    have : a.add 0 = a := by simp [Addr.add]
    rw [this] at h0
    unfold World.cell? at h0
    split at h0
    · cases hsp : a.spot with
      | none => rfl
      | some x => simp [hsp] at h0
    · cases h0
  obtain ⟨b, o, sp⟩ := a
  simp only at hsp
  subst hsp
  refine ⟨b, o, rfl, World.block_lt_of_cell? _ _ h0, hlen, fun i hi => ?_⟩
  have := hget i hi
  rw [Addr.add_lit] at this
  exact this
theorem cells_row8 : Try.prog.cellsOf 51 = 2 := by kernel_rfl
set_option maxRecDepth 100000 in
theorem open_row8 {H : Type} {enc : TypeId × Value → H} {W : World} {fuel : Nat} {cs : List Value} {d : DataW H} {pl : List MemPlace} (h : DataW.trod enc Try.prog W 0 (fun _ => true) true fuel 51 cs = some (d, pl)) (hk : Rows.uptoBulk d ≤ 1048576) :
    ∃ (r : bt.R) (A : Option Addr) (c : Nat), cs = [str r.key, .slice A r.val.length c] ∧ BS W A r.val.length c r.val ∧ r.key.length ≤ 1048576 ∧ r.val.length ≤ 1048576 := by
  obtain ⟨xs, n', _, hd, hcl, hxl, hfx⟩ := DataW.trod_struct Try.underlying51 h
  rw [cells_row8] at hcl
  have hx2 : xs.length = 2 := hxl
  match xs, hx2, cs, hcl with
  | [x0, x1], _, [c0, c1], _ =>
    have f0 : DataW.trod enc Try.prog W 0 (fun _ => true) true n' 9 [c0] = some x0 := hfx 0 _ rfl
    have f1 : DataW.trod enc Try.prog W 0 (fun _ => true) true n' 24 [c1] = some x1 := hfx 1 _ rfl
    obtain ⟨s, h0, hs, _⟩ := DataW.trod_string Try.underlying9 f0
    obtain ⟨d1, p1⟩ := x1
    subst hs
    simp only [Prod.mk.injEq, List.map_cons, List.map_nil] at hd
    obtain ⟨rfl, _⟩ := hd
    simp only [Rows.uptoBulk, Rows.uptoBulkAll] at hk
    obtain ⟨A, n, c, l, h1, hB, hn⟩ := open_bytes_bulk f1 (by omega)
    simp only [List.cons.injEq, and_true] at h0 h1
    have hl := hB.len
    subst hl
    exact ⟨⟨s.data.toList, l⟩, A, c, by rw [h0, h1, str_of], hB, by show s.data.toList.length ≤ _; omega, hn⟩
set_option maxRecDepth 100000 in
theorem open_tab {H : Type} {enc : TypeId × Value → H} {W : World} {base : Nat} {v : Value} {d : DataW H} {ps : List MemPlace}
    (hval : Value.okWide Try.prog W .any base 22 v) (h : DataW.Trod enc Try.prog W 0 (fun _ => true) true 22 v d ps) (hk : Rows.uptoBulk d ≤ 1048576) :
    ∃ A n c l, v = .slice A n c ∧ TS W A n c l ∧ n ≤ 1048576 ∧ ∀ r ∈ l, r.key.length ≤ 1048576 ∧ r.val.length ≤ 1048576 := by
  obtain ⟨a0, len, cap, rfl⟩ := okWide_slice Try.underlying22 hval
  obtain ⟨fuel, hf⟩ := h
  rcases Deep.open_slice Try.underlying22 hf with ⟨hcs, hx⟩ | ⟨a, len', cap', m, n, D, Pl, hcs, _, hl, hm, hmm, hx, hr⟩
  · simp [Value.cells] at hcs
    obtain ⟨rfl, rfl, rfl⟩ := hcs
    exact ⟨none, 0, 0, [], rfl, ⟨rfl, Nat.le_refl _, by omega, fun h => absurd h (by omega)⟩, by omega, by simp⟩
  · simp [Value.cells] at hcs
    obtain ⟨rfl, rfl, rfl⟩ := hcs
    simp only [if_true] at hmm
    have hmm' := hmm.symm
    subst hmm'
    simp only [Prod.mk.injEq] at hx
    obtain ⟨rfl, rfl⟩ := hx
    rw [maxLen_eq] at hm
    simp only [Rows.uptoBulk] at hk
    have hmany := bulks.many ((List.range len).map D)
    rw [List.length_map, List.length_range] at hmany
    have each : ∀ i, i < len → ∃ y : bt.R × Option Addr × Nat, W.cells? 0 (a.add (i * 2)) 2 = some [str y.1.key, .slice y.2.1 y.1.val.length y.2.2] ∧ BS W y.2.1 y.1.val.length y.2.2 y.1.val ∧ y.1.key.length ≤ 1048576 ∧ y.1.val.length ≤ 1048576 := fun i hi => by
      obtain ⟨cs', h1, h2⟩ := hr i (by omega)
      rw [cells_row8] at h1
      have h3 := bulks.one_of ((List.range len).map D) i (D i) (by simp [hi])
      obtain ⟨r, A, c, rfl, hB, hk1, hk2⟩ := open_row8 h2 (by omega)
      exact ⟨⟨r, A, c⟩, h1, hB, hk1, hk2⟩
    obtain ⟨Y, hY⟩ := Deep.choose_lt each
    refine ⟨some a, len, cap, (List.range len).map fun i => (Y i).1, rfl, ⟨by simp, hl, hm, fun h0 => ?_⟩, by omega, fun x hx => ?_⟩
    · obtain ⟨b, o, ha, hbl, _, _⟩ := cells_spot8 (by omega) (hY 0 h0).1
      rw [Nat.zero_mul] at ha
      have ha0 : a = ⟨b, o, none⟩ := by
        have : a.add 0 = a := by simp [Addr.add]
        rw [← this]; exact ha
      subst ha0
      refine ⟨b, o, rfl, hbl, fun i hi => ?_⟩
      have hi' : i < len := by simpa using hi
      obtain ⟨q1, q2, _, _⟩ := hY i hi'
      obtain ⟨b2, o2, ha2, _, hlen2, hc2⟩ := cells_spot8 (by omega) q1
      rw [Addr.add_lit] at ha2
      injection ha2 with e1 e2
      subst e1 e2
      simp only [List.getElem_map, List.getElem_range]
      exact ⟨hc2 0 (by omega), (Y i).2.1, (Y i).2.2, hc2 1 (by omega), q2⟩
    · obtain ⟨i, hi, rfl⟩ := List.mem_map.1 hx
      have := hY i (List.mem_range.1 hi)
      exact ⟨this.2.2.1, this.2.2.2⟩
theorem cells_chg8 : Try.prog.cellsOf 39 = 3 := by kernel_rfl
set_option maxRecDepth 100000 in
theorem open_chg8 {H : Type} {enc : TypeId × Value → H} {W : World} {fuel : Nat} {cs : List Value} {d : DataW H} {pl : List MemPlace} (h : DataW.trod enc Try.prog W 0 (fun _ => true) true fuel 39 cs = some (d, pl)) (hk : Rows.uptoBulk d ≤ 1048576) :
    ∃ (r : bt.C) (A : Option Addr) (c : Nat), cs = [str r.key, .slice A r.val.length c, .bool r.gone] ∧ BS W A r.val.length c r.val ∧ r.key.length ≤ 1048576 ∧ r.val.length ≤ 1048576 := by
  obtain ⟨xs, n', _, hd, hcl, hxl, hfx⟩ := DataW.trod_struct Try.underlying39 h
  rw [cells_chg8] at hcl
  have hx2 : xs.length = 3 := hxl
  match xs, hx2, cs, hcl with
  | [x0, x1, x2], _, [c0, c1, c2], _ =>
    have f0 : DataW.trod enc Try.prog W 0 (fun _ => true) true n' 9 [c0] = some x0 := hfx 0 _ rfl
    have f1 : DataW.trod enc Try.prog W 0 (fun _ => true) true n' 24 [c1] = some x1 := hfx 1 _ rfl
    have f2 : DataW.trod enc Try.prog W 0 (fun _ => true) true n' 4 [c2] = some x2 := hfx 2 _ rfl
    obtain ⟨s, h0, hs, _⟩ := DataW.trod_string Try.underlying9 f0
    obtain ⟨q, h2, _⟩ := DataW.trod_bool (P := Try.prog) (by kernel_rfl) f2
    obtain ⟨d1, p1⟩ := x1
    subst hs
    simp only [Prod.mk.injEq, List.map_cons, List.map_nil] at hd
    obtain ⟨rfl, _⟩ := hd
    simp only [Rows.uptoBulk, Rows.uptoBulkAll] at hk
    obtain ⟨A, n, c, l, h1, hB, hn⟩ := open_bytes_bulk f1 (by omega)
    simp only [List.cons.injEq, and_true] at h0 h1 h2
    have hl := hB.len
    subst hl
    exact ⟨⟨s.data.toList, l, q⟩, A, c, by rw [h0, h1, h2, str_of], hB, by show s.data.toList.length ≤ _; omega, hn⟩
set_option maxRecDepth 100000 in
theorem open_chs {H : Type} {enc : TypeId × Value → H} {W : World} {base : Nat} {v : Value} {d : DataW H} {ps : List MemPlace}
    (hval : Value.okWide Try.prog W .any base 23 v) (h : DataW.Trod enc Try.prog W 0 (fun _ => true) true 23 v d ps) (hk : Rows.uptoBulk d ≤ 1048576) :
    ∃ A n c l, v = .slice A n c ∧ CS W A n c l ∧ n ≤ 1048576 ∧ ∀ r ∈ l, r.key.length ≤ 1048576 ∧ r.val.length ≤ 1048576 := by
  obtain ⟨a0, len, cap, rfl⟩ := okWide_slice Try.underlying23 hval
  obtain ⟨fuel, hf⟩ := h
  rcases Deep.open_slice Try.underlying23 hf with ⟨hcs, hx⟩ | ⟨a, len', cap', m, n, D, Pl, hcs, _, hl, hm, hmm, hx, hr⟩
  · simp [Value.cells] at hcs
    obtain ⟨rfl, rfl, rfl⟩ := hcs
    exact ⟨none, 0, 0, [], rfl, ⟨rfl, Nat.le_refl _, by omega, fun h => absurd h (by omega)⟩, by omega, by simp⟩
  · simp [Value.cells] at hcs
    obtain ⟨rfl, rfl, rfl⟩ := hcs
    simp only [if_true] at hmm
    have hmm' := hmm.symm
    subst hmm'
    simp only [Prod.mk.injEq] at hx
    obtain ⟨rfl, rfl⟩ := hx
    rw [maxLen_eq] at hm
    simp only [Rows.uptoBulk] at hk
    have hmany := bulks.many ((List.range len).map D)
    rw [List.length_map, List.length_range] at hmany
    have each : ∀ i, i < len → ∃ y : bt.C × Option Addr × Nat, W.cells? 0 (a.add (i * 3)) 3 = some [str y.1.key, .slice y.2.1 y.1.val.length y.2.2, .bool y.1.gone] ∧ BS W y.2.1 y.1.val.length y.2.2 y.1.val ∧ y.1.key.length ≤ 1048576 ∧ y.1.val.length ≤ 1048576 := fun i hi => by
      obtain ⟨cs', h1, h2⟩ := hr i (by omega)
      rw [cells_chg8] at h1
      have h3 := bulks.one_of ((List.range len).map D) i (D i) (by simp [hi])
      obtain ⟨r, A, c, rfl, hB, hk1, hk2⟩ := open_chg8 h2 (by omega)
      exact ⟨⟨r, A, c⟩, h1, hB, hk1, hk2⟩
    obtain ⟨Y, hY⟩ := Deep.choose_lt each
    refine ⟨some a, len, cap, (List.range len).map fun i => (Y i).1, rfl, ⟨by simp, hl, hm, fun h0 => ?_⟩, by omega, fun x hx => ?_⟩
    · obtain ⟨b, o, ha, hbl, _, _⟩ := cells_spot8 (by omega) (hY 0 h0).1
      rw [Nat.zero_mul] at ha
      have ha0 : a = ⟨b, o, none⟩ := by
        have : a.add 0 = a := by simp [Addr.add]
        rw [← this]; exact ha
      subst ha0
      refine ⟨b, o, rfl, hbl, fun i hi => ?_⟩
      have hi' : i < len := by simpa using hi
      obtain ⟨q1, q2, _, _⟩ := hY i hi'
      obtain ⟨b2, o2, ha2, _, hlen2, hc2⟩ := cells_spot8 (by omega) q1
      rw [Addr.add_lit] at ha2
      injection ha2 with e1 e2
      subst e1 e2
      simp only [List.getElem_map, List.getElem_range]
      exact ⟨hc2 0 (by omega), hc2 2 (by omega), (Y i).2.1, (Y i).2.2, hc2 1 (by omega), q2⟩
    · obtain ⟨i, hi, rfl⟩ := List.mem_map.1 hx
      have := hY i (List.mem_range.1 hi)
      exact ⟨this.2.2.1, this.2.2.2⟩
end Go.Proofs.Ytlchfadfbepapaa
