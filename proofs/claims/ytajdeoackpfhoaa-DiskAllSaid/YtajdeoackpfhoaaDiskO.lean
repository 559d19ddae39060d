/-
  ARGUMENTS OPENED: a block by value, a slice of integers, a slice of structs with a block.
-/
import Derived.Test.YtajdeoackpfhoaaLaw
import Derived.Test.YtajdeoackpfhoaaDiskM
import Derived.Test.YtajdeoackpfhoaaDiskE
import Derived.Deep.Slices
namespace Go.Proofs.Ytajdeoackpfhoaa
open Go.ChangeShapes Go.WideShapes Go.ChangeAt Go.RowKit

section
variable {H : Type} {enc : TypeId × Value → H} {W : World}

theorem byte_of_wf' {n : Int} (hw : (Lit.int .u8 n).wf = true) : ∃ x : UInt8, Value.int .u8 n = bv x := by
  have hx : 0 ≤ n ∧ n ≤ 255 := by simpa [Lit.wf, IntKind.min, IntKind.max, IntKind.signed, IntKind.bits] using hw
  refine ⟨UInt8.ofNat n.toNat, ?_⟩
  simp
  omega
/-- a block, by its cells -/
theorem open_blk {sp : Nat → Bool} {held : Bool} {fuel : Nat} {cs : List Value} {x : DataW H × List MemPlace} (h : DataW.trod enc Try.prog W 0 sp held fuel 33 cs = some x) : ∃ b : dk.Blk, b.length = 128 ∧ cs = dk.cells b := by
  obtain ⟨xs, m, rfl, rfl, hl, hxl, hx⟩ := DataW.trod_array Try.underlying33 h
  rw [cells_blk] at hl
  have each : ∀ i, i < 128 → ∃ y : UInt8, cs[i]? = some (bv y) := fun i hi => by
    have h1 := hx i hi
    rw [cells_u8', Nat.mul_one, List.getElem?_eq_getElem (by omega)] at h1
    obtain ⟨n, hn, _, hw⟩ := DataW.trod_int Try.underlying5 h1
    rw [List.drop_eq_getElem_cons (by omega)] at hn
    simp only [List.take_succ_cons, List.take_zero, List.cons.injEq, and_true] at hn
    obtain ⟨y, hy⟩ := byte_of_wf' hw
    exact ⟨y, by rw [List.getElem?_eq_getElem (by omega), hn, hy]⟩
  obtain ⟨Y, hY⟩ := Deep.choose_lt each
  refine ⟨(List.range 128).map Y, by simp, ?_⟩
  apply List.ext_getElem?
  intro i
  by_cases hi : i < 128
  · rw [hY i hi, List.getElem?_map, List.getElem?_map, List.getElem?_range hi]
    rfl
  · rw [List.getElem?_eq_none (by omega), List.getElem?_eq_none (by simp; omega)]

theorem cells_spot {n : Nat} {a : Addr} {cs : List Value} (hn : 0 < n) (h : W.cells? 0 a n = some cs) : ∃ b o, a = ⟨b, o, none⟩ ∧ b < W.heap.size ∧ cs.length = n ∧ ∀ i, i < n → W.cell? ⟨b, o + i, none⟩ = cs[i]? := by
  unfold World.cells? at h
  rw [if_pos (Nat.zero_le _)] at h
  have hlen : cs.length = n := by simpa using mapM_some_length h
  have hget : ∀ i, i < n → W.cell? (a.add i) = cs[i]? := fun i hi => by
    have := mapM_some_get h i i (by simp [hi])
    exact this
  have h0 := hget 0 hn
  rw [List.getElem?_eq_getElem (by omega)] at h0
  have hsp : a.spot = none := by
    have : a.add 0 = a := by simp [Addr.add]
    rw [this] at h0
    unfold World.cell? at h0
    split at h0
    · cases hsp : a.spot with
      | none => rfl
      | some x => simp [hsp] at h0
    · cases h0
  obtain ⟨b, o, sp⟩ := a
  simp only at hsp
  subst hsp
  refine ⟨b, o, rfl, World.block_lt_of_cell? _ _ h0, hlen, fun i hi => ?_⟩
  rw [← hget i hi, Addr.add_lit]
end

/-- THE SLICE OF PUTS '.slice A n c' READS AS l IN w: each one a number and a block. -/
structure PS (w : World) (A : Option Addr) (n c : Nat) (l : List (UInt8 × dk.Blk)) : Prop where
  len : l.length = n
  cap : n ≤ c
  max : c ≤ 9223372036854775807
  blk : ∀ x ∈ l, x.2.length = 128
  has : 0 < n → ∃ b o, A = some ⟨b, o, none⟩ ∧ b < w.heap.size ∧ ∀ i (h : i < l.length), w.cell? ⟨b, o + i * 129, none⟩ = some (bv l[i].1) ∧ w.rangeAt b (o + i * 129 + 1) (dk.cells l[i].2)
theorem PS.below {w w' : World} {A : Option Addr} {n c : Nat} {l : List (UInt8 × dk.Blk)} (h : PS w A n c l) (hb : Below w.heap.size w w') : PS w' A n c l :=
  ⟨h.len, h.cap, h.max, h.blk, fun hn => by
    obtain ⟨b, o, e, hbl, hc⟩ := h.has hn
    exact ⟨b, o, e, Nat.lt_of_lt_of_le hbl hb.size, fun i hi => ⟨(hb.cell (p := ⟨b, o + i * 129, none⟩) hbl).trans (hc i hi).1, dk.range_below (hc i hi).2 hb⟩⟩⟩
theorem cells_put : Try.prog.cellsOf 49 = 129 := by kernel_rfl
theorem open_puts {H : Type} {enc : TypeId × Value → H} {W : World} {base : Nat} {v : Value} {d : DataW H} {ps : List MemPlace}
    (hval : Value.okWide Try.prog W .any base 42 v) (h : DataW.Trod enc Try.prog W 0 (fun _ => true) true 42 v d ps) :
    ∃ A n c l, v = .slice A n c ∧ PS W A n c l := by
  obtain ⟨a0, len, cap, rfl⟩ := okWide_slice Try.underlying42 hval
  obtain ⟨fuel, hf⟩ := h
  rcases Deep.open_slice Try.underlying42 hf with ⟨hcs, hx⟩ | ⟨a, len', cap', m, n, D, Pl, hcs, _, hl, hm, hmm, hx, hr⟩
  · simp [Value.cells] at hcs
    obtain ⟨rfl, rfl, rfl⟩ := hcs
    exact ⟨none, 0, 0, [], rfl, rfl, Nat.le_refl _, by omega, by simp, fun h => absurd h (by omega)⟩
  · simp [Value.cells] at hcs
    obtain ⟨rfl, rfl, rfl⟩ := hcs
    simp only [if_true] at hmm
    have hmm' := hmm.symm
    subst hmm'
    rw [maxLen_eq] at hm
    have each : ∀ i, i < len → ∃ y : UInt8 × dk.Blk, y.2.length = 128 ∧ W.cells? 0 (a.add (i * 129)) 129 = some (bv y.1 :: dk.cells y.2) := fun i hi => by
      obtain ⟨cs', h1, h2⟩ := hr i (by omega)
      rw [cells_put] at h1
      obtain ⟨xs, n', _, _, hcl, hxl, hfx⟩ := DataW.trod_struct Try.underlying49 h2
      rw [cells_put] at hcl
      have f0 : DataW.trod enc Try.prog W 0 (fun _ => true) true n' 5 ((cs'.drop 0).take (Try.prog.cellsOf 5)) = xs[0]? := hfx 0 _ rfl
      have f1 : DataW.trod enc Try.prog W 0 (fun _ => true) true n' 33 ((cs'.drop 1).take (Try.prog.cellsOf 33)) = xs[1]? := hfx 1 _ rfl
      rw [cells_u8', List.drop_zero] at f0
      rw [cells_blk] at f1
      have hx2 : xs.length = 2 := hxl
      rw [List.getElem?_eq_getElem (by omega)] at f0 f1
      obtain ⟨z, hz, _, hw⟩ := DataW.trod_int Try.underlying5 f0
      obtain ⟨b, hb, hcb⟩ := open_blk f1
      obtain ⟨y, hy⟩ := byte_of_wf' hw
      refine ⟨(y, b), hb, ?_⟩
      rw [h1]
      congr 1
      match cs', hcl with
      | c0 :: rest, hcl =>
        simp only [List.take_succ_cons, List.take_zero, List.cons.injEq, and_true] at hz
        simp only [List.drop_succ_cons, List.drop_zero] at hcb
        rw [List.take_of_length_le (by simp at hcl; omega)] at hcb
        rw [hz, hy, hcb]
    obtain ⟨Y, hY⟩ := Deep.choose_lt each
    refine ⟨some a, len, cap, (List.range len).map Y, rfl, by simp, hl, hm, fun x hx => ?_, fun h0 => ?_⟩
    · obtain ⟨i, hi, rfl⟩ := List.mem_map.1 hx
      exact (hY i (List.mem_range.1 hi)).1
    · obtain ⟨b, o, ha, hbl, _, _⟩ := cells_spot (by omega) (hY 0 h0).2
      rw [Nat.zero_mul] at ha
      have ha0 : a = ⟨b, o, none⟩ := by
        have : a.add 0 = a := by simp [Addr.add]
        rw [← this]; exact ha
      subst ha0
      refine ⟨b, o, rfl, hbl, fun i hi => ?_⟩
      have hi' : i < len := by simpa using hi
      obtain ⟨b2, o2, ha2, _, hlen2, hc2⟩ := cells_spot (by omega) (hY i hi').2
      rw [Addr.add_lit] at ha2
      injection ha2 with e1 e2
      subst e1 e2
      simp only [List.getElem_map, List.getElem_range]
      refine ⟨?_, fun j u hj => ?_⟩
      · have := hc2 0 (by omega)
        rw [Nat.add_zero] at this
        rw [this]; rfl
      · have hj' : j < 128 := by
          have := (List.getElem?_eq_some_iff.1 hj).1
          rwa [List.length_map, (hY i hi').1] at this
        have := hc2 (1 + j) (by omega)
        rw [← Nat.add_assoc] at this
        rw [this, Nat.add_comm 1 j]
        exact hj

/-- a slice of integers, by its cell -/
theorem open_is {H : Type} {enc : TypeId × Value → H} {W : World} {fuel : Nat} {cs : List Value} {x : DataW H × List MemPlace} (h : DataW.trod enc Try.prog W 0 (fun _ => true) true fuel 34 cs = some x) : ∃ A n c l, cs = [.slice A n c] ∧ IS W A n c l := by
  rcases open_ints Try.underlying34 Try.underlying3 (by kernel_rfl) h with ⟨hcs, hx⟩ | ⟨a, len, cap, zs, hcs, _, hl, hm, hz, hx, hcell, hwz⟩
  · exact ⟨none, 0, 0, [], hcs, rfl, Nat.le_refl _, by omega, fun h => absurd h (by omega)⟩
  · rw [maxLen_eq] at hm
    simp only [if_true] at hz
    refine ⟨some a, len, cap, zs.take len, hcs, by simp; omega, hl, hm, fun h0 => ?_⟩
    have hc0 := hcell 0 (by omega)
    have hsp : a.spot = none := by
      have : a.add 0 = a := by simp [Addr.add]
      rw [this] at hc0
      unfold World.cell? at hc0
      split at hc0
      · cases hsp : a.spot with
        | none => rfl
        | some x => simp [hsp] at hc0
      · cases hc0
    obtain ⟨b, o, sp⟩ := a
    simp only at hsp
    subst hsp
    refine ⟨b, o, rfl, World.block_lt_of_cell? _ _ hc0, fun i hi => ?_⟩
    have hi' : i < zs.length := by simp at hi; omega
    have := hcell i (by simp at hi; omega)
    rw [Addr.add_lit] at this
    rw [this]
    simp [List.getD, hi']
theorem open_picks {H : Type} {enc : TypeId × Value → H} {W : World} {base : Nat} {v : Value} {d : DataW H} {ps : List MemPlace}
    (hval : Value.okWide Try.prog W .any base 34 v) (h : DataW.Trod enc Try.prog W 0 (fun _ => true) true 34 v d ps) : ∃ A n c l, v = .slice A n c ∧ IS W A n c l := by
  obtain ⟨a0, len, cap, rfl⟩ := okWide_slice Try.underlying34 hval
  obtain ⟨fuel, hf⟩ := h
  obtain ⟨A, n, c, l, hcs, hI⟩ := open_is hf
  simp [Value.cells] at hcs
  obtain ⟨rfl, rfl, rfl⟩ := hcs
  exact ⟨_, _, _, l, rfl, hI⟩

/-- an act: what, where, which byte, by what, a block, picks -/
structure AC where
  kind : Int
  n : Int
  at_ : Int
  x : UInt8
  b : dk.Blk
  pA : Option Addr
  pn : Nat
  pc : Nat
  pl : List Int
instance : Inhabited AC := ⟨⟨0, 0, 0, 0, [], none, 0, 0, []⟩⟩
def AC.cells (a : AC) : List Value := .int .i64 a.kind :: .int .i64 a.n :: .int .i64 a.at_ :: bv a.x :: (dk.cells a.b ++ [.slice a.pA a.pn a.pc])
structure AC.Ok (w : World) (a : AC) : Prop where
  b : a.b.length = 128
  p : IS w a.pA a.pn a.pc a.pl
  n : -9223372036854775808 ≤ a.n ∧ a.n ≤ 9223372036854775807
  at_ : -9223372036854775808 ≤ a.at_ ∧ a.at_ ≤ 9223372036854775807
theorem cells_act : Try.prog.cellsOf 36 = 133 := by kernel_rfl
theorem cells_int : Try.prog.cellsOf 3 = 1 := by kernel_rfl
theorem cells_sl : Try.prog.cellsOf 34 = 1 := by kernel_rfl
theorem i64_range' {a : Int} (w : (Lit.int .i64 a).wf = true) : -9223372036854775808 ≤ a ∧ a ≤ 9223372036854775807 := by
  simpa [Lit.wf, IntKind.min, IntKind.max, IntKind.signed, IntKind.bits] using w
theorem open_act {H : Type} {enc : TypeId × Value → H} {W : World} {fuel : Nat} {cs : List Value} {x : DataW H × List MemPlace} (h : DataW.trod enc Try.prog W 0 (fun _ => true) true fuel 36 cs = some x) : ∃ a : AC, cs = a.cells ∧ a.Ok W := by
  obtain ⟨xs, n', _, _, hcl, hxl, hfx⟩ := DataW.trod_struct Try.underlying36 h
  rw [cells_act] at hcl
  have f0 : DataW.trod enc Try.prog W 0 (fun _ => true) true n' 3 ((cs.drop 0).take (Try.prog.cellsOf 3)) = xs[0]? := hfx 0 _ rfl
  have f1 : DataW.trod enc Try.prog W 0 (fun _ => true) true n' 3 ((cs.drop 1).take (Try.prog.cellsOf 3)) = xs[1]? := hfx 1 _ rfl
  have f2 : DataW.trod enc Try.prog W 0 (fun _ => true) true n' 3 ((cs.drop 2).take (Try.prog.cellsOf 3)) = xs[2]? := hfx 2 _ rfl
  have f3 : DataW.trod enc Try.prog W 0 (fun _ => true) true n' 5 ((cs.drop 3).take (Try.prog.cellsOf 5)) = xs[3]? := hfx 3 _ rfl
  have f4 : DataW.trod enc Try.prog W 0 (fun _ => true) true n' 33 ((cs.drop 4).take (Try.prog.cellsOf 33)) = xs[4]? := hfx 4 _ rfl
  have f5 : DataW.trod enc Try.prog W 0 (fun _ => true) true n' 34 ((cs.drop 132).take (Try.prog.cellsOf 34)) = xs[5]? := hfx 5 _ rfl
  have hx2 : xs.length = 6 := hxl
  rw [cells_int, List.getElem?_eq_getElem (by omega)] at f0 f1 f2
  rw [cells_u8', List.getElem?_eq_getElem (by omega)] at f3
  rw [cells_blk, List.getElem?_eq_getElem (by omega)] at f4
  rw [cells_sl, List.getElem?_eq_getElem (by omega)] at f5
  obtain ⟨z0, h0, _, w0⟩ := DataW.trod_int Try.underlying3 f0
  obtain ⟨z1, h1, _, w1⟩ := DataW.trod_int Try.underlying3 f1
  obtain ⟨z2, h2, _, w2⟩ := DataW.trod_int Try.underlying3 f2
  obtain ⟨z3, h3, _, w3⟩ := DataW.trod_int Try.underlying5 f3
  obtain ⟨b, hb, hcb⟩ := open_blk f4
  obtain ⟨A, pn, pc, pl, hcp, hI⟩ := open_is f5
  obtain ⟨y, hy⟩ := byte_of_wf' w3
  refine ⟨⟨z0, z1, z2, y, b, A, pn, pc, pl⟩, ?_, hb, hI, i64_range' w1, i64_range' w2⟩
  match cs, hcl with
  | c0 :: c1 :: c2 :: c3 :: rest, hcl =>
    simp only [List.drop_zero, List.take_succ_cons, List.take_zero, List.cons.injEq, and_true] at h0
    simp only [List.drop_succ_cons, List.drop_zero, List.take_succ_cons, List.take_zero, List.cons.injEq, and_true] at h1 h2 h3
    simp only [List.drop_succ_cons, List.drop_zero] at hcb hcp
    simp only [List.length_cons] at hcl
    rw [List.take_of_length_le (by simp; omega)] at hcp
    simp only [AC.cells]
    rw [h0, h1, h2, h3, hy, ← hcb, ← hcp, List.take_append_drop]
theorem AC.length (a : AC) (hb : a.b.length = 128) : a.cells.length = 133 := by simp [AC.cells, hb]
theorem open_act_val {H : Type} {enc : TypeId × Value → H} {W : World} {base : Nat} {v : Value} {d : DataW H} {ps : List MemPlace}
    (hval : Value.okWide Try.prog W .any base 36 v) (h : DataW.Trod enc Try.prog W 0 (fun _ => true) true 36 v d ps) : ∃ a : AC, v = .agg a.cells.toArray ∧ a.Ok W := by
  obtain ⟨cs, rfl, hsz, _⟩ : ∃ cs, v = .agg cs ∧ cs.size = Try.prog.cellsOf 36 ∧ Row.okWide Try.prog W .any base 36 cs := by
    simpa [Value.okWide, Try.underlying36] using hval
  obtain ⟨fuel, hf⟩ := h
  obtain ⟨a, ha, hok⟩ := open_act hf
  refine ⟨a, ?_, hok⟩
  simp only [Value.cells] at ha
  rw [← ha]

/-- THE SLICE OF ACTS '.slice A n c' READS AS l IN w. -/
structure AS (w : World) (A : Option Addr) (n c : Nat) (l : List AC) : Prop where
  len : l.length = n
  cap : n ≤ c
  max : c ≤ 9223372036854775807
  ok : ∀ x ∈ l, x.Ok w
  has : 0 < n → ∃ b o, A = some ⟨b, o, none⟩ ∧ b < w.heap.size ∧ ∀ i (h : i < l.length), w.rangeAt b (o + i * 133) l[i].cells
theorem AC.Ok.below {w w' : World} {a : AC} (h : a.Ok w) (hb : Below w.heap.size w w') : a.Ok w' :=
  ⟨h.b, h.p.chg (Chg.of_below hb []) (by simp), h.n, h.at_⟩
theorem AS.below {w w' : World} {A : Option Addr} {n c : Nat} {l : List AC} (h : AS w A n c l) (hb : Below w.heap.size w w') : AS w' A n c l :=
  ⟨h.len, h.cap, h.max, fun x hx => (h.ok x hx).below hb, fun hn => by
    obtain ⟨b, o, e, hbl, hc⟩ := h.has hn
    exact ⟨b, o, e, Nat.lt_of_lt_of_le hbl hb.size, fun i hi => dk.range_below (hc i hi) hb⟩⟩
theorem open_acts {H : Type} {enc : TypeId × Value → H} {W : World} {base : Nat} {v : Value} {d : DataW H} {ps : List MemPlace}
    (hval : Value.okWide Try.prog W .any base 22 v) (h : DataW.Trod enc Try.prog W 0 (fun _ => true) true 22 v d ps) :
    ∃ A n c l, v = .slice A n c ∧ AS W A n c l := by
  obtain ⟨a0, len, cap, rfl⟩ := okWide_slice Try.underlying22 hval
  obtain ⟨fuel, hf⟩ := h
  rcases Deep.open_slice Try.underlying22 hf with ⟨hcs, hx⟩ | ⟨a, len', cap', m, n, D, Pl, hcs, _, hl, hm, hmm, hx, hr⟩
  · simp [Value.cells] at hcs
    obtain ⟨rfl, rfl, rfl⟩ := hcs
    exact ⟨none, 0, 0, [], rfl, rfl, Nat.le_refl _, by omega, by simp, fun h => absurd h (by omega)⟩
  · simp [Value.cells] at hcs
    obtain ⟨rfl, rfl, rfl⟩ := hcs
    simp only [if_true] at hmm
    have hmm' := hmm.symm
    subst hmm'
    rw [maxLen_eq] at hm
    have each : ∀ i, i < len → ∃ y : AC, y.Ok W ∧ W.cells? 0 (a.add (i * 133)) 133 = some y.cells := fun i hi => by
      obtain ⟨cs', h1, h2⟩ := hr i (by omega)
      rw [cells_act] at h1
      obtain ⟨y, rfl, hy⟩ := open_act h2
      exact ⟨y, hy, h1⟩
    obtain ⟨Y, hY⟩ := Deep.choose_lt each
    refine ⟨some a, len, cap, (List.range len).map Y, rfl, by simp, hl, hm, fun x hx => ?_, fun h0 => ?_⟩
    · obtain ⟨i, hi, rfl⟩ := List.mem_map.1 hx
      exact (hY i (List.mem_range.1 hi)).1
    · obtain ⟨b, o, ha, hbl, _, _⟩ := cells_spot (by omega) (hY 0 h0).2
      rw [Nat.zero_mul] at ha
      have ha0 : a = ⟨b, o, none⟩ := by
        have : a.add 0 = a := by simp [Addr.add]
        rw [← this]; exact ha
      subst ha0
      refine ⟨b, o, rfl, hbl, fun i hi => ?_⟩
      have hi' : i < len := by simpa using hi
      obtain ⟨b2, o2, ha2, _, hlen2, hc2⟩ := cells_spot (by omega) (hY i hi').2
      rw [Addr.add_lit] at ha2
      injection ha2 with e1 e2
      subst e1 e2
      simp only [List.getElem_map, List.getElem_range]
      intro j u hj
      have hj' : j < 133 := by
        have := (List.getElem?_eq_some_iff.1 hj).1
        rwa [AC.length _ (hY i hi').1.b] at this
      rw [hc2 j hj']
      exact hj
end Go.Proofs.Ytajdeoackpfhoaa
