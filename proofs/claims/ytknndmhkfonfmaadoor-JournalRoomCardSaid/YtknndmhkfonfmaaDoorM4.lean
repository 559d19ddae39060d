/-
  A SLICE OF BYTE SLICES among the arguments: it reads as a list of lists; what the second form's bound gives of it.
-/
import Derived.Test.YtknndmhkfonfmaaDoorM1
import Derived.Test.YtknndmhkfonfmaaDoorM3
import Derived.Deep.Matrix
import Derived.Deep.AppendLies
import Derived.Great.BuildSlice
import Derived.Deep.QuietTactic
import Derived.BigQuiet
import Derived.Test.YtknndmhkfonfmaaDoorM2
import Derived.Deep.RegionHeldLaw
import Derived.RangeFuncNested
import Derived.RangeFuncBound
import Derived.RangeFuncCalls
import Derived.RangeFuncLeaves
import Derived.Shelf.Abstract
import Derived.Shelf.RegionOpen
import Derived.WalkKit
import Derived.OwnWalkIn
import Derived.TacticsInMore
import Derived.LoopNIn
import Derived.LoopIn
import Derived.StillTailTactics
namespace Go.Proofs.YtknndmhkfonfmaaDoor
open Go.ChangeShapes Go.WideShapes Go.ChangeAt Go.RowKit

/-- THE SLICE '.slice A n c' OF BYTE SLICES READS AS ll IN w. -/
structure RS (w : World) (A : Option Addr) (n c : Nat) (ll : List (List UInt8)) : Prop where
  len : ll.length = n
  cap : n ≤ c
  max : c ≤ 9223372036854775807
  has : 0 < n → ∃ b o, A = some ⟨b, o, none⟩ ∧ b < w.heap.size ∧ ∀ i (h : i < ll.length), ∃ Ai ci, w.cell? ⟨b, o + i, none⟩ = some (.slice Ai ll[i].length ci) ∧ BS w Ai ll[i].length ci ll[i]
set_option maxRecDepth 100000 in
theorem RS.below {w w' : World} {A : Option Addr} {n c : Nat} {ll : List (List UInt8)} (h : RS w A n c ll) (hb : Below w.heap.size w w') : RS w' A n c ll :=
  ⟨h.len, h.cap, h.max, fun hn => by
    obtain ⟨b, o, e, hbl, hc⟩ := h.has hn
    refine ⟨b, o, e, Nat.lt_of_lt_of_le hbl hb.size, fun i hi => ?_⟩
    obtain ⟨Ai, ci, h1, h2⟩ := hc i hi
    exact ⟨Ai, ci, (hb.cell (p := ⟨b, o + i, none⟩) hbl).trans h1, h2.below hb⟩⟩

set_option maxRecDepth 100000 in
theorem weights_of {H : Type} {P : Program} {ts : List TypeId} {ds : List (DataW H)} (h : (DataW.weightsEach P ts ds).all (· ≤ reachBytes) = true) {j : Nat} {t : TypeId} {d : DataW H} (ht : ts[j]? = some t) (hd : ds[j]? = some d) :
    ∀ n ∈ d.weights P t, n ≤ reachBytes := fun n hn => by
  have := List.all_eq_true.1 h _ (DataW.weights_mem_each ht hd n hn)
  simpa using this
set_option maxRecDepth 100000 in
theorem weightsAll_mem {H : Type} {P : Program} {e : TypeId} {d : DataW H} {n : Nat} : ∀ {l : List (DataW H)}, d ∈ l → n ∈ d.weights P e → n ∈ DataW.weightsAll P e l
  | [], h, _ => by cases h
  | x :: r, h, hn => by
    simp only [DataW.weightsAll, List.mem_append]
    rcases List.mem_cons.1 h with rfl | h
    · exact .inl hn
    · exact .inr (weightsAll_mem h hn)
set_option maxRecDepth 100000 in
theorem bs_of_row {w : World} {A : Option Addr} {L C : Nat} {zs : List Int} (hl : L ≤ C) (hm : C ≤ maxLen) (hz : zs.length = C) (hw : ∀ n ∈ zs, (Lit.int .u8 n).wf = true) (h0 : A = none → C = 0)
    (hc : ∀ a', A = some a' → ∀ c, c < C → w.cell? (a'.add c) = some (.int .u8 (zs.getD c 0))) (hs : L ≤ 281474976710656) : ∃ l : List UInt8, l.length = L ∧ BS w A L C l := by
  obtain ⟨l, rfl⟩ := bytes_of_wf hw
  rw [maxLen_eq] at hm
  simp only [List.length_map] at hz
  refine ⟨l.take L, by simp; omega, by simp; omega, hl, hm, hs, fun hL => ?_⟩
  cases A with
  | none => have := h0 rfl; omega
  | some a =>
    have hcell := hc a rfl
    have hc0 := hcell 0 (by omega)
    have hsp : a.spot = none := by
      have : a.add 0 = a := by simp [Addr.add]
      rw [this] at hc0
      unfold World.cell? at hc0
      split at hc0
      · cases hsp : a.spot with
        | none => rfl
        | some x => simp [hsp] at hc0
      · cases hc0
    obtain ⟨b, o, sp⟩ := a
    simp only at hsp
    subst hsp
    refine ⟨b, o, rfl, World.block_lt_of_cell? _ _ hc0, fun i hi => ?_⟩
    have hi' : i < l.length := by simp at hi; omega
    have := hcell i (by simp at hi; omega)
    rw [Addr.add_lit] at this
    rw [this]
    simp [List.getD, hi']

set_option maxRecDepth 100000 in
/-- byte slices among the arguments, of the second form's bulk: each of at most so many letters, and at most so many of them -/
theorem open_rows {H : Type} {enc : TypeId × Value → H} {W : World} {base : Nat} {v : Value} {d : DataW H} {ps : List MemPlace}
    (hval : Value.okWide Tryd.prog W .any base 32 v) (h : DataW.Trod enc Tryd.prog W 0 (fun _ => true) true 32 v d ps) (hk : Rows.uptoBulk d ≤ 1048576) :
    ∃ A n c ll, v = .slice A n c ∧ RS W A n c ll ∧ n ≤ 1048576 ∧ ∀ l ∈ ll, l.length ≤ 1048576 := by
  obtain ⟨a0, len, cap, rfl⟩ := okWide_slice Tryd.underlying32 hval
  obtain ⟨fuel, hf⟩ := h
  rcases Deep.open_int_rows Tryd.underlying32 Tryd.underlying23 Tryd.underlying5 (by kernel_rfl) (by kernel_rfl) hf with ⟨hcs, hx⟩ | ⟨a, len', cap', A, L, C, Z, hcs, _, hl, hm, hx, hr⟩
  · simp [Value.cells] at hcs
    obtain ⟨rfl, rfl, rfl⟩ := hcs
    exact ⟨none, 0, 0, [], rfl, ⟨rfl, Nat.le_refl _, by omega, fun h => absurd h (by omega)⟩, by omega, by simp⟩
  · simp [Value.cells] at hcs
    obtain ⟨rfl, rfl, rfl⟩ := hcs
    simp only [Prod.mk.injEq] at hx
    obtain ⟨rfl, rfl⟩ := hx
    rw [maxLen_eq] at hm
    simp only [Rows.uptoBulk] at hk
    have hmany := bulks.many ((List.range len).map fun r => Deep.intRow (H := H) .u8 (A r) (L r) (Z r))
    rw [List.length_map, List.length_range] at hmany
    have hL : ∀ r, r < len → L r ≤ 1048576 := fun r hrl => by
      obtain ⟨_, r1, r2, r3, _, r5, _⟩ := hr r (by omega)
      have h1 := bulks.one_of ((List.range len).map fun r => Deep.intRow (H := H) .u8 (A r) (L r) (Z r)) r (Deep.intRow .u8 (A r) (L r) (Z r)) (by simp [hrl])
      have h3 : Rows.uptoBulk (Deep.intRow (H := H) .u8 (A r) (L r) (Z r)) ≤ 1048576 := by omega
      clear h1
      cases hA : A r with
      | none =>
        have := r5 hA
        omega
      | some a' =>
        rw [hA] at h3
        simp only [Deep.intRow, Rows.uptoBulk] at h3
        have h2 := bulks.many (H := H) (lits .u8 ((Z r).take (L r)))
        simp only [lits, List.length_map, List.length_take, r3] at h2 h3
        omega
    have each : ∀ r, r < len → ∃ l : List UInt8, l.length = L r ∧ BS W (A r) (L r) (C r) l := fun r hrl => by
      obtain ⟨_, r1, r2, r3, r4, r5, r6⟩ := hr r (by omega)
      exact bs_of_row r1 r2 r3 r4 r5 (fun a' ha => (r6 a' ha).2) (by have := hL r hrl; omega)
    obtain ⟨y, hy⟩ := Deep.choose_lt each
    refine ⟨some a, len, cap, (List.range len).map y, rfl, ⟨by simp, hl, hm, fun h0 => ?_⟩, by omega, fun l hlm => ?_⟩
    · have hc0 := (hr 0 (by omega)).1
      have hsp : a.spot = none := by
        have : a.add 0 = a := by simp [Addr.add]
        rw [this] at hc0
        unfold World.cell? at hc0
        split at hc0
        · cases hsp : a.spot with
          | none => rfl
          | some x => simp [hsp] at hc0
        · cases hc0
      obtain ⟨b, o, sp⟩ := a
      simp only at hsp
      subst hsp
      refine ⟨b, o, rfl, World.block_lt_of_cell? _ _ hc0, fun i hi => ?_⟩
      have hi' : i < len := by simpa using hi
      have hci := (hr i (by omega)).1
      rw [Addr.add_lit] at hci
      have h1 := hy i hi'
      refine ⟨A i, C i, ?_, ?_⟩
      · rw [hci]; simp [h1.1]
      · simp only [List.getElem_map, List.getElem_range, h1.1]; exact h1.2
    · obtain ⟨r, hrm, rfl⟩ := List.mem_map.1 hlm
      have hrl := List.mem_range.1 hrm
      rw [(hy r hrl).1]
      exact hL r hrl
set_option maxRecDepth 100000 in
/-- byte slices among the arguments, whatever their bulk -/
theorem open_rows1 {H : Type} {enc : TypeId × Value → H} {W : World} {base : Nat} {v : Value} {d : DataW H} {ps : List MemPlace}
    (hval : Value.okWide Tryd.prog W .any base 32 v) (h : DataW.Trod enc Tryd.prog W 0 (fun _ => true) true 32 v d ps) (hw : ∀ n ∈ d.weights Tryd.prog 32, n ≤ reachBytes) :
    ∃ A n c ll, v = .slice A n c ∧ RS W A n c ll ∧ n ≤ 140737488351232 ∧ ∀ l ∈ ll, l.length ≤ 140737488351232 := by
  obtain ⟨a0, len, cap, rfl⟩ := okWide_slice Tryd.underlying32 hval
  obtain ⟨fuel, hf⟩ := h
  have hrb : reachBytes = 140737488351232 := by decide
  rcases Deep.open_int_rows Tryd.underlying32 Tryd.underlying23 Tryd.underlying5 (by kernel_rfl) (by kernel_rfl) hf with ⟨hcs, hx⟩ | ⟨a, len', cap', A, L, C, Z, hcs, _, hl, hm, hx, hr⟩
  · simp [Value.cells] at hcs
    obtain ⟨rfl, rfl, rfl⟩ := hcs
    exact ⟨none, 0, 0, [], rfl, ⟨rfl, Nat.le_refl _, by omega, fun h => absurd h (by omega)⟩, by omega, by simp⟩
  · simp [Value.cells] at hcs
    obtain ⟨rfl, rfl, rfl⟩ := hcs
    simp only [Prod.mk.injEq] at hx
    obtain ⟨rfl, rfl⟩ := hx
    rw [maxLen_eq] at hm
    have b8 : Tryd.prog.bytesOf 5 = 1 := by kernel_rfl
    have b24 : Tryd.prog.bytesOf 23 = 24 := by kernel_rfl
    simp only [DataW.weights, Tryd.underlying32, b24] at hw
    have hlen : len ≤ 140737488351232 := by
      have h1 := hw _ (List.mem_cons_self ..)
      rw [List.length_map, List.length_range, hrb] at h1
      omega
    have hL : ∀ r, r < len → L r ≤ 140737488351232 := fun r hrl => by
      obtain ⟨_, r1, r2, r3, _, r5, _⟩ := hr r (by omega)
      cases hA : A r with
      | none => have := r5 hA; omega
      | some a' =>
        have hmem : ((lits (H := H) .u8 ((Z r).take (L r))).length + (lits (H := H) .u8 ((Z r).drop (L r))).length) * 1 ∈ DataW.weightsAll Tryd.prog 23 ((List.range len).map fun r => Deep.intRow (H := H) .u8 (A r) (L r) (Z r)) := by
          refine weightsAll_mem (d := Deep.intRow (H := H) .u8 (A r) (L r) (Z r)) (List.mem_map.2 ⟨r, List.mem_range.2 hrl, rfl⟩) ?_
          rw [hA]
          simp only [Deep.intRow, DataW.weights, Tryd.underlying23, b8]
          exact List.mem_cons_self ..
        have h1 := hw _ (List.mem_cons_of_mem _ (List.mem_append_left _ hmem))
        simp only [lits, List.length_map, List.length_take, List.length_drop, r3, hrb] at h1
        omega
    have each : ∀ r, r < len → ∃ l : List UInt8, l.length = L r ∧ BS W (A r) (L r) (C r) l := fun r hrl => by
      obtain ⟨_, r1, r2, r3, r4, r5, r6⟩ := hr r (by omega)
      exact bs_of_row r1 r2 r3 r4 r5 (fun a' ha => (r6 a' ha).2) (by have := hL r hrl; omega)
    obtain ⟨y, hy⟩ := Deep.choose_lt each
    refine ⟨some a, len, cap, (List.range len).map y, rfl, ⟨by simp, hl, hm, fun h0 => ?_⟩, hlen, fun l hlm => ?_⟩
    · have hc0 := (hr 0 (by omega)).1
      have hsp : a.spot = none := by
        have : a.add 0 = a := by simp [Addr.add]
        rw [this] at hc0
        unfold World.cell? at hc0
        split at hc0
        · cases hsp : a.spot with
          | none => rfl
          | some x => simp [hsp] at hc0
        · cases hc0
      obtain ⟨b, o, sp⟩ := a
      simp only at hsp
      subst hsp
      refine ⟨b, o, rfl, World.block_lt_of_cell? _ _ hc0, fun i hi => ?_⟩
      have hi' : i < len := by simpa using hi
      have hci := (hr i (by omega)).1
      rw [Addr.add_lit] at hci
      have h1 := hy i hi'
      refine ⟨A i, C i, ?_, ?_⟩
      · rw [hci]; simp [h1.1]
      · simp only [List.getElem_map, List.getElem_range, h1.1]; exact h1.2
    · obtain ⟨r, hrm, rfl⟩ := List.mem_map.1 hlm
      have hrl := List.mem_range.1 hrm
      rw [(hy r hrl).1]
      exact hL r hrl
end Go.Proofs.YtknndmhkfonfmaaDoor

/-
  BYTE SLICES IN A ROW OF THE CALL's OWN ([][]byte that is built by append): what it is, one more, what it reads as.
-/
namespace Go.Proofs.YtknndmhkfonfmaaDoor
open Go.RowKit

/-- rows of the call's own: their values vs, each of which has bytes of the call's own, in other blocks than the row of them -/
structure OwnRs (e8 eS : TypeId) (w : World) (base : Nat) (v : Value) (ll : List (List UInt8)) (vs : List Value) : Prop where
  len : vs.length = ll.length
  row : w.ownsRow base eS 1 v ll.length vs
  each : ∀ (i : Nat) (l : List UInt8), ll[i]? = some l → ∃ A c, vs[i]? = some (Value.slice A l.length c) ∧ OwnB e8 w base (Value.slice A l.length c) l ∧ (∀ g, (Value.slice A l.length c).ownBlock = some g → v.ownBlock ≠ some g)
theorem ownsRow_base {w : World} {base base' : Nat} {e : TypeId} {size n : Nat} {v : Value} {xs : List Value} (h : w.ownsRow base e size v n xs) (hb : base' ≤ base) : w.ownsRow base' e size v n xs :=
  ⟨h.1, h.2.imp id fun ⟨g, cap, cur, a, b, c⟩ => ⟨g, cap, cur, a, Nat.le_trans hb b, c⟩⟩
namespace OwnRs
variable {e8 eS : TypeId} {w w' : World} {base : Nat} {v : Value} {ll : List (List UInt8)} {vs : List Value}
theorem nil_ (e8 eS : TypeId) (w : World) (base : Nat) : OwnRs e8 eS w base (.slice none 0 0) [] [] := ⟨rfl, World.ownsRow_nil _ _ _ _, fun i l h => by simp at h⟩
theorem mono {base' : Nat} (h : OwnRs e8 eS w base v ll vs) (hb : base' ≤ base) : OwnRs e8 eS w base' v ll vs :=
  ⟨h.len, ownsRow_base h.row hb, fun i l hl => by
    obtain ⟨A, c, h1, h2, h3⟩ := h.each i l hl
    exact ⟨A, c, h1, h2.mono hb, h3⟩⟩
theorem grown {row : Option Nat} (h : OwnRs e8 eS w base v ll vs) (hg : w.grownBy w' row) (hv : ∀ g, v.ownBlock = some g → row ≠ some g) (hr : ∀ (i : Nat) (l : List UInt8) A c, ll[i]? = some l → vs[i]? = some (Value.slice A l.length c) → ∀ g, (Value.slice A l.length c).ownBlock = some g → row ≠ some g) : OwnRs e8 eS w' base v ll vs :=
  ⟨h.len, h.row.kept hg (by
    cases hq : v.ownBlock with
    | none => exact .inl rfl
    | some g => exact .inr (fun e => hv g hq e.symm)), fun i l hl => by
    obtain ⟨A, c, h1, h2, h3⟩ := h.each i l hl
    refine ⟨A, c, h1, h2.kept hg ?_, h3⟩
    cases hq : (Value.slice A l.length c).ownBlock with
    | none => exact .inl rfl
    | some g => exact .inr (fun e => hr i l A c hl h1 g hq e.symm)⟩
theorem keep (h : OwnRs e8 eS w base v ll vs) (hk : ∀ k, k < w.heap.size → w'.heap[k]? = w.heap[k]?) : OwnRs e8 eS w' base v ll vs := by
  refine ⟨h.len, ⟨h.row.1, h.row.2.imp id ?_⟩, fun i l hl => ?_⟩
  · rintro ⟨g, cap, cur, a, b, c, d⟩
    exact ⟨g, cap, cur, a, b, (hk g (Array.getElem?_eq_some_iff.1 c).1).trans c, d⟩
  · obtain ⟨A, c, h1, h2, h3⟩ := h.each i l hl
    refine ⟨A, c, h1, ?_, h3⟩
    rcases h2 with hn | ⟨g, r, a, b, c2, d⟩
    · exact .inl hn
    · exact .inr ⟨g, r, a, b, (hk g (Array.getElem?_eq_some_iff.1 c2).1).trans c2, d⟩
theorem below {B : Nat} (h : OwnRs e8 eS w base v ll vs) (hb : Below B w w') (hB : w.heap.size ≤ B) : OwnRs e8 eS w' base v ll vs :=
  h.keep fun k hk => hb.block k (by omega)
theorem alloc (h : OwnRs e8 eS w base v ll vs) (o : Obj) : OwnRs e8 eS (w.alloc o) base v ll vs := h.keep fun k hk => Below.heap_alloc w o k hk
theorem drew (h : OwnRs e8 eS w base v ll vs) : OwnRs e8 eS w.drew base v ll vs := h.keep fun _ _ => rfl
/-- it reads as the list -/
theorem rs (h : OwnRs e8 eS w base v ll vs) : ∃ A c, v = .slice A ll.length c ∧ RS w A ll.length c ll := by
  rcases h.row.2 with ⟨rfl, h0⟩ | ⟨g, cap, cur, rfl, hb, hg, h1, h2, h3, h4⟩
  · rw [h0]
    exact ⟨none, 0, rfl, h0, Nat.le_refl _, by omega, fun h => absurd h (by omega)⟩
  · rw [maxLen_eq] at h2
    refine ⟨_, cap, rfl, rfl, h1, h2, fun hn => ⟨g, 0, rfl, (Array.getElem?_eq_some_iff.1 hg).1, fun i hi => ?_⟩⟩
    obtain ⟨A, c, e1, e2, _⟩ := h.each i ll[i] (List.getElem?_eq_getElem hi)
    refine ⟨A, c, ?_, e2.bs⟩
    rw [Nat.zero_add, cell_of_row w g i _ _ _ hg]
    rw [Nat.mul_one] at h4
    rw [← h4, List.getElem?_take_of_lt hi, Array.getElem?_toList] at e1
    exact e1
theorem lt (h : OwnRs e8 eS w base v ll vs) : ∀ k, v.ownBlock = some k → base ≤ k ∧ k < w.heap.size := h.row.lt
/-- one more, as it is appended -/
theorem more {x : Value} {l : List UInt8} (h : OwnRs e8 eS w base v ll vs) (hx : OwnB e8 w base x l) (hxf : ∃ A c, x = .slice A l.length c) (hne : ∀ g, x.ownBlock = some g → v.ownBlock ≠ some g)
    {g cap : Nat} {o : Obj} (hrow : w'.ownsRow base eS 1 (.slice (some ⟨g, 0, none⟩) (ll.length + 1) cap) (ll.length + 1) (vs ++ [x])) (hg : (w.alloc o).grownBy w' v.ownBlock) (hat : v.ownBlock = some g ∨ g = (w.alloc o).heap.size) :
    OwnRs e8 eS w' base (.slice (some ⟨g, 0, none⟩) (ll.length + 1) cap) (ll ++ [l]) (vs ++ [x]) := by
  have hfar : ∀ y m, OwnB e8 w base y m → (∀ k, y.ownBlock = some k → v.ownBlock ≠ some k) → OwnB e8 w' base y m ∧ ∀ k, y.ownBlock = some k → (Value.slice (some ⟨g, 0, none⟩) (ll.length + 1) cap).ownBlock ≠ some k := fun y m hy hk => by
    refine ⟨(hy.alloc o).kept hg ?_, fun k hyk e => ?_⟩
    · cases hq : y.ownBlock with
      | none => exact .inl rfl
      | some k => exact .inr (fun e => hk k hq e.symm)
    · have hgk : g = k := by simpa [Value.ownBlock] using e
      subst hgk
      rcases hat with e1 | e1
      · exact hk g hyk e1
      · have := (hy.lt g hyk).2
        rw [e1] at this
        simp at this
        omega
  refine ⟨by simp [h.len], by rw [List.length_append]; exact hrow, fun i m hm => ?_⟩
  by_cases hi : i < ll.length
  · rw [List.getElem?_append_left hi] at hm
    obtain ⟨A, c, e1, e2, e3⟩ := h.each i m hm
    obtain ⟨f1, f2⟩ := hfar _ _ e2 e3
    refine ⟨A, c, ?_, f1, f2⟩
    rw [List.getElem?_append_left (by rw [h.len]; exact hi)]
    exact e1
  · have hil : i = ll.length := by
      have := (List.getElem?_eq_some_iff.1 hm).1
      simp at this
      omega
    subst hil
    rw [List.getElem?_append_right (Nat.le_refl _), Nat.sub_self] at hm
    simp only [List.getElem?_cons_zero, Option.some.injEq] at hm
    subst hm
    obtain ⟨A, c, rfl⟩ := hxf
    obtain ⟨f1, f2⟩ := hfar _ _ hx hne
    refine ⟨A, c, ?_, f1, f2⟩
    rw [List.getElem?_append_right (by rw [h.len]; exact Nat.le_refl _), h.len, Nat.sub_self]
    rfl
end OwnRs
theorem info_bs : (Tryd.prog.info? 23).map (fun i => (i.zero, i.size, i.bytes)) = some (some (.slice none 0 0), 1, 24) := by kernel_rfl
theorem info_parts24 {e : TypeId} {z : Value} {sz bt : Nat} (h : (Tryd.prog.info? e).map (fun i => (i.zero, i.size, i.bytes)) = some (some z, sz, bt)) : ∃ i, Tryd.prog.info? e = some i ∧ i.zero = some z ∧ i.size = sz ∧ i.bytes = bt := by
  cases hq : Tryd.prog.info? e with
  | none => simp [hq] at h
  | some i =>
    simp only [hq, Option.map_some, Option.some.injEq, Prod.mk.injEq] at h
    exact ⟨i, rfl, h.1, h.2.1, h.2.2⟩
section
variable {ops : Array Oper} {rest : List Oper} {o : Oper} {a : Act} {w : World} {Q : Exit → Act → World → Prop}
/-- one byte slice, as a row of one -/
theorem wp_bsl (x : Operand) {v : Value} (hv : v.oneCell' = true) (hg : o.guard = none) (ho : o.op = .buildSlice 32 1 #[(0, x)]) (hx : a.eval x = v)
    (h : wpList Tryd.prog ops Q rest (a.put o.dst (.slice (some ⟨w.heap.size, 0, none⟩) 1 1)) (w.alloc (.cells #[v] 23))) : wpList Tryd.prog ops Q (o :: rest) a w := by
  obtain ⟨i0, hi0, hz0, hs0, _⟩ := info_parts24 info_bs
  have hc : v.cells = #[v] := by cases v <;> first | rfl | cases hv
  refine wpList_buildSlice hg 32 23 1 _ ho #[v] i0 _ Tryd.underlying32 hi0 hz0 (by rw [hs0]; omega) (by rw [hs0]; omega) ?_ h
  rw [hs0]
  simp only [List.map_toArray, List.map_cons, List.map_nil, hx]
  have hr : Array.range 1 = #[0] := rfl
  rw [hr]
  simp [Instr.fill, hc]
/-- one byte slice is appended -/
theorem wp_more (x y : Operand) {v xv : Value} {ll : List (List UInt8)} {vs : List Value} {l : List UInt8} {base : Nat} {w0 : World} {B : Nat} (hown : OwnRs 5 23 w0 base v ll vs) (hxo : OwnB 5 w0 base xv l) (hxf : ∃ A c, xv = .slice A l.length c)
    (hne : ∀ g, xv.ownBlock = some g → v.ownBlock ≠ some g) (hw : w = w0.alloc (.cells #[xv] 23)) (hB : B = w0.heap.size) (hn : ll.length ≤ 1048576) (hbase : base ≤ w0.heap.size) (hgd : o.guard = none)
    (ho : o.op = .call { callee := .builtin .append, args := #[x, y], argTypes := #[32, 32] }) (hx : a.eval x = v) (hy : a.eval y = .slice (some ⟨B, 0, none⟩) 1 1)
    (h : ∀ g cap W', OwnRs 5 23 W' base (.slice (some ⟨g, 0, none⟩) (ll.length + 1) cap) (ll ++ [l]) (vs ++ [xv]) → w.grownBy W' v.ownBlock → base ≤ g → (v.ownBlock = some g ∨ g = w.heap.size) → wpList Tryd.prog ops Q rest (a.put o.dst (.slice (some ⟨g, 0, none⟩) (ll.length + 1) cap)) W') : wpList Tryd.prog ops Q (o :: rest) a w := by
  obtain ⟨i0, hi0, hz0, hs0, hb0⟩ := info_parts24 info_bs
  subst hB hw
  obtain ⟨A, c, hxe⟩ := hxf
  refine wpList_append_lies _ hgd x y 32 ho base 23 i0 _ 1 24 Tryd.underlying32 hi0 hz0 hs0 hb0 rfl (by omega) v ll.length vs hx (hown.alloc (.cells #[xv] 23)).row ⟨w0.heap.size, 0, none⟩ 1 1 [xv] hy rfl ?_ ?_ (by omega) (by rw [maxLen_eq]; omega) (by omega) (by simp; omega) _ rfl ?_
  · have := World.news_of_block (heap_alloc_new w0 (.cells #[xv] 23))
    simpa using this
  · intro u hu
    rw [List.mem_singleton.1 hu, hxe]
    rfl
  · intro g cap W' h1 h2 h3 h4
    refine h g cap W' (hown.more hxo ⟨A, c, hxe⟩ hne h1 h2 h3) h2 ?_ h3
    exact (h1.lt g rfl).1
end
end Go.Proofs.YtknndmhkfonfmaaDoor

/-
  contracts of cardexref07: batches.
-/
namespace Go.Proofs.YtknndmhkfonfmaaDoor
open Go.RowKit

theorem quiet_is {P : Program} {f : FuncId} {args : Array Value} {w : World} {n : Nat} {v : Value}
    (h : Calls P f args (w.drewN n) fun e w' => e = .returned v ∧ w.drewN n = w') : Calls P f args (w.drewN n) fun e w'' => e = .returned v ∧ ∃ m, w'' = w.drewN m :=
  h.mono fun _ _ ⟨he, hm⟩ => ⟨he, n, hm.symm⟩
namespace jn
theorem bytes_snoc (s : St) (at_ k : Nat) : bytes s at_ (k + 1) = bytes s at_ k ++ rd s ((at_ + k : Nat) : Int) := by simp [bytes, List.range_succ]
theorem bytes_length {s : St} (h : s.Ok) (at_ : Nat) : ∀ k, (bytes s at_ k).length = k * 128
  | 0 => rfl
  | k + 1 => by rw [bytes_snoc, List.length_append, bytes_length h at_ k, rd_len h]; omega
theorem parse_none {k : Nat} {all : List UInt8} (h : parse k all = none) : ∀ m, k ≤ m → parse m all = none
  | 0, hm => by
    obtain rfl : k = 0 := by omega
    exact h
  | m + 1, hm => by
    by_cases hk : k = m + 1
    · rw [← hk]; exact h
    · simp only [parse, parse_none h m (by omega), Option.bind_none]
theorem parse_length : ∀ (k : Nat) {all : List UInt8} {x : List (List UInt8) × List UInt8}, parse k all = some x → x.1.length = k
  | 0, all, x, h => by
    simp only [parse, Option.some.injEq] at h
    rw [← h]; rfl
  | k + 1, all, x, h => by
    simp only [parse] at h
    cases hp : parse k all with
    | none => rw [hp] at h; cases h
    | some y =>
      rw [hp] at h
      simp only [Option.bind_some] at h
      cases ho : one y.2 with
      | none => rw [ho] at h; cases h
      | some z =>
        rw [ho] at h
        simp only [Option.map_some, Option.some.injEq] at h
        rw [← h, List.length_append, parse_length k hp]
        rfl
theorem parse_next {k : Nat} {all rest : List UInt8} {ll : List (List UInt8)} (h : parse k all = some (ll, rest)) : parse (k + 1) all = (one rest).map fun y => (ll ++ [y.1], y.2) := by
  simp only [parse, h, Option.bind_some]
theorem getRow_pos (l : List UInt8) : ∃ N : Nat, (getRowR l 0 1048576).2.1 = (N : Int) := by
  unfold getRowR
  simp only
  split
  · exact ⟨0, rfl⟩
  · split
    · exact ⟨0, rfl⟩
    · split
      · exact ⟨0, rfl⟩
      · exact ⟨4 + (getR l 0 4).1, show (0 : Int) + 4 + ((getR l 0 4).1 : Int) = _ by omega⟩
theorem one_none {all : List UInt8} (h : ¬ (getRowR all 0 1048576).2.2 = 0) : one all = none := by rw [one, if_neg h]
/-- a byte behind the row is none -/
theorem one_dirty {all : List UInt8} {n t : Nat} (hn : (getRowR all 0 1048576).2.1.toNat = n) (h : n + t < all.length) (ht : t < pad n) (hx : all[n + t]'h ≠ 0) : one all = none := by
  unfold one
  rw [hn]
  split
  · rw [if_neg]
    intro e
    have h1 := congrArg (fun l => l[t]?) e
    simp only [List.getElem?_take_of_lt ht, List.getElem?_drop, List.getElem?_replicate, if_pos ht, List.getElem?_eq_getElem h, Option.some.injEq] at h1
    exact hx h1
  · rfl
theorem one_clean {all : List UInt8} {n : Nat} (h0 : (getRowR all 0 1048576).2.2 = 0) (hn : (getRowR all 0 1048576).2.1.toNat = n) (hl : n + pad n ≤ all.length) (hz : ∀ t (ht : t < pad n), all[n + t]'(by omega) = 0) :
    one all = some ((getRowR all 0 1048576).1, all.drop (n + pad n)) := by
  unfold one
  rw [hn, if_pos h0, if_pos]
  apply List.ext_getElem?
  intro t
  by_cases ht : t < pad n
  · rw [List.getElem?_take_of_lt ht, List.getElem?_drop, List.getElem?_replicate, if_pos ht, List.getElem?_eq_getElem (by omega), hz t ht]
  · rw [List.getElem?_eq_none (by rw [List.length_take, List.length_drop]; omega), List.getElem?_eq_none (by rw [List.length_replicate]; omega)]
end jn
theorem BS.grown {w w' : World} {A : Option Addr} {n c : Nat} {l : List UInt8} {row : Option Nat} (h : BS w A n c l) (hg : w.grownBy w' row) (hne : ∀ b o, A = some ⟨b, o, none⟩ → row ≠ some b) : BS w' A n c l :=
  ⟨h.len, h.cap, h.max, h.small, fun hn => by
    obtain ⟨b, o, e, hb, hc⟩ := h.has hn
    refine ⟨b, o, e, Nat.lt_of_lt_of_le hb hg.size, fun i hi => ?_⟩
    have e2 : w'.cell? ⟨b, o + i, none⟩ = w.cell? ⟨b, o + i, none⟩ := by simp only [World.cell?, hg.block b hb (fun e3 => hne b o e e3.symm)]
    rw [e2]
    exact hc i hi⟩
namespace jn
/-- the rest of a byte slice, as a slice expression leaves it -/
theorem cut_bs {w : World} {A : Option Addr} {n c T : Nat} {l : List UInt8} (h : BS w A n c l) (hT : T ≤ n) : BS w (if c = T then A else A.map fun x => x.add T) (n - T) (c - T) (l.drop T) := by
  have hc := h.cap
  have hm := h.max
  by_cases hTn : T < n
  · rw [if_neg (by omega)]
    exact drop_bs h hTn
  · obtain rfl : T = n := by omega
    rw [Nat.sub_self, List.drop_of_length_le (by rw [h.len]; exact Nat.le_refl _)]
    exact BS.empty (by omega)
theorem cut_block {w : World} {A : Option Addr} {n c T b o : Nat} {l : List UInt8} (hB : BS w A n c l) (hT : T ≤ n) (h : (if c = T then A else A.map fun x => x.add T) = some ⟨b, o, none⟩) : ∃ o', A = some ⟨b, o', none⟩ := by
  by_cases h0 : T = 0
  · subst h0
    have h1 : (A.map fun x => x.add 0) = A := by
      cases A with
      | none => rfl
      | some a => rfl
    rw [h1, ite_self] at h
    exact ⟨o, h⟩
  · obtain ⟨b1, o1, rfl, -⟩ := hB.has (by omega)
    split at h
    · exact ⟨o1, by injection h with h; injection h with h _; rw [h]⟩
    · simp [Addr.add, h0] at h
      exact ⟨o1, by rw [h.1]⟩
/-- a block of before is not where a row of the call's own lies behind an append -/
theorem far_of {w w' : World} {A : Option Addr} {v : Value} {g : Nat} {o : Obj} (h : ∀ b o, A = some ⟨b, o, none⟩ → b < w.heap.size ∧ v.ownBlock ≠ some b) (hs : (w.alloc o).heap.size ≤ w'.heap.size) (hat : v.ownBlock = some g ∨ g = (w.alloc o).heap.size) :
    ∀ (u : Value), u.ownBlock = some g → ∀ b, (∃ o2, A = some ⟨b, o2, none⟩) → b < w'.heap.size ∧ u.ownBlock ≠ some b := fun u hu b e => by
  obtain ⟨o2, e⟩ := e
  obtain ⟨h1, h2⟩ := h b o2 e
  simp at hs hat
  refine ⟨by omega, fun e3 => ?_⟩
  rw [hu] at e3
  injection e3 with e3
  subst e3
  rcases hat with h3 | h3
  · exact h2 h3
  · omega
end jn
end Go.Proofs.YtknndmhkfonfmaaDoor

/-
  THE PROGRAM's journal: the batches of a head.
-/
namespace Go.Proofs.YtknndmhkfonfmaaDoor
open Go.RowKit Go.Shelf
namespace jn
theorem getRow_at {l : List UInt8} {T : Nat} (hT : T ≤ l.length) :
    getRowR l T 1048576 = ((getRowR (l.drop T) 0 1048576).1, (if (getRowR (l.drop T) 0 1048576).2.2 = 0 then (T : Int) + (getRowR (l.drop T) 0 1048576).2.1 else 0), (getRowR (l.drop T) 0 1048576).2.2) := by
  have hg : getR l T 4 = getR (l.drop T) 0 4 := by
    unfold getR
    simp only [List.length_drop, Int.toNat_natCast, Int.toNat_zero, List.drop_zero, show isSz 4 = true from rfl, Bool.true_and]
    have h1 : decide ((0 : Int) ≤ (T : Int) ∧ (T : Int) ≤ (l.length : Int)) = true := decide_eq_true (by omega)
    have h2 : decide ((0 : Int) ≤ 0 ∧ (0 : Int) ≤ ((l.length - T : Nat) : Int)) = true := decide_eq_true (by omega)
    rw [h1, h2, if_pos rfl, if_pos rfl]
    by_cases h : (T : Int) + 4 ≤ (l.length : Int)
    · rw [if_pos h, if_pos (by omega)]
    · rw [if_neg h, if_neg (by omega)]
  unfold getRowR
  simp only [hg, List.length_drop, Int.toNat_natCast, Int.toNat_zero]
  generalize hgg : getR (l.drop T) 0 4 = g
  by_cases h0 : g.2 = 0
  · have hk := getR_ok4 (l := l.drop T) (at_ := 0) (q := g.1) (by rw [hgg, ← h0])
    rw [List.length_drop] at hk
    have e0 : ¬ (g.2 ≠ 0) := fun h => h h0
    simp only [if_neg e0]
    by_cases h1 : (1048576 : Int) < (g.1 : Int)
    · simp only [if_pos h1]
      rfl
    · simp only [if_neg h1]
      by_cases h2 : (l.length : Int) < (T : Int) + 4 + (g.1 : Int)
      · have h3 : ((l.length - T : Nat) : Int) < 0 + 4 + (g.1 : Int) := by omega
        simp only [if_pos h2, if_pos h3]
        rfl
      · have h3 : ¬ ((l.length - T : Nat) : Int) < 0 + 4 + (g.1 : Int) := by omega
        simp only [if_neg h2, if_neg h3, if_true, List.drop_drop]
        refine Prod.ext ?_ (Prod.ext (by simp only; omega) rfl)
        simp only [Nat.zero_add]
  · simp only [if_pos (show g.2 ≠ 0 from h0), if_neg h0]
theorem pad_at {T n : Nat} (h : T % 128 = 0) : pad (T + n) = pad n := by
  unfold pad
  omega
/-- what one is, by what stands behind its row -/
theorem one_any {all : List UInt8} {n : Nat} (h0 : (getRowR all 0 1048576).2.2 = 0) (hn : (getRowR all 0 1048576).2.1.toNat = n) (hl : n + pad n ≤ all.length) :
    one all = if ((all.drop n).take (pad n)).any (· != 0) = true then none else some ((getRowR all 0 1048576).1, all.drop (n + pad n)) := by
  unfold one
  rw [hn, if_pos h0]
  have hlen : ((all.drop n).take (pad n)).length = pad n := by rw [List.length_take, List.length_drop]; omega
  by_cases h : ((all.drop n).take (pad n)).any (· != 0) = true
  · rw [if_pos h, if_neg]
    intro e
    rw [e] at h
    obtain ⟨x, hx, hx0⟩ := List.any_eq_true.1 h
    rw [(List.mem_replicate.1 hx).2] at hx0
    exact absurd hx0 (by decide)
  · rw [if_neg h, if_pos]
    refine List.eq_replicate_iff.2 ⟨hlen, fun x hx => ?_⟩
    by_cases hx0 : x = 0
    · exact hx0
    · exact absurd (List.any_eq_true.2 ⟨x, hx, by simpa using hx0⟩) h
/-- a piece of a byte slice, as a slice expression leaves it -/
theorem mid_bs {w : World} {A : Option Addr} {n c a b : Nat} {l : List UInt8} (h : BS w A n c l) (hab : a ≤ b) (hb : b ≤ n) : BS w (if c = a then A else A.map fun x => x.add a) (b - a) (c - a) ((l.drop a).take (b - a)) :=
  (cut_bs h (T := a) (by omega)).take (by omega)
theorem flat_take {bl : List Blk} {i : Nat} (hi : i < bl.length) : (bl.take (i + 1)).flatten = (bl.take i).flatten ++ bl[i] := by
  rw [List.take_add_one, List.getElem?_eq_getElem hi]
  simp only [Option.toList_some, List.flatten_append, List.flatten_cons, List.flatten_nil, List.append_nil]
theorem flat_len {bl : List Blk} (h : ∀ b ∈ bl, b.length = 128) : ∀ i, i ≤ bl.length → (bl.take i).flatten.length = i * 128
  | 0, _ => rfl
  | i + 1, hi => by
    rw [flat_take (show i < bl.length by omega), List.length_append, flat_len h i (by omega), h _ (List.getElem_mem _)]
    omega
theorem rds_flat (s : St) (a k : Nat) : (rds s a k).flatten = bytes s a k := rfl
end jn
variable {w w' : World} {F : List Nat} {d : Value} {s : dk.St}
theorem bs_blk {W : World} {g : Nat} {e : TypeId} {p : List UInt8} {fr : Nat × Nat} (h : W.heap[g]? = some (.cells ((p.map bv).toArray) e fr)) (n : Nat) (hn : n = p.length) (hs : n ≤ 281474976710656) : BS W (some ⟨g, 0, none⟩) n n p :=
  ⟨hn.symm, Nat.le_refl _, by omega, hs, fun _ => ⟨g, 0, rfl, (Array.getElem?_eq_some_iff.1 h).1, fun i hi => by
    rw [cell_of_row _ _ _ _ _ _ h]
    simp [hi]⟩⟩
theorem OwnB.keepC {e : TypeId} {base : Nat} {v : Value} {l : List UInt8} {G : List Nat} (h : OwnB e w base v l) (hc : Chg w w' G) (hv : ∀ q, v.ownBlock = some q → q ∉ G) : OwnB e w' base v l := by
  rcases h with h | ⟨g, r, rfl, hb, hg, h1, h2⟩
  · exact .inl h
  · exact .inr ⟨g, r, rfl, hb, (hc.block g (Array.getElem?_eq_some_iff.1 hg).1 (hv g rfl)).trans hg, h1, h2⟩
set_option maxHeartbeats 4000000 in
set_option maxRecDepth 100000 in
theorem cj_batches (h : CD w F d s) (k : hd.H) (hm : hd.may k = true) (hfit : k.blocks ≤ jn.half s) (hl : s.black = false ∨ k.blocks = 0) : Calls Tryd.prog 30 #[d, hd.val k] w fun e w' =>
    ∃ A n c, e = .returned (.tuple #[.slice A n c, .int .i64 (if (jn.batches s k).2 = true then 0 else 5)]) ∧ ((jn.batches s k).2 = true → RS w' A n c (jn.batches s k).1) ∧ (¬ (jn.batches s k).2 = true → A = none ∧ n = 0 ∧ c = 0) ∧ Below w.heap.size w w' := by
  obtain ⟨i0, hi, hz0, hz1, hz2⟩ := info_parts info_u8
  obtain ⟨hz, -⟩ := zero_of_info zero_blk
  have hmay := hd.may_ok hm
  have hok := h.ok
  have hhalf := jn.half_le hok
  have m1 := HM.new w 51 k
  have b1 : Below w.heap.size w (w.alloc (.cells #[bv k.bank, .int .u32 k.blocks, .int .u32 k.batches] 51)) := (Below.refl _ _).alloc (Nat.le_refl _) _
  obtain ⟨W1, hW1⟩ : ∃ W1, w.alloc (.cells #[bv k.bank, .int .u32 k.blocks, .int .u32 k.batches] 51) = W1 := ⟨_, rfl⟩
  rw [hW1] at m1 b1
  obtain ⟨P, hP⟩ : ∃ P, w.heap.size = P := ⟨_, rfl⟩
  rw [hP] at m1
  have hbk : k.bank.toNat ≤ 1 := hmay.1
  obtain ⟨hb2, hb3⟩ := hmay.2
  obtain ⟨f0, hf0⟩ : ∃ f0, jn.first s k.bank = f0 := ⟨_, rfl⟩
  have hfl := jn.first_le hok hbk
  rw [hf0] at hfl
  have hmost := hok.most
  have HF := Lib.hid (fun W (hb : Below w.heap.size w W) => cj_at k.bank (h.below hb))
  rw [hf0] at HF
  have HR := Lib.hid (fun W (hb : Below w.heap.size w W) => cj_read f0 k.blocks (by omega) (by omega) (h.below hb) hl)
  have hww : IntKind.i64.wrap (k.blocks : Int) = (k.blocks : Int) := IntWalk.i64_in _ ⟨by omega, by omega⟩
  have hbat : jn.batches s k = match jn.parse k.batches (jn.rds s f0 k.blocks).flatten with | none => ([], false) | some x => (x.1, x.2.isEmpty) := by
    rw [jn.batches, if_neg (by omega), hf0, jn.rds_flat]
    cases jn.parse k.batches (jn.bytes s f0 k.blocks) <;> rfl
  have hbl := jn.rds_len hok f0 k.blocks
  have hbn := jn.rds_length s f0 k.blocks
  have HBAT := Lib.hid hbat
  obtain ⟨res, hres⟩ : ∃ r, jn.batches s k = r := ⟨_, rfl⟩
  rw [hres] at HBAT ⊢
  generalize jn.rds s f0 k.blocks = bl at *
  clear hbat hres hl hf0 hok
  suffices H : ∀ (R : Int) (J : World → Option Addr → Nat → Nat → Prop), Hid (R = if res.2 = true then 0 else 5) → Hid (∀ w' A n c, (res.2 = true → RS w' A n c res.1) → (¬ res.2 = true → A = none ∧ n = 0 ∧ c = 0) → J w' A n c) →
      Calls Tryd.prog 30 #[d, hd.val k] w fun e w' => ∃ A n c, e = .returned (.tuple #[.slice A n c, .int .i64 R]) ∧ J w' A n c ∧ Below w.heap.size w w' from
    (H _ (fun w' A n c => (res.2 = true → RS w' A n c res.1) ∧ (¬ res.2 = true → A = none ∧ n = 0 ∧ c = 0)) (Lib.hid rfl) (Lib.hid fun _ _ _ _ h1 h2 => ⟨h1, h2⟩)).mono fun e w' ⟨A, n, c, h1, ⟨h2, h3⟩, h4⟩ => ⟨A, n, c, h1, h2, h3, h4⟩
  intro R J HRV HJ
  go_enter Tryd.func30, Tryd.ntmps30
  go_wp2_with fail
  have HK := Lib.hid h
  clear h
  refine wp_region_held_drew (S := fun W => HM 51 W P k ∧ Below w.heap.size w W) (by kernel_rfl) ⟨m1.drew, b1.drew⟩ (fun hHeld => ?_)
  generalize W1.drew = Wd at *
  refine wpAnyH_take (i := 0) (v := ?_) rfl (by kernel_rfl) (by kernel_rfl) (by kernel_rfl) (fun _ _ _ h => h) (Or.inl ⟨by rfl, ?_⟩) hHeld ?_
  rotate_left
  · intro w hSw; have c0 := hSw.1.c0; have c1 := hSw.1.c1; have hww' := hww; clear hSw; go_simp; try rfl
  simp only [List.getElem_toArray, List.getElem_cons_zero, Act.put, List.setIfInBounds_toArray, List.set_cons_zero, List.set_cons_succ]
  refine wpAnyH_take (i := 1) (v := ?_) rfl (by kernel_rfl) (by kernel_rfl) (by kernel_rfl) (fun _ _ _ h => h) (Or.inl ⟨by rfl, ?_⟩) hHeld ?_
  rotate_left
  · intro w hSw; have c0 := hSw.1.c0; have c1 := hSw.1.c1; have hww' := hww; clear hSw; go_simp; try rfl
  simp only [List.getElem_toArray, List.getElem_cons_zero, List.getElem_cons_succ, Act.put, List.setIfInBounds_toArray, List.set_cons_zero, List.set_cons_succ]
  refine wpAnyH_take (i := 2) (v := ?_) rfl (by kernel_rfl) (by kernel_rfl) (by kernel_rfl) (fun _ _ _ h => h) (Or.inl ⟨by rfl, ?_⟩) hHeld ?_
  rotate_left
  · intro w hSw; have c0 := hSw.1.c0; have c1 := hSw.1.c1; have hww' := hww; clear hSw; go_simp; try rfl
  simp only [List.getElem_toArray, List.getElem_cons_zero, List.getElem_cons_succ, Act.put, List.setIfInBounds_toArray, List.set_cons_zero, List.set_cons_succ]
  refine wpAnyH_take (i := 3) (v := ?_) rfl (by kernel_rfl) (by kernel_rfl) (by kernel_rfl) (fun _ _ _ h => h) (Or.inl ⟨by rfl, ?_⟩) hHeld ?_
  rotate_left
  · intro w hSw; have c0 := hSw.1.c0; have c1 := hSw.1.c1; have hww' := hww; clear hSw; go_simp; try rfl
  simp only [List.getElem_toArray, List.getElem_cons_zero, List.getElem_cons_succ, Act.put, List.setIfInBounds_toArray, List.set_cons_zero, List.set_cons_succ]
  refine wpAnyH_take (i := 5) (v := ?_) rfl (by kernel_rfl) (by kernel_rfl) (by kernel_rfl) (fun _ _ _ h => h) (Or.inl ⟨by rfl, ?_⟩) hHeld ?_
  rotate_left
  · intro w hSw; have c0 := hSw.1.c0; have c1 := hSw.1.c1; have hww' := hww; clear hSw; go_simp; try rfl
  simp only [List.getElem_toArray, List.getElem_cons_zero, List.getElem_cons_succ, Act.put, List.setIfInBounds_toArray, List.set_cons_zero, List.set_cons_succ]
  refine wpAnyH_take (i := 6) (v := ?_) rfl (by kernel_rfl) (by kernel_rfl) (by kernel_rfl) (fun _ _ _ h => h) (Or.inl ⟨by rfl, ?_⟩) hHeld ?_
  rotate_left
  · intro w hSw; have c0 := hSw.1.c0; have c1 := hSw.1.c1; have hww' := hww; clear hSw; go_simp; try rfl
  simp only [List.getElem_toArray, List.getElem_cons_zero, List.getElem_cons_succ, Act.put, List.setIfInBounds_toArray, List.set_cons_zero, List.set_cons_succ]
  refine wpAnyH_take (i := 7) (v := ?_) rfl (by kernel_rfl) (by kernel_rfl) (by kernel_rfl) (fun _ _ _ h => h) (Or.inl ⟨by rfl, ?_⟩) hHeld ?_
  rotate_left
  · intro w hSw; have c0 := hSw.1.c0; have c1 := hSw.1.c1; have hww' := hww; clear hSw; go_simp; try rfl
  simp only [List.getElem_toArray, List.getElem_cons_zero, List.getElem_cons_succ, Act.put, List.setIfInBounds_toArray, List.set_cons_zero, List.set_cons_succ]
  refine wpAnyH_ready (rs := [4]) (by kernel_rfl) (by simp) ?_
  refine AllReadyH.cons rfl (fun K hK => ?_) AllReadyH.nil
  rw [if_pos (by rfl)]
  go_simp
  refine (HF.out _ hHeld.2).mono ?_
  rintro e w3 ⟨rfl, rfl⟩
  refine hK.out _ _ hHeld (fun hHeld => ?_)
  clear hK K
  refine wpAnyH_ready (rs := [8]) (by kernel_rfl) (by simp) ?_
  refine AllReadyH.cons rfl (fun K hK => ?_) AllReadyH.nil
  rw [if_pos (by rfl)]
  go_simp
  refine (HR.out _ hHeld.2).mono ?_
  rintro e w4 ⟨rfl, r4, b4⟩
  have m4 := hHeld.1.below b4 hHeld.1.lt
  have b14 := hHeld.2.trans (b4.mono hHeld.2.size)
  refine hK.out _ _ ⟨m4, b14⟩ (fun hHeld => ?_)
  clear hK K m4 b14 b4
  refine wpAnyH_take (i := 9) (v := ?_) rfl (by kernel_rfl) (by kernel_rfl) (by kernel_rfl) (fun _ _ _ h => h) (Or.inl ⟨by rfl, ?_⟩) hHeld ?_
  rotate_left
  · intro w hSw; clear hSw; go_simp; try rfl
  simp only [List.getElem_toArray, List.getElem_cons_zero, List.getElem_cons_succ, Act.put, List.setIfInBounds_toArray, List.set_cons_zero, List.set_cons_succ]
  refine wpAnyH_take (i := 10) (v := ?_) rfl (by kernel_rfl) (by kernel_rfl) (by kernel_rfl) (fun _ _ _ h => h) (Or.inl ⟨by rfl, ?_⟩) hHeld ?_
  rotate_left
  · intro w hSw; clear hSw; go_simp; try rfl
  simp only [List.getElem_toArray, List.getElem_cons_zero, List.getElem_cons_succ, Act.put, List.setIfInBounds_toArray, List.set_cons_zero, List.set_cons_succ]
  refine wpAnyH_take (i := 11) (v := ?_) rfl (by kernel_rfl) (by kernel_rfl) (by kernel_rfl) (fun _ _ _ h => h) (Or.inl ⟨by rfl, ?_⟩) hHeld ?_
  rotate_left
  · intro w hSw; clear hSw; go_simp; try rfl
  simp only [List.getElem_toArray, List.getElem_cons_zero, List.getElem_cons_succ, Act.put, List.setIfInBounds_toArray, List.set_cons_zero, List.set_cons_succ]
  refine wpAnyH_take (i := 12) (v := ?_) rfl (by kernel_rfl) (by kernel_rfl) (by kernel_rfl) (fun _ _ _ h => h) (Or.inl ⟨by rfl, ?_⟩) hHeld ?_
  rotate_left
  · intro w hSw; clear hSw; go_simp; try rfl
  simp only [List.getElem_toArray, List.getElem_cons_zero, List.getElem_cons_succ, Act.put, List.setIfInBounds_toArray, List.set_cons_zero, List.set_cons_succ]
  refine wpAnyH_take (i := 13) (v := ?_) rfl (by kernel_rfl) (by kernel_rfl) (by kernel_rfl) (fun _ _ _ h => h) (Or.inl ⟨by rfl, ?_⟩) hHeld ?_
  rotate_left
  · intro w hSw; clear hSw; go_simp; try rfl
  simp only [List.getElem_toArray, List.getElem_cons_zero, List.getElem_cons_succ, Act.put, List.setIfInBounds_toArray, List.set_cons_zero, List.set_cons_succ]
  refine wpAnyH_done (by kernel_rfl) ?_ _
  obtain ⟨m2, b2⟩ := hHeld
  generalize Wd.heap.size = G at *
  have hP2 : P < w4.heap.size := m2.lt
  have hG2 : G < w4.heap.size := r4.lt
  clear HF HR m1 b1 hW1
  go_wp2_with fail
  go_loopw [8, 34] (fun v t wr => ∃ (i : Nat) (A : Option Addr) (c : Nat), t = .int .i64 i ∧ i ≤ k.blocks ∧ v = .slice A (i * 128) c ∧ OwnB 5 wr w4.heap.size v (bl.take i).flatten ∧ Below w4.heap.size w4 wr) (fun _ t _ => k.blocks - (intOf t).toNat)
  case atStart => exact ⟨0, none, 0, rfl, by omega, rfl, OwnB.nil_ _ _ _, Below.refl _ _⟩
  case round =>
    obtain ⟨i, A, c, rfl, hik, rfl, ho, hbr⟩ := hrel
    have hbw := b2.trans (hbr.mono (by omega))
    have hps := hbr.size
    by_cases hlt : i < k.blocks
    · have hil : i < bl.length := by omega
      have hi' : (i : Int) < (k.blocks : Int) := by omega
      have hsn := jn.flat_take hil
      have hli := jn.flat_len hbl i (by omega)
      have hli1 := jn.flat_len hbl (i + 1) (by omega)
      have hxl : bl[i].length = 128 := hbl _ (List.getElem_mem _)
      have hrng := (r4.below hbr hG2).range hbl hil
      generalize bl[i] = x at *
      have HSN := Lib.hid hsn
      have n4 := heap_alloc_new wr (.cells (dk.cells dk.zero).toArray 62)
      have ho4 := ho.alloc (.cells (dk.cells dk.zero).toArray 62)
      have hb4 := hbr.alloc (by omega) (.cells (dk.cells dk.zero).toArray 62)
      obtain ⟨X, hX⟩ : ∃ X, wr.heap.size = X := ⟨_, rfl⟩
      rw [hX] at n4
      have hXl : w4.heap.size ≤ X := by omega
      have hneX : ∀ q, (Value.slice A (i * 128) c).ownBlock = some q → q ≠ X := fun q hq => by have := (ho.lt q hq).2; omega
      generalize (bl.take i).flatten = acc at *
      clear hsn
      go_wp2_with (first
        | refine wp_ld (.tmp 36) x hrng hxl rfl rfl rfl ?_
        | (refine wp_st0 (.tmp 10) (.tmp 37) x n4 zero_len hxl rfl rfl rfl rfl ?_; intro w5 W5 c5; have hb5 := hb4.trans (c5.below (B := w4.heap.size) hb4.size (fun k hk => by simp at hk; omega)); have ho5 := ho4.keepC c5 (fun q hq => by simp; exact hneX q hq); have B5 := bs_blk W5 128 hxl.symm (by omega); have hw5 := c5.size)
        | (at_builtin; refine wpList_append_bytes _ rfl (.tmp 38) (.tmp 39) 23 rfl 5 i0 Tryd.underlying23 hi hz0 hz1 hz2 w4.heap.size _ _ rfl ho5 _ 128 128 x rfl B5 (by rw [hli]; omega) (by simp at hw5; omega) ?_; intro v6 w6 ho6 hg6 _ _; have hb6 := OwnB.step hb5 ho5 hg6 (by simp at hw5; omega)))
      obtain ⟨A6, c6, rfl, -⟩ := ho6.form
      rw [← HSN.out] at ho6 ⊢
      rw [hli1] at ho6 ⊢
      go_wp2_with fail
      go_roundw
      case rel => exact ⟨i + 1, A6, c6, by go_num, by omega, rfl, ho6, hb6⟩
      case measure => simp [intOf]; omega
    · have hi' : ¬ (i : Int) < (k.blocks : Int) := by omega
      obtain rfl : i = k.blocks := by omega
      have hal := jn.flat_len hbl k.blocks (by omega)
      rw [List.take_of_length_le (show bl.length ≤ k.blocks by omega)] at hal ho
      generalize bl.flatten = allb at *
      have hB0 := ho.bs
      have m0 := m2.below hbr (by omega)
      have c2 := m0.c2
      obtain ⟨n, hn⟩ : ∃ n, k.blocks * 128 = n := ⟨_, rfl⟩
      rw [hn] at hB0 hal ho
      have hn128 : n % 128 = 0 := by omega
      have hnl : n ≤ 524288 := by omega
      have HNN := Lib.hid hn
      clear hbl hbn r4 hlt hi' m0
      rw [hn]
      clear hn
      go_wp2_with fail
      clear c2
      have hcap := hB0.cap
      have hmax := hB0.max
      have hA0 : ∀ b o, A = some ⟨b, o, none⟩ → b < wr.heap.size := fun b o e => by
        rcases ho with ⟨e1, e2⟩ | ⟨g, r, e1, e2, e3, _⟩
        · rw [e] at e1; cases e1
        · rw [e] at e1
          injection e1 with e1
          injection e1 with e1
          injection e1 with e1 _
          rw [e1]
          exact (Array.getElem?_eq_some_iff.1 e3).1
      generalize wr = wa at *
      go_loopw [11, 12, 44] (fun lv at_ t wr => ∃ (i T : Nat) (ll : List (List UInt8)) (vs : List Value), t = .int .u32 i ∧ i ≤ k.batches ∧ at_ = .int .i64 T ∧ T ≤ n ∧ Hid (T % 128 = 0) ∧ Hid (jn.parse i allb = some (ll, allb.drop T)) ∧ OwnRs 5 23 wr wa.heap.size lv ll vs ∧ Below wa.heap.size wa wr) (fun _ _ t _ => k.batches - (intOf t).toNat)
      case atStart => exact ⟨0, 0, [], [], rfl, by omega, rfl, by omega, rfl, rfl, OwnRs.nil_ _ _ _ _, Below.refl _ _⟩
      case round =>
        obtain ⟨i, T, ll, vs, rfl, hik, rfl, hTn, hT, hparse, hrs, hbw2⟩ := hrel
        have hB := hB0.below hbw2
        have hlen := hB.len
        by_cases hlt : i < k.batches
        · have hi' : (i : Int) < (k.batches : Int) := by omega
          have hnext := jn.parse_next hparse.out
          have hga := jn.getRow_at (l := allb) (T := T) (by omega)
          have hrow := getRow_any A n c allb T 1048576 wr hB (by omega) (by omega)
          rw [hga] at hrow
          obtain ⟨rest, hrest⟩ : ∃ r, allb.drop T = r := ⟨_, rfl⟩
          have hrl : rest.length = n - T := by rw [← hrest, List.length_drop, hlen]
          rw [hrest] at hrow hnext
          obtain ⟨rb, hrb⟩ : ∃ e, (getRowR rest 0 1048576).1 = e := ⟨_, rfl⟩
          obtain ⟨nx, hnx⟩ : ∃ e, (getRowR rest 0 1048576).2.1 = e := ⟨_, rfl⟩
          obtain ⟨er, her⟩ : ∃ e, (getRowR rest 0 1048576).2.2 = e := ⟨_, rfl⟩
          unfold RowEnd at hrow
          rw [hrb, hnx, her] at hrow
          simp only at hrow
          by_cases h0 : er = 0
          · have h0' : (er != 0) = false := by simp [h0]
            rw [if_pos h0] at hrow
            obtain ⟨M, hM⟩ := jn.getRow_pos rest
            rw [hnx] at hM
            subst hM
            have her0 : (getRowR rest 0 1048576).2.2 = 0 := her.trans h0
            have hMn : (getRowR rest 0 1048576).2.1.toNat = M := by rw [hnx]; rfl
            have hMl := (jn.getRow_app her0 []).2
            rw [hMn, hrl] at hMl
            have hpf := jn.pad_fill M
            have hpl : M + jn.pad M ≤ n - T := by have := hT.out; unfold jn.count at hpf; omega
            have hone := jn.one_any (all := rest) (n := M) her0 hMn (by rw [hrl]; exact hpl)
            rw [hrb] at hone
            have hpa := jn.pad_at (T := T) (n := M) hT.out
            have hE := cj_end (T + M) (by omega)
            rw [hpa] at hE
            have hdr : (rest.drop M).take (jn.pad M) = (allb.drop (T + M)).take (T + M + jn.pad M - (T + M)) := by
              rw [← hrest, List.drop_drop, show T + M + jn.pad M - (T + M) = jn.pad M from by omega]
            have hdr2 : rest.drop (M + jn.pad M) = allb.drop (T + M + jn.pad M) := by
              rw [← hrest, List.drop_drop, Nat.add_assoc]
            rw [hdr, hdr2] at hone
            rw [hone] at hnext
            have HE := Lib.hid hE
            have HROW := Lib.hid hrow
            have HNEXT := Lib.hid hnext
            have hEm : (T + M + jn.pad M) % 128 = 0 := by have := hT.out; unfold jn.count at hpf; omega
            have HEM := Lib.hid hEm
            have hEn : T + M + jn.pad M ≤ n := by omega
            have hEt : T + M ≤ T + M + jn.pad M := by omega
            obtain ⟨S, hS⟩ : ∃ S, T + M = S := ⟨_, rfl⟩
            have hcast : (T : Int) + (M : Int) = (S : Int) := by omega
            rw [hcast] at HROW
            rw [hS] at HE HNEXT HEM hEn hEt
            obtain ⟨E, hEE⟩ : ∃ E, S + jn.pad M = E := ⟨_, rfl⟩
            rw [hEE] at HE HNEXT HEM hEn hEt
            clear hrow hone hnext hE hpa hdr hdr2 hrb hnx her her0 hMn hMl hpl hpf hga hrest hrl hS hcast hEE hEm
            go_wp2_with fail
            refine HROW.out.mono ?_
            rintro e w5 ⟨v5, rfl, o5, b5⟩
            have hs5 := b5.size
            have hsw := hbw2.size
            have hB5 := hB.below b5
            have hrs5 := hrs.below b5 (Nat.le_refl _)
            have hb5 := hbw2.trans (b5.mono hsw)
            obtain ⟨A5, c5, rfl, -⟩ := o5.form
            have hne5 : ∀ g, (Value.slice A5 rb.length c5).ownBlock = some g → u11.ownBlock ≠ some g := fun g hg e => by
              have h5 := (hrs.lt g e).2
              have h6 := (o5.lt g hg).1
              omega
            have o5' := o5.mono (show wa.heap.size ≤ wr.heap.size by omega)
            have hl5 := jn.parse_length i hparse.out
            simp only at hl5
            clear HROW hrs hB b5 o5 hbw2
            go_wp2_with fail
            refine (HE.out _).mono ?_
            rintro e w6 ⟨rfl, rfl⟩
            clear HE
            have hmid := jn.mid_bs hB5 hEt hEn
            obtain ⟨cl, hcl⟩ : ∃ cl, ((allb.drop S).take (E - S)).any (· != 0) = cl := ⟨_, rfl⟩
            rw [hcl] at HNEXT
            obtain ⟨ml, hml⟩ : ∃ ml, (allb.drop S).take (E - S) = ml := ⟨_, rfl⟩
            rw [hml] at hmid hcl
            have HMID := Lib.hid hmid
            clear hmid hml
            have HCL := Lib.hid hcl
            clear hcl
            have hcS : ∀ (A' : Option Addr), (c = S → A' = A) → (¬ c = S → A' = A.map fun x => x.add S) → BS w5 A' (E - S) (c - S) ml := fun A' q1 q2 => by
              have h3 := HMID.out
              by_cases h4 : c = S
              · rw [if_pos h4] at h3; rw [q1 h4]; exact h3
              · rw [if_neg h4] at h3; rw [q2 h4]; exact h3
            have HCS := Lib.hid hcS
            clear hcS HMID
            cases cl with
            | true =>
              have hnext := HNEXT.out
              rw [if_pos rfl] at hnext
              simp only [Option.map_none] at hnext
              have hb0 := HBAT.out
              rw [jn.parse_none hnext k.batches hlt] at hb0
              have hend := HJ.out
              have hRV := HRV.out
              rw [hb0] at hend hRV
              have H5 := Lib.hid (show R = 5 from hRV)
              have HE5 := Lib.hid (fun w' => hend w' none 0 0 (fun h => absurd h (by decide)) (fun _ => ⟨rfl, rfl, rfl⟩))
              clear hb0 hnext hend hRV HBAT HNEXT
              go_wp2_with fail
              · have hcS : c = S := by assumption
                subst hcS
                have h3 := HCS.out A (fun _ => rfl) (fun e => absurd rfl e)
                rw [Nat.sub_self] at h3
                have H3 := Lib.hid h3
                clear h3
                refine (cj_any _ _ _ ml _ H3.out).mono ?_
                rintro e w6 ⟨rfl, rfl⟩
                rw [HCL.out]
                go_wp2_with fail
                go_ret2
                exact ⟨none, 0, 0, by rw [H5.out]; rfl, HE5.out _, hP ▸ hbw.trans (hb5.mono (by omega))⟩
              · have H3 := Lib.hid (HCS.out (A.map fun x => x.add S) (fun e => absurd e (by assumption)) (fun _ => rfl))
                refine (cj_any _ _ _ ml _ H3.out).mono ?_
                rintro e w6 ⟨rfl, rfl⟩
                rw [HCL.out]
                go_wp2_with fail
                go_ret2
                exact ⟨none, 0, 0, by rw [H5.out]; rfl, HE5.out _, hP ▸ hbw.trans (hb5.mono (by omega))⟩
            | false =>
              have hnext := HNEXT.out
              rw [if_neg (by decide)] at hnext
              simp only [Option.map_some] at hnext
              have HN5 := Lib.hid hnext
              clear hnext HNEXT
              go_wp2_with fail
              · have hcS : c = S := by assumption
                subst hcS
                have h3 := HCS.out A (fun _ => rfl) (fun e => absurd rfl e)
                rw [Nat.sub_self] at h3
                have H3 := Lib.hid h3
                clear h3
                refine (cj_any _ _ _ ml _ H3.out).mono ?_
                rintro e w6 ⟨rfl, rfl⟩
                rw [HCL.out]
                clear H3 HCS HCL
                go_wp2_with (first
                  | (refine wp_bsl (.tmp 65) (v := .slice A5 rb.length c5) rfl rfl rfl rfl ?_)
                  | (refine wp_more (.tmp 64) (.tmp 66) hrs5 o5' ⟨A5, c5, rfl⟩ hne5 rfl rfl (by omega) (by omega) rfl rfl rfl rfl ?_; intro g cp w7 hrs7 hg7 hbg7 hat7; have hb7 := (hb5.alloc (show wa.heap.size ≤ w5.heap.size by omega) (.cells #[.slice A5 rb.length c5] 23)).grown hg7 (by simp; omega) (fun k hk => (hrs5.lt k hk).1)))
                go_roundw
                case rel => exact ⟨i + 1, E, ll ++ [rb], vs ++ [_], by go_num, by omega, by go_num, hEn, HEM, HN5, by rw [← hl5]; exact hrs7, hb7⟩
                case measure => simp [intOf]; omega
              · have H3 := Lib.hid (HCS.out (A.map fun x => x.add S) (fun e => absurd e (by assumption)) (fun _ => rfl))
                refine (cj_any _ _ _ ml _ H3.out).mono ?_
                rintro e w6 ⟨rfl, rfl⟩
                rw [HCL.out]
                clear H3 HCS HCL
                go_wp2_with (first
                  | (refine wp_bsl (.tmp 65) (v := .slice A5 rb.length c5) rfl rfl rfl rfl ?_)
                  | (refine wp_more (.tmp 64) (.tmp 66) hrs5 o5' ⟨A5, c5, rfl⟩ hne5 rfl rfl (by omega) (by omega) rfl rfl rfl rfl ?_; intro g cp w7 hrs7 hg7 hbg7 hat7; have hb7 := (hb5.alloc (show wa.heap.size ≤ w5.heap.size by omega) (.cells #[.slice A5 rb.length c5] 23)).grown hg7 (by simp; omega) (fun k hk => (hrs5.lt k hk).1)))
                go_roundw
                case rel => exact ⟨i + 1, E, ll ++ [rb], vs ++ [_], by go_num, by omega, by go_num, hEn, HEM, HN5, by rw [← hl5]; exact hrs7, hb7⟩
                case measure => simp [intOf]; omega
          · have h0' : (er != 0) = true := by simp [h0]
            rw [if_neg h0] at hrow
            have hone := jn.one_none (by rw [her]; exact h0)
            rw [hone] at hnext
            simp only [Option.map_none] at hnext
            have hb0 := HBAT.out
            rw [jn.parse_none hnext k.batches hlt] at hb0
            have hend := HJ.out
            have hRV := HRV.out
            rw [hb0] at hend hRV
            have H5 := Lib.hid (show R = 5 from hRV)
            have HE5 := Lib.hid (fun w' => hend w' none 0 0 (fun h => absurd h (by decide)) (fun _ => ⟨rfl, rfl, rfl⟩))
            have HROW := Lib.hid hrow
            have hE := cj_end 0 (by omega)
            have HE := Lib.hid hE
            clear hb0 hnext hend hRV HBAT hone hrow hE h0 hnx her hrb hga hrest hrl
            go_wp2_with fail
            refine HROW.out.mono ?_
            rintro e w5 ⟨v5, rfl, o5, b5⟩
            have hb5 := hbw2.trans (b5.mono hbw2.size)
            obtain ⟨A5, c5, rfl, -⟩ := o5.form
            clear HROW o5 b5 hrs
            go_wp2_with fail
            refine (HE.out _).mono ?_
            rintro e w6 ⟨rfl, rfl⟩
            clear HE
            go_wp2_with fail
            go_ret2
            exact ⟨none, 0, 0, by rw [H5.out]; rfl, HE5.out _, hP ▸ hbw.trans (hb5.mono (by omega))⟩
        · have hi' : ¬ (i : Int) < (k.batches : Int) := by omega
          obtain rfl : i = k.batches := by omega
          have hb0 := HBAT.out
          rw [hparse.out] at hb0
          simp only at hb0
          have hend := HJ.out
          have hRV := HRV.out
          rw [hb0] at hend hRV
          obtain ⟨A9, c9, rfl, hR9⟩ := hrs.rs
          by_cases hTe : T = n
          · have hlt2 : ¬ (T : Int) < (n : Int) := by omega
            have H5 := Lib.hid (show R = 0 from by rw [hRV, hTe, List.drop_of_length_le (by omega)]; rfl)
            have HE5 := Lib.hid (fun w' (hR : RS w' A9 ll.length c9 ll) => hend w' A9 ll.length c9 (fun _ => hR) (fun h => absurd (show (allb.drop T).isEmpty = true by rw [hTe, List.drop_of_length_le (by omega)]; rfl) h))
            clear hb0 hend hRV HBAT hrs hTe
            go_wp2_with fail
            go_ret2
            exact ⟨A9, _, c9, by rw [H5.out]; rfl, HE5.out _ hR9, hP ▸ hbw.trans (hbw2.mono (by omega))⟩
          · have hlt2 : (T : Int) < (n : Int) := by omega
            have hne : (allb.drop T).isEmpty = false := by
              have : (allb.drop T).length = n - T := by rw [List.length_drop]; omega
              cases hd : allb.drop T with
              | nil => rw [hd] at this; simp at this; omega
              | cons x r => rfl
            rw [hne] at hend hRV
            have H5 := Lib.hid (show R = 5 from hRV)
            have HE5 := Lib.hid (fun w' => hend w' none 0 0 (fun h => Bool.noConfusion h) (fun _ => ⟨rfl, rfl, rfl⟩))
            clear hb0 hend hRV HBAT hrs hTe hne
            go_wp2_with fail
            go_ret2
            exact ⟨none, 0, 0, by rw [H5.out]; rfl, HE5.out _, hP ▸ hbw.trans (hbw2.mono (by omega))⟩
end Go.Proofs.YtknndmhkfonfmaaDoor

/-
  THE PROGRAM's journal: steps that are function values: what each does to a disk; one behind the other up to the first error; those that write blocks and flush.
-/
namespace Go.Proofs.YtknndmhkfonfmaaDoor
open Go.RowKit Go.Shelf
namespace jn
/-- a step: a block is written, or all is flushed -/
inductive Op where
  | wr (n : Nat) (b : Blk)
  | fl
def opR (s : St) : Op → Int × St
  | .wr n b => dk.write s n b
  | .fl => dk.flush s
/-- steps, one behind the other, to the first error -/
def runOps : St → List Op → Int × St
  | s, [] => (0, s)
  | s, o :: r => if (opR s o).1 = 0 then runOps (opR s o).2 r else opR s o
theorem opR_few (s : St) (o : Op) : (opR s o).2.many ≤ s.many + 1 ∧ (opR s o).2.L.length ≤ s.L.length + 1 := by
  cases o with
  | wr n b => exact write_few s n b
  | fl => exact ⟨(flush_few s).1, Nat.le_succ_of_le (flush_few s).2⟩
theorem runOps_few : ∀ (l : List Op) (s : St), (runOps s l).2.many ≤ s.many + l.length ∧ (runOps s l).2.L.length ≤ s.L.length + l.length
  | [], s => by simp [runOps]
  | o :: r, s => by
    have h1 := opR_few s o
    have h2 := runOps_few r (opR s o).2
    simp only [runOps, List.length_cons]
    split
    · omega
    · omega
theorem runOps_app : ∀ (l : List Op) (s : St) (r : List Op), runOps s (l ++ r) = if (runOps s l).1 = 0 then runOps (runOps s l).2 r else runOps s l
  | [], s, r => by simp [runOps]
  | o :: l, s, r => by
    by_cases h : (opR s o).1 = 0
    · have e : ∀ t, runOps s (o :: t) = runOps (opR s o).2 t := fun t => by rw [runOps, if_pos h]
      rw [List.cons_append, e, e, runOps_app l]
    · have e : ∀ t, runOps s (o :: t) = opR s o := fun t => by rw [runOps, if_neg h]
      rw [List.cons_append, e, e, if_neg h]
/-- the writes of blocks from a place on -/
def wrs (at_ : Nat) : List Blk → List Op
  | [] => []
  | b :: r => .wr at_ b :: wrs (at_ + 1) r
theorem wrs_length : ∀ (l : List Blk) (at_ : Nat), (wrs at_ l).length = l.length
  | [], _ => rfl
  | _ :: r, at_ => by simp [wrs, wrs_length r]
theorem wrs_get : ∀ (l : List Blk) (at_ i : Nat) (h : i < l.length), (wrs at_ l)[i]? = some (.wr (at_ + i) l[i])
  | [], _, i, h => by simp at h
  | b :: r, at_, 0, _ => rfl
  | b :: r, at_, i + 1, h => by
    simp only [wrs, List.getElem?_cons_succ]
    rw [wrs_get r (at_ + 1) i (by simpa using h)]
    simp only [List.getElem_cons_succ]
    rw [show at_ + 1 + i = at_ + (i + 1) from by omega]
theorem wrs_snoc : ∀ (l : List Blk) (at_ : Nat) (b : Blk), wrs at_ (l ++ [b]) = wrs at_ l ++ [.wr (at_ + l.length) b]
  | [], _, _ => rfl
  | x :: r, at_, b => by
    simp only [List.cons_append, wrs, List.length_cons]
    rw [wrs_snoc r (at_ + 1) b, show at_ + 1 + r.length = at_ + (r.length + 1) from by omega]
theorem runOps_wrs : ∀ (l : List Blk) (s : St) (at_ : Nat), runOps s (wrs at_ l) = writes s at_ l
  | [], _, _ => rfl
  | b :: r, s, at_ => by
    simp only [wrs, runOps, writes, opR, runOps_wrs r]
end jn
/-- a function value: a function, what is bound ahead, what it captured -/
structure FV where
  f : Nat
  first : Array Value
  cap : Array Value
def FV.val (x : FV) : Value := .func (.func x.f) x.first x.cap
theorem FV.one (x : FV) : x.val.oneCell' = true := rfl
variable {w w' : World} {F : List Nat} {d : Value} {s : dk.St}
/-- a function value is a step on the disk d; what it captured lies apart from F -/
def StepOf (w : World) (F : List Nat) (d : Value) (x : FV) : jn.Op → Prop
  | .fl => x = ⟨38, #[d], #[]⟩
  | .wr n b => ∃ D T I B a i : Nat, x = ⟨36, #[], #[.pointer (some ⟨D, 0, none⟩), .pointer (some ⟨T, 0, none⟩), .pointer (some ⟨I, 0, none⟩), .pointer (some ⟨B, 0, none⟩)]⟩ ∧ a + i = n ∧ a ≤ 1048576 ∧ i ≤ 1048576 ∧ b.length = 128 ∧
    w.heap[D]? = some (.cells #[d] 25 (0, 0)) ∧ w.heap[T]? = some (.cells #[.int .i64 a] 3 (0, 0)) ∧ w.heap[I]? = some (.cells #[.int .i64 i] 3 (0, 0)) ∧ w.heap[B]? = some (.cells (dk.cells b).toArray 62 (0, 0)) ∧
    D ∉ F ∧ T ∉ F ∧ I ∉ F ∧ B ∉ F
theorem StepOf.step {F' : List Nat} {x : FV} {o : jn.Op} (h : StepOf w F d x o) (hc : Chg w w' F) (hs : Sub w F' F) : StepOf w' F' d x o := by
  cases o with
  | fl => exact h
  | wr n b =>
    obtain ⟨D, T, I, B, a, i, h1, h2, h3, h4, h5, hD, hT, hI, hB, n1, n2, n3, n4⟩ := h
    have lD := (Array.getElem?_eq_some_iff.1 hD).1
    have lT := (Array.getElem?_eq_some_iff.1 hT).1
    have lI := (Array.getElem?_eq_some_iff.1 hI).1
    have lB := (Array.getElem?_eq_some_iff.1 hB).1
    exact ⟨D, T, I, B, a, i, h1, h2, h3, h4, h5, (hc.block D lD n1).trans hD, (hc.block T lT n2).trans hT, (hc.block I lI n3).trans hI, (hc.block B lB n4).trans hB,
      fun e => (hs D e).elim n1 (by omega), fun e => (hs T e).elim n2 (by omega), fun e => (hs I e).elim n3 (by omega), fun e => (hs B e).elim n4 (by omega)⟩
theorem StepOf.enter {x : FV} {o : jn.Op} (h : StepOf w F d x o) : ∀ args W, (callFunc x.f args).run Tryd.prog W = .ok (.enter x.f args) W := by
  cases o with
  | fl => rw [show x = _ from h]; exact enters_of Tryd.func38 (by kernel_rfl) rfl
  | wr n b =>
    obtain ⟨D, T, I, B, a, i, h1, -⟩ := h
    rw [h1]
    exact enters_of Tryd.func36 (by kernel_rfl) rfl
set_option maxHeartbeats 1000000 in
set_option maxRecDepth 100000 in
theorem step_any {x : FV} {o : jn.Op} (h : StepOf w F d x o) (hd : CD w F d s) (hf : s.Few) : Calls Tryd.prog x.f (x.first ++ x.cap) w fun e w' =>
    ∃ F', e = .returned (.int .i64 (jn.opR s o).1) ∧ CD w' F' d (jn.opR s o).2 ∧ Chg w w' F ∧ Sub w F' F := by
  cases o with
  | fl => rw [show x = _ from h]; exact cd_flush hd hf
  | wr n b =>
    obtain ⟨D, T, I, B, a, i, rfl, rfl, h3, h4, h5, hD, hT, hI, hB, -⟩ := h
    have cD : w.cell? ⟨D, 0, none⟩ = some d := by rw [cell_of_row _ _ 0 _ _ _ hD]; rfl
    have cT : w.cell? ⟨T, 0, none⟩ = some (.int .i64 a) := by rw [cell_of_row _ _ 0 _ _ _ hT]; rfl
    have cI : w.cell? ⟨I, 0, none⟩ = some (.int .i64 i) := by rw [cell_of_row _ _ 0 _ _ _ hI]; rfl
    have gB := blk_range hB
    have HW := Lib.hid (cd_write ((a + i : Nat) : Int) b h5 hd hf)
    rw [Int.natCast_add] at HW
    show Calls Tryd.prog 36 #[.pointer (some ⟨D, 0, none⟩), .pointer (some ⟨T, 0, none⟩), .pointer (some ⟨I, 0, none⟩), .pointer (some ⟨B, 0, none⟩)] w _
    simp only [jn.opR, Int.natCast_add]
    obtain ⟨p, rfl⟩ := hd.form
    clear hD hT hI hB hd hf
    go_enter Tryd.func36, Tryd.ntmps36
    go_wp2_with (refine wp_ld (.tmp 3) b gB h5 rfl rfl rfl ?_)
    refine HW.out.mono ?_
    rintro e w2 ⟨F', rfl, h6, h7, h8⟩
    go_wp2_with fail
    go_ret
    exact ⟨F', rfl, h6, h7, h8⟩
/-- what is left of a run -/
theorem jn.run_next {s0 s : jn.St} {L : List jn.Op} {i : Nat} {o : jn.Op} (h : jn.runOps s0 L = jn.runOps s (L.drop i)) (hi : L[i]? = some o) :
    ((jn.opR s o).1 = 0 → jn.runOps s0 L = jn.runOps (jn.opR s o).2 (L.drop (i + 1))) ∧ (¬ (jn.opR s o).1 = 0 → jn.runOps s0 L = jn.opR s o) := by
  have hl : i < L.length := (List.getElem?_eq_some_iff.1 hi).1
  have e : L.drop i = o :: L.drop (i + 1) := by
    rw [List.drop_eq_getElem_cons hl]
    congr 1
    exact (List.getElem?_eq_some_iff.1 hi).2
  rw [e, jn.runOps] at h
  exact ⟨fun h0 => by rw [h, if_pos h0], fun h0 => by rw [h, if_neg h0]⟩
set_option maxHeartbeats 1000000 in
set_option maxRecDepth 100000 in
/-- STEPS, ONE BEHIND THE OTHER, TO THE FIRST ERROR -/
theorem crun_any {g n c : Nat} {fs : List FV} {L : List jn.Op} (hn : fs.length = n) (hL : L.length = n) (hnc : n ≤ c) (hc : c ≤ 9223372036854775807)
    (hrow : ∀ i (h : i < fs.length), w.cell? ⟨g, i, none⟩ = some fs[i].val) (hg : g < w.heap.size) (hgF : g ∉ F)
    (hst : ∀ i (h : i < fs.length) o, L[i]? = some o → StepOf w F d fs[i] o) (hd : CD w F d s) (hf : s.many + n < 1048576 ∧ s.L.length + n < 1048576) :
    Calls Tryd.prog 35 #[.slice (some ⟨g, 0, none⟩) n c] w fun e w' => ∃ F', e = .returned (.int .i64 (jn.runOps s L).1) ∧ CD w' F' d (jn.runOps s L).2 ∧ Chg w w' F ∧ Sub w F' F := by
  have H : ∀ i (hi : i < n) W F1 s1, Chg w W F → Sub w F1 F → CD W F1 d s1 → jn.runOps s L = jn.runOps s1 (L.drop i) → s1.many ≤ s.many + i → s1.L.length ≤ s.L.length + i →
      ∃ x : FV, W.cell? ⟨g, i, none⟩ = some x.val ∧ (∀ args W', (callFunc x.f args).run Tryd.prog W' = .ok (.enter x.f args) W') ∧
        Calls Tryd.prog x.f (x.first ++ x.cap) W fun e w' => ∃ r F2, e = .returned (.int .i64 r) ∧ Chg w w' F ∧ Sub w F2 F ∧
          (r = 0 → ∃ s2, CD w' F2 d s2 ∧ jn.runOps s L = jn.runOps s2 (L.drop (i + 1)) ∧ s2.many ≤ s.many + (i + 1) ∧ s2.L.length ≤ s.L.length + (i + 1)) ∧ (¬ r = 0 → (jn.runOps s L).1 = r ∧ CD w' F2 d (jn.runOps s L).2) := by
    intro i hi W F1 s1 hC hS hD hR hm hl
    obtain ⟨o, ho⟩ : ∃ o, L[i]? = some o := ⟨L[i], List.getElem?_eq_getElem (by omega)⟩
    have h1 := (hst i (by omega) o ho).step hC hS
    have hcell : W.cell? ⟨g, i, none⟩ = some fs[i].val := by
      have e2 : W.cell? ⟨g, i, none⟩ = w.cell? ⟨g, i, none⟩ := by simp only [World.cell?, hC.block g hg hgF]
      rw [e2]
      exact hrow i (by omega)
    refine ⟨fs[i], hcell, h1.enter, (step_any h1 hD ⟨by omega, by omega⟩).mono fun e w' h => ?_⟩
    obtain ⟨F2, h2, h3, h4, h5⟩ := h
    have hfew := jn.opR_few s1 o
    have hnx := jn.run_next hR ho
    refine ⟨(jn.opR s1 o).1, F2, h2, hC.trans h4 hS, h5.trans hS hC.size, fun h0 => ⟨_, h3, hnx.1 h0, by omega, by omega⟩, fun h0 => ?_⟩
    rw [hnx.2 h0]
    exact ⟨rfl, h3⟩
  have HH := Lib.hid H
  have hL0 : L.drop n = [] := List.drop_of_length_le (by omega)
  have HL0 := Lib.hid hL0
  have HD0 := Lib.hid hd
  clear H hst hrow hd hL0 hf
  go_enter Tryd.func35, Tryd.ntmps35
  go_wp2_with fail
  go_loopw [8] (fun t wr => ∃ (i : Nat) (F1 : List Nat) (s1 : dk.St), t = .int .i64 i ∧ i ≤ n ∧ Chg w wr F ∧ Sub w F1 F ∧ CD wr F1 d s1 ∧ Hid (jn.runOps s L = jn.runOps s1 (L.drop i)) ∧ s1.many ≤ s.many + i ∧ s1.L.length ≤ s.L.length + i) (fun t _ => n - (intOf t).toNat)
  case atStart => exact ⟨0, F, s, rfl, by omega, Chg.refl _ _, Sub.refl _ _, HD0.out, rfl, by omega, by omega⟩
  case round =>
    clear HD0
    obtain ⟨i, F1, s1, rfl, hi, hC, hS, hD, hR, hm, hl⟩ := hrel
    by_cases hlt : i < n
    · obtain ⟨x, hc0, hen, hcall⟩ := HH.out i hlt wr F1 s1 hC hS hD hR.out hm hl
      unfold FV.val at hc0
      obtain ⟨f, first, cap⟩ := x
      have HST := Lib.hid hcall
      clear hcall hD hC hS hR hm hl
      go_wp2_with fail
      refine HST.out.mono ?_
      rintro e w2 ⟨r, F2, rfl, h1, h2, h3, h4⟩
      by_cases hr : r = 0
      · obtain ⟨s2, h5, h6, h7, h8⟩ := h3 hr
        rw [hr]
        have H6 := Lib.hid h6
        clear h3 h4 hr h6
        go_wp2_with fail
        go_roundw
        case rel => exact ⟨i + 1, F2, s2, by go_num, by omega, h1, h2, h5, H6, by omega, by omega⟩
        case measure => simp [intOf]; omega
      · have hne : (r != 0) = true := by simpa using hr
        obtain ⟨h5, h6⟩ := h4 hr
        have HR := Lib.hid h5
        clear h3 h4 hr h5
        go_wp2_with fail
        go_ret
        exact ⟨F2, ret_int HR.out.symm, h6, h1, h2⟩
    · obtain rfl : i = n := by omega
      have hR2 := hR.out
      rw [HL0.out] at hR2
      have HR2 := Lib.hid hR2
      clear hR hR2
      go_wp2_with fail
      go_ret
      exact ⟨F1, ret_int (by rw [HR2.out]; rfl), by rw [HR2.out]; exact hD, hC, hS⟩
end Go.Proofs.YtknndmhkfonfmaaDoor

/-
  THE PROGRAM's journal: the steps that write blocks and flush.
-/
namespace Go.Proofs.YtknndmhkfonfmaaDoor
open Go.RowKit Go.Shelf
variable {w w' : World} {F : List Nat} {d : Value} {s : dk.St}
/-- a slice of blocks -/
structure BlS (w : World) (A : Option Addr) (n c : Nat) (l : List dk.Blk) : Prop where
  len : l.length = n
  lens : ∀ b ∈ l, b.length = 128
  cap : n ≤ c
  max : c ≤ 9223372036854775807
  has : 0 < n → ∃ g, A = some ⟨g, 0, none⟩ ∧ g < w.heap.size ∧ ∀ i (hi : i < l.length), w.rangeAt g (i * 128) (dk.cells l[i])
theorem BlS.below {A : Option Addr} {n c : Nat} {l : List dk.Blk} (h : BlS w A n c l) (hb : Below w.heap.size w w') : BlS w' A n c l :=
  ⟨h.len, h.lens, h.cap, h.max, fun hn => by
    obtain ⟨g, e, hg, hr⟩ := h.has hn
    exact ⟨g, e, Nat.lt_of_lt_of_le hg hb.size, fun i hi j v hv => (hb.cell (p := ⟨g, i * 128 + j, none⟩) hg).trans (hr i hi j v hv)⟩⟩
theorem RowBl.bls {g : Nat} {l : List dk.Blk} (h : RowBl w g l) (hl : ∀ b ∈ l, b.length = 128) {n : Nat} (hn : l.length = n) (hm : n ≤ 1048576) : BlS w (some ⟨g, 0, none⟩) n n l :=
  ⟨hn, hl, Nat.le_refl _, by omega, fun _ => ⟨g, rfl, h.lt, fun i hi => h.range hl hi⟩⟩
theorem BlS.of_own {base : Nat} {v : Value} {n : Nat} {l : List dk.Blk} (h : w.ownsRow base 62 128 v n (dk.cellsS l)) (hl : ∀ b ∈ l, b.length = 128) (hn : l.length = n) : ∃ A c, v = .slice A n c ∧ BlS w A n c l := by
  rcases h.2 with ⟨rfl, h0⟩ | ⟨g, cap, cur, rfl, hb, hg, h1, h2, h3, h4⟩
  · exact ⟨none, 0, by rw [h0], hn, hl, by omega, by omega, fun h => absurd h (by omega)⟩
  · exact ⟨_, cap, rfl, hn, hl, h1, by rw [maxLen_eq] at h2; exact h2, fun _ => ⟨g, rfl, (Array.getElem?_eq_some_iff.1 hg).1, fun i hi => own_blk h hn.symm hl hi⟩⟩
/-- function values that are these steps -/
def StepsOf (w : World) (F : List Nat) (d : Value) (fs : List FV) (L : List jn.Op) : Prop := fs.length = L.length ∧ ∀ i (h : i < fs.length) o, L[i]? = some o → StepOf w F d fs[i] o
theorem StepsOf.nil_ : StepsOf w F d [] [] := ⟨rfl, fun i h => by simp at h⟩
theorem StepsOf.app {fs gs : List FV} {L M : List jn.Op} (h : StepsOf w F d fs L) (h2 : StepsOf w F d gs M) : StepsOf w F d (fs ++ gs) (L ++ M) :=
  ⟨by rw [List.length_append, List.length_append, h.1, h2.1], fun i hi o ho => by
    by_cases hlt : i < fs.length
    · rw [List.getElem_append_left hlt]
      rw [List.getElem?_append_left (by rw [← h.1]; exact hlt)] at ho
      exact h.2 i hlt o ho
    · rw [List.getElem_append_right (by omega)]
      rw [List.getElem?_append_right (by rw [← h.1]; omega), ← h.1] at ho
      exact h2.2 _ _ o ho⟩
theorem StepsOf.one {x : FV} {o : jn.Op} (h : StepOf w F d x o) : StepsOf w F d [x] [o] :=
  ⟨rfl, fun i hi p hp => by
    obtain rfl : i = 0 := by simp at hi; omega
    simp only [List.getElem?_cons_zero, Option.some.injEq] at hp
    subst hp
    exact h⟩
theorem StepsOf.step {F' : List Nat} {fs : List FV} {L : List jn.Op} (h : StepsOf w F d fs L) (hc : Chg w w' F) (hs : Sub w F' F) : StepsOf w' F' d fs L := ⟨h.1, fun i hi o ho => (h.2 i hi o ho).step hc hs⟩
/-- one more word on them: whatever else was written -/
theorem StepOf.far {G : List Nat} {x : FV} {o : jn.Op} (h : StepOf w F d x o) (hc : Chg w w' G) (hG : ∀ k, k < w.heap.size → k ∉ G) : StepOf w' F d x o := by
  cases o with
  | fl => exact h
  | wr n b =>
    obtain ⟨D, T, I, B, a, i, h1, h2, h3, h4, h5, hD, hT, hI, hB, n1, n2, n3, n4⟩ := h
    have lD := (Array.getElem?_eq_some_iff.1 hD).1
    have lT := (Array.getElem?_eq_some_iff.1 hT).1
    have lI := (Array.getElem?_eq_some_iff.1 hI).1
    have lB := (Array.getElem?_eq_some_iff.1 hB).1
    exact ⟨D, T, I, B, a, i, h1, h2, h3, h4, h5, (hc.block D lD (hG D lD)).trans hD, (hc.block T lT (hG T lT)).trans hT, (hc.block I lI (hG I lI)).trans hI, (hc.block B lB (hG B lB)).trans hB, n1, n2, n3, n4⟩
theorem StepsOf.below {fs : List FV} {L : List jn.Op} (h : StepsOf w F d fs L) (hb : Below w.heap.size w w') : StepsOf w' F d fs L :=
  ⟨h.1, fun i hi o ho => (h.2 i hi o ho).far (Chg.of_below hb []) (fun _ _ => by simp)⟩
/-- the row of them was appended to; what they captured lies elsewhere -/
theorem StepOf.grown {row : Option Nat} {x : FV} {o : jn.Op} (h : StepOf w F d x o) (hg : w.grownBy w' row) (hr : ∀ q, row = some q → ∃ cs, w.heap[q]? = some (.cells cs 59 (0, 0))) : StepOf w' F d x o := by
  cases o with
  | fl => exact h
  | wr n b =>
    obtain ⟨D, T, I, B, a, i, h1, h2, h3, h4, h5, hD, hT, hI, hB, n1, n2, n3, n4⟩ := h
    have keep : ∀ (q : Nat) (cs : Array Value) (t : TypeId), w.heap[q]? = some (.cells cs t (0, 0)) → t ≠ 59 → w'.heap[q]? = some (.cells cs t (0, 0)) := fun q cs t hq ht => by
      refine (hg.block q (Array.getElem?_eq_some_iff.1 hq).1 (fun e => ?_)).trans hq
      obtain ⟨cs2, h6⟩ := hr q e.symm
      have h7 := Option.some.inj (hq.symm.trans h6)
      simp only [Obj.cells.injEq] at h7
      exact ht h7.2.1
    exact ⟨D, T, I, B, a, i, h1, h2, h3, h4, h5, keep _ _ 25 hD (by decide), keep _ _ 3 hT (by decide), keep _ _ 3 hI (by decide), keep _ _ 62 hB (by decide), n1, n2, n3, n4⟩
theorem StepsOf.grown {row : Option Nat} {fs : List FV} {L : List jn.Op} (h : StepsOf w F d fs L) (hg : w.grownBy w' row) (hr : ∀ q, row = some q → ∃ cs, w.heap[q]? = some (.cells cs 59 (0, 0))) : StepsOf w' F d fs L :=
  ⟨h.1, fun i hi o ho => (h.2 i hi o ho).grown hg hr⟩
theorem own_fn {base : Nat} {v : Value} {n : Nat} {xs : List Value} (h : w.ownsRow base 59 1 v n xs) : ∀ q, v.ownBlock = some q → ∃ cs, w.heap[q]? = some (.cells cs 59 (0, 0)) := fun q hq => by
  rcases h.2 with ⟨rfl, _⟩ | ⟨g, cap, cur, rfl, _, hg, _⟩
  · simp [Value.ownBlock] at hq
  · simp only [Value.ownBlock, Option.some.injEq] at hq
    subst hq
    exact ⟨cur, hg⟩
theorem info_fn : (Tryd.prog.info? 59).map (fun i => (i.zero, i.size, i.bytes)) = some (some .nilFunc, 1, 8) := by kernel_rfl
section
variable {ops : Array Oper} {rest : List Oper} {o : Oper} {a : Act} {w : World} {Q : Exit → Act → World → Prop}
/-- one function value, as a row of one -/
theorem wp_bsf (x : Operand) {v : Value} (hv : v.oneCell' = true) (hg : o.guard = none) (ho : o.op = .buildSlice 57 1 #[(0, x)]) (hx : a.eval x = v)
    (h : wpList Tryd.prog ops Q rest (a.put o.dst (.slice (some ⟨w.heap.size, 0, none⟩) 1 1)) (w.alloc (.cells #[v] 59))) : wpList Tryd.prog ops Q (o :: rest) a w := by
  obtain ⟨i0, hi0, hz0, hs0, _⟩ := info_parts24 info_fn
  have hc : v.cells = #[v] := by cases v <;> first | rfl | cases hv
  refine wpList_buildSlice hg 57 59 1 _ ho #[v] i0 _ Tryd.underlying57 hi0 hz0 (by rw [hs0]; omega) (by rw [hs0]; omega) ?_ h
  rw [hs0]
  simp only [List.map_toArray, List.map_cons, List.map_nil, hx]
  have hr : Array.range 1 = #[0] := rfl
  rw [hr]
  simp [Instr.fill, hc]
/-- function values are appended -/
theorem wp_apf (x y : Operand) {v : Value} {n m c : Nat} {xs ys : List Value} {B base : Nat} (hown : w.ownsRow base 59 1 v n xs) (hbase : base ≤ w.heap.size) (hB : ∀ j u, ys[j]? = some u → w.cell? ⟨B, j, none⟩ = some u) (hy1 : ∀ u ∈ ys, u.oneCell' = true) (hyl : ys.length = m) (hm : 0 < m) (hn : n + m ≤ 1048576) (hgd : o.guard = none)
    (ho : o.op = .call { callee := .builtin .append, args := #[x, y], argTypes := #[57, 57] }) (hx : a.eval x = v) (hy : a.eval y = .slice (some ⟨B, 0, none⟩) m c)
    (h : ∀ g cap W', W'.ownsRow base 59 1 (.slice (some ⟨g, 0, none⟩) (n + m) cap) (n + m) (xs ++ ys) → w.grownBy W' v.ownBlock → (v.ownBlock = some g ∨ g = w.heap.size) → g < W'.heap.size → wpList Tryd.prog ops Q rest (a.put o.dst (.slice (some ⟨g, 0, none⟩) (n + m) cap)) W') : wpList Tryd.prog ops Q (o :: rest) a w := by
  obtain ⟨i0, hi0, hz0, hs0, hb0⟩ := info_parts24 info_fn
  refine wpList_append_lies w hgd x y 57 ho base 59 i0 _ 1 8 Tryd.underlying57 hi0 hz0 hs0 hb0 rfl (by omega) v n xs hx hown ⟨B, 0, none⟩ m c ys hy (by omega) ?_ hy1 hm (by rw [maxLen_eq]; omega) (by omega) hbase _ rfl h
  intro j u hj
  have hadd : (⟨B, 0, none⟩ : Addr).add j = ⟨B, j, none⟩ := by unfold Addr.add; split <;> simp_all
  rw [hadd]
  exact hB j u hj
end
theorem own_base {base n size : Nat} {e : TypeId} {v : Value} {xs : List Value} (h : w.ownsRow base e size v n xs) : ∀ k, v.ownBlock = some k → base ≤ k := fun k hk => by
  rcases h.2 with ⟨rfl, _⟩ | ⟨g, _, _, rfl, hb, _⟩
  · simp [Value.ownBlock] at hk
  · simp only [Value.ownBlock, Option.some.injEq] at hk
    omega
theorem cells_new (w : World) (v : Value) (t : TypeId) : ∀ j u, [v][j]? = some u → (w.alloc (.cells #[v] t)).cell? ⟨w.heap.size, j, none⟩ = some u := fun j u hj => by
  have hj0 : j = 0 := by
    have := (List.getElem?_eq_some_iff.1 hj).1
    simp at this
    omega
  subst hj0
  rw [cell_of_row _ _ _ _ _ _ (heap_alloc_new w (.cells #[v] t))]
  simpa using hj
theorem own_alloc {base n size : Nat} {e : TypeId} {v : Value} {xs : List Value} (h : w.ownsRow base e size v n xs) (o : Obj) : (w.alloc o).ownsRow base e size v n xs := own_keepB h fun k hk => Below.heap_alloc w o k (own_lt h k hk)
set_option maxHeartbeats 4000000 in
set_option maxRecDepth 100000 in
/-- THE STEPS THAT WRITE BLOCKS FROM A PLACE ON, AND FLUSH -/
theorem cwritten_any (p a : Nat) (hd : d = .pointer (some ⟨p, 0, none⟩)) (ha : a ≤ 1048576) {A : Option Addr} {n c : Nat} {l : List dk.Blk} (hl : BlS w A n c l) (hn : n ≤ 524288) (hF : Ther w F) :
    Calls Tryd.prog 22 #[d, .int .i64 a, .slice A n c] w fun e w' => ∃ g cap fs, e = .returned (.slice (some ⟨g, 0, none⟩) (n + 1) cap) ∧
      w'.ownsRow w.heap.size 59 1 (.slice (some ⟨g, 0, none⟩) (n + 1) cap) (n + 1) (fs.map FV.val) ∧ StepsOf w' F d fs (jn.wrs a l ++ [.fl]) ∧ Below w.heap.size w w' := by
  subst hd
  obtain ⟨hz, -⟩ := zero_of_info zero_blk
  have e0 := heap_alloc_new w (.cells #[.pointer (some ⟨p, 0, none⟩)] 25)
  have e1 := heap_alloc_new (w.alloc (.cells #[.pointer (some ⟨p, 0, none⟩)] 25)) (.cells #[.int .i64 a] 3)
  have e00 := (Below.heap_alloc (w.alloc (.cells #[.pointer (some ⟨p, 0, none⟩)] 25)) (.cells #[.int .i64 a] 3) w.heap.size (by simp)).trans e0
  have b1 : Below w.heap.size w (w.alloc (.cells #[.pointer (some ⟨p, 0, none⟩)] 25)) := (Below.refl _ _).alloc (Nat.le_refl _) _
  have b2 := b1.alloc b1.size (.cells #[.int .i64 a] 3)
  rw [show (w.alloc (.cells #[.pointer (some ⟨p, 0, none⟩)] 25)).heap.size = w.heap.size + 1 from by simp] at e1
  obtain ⟨W2, hW2⟩ : ∃ W2, (w.alloc (.cells #[.pointer (some ⟨p, 0, none⟩)] 25)).alloc (.cells #[.int .i64 a] 3) = W2 := ⟨_, rfl⟩
  rw [hW2] at e1 e00 b2
  have hlt : w.heap.size + 1 < W2.heap.size := (Array.getElem?_eq_some_iff.1 e1).1
  have hl2 := hl.below b2
  have hcap := hl.cap
  have hmax := hl.max
  have hlen := hl.len
  have HWRS := Lib.hid (fun i (hi : i < l.length) => (show jn.wrs a (l.take (i + 1)) = jn.wrs a (l.take i) ++ [.wr (a + i) l[i]] from by
    rw [List.take_add_one, List.getElem?_eq_getElem hi]
    simp only [Option.toList_some]
    rw [jn.wrs_snoc, List.length_take, Nat.min_eq_left (by omega)]))
  have HLENS := Lib.hid hl.lens
  clear e0 b1 hl
  go_enter Tryd.func22, Tryd.ntmps22
  go_wp2_with fail
  go_loopw [7, 12] (fun v t wr => ∃ (i : Nat) (fs : List FV), t = .int .i64 i ∧ i ≤ n ∧ wr.ownsRow W2.heap.size 59 1 v i (fs.map FV.val) ∧ StepsOf wr F (.pointer (some ⟨p, 0, none⟩)) fs (jn.wrs a (l.take i)) ∧ Below W2.heap.size W2 wr) (fun _ t _ => n - (intOf t).toNat)
  case atStart => exact ⟨0, [], rfl, by omega, World.ownsRow_nil _ _ _ _, StepsOf.nil_, Below.refl _ _⟩
  case round =>
    obtain ⟨i, fs, rfl, hi, hown, hst, hb⟩ := hrel
    have hsz := hb.size
    by_cases hlt2 : i < n
    · obtain ⟨g, rfl, hgl, hr⟩ := (hl2.below hb).has (by omega)
      have hil : i < l.length := by omega
      have hrng := hr i hil
      have hxl := HLENS.out _ (List.getElem_mem hil)
      have hws := HWRS.out i hil
      generalize l[i] = x at *
      have HWS := Lib.hid hws
      clear hr hws
      have nI := (Below.heap_alloc (wr.alloc (.cells #[.int .i64 i] 3)) (.cells (dk.cells dk.zero).toArray 62) wr.heap.size (by simp)).trans (heap_alloc_new wr (.cells #[.int .i64 i] 3))
      have nB := heap_alloc_new (wr.alloc (.cells #[.int .i64 i] 3)) (.cells (dk.cells dk.zero).toArray 62)
      rw [show (wr.alloc (.cells #[.int .i64 i] 3)).heap.size = wr.heap.size + 1 from by simp] at nB
      have bA : Below wr.heap.size wr ((wr.alloc (.cells #[.int .i64 i] 3)).alloc (.cells (dk.cells dk.zero).toArray 62)) := ((Below.refl _ _).alloc (Nat.le_refl _) _).alloc (by simp) _
      obtain ⟨WA, hWA⟩ : ∃ WA, (wr.alloc (.cells #[.int .i64 i] 3)).alloc (.cells (dk.cells dk.zero).toArray 62) = WA := ⟨_, rfl⟩
      rw [hWA] at nI nB bA
      have hsA : wr.heap.size + 1 < WA.heap.size := (Array.getElem?_eq_some_iff.1 nB).1
      obtain ⟨X, hX⟩ : ∃ X, wr.heap.size = X := ⟨_, rfl⟩
      rw [hX] at nI nB bA hsA
      have hvlt := own_lt hown
      have nF : ∀ q, w.heap.size ≤ q → q ∉ F := fun q hq hm => by have := hF q hm; omega
      have E00 := Lib.hid ((hb.block _ (show w.heap.size < W2.heap.size by omega)).trans e00)
      have E1 := Lib.hid ((hb.block _ hlt).trans e1)
      go_wp2_with (first
        | refine wp_ld (.tmp 15) x hrng hxl rfl rfl rfl ?_
        | (refine wp_st0 (.tmp 9) (.tmp 16) x nB zero_len hxl rfl rfl rfl rfl ?_; intro w5 W5 c5; have b5 := bA.trans (c5.below (B := X) (by omega) (fun k hk => by simp at hk; omega)); have nI5 := (c5.block X (by omega) (by simp)).trans nI; have own5 := own_keepB (w' := w5) hown (fun k hk => b5.block k (by have := hvlt k hk; omega)); have st5 := hst.below (hX ▸ b5); have hs5 := c5.size; have all5 := st5.app (StepsOf.one (show StepOf w5 F (.pointer (some ⟨p, 0, none⟩)) ⟨36, #[], #[.pointer (some ⟨w.heap.size, 0, none⟩), .pointer (some ⟨w.heap.size + 1, 0, none⟩), .pointer (some ⟨X, 0, none⟩), .pointer (some ⟨X + 1, 0, none⟩)]⟩ (.wr (a + i) x) from ⟨w.heap.size, w.heap.size + 1, X, X + 1, a, i, rfl, rfl, ha, by omega, hxl, (b5.block _ (by omega)).trans E00.out, (b5.block _ (by omega)).trans E1.out, nI5, W5, nF _ (by omega), nF _ (by omega), nF _ (by omega), nF _ (by omega)⟩)); rw [← HWS.out] at all5; clear nB nI)
        | refine wp_bsf (.tmp 18) (v := .func (.func 36) #[] #[.pointer (some ⟨w.heap.size, 0, none⟩), .pointer (some ⟨w.heap.size + 1, 0, none⟩), .pointer (some ⟨X, 0, none⟩), .pointer (some ⟨X + 1, 0, none⟩)]) rfl rfl rfl rfl ?_
        | (at_builtin; refine wp_apf (.tmp 17) (.tmp 19) (m := 1) (ys := [_]) (own_alloc own5 _) (by simp; omega) (cells_new _ _ _) (by intro u hu; simp at hu; rw [hu]; rfl) rfl (by omega) (by omega) rfl rfl rfl rfl ?_; intro gg cp w7 own7 g7 at7 lt7; have all7 := (all5.below ((Below.refl _ _).alloc (Nat.le_refl _) _)).grown g7 (own_fn (own_alloc own5 _)); have hb7 := ((hb.trans (b5.mono (by omega))).alloc (by omega) _).grown g7 (by simp; omega) (fun k hk => own_base own5 k hk)))
      exact ⟨⟨i + 1, _, by go_num, by omega, by rw [List.map_append]; exact own7, all7, hb7⟩, by simp [intOf]; omega⟩
    · obtain rfl : i = n := by omega
      have htk : l.take i = l := List.take_of_length_le (by omega)
      rw [htk] at hst
      have cD : wr.cell? ⟨w.heap.size, 0, none⟩ = some (.pointer (some ⟨p, 0, none⟩)) := by rw [cell_of_row _ _ 0 _ _ _ ((hb.block _ (show w.heap.size < W2.heap.size by omega)).trans e00)]; rfl
      have all5 := hst.app (StepsOf.one (show StepOf wr F (.pointer (some ⟨p, 0, none⟩)) ⟨38, #[.pointer (some ⟨p, 0, none⟩)], #[]⟩ .fl from rfl))
      clear htk
      go_wp2_with (first
        | refine wp_bsf (.tmp 24) (v := .func (.func 38) #[.pointer (some ⟨p, 0, none⟩)] #[]) rfl rfl rfl rfl ?_
        | (at_builtin; refine wp_apf (.tmp 22) (.tmp 25) (m := 1) (ys := [_]) (own_alloc hown _) (by simp; omega) (cells_new _ _ _) (by intro u hu; simp at hu; rw [hu]; rfl) rfl (by omega) (by omega) rfl rfl rfl rfl ?_; intro gg cp w7 own7 g7 at7 lt7; have all7 := (all5.below ((Below.refl _ _).alloc (Nat.le_refl _) _)).grown g7 (own_fn (own_alloc hown _)); have hb7 := (hb.alloc (by omega) _).grown g7 (by simp; omega) (fun k hk => own_base hown k hk)))
      go_ret
      exact ⟨gg, cp, _, rfl, by rw [List.map_append]; exact ownsRow_base own7 (by omega), all7, b2.trans (hb7.mono (by omega))⟩
end Go.Proofs.YtknndmhkfonfmaaDoor

/-
  slices.Chunk: a piece of so many bytes, one behind the other, for every loop body that keeps what lay ahead of the loop.
-/
namespace Go.Proofs.YtknndmhkfonfmaaDoor
open Go.RowKit Go.Shelf
attribute [local go_sem] Oper.semAt_some
/-- how many bytes the k-th piece has -/
def pieceL (L k : Nat) : Nat := min 128 (L - k * 128)
/-- the k-th piece of a row of L bytes -/
def pieceV (g L k : Nat) : Value := .slice (some ⟨g, k * 128, none⟩) (pieceL L k) (pieceL L k)
/-- these blocks are as they were -/
def Stay (G : List Nat) (W W' : World) : Prop := ∀ k ∈ G, W'.heap[k]? = W.heap[k]?
theorem Stay.refl (G : List Nat) (W : World) : Stay G W W := fun _ _ => rfl
theorem Stay.trans {G : List Nat} {A B C : World} (h : Stay G A B) (h2 : Stay G B C) : Stay G A C := fun k hk => (h2 k hk).trans (h k hk)
theorem Stay.cell {G : List Nat} {W W' : World} (h : Stay G W W') (b : Nat) (hb : b ∈ G) : W'.cell? ⟨b, 0, none⟩ = W.cell? ⟨b, 0, none⟩ := by simp only [World.cell?, h b hb]
theorem grownBy_drew' (w : World) : w.grownBy w.drew none := ⟨rfl, rfl, rfl, Nat.le_refl _, fun _ _ _ => rfl⟩
set_option maxRecDepth 100000 in
set_option maxHeartbeats 2000000 in
theorem chunk1_in (n l Bs Bn g L C : Nat) (hL : L ≤ 1048584) (hC : L ≤ C) (hC2 : C ≤ 9223372036854775807) (J Jx : List Nat → World → Prop)
    (hJd : ∀ pre W, J pre W → J pre W.drew)
    (hY : ∀ pre x W, J pre W → pre.length < jn.count L → YieldAt Fence.wide (n - 1) Tryd.prog l #[pieceV g L x] W fun e W' =>
      (e = .returned (.bool true) ∧ J (pre ++ [x]) W' ∧ Stay [Bs, Bn] W W') ∨ (e = .returned (.bool false) ∧ Jx (pre ++ [x]) W'))
    (W : World) (hs : W.cell? ⟨Bs, 0, none⟩ = some (.slice (some ⟨g, 0, none⟩) L C)) (hn : W.cell? ⟨Bn, 0, none⟩ = some (.int .i64 128)) (h0 : J [] W) :
    CallsIn Fence.wide n Tryd.prog 70 #[.func (.yield l) #[] #[], .pointer (some ⟨Bs, 0, none⟩), .pointer (some ⟨Bn, 0, none⟩)] W fun e W' => (∃ v, e = .returned v) ∧
      ((∃ ys, ys = List.range (jn.count L) ∧ J ys W') ∨ (∃ pre, True ∧ Jx pre W')) := by
  refine callsIn_of_wp Tryd.func70 rfl trivial ?_ rfl
  simp only [Tryd.ntmps70, List.size_toArray, List.length_cons, List.length_nil, Nat.reduceAdd, Nat.reduceSub, Array.replicate_succ, Array.replicate_zero, List.push_toArray, List.append_toArray, List.nil_append, List.cons_append]
  gi_wp2
  gi_loopw [4] (fun i wr => ∃ k T : Nat, i = .int .i64 T ∧ Hid (T = k * 128) ∧ T ≤ L + 127 ∧ J (List.range k) wr ∧ Stay [Bs, Bn] W wr)
    (fun i _ => L + 128 - (intOf i).toNat)
  case atStart => exact ⟨0, 0, rfl, rfl, by omega, h0, Stay.refl _ _⟩
  case round =>
    obtain ⟨k, T, rfl, hT, hTL, hJs, hb⟩ := hrel
    have cs := (hb.cell Bs (by simp)).trans hs
    have cn := (hb.cell Bn (by simp)).trans hn
    by_cases hlt : T < L
    · have hk : (List.range k).length < jn.count L := by
        have := hT.out
        rw [List.length_range, jn.count]
        omega
      obtain ⟨fn, tmps, assign, body, hy, hR⟩ := hY (List.range k) k wr.drew (hJd _ _ hJs) hk
      have hCT : ¬ C = T := by omega
      obtain ⟨m, hm⟩ : ∃ m, pieceL L k = m := ⟨_, rfl⟩
      have hml : m = min 128 (L - T) := by rw [← hm, pieceL, hT.out]
      have hm1 : T + m ≤ L := by omega
      have hm0 : 0 < m := by omega
      simp only [pieceV, hm, ← hT.out] at hy
      have hTm : (T : Int) + (m : Int) = ((T + m : Nat) : Int) := by omega
      by_cases h128 : L - T < 128
      · have hmm : m = L - T := by omega
        gi_wp2
        gi_region
        rw [← hmm]
        have hsub : T + m - T = m := by omega
        have cs2 : wr.drew.cell? ⟨Bs, 0, none⟩ = some (.slice (some ⟨g, 0, none⟩) L C) := cs
        have cn2 : wr.drew.cell? ⟨Bn, 0, none⟩ = some (.int .i64 128) := cn
        clear hmm h128 hml hTm
        gi_wp2
        refine ⟨fun h => by simp [Fence.wide] at h, hR.mono ?_⟩
        rintro e W3 (⟨rfl, hJ3, hk3⟩ | ⟨rfl, hJx3⟩)
        · have hb3 : Stay [Bs, Bn] W W3 := Stay.trans hb hk3
          have cs3 := (hk3.cell Bs (by simp)).trans cs2
          have cn3 := (hk3.cell Bn (by simp)).trans cn2
          clear cs cn cs2 cn2 hk3
          gi_wp2
          go_roundw
          case rel => exact ⟨k + 1, T + 128, by go_num, (by have := hT.out; exact Lib.hid (by omega)), by omega, by rw [List.range_succ]; exact hJ3, hb3⟩
          case measure => simp [intOf]; omega
        · gi_wp2
          refine bodyPost_ret (results_none rfl _ _ _) rfl ?_
          exact ⟨⟨_, rfl⟩, .inr ⟨_, trivial, hJx3⟩⟩
      · have hmm : m = 128 := by omega
        gi_wp2
        gi_region
        rw [show ((128 : Int)) = (m : Int) from by omega]
        have hsub : T + m - T = m := by omega
        have cs2 : wr.drew.cell? ⟨Bs, 0, none⟩ = some (.slice (some ⟨g, 0, none⟩) L C) := cs
        have cn2 : wr.drew.cell? ⟨Bn, 0, none⟩ = some (.int .i64 128) := cn
        clear hmm h128 hml hTm
        gi_wp2
        refine ⟨fun h => by simp [Fence.wide] at h, hR.mono ?_⟩
        rintro e W3 (⟨rfl, hJ3, hk3⟩ | ⟨rfl, hJx3⟩)
        · have hb3 : Stay [Bs, Bn] W W3 := Stay.trans hb hk3
          have cs3 := (hk3.cell Bs (by simp)).trans cs2
          have cn3 := (hk3.cell Bn (by simp)).trans cn2
          clear cs cn cs2 cn2 hk3
          gi_wp2
          go_roundw
          case rel => exact ⟨k + 1, T + 128, by go_num, (by have := hT.out; exact Lib.hid (by omega)), by omega, by rw [List.range_succ]; exact hJ3, hb3⟩
          case measure => simp [intOf]; omega
        · gi_wp2
          refine bodyPost_ret (results_none rfl _ _ _) rfl ?_
          exact ⟨⟨_, rfl⟩, .inr ⟨_, trivial, hJx3⟩⟩
    · have hkc : k = jn.count L := by
        have := hT.out
        rw [jn.count]
        omega
      gi_wp2
      go_end0
      exact ⟨⟨_, rfl⟩, .inl ⟨_, rfl, by rw [← hkc]; exact hJs⟩⟩
/-- slices.Chunk of a row, for pieces of 128 bytes -/
theorem chunk_stops (n g L C : Nat) (hL : L ≤ 1048584) (hC : L ≤ C) (hC2 : C ≤ 9223372036854775807) (Bs Bn : Nat) (w : World) (hbs : Bs < w.heap.size) (hbn : Bn < w.heap.size)
    (hs : w.cell? ⟨Bs, 0, none⟩ = some (.slice (some ⟨g, 0, none⟩) L C)) (hn : w.cell? ⟨Bn, 0, none⟩ = some (.int .i64 128)) :
    SeqStopsK Fence.wide n Tryd.prog 70 #[.pointer (some ⟨Bs, 0, none⟩), .pointer (some ⟨Bn, 0, none⟩)] (fun k => #[pieceV g L k]) (Stay [Bs, Bn]) (fun xs => xs = List.range (jn.count L)) (fun _ => True) (jn.count L) w := by
  intro l J Jx W hb hJ hJx hY h0
  exact chunk1_in n l Bs Bn g L C hL hC hC2 J Jx (fun pre W h => hJ pre W W.drew none h (grownBy_drew' W) (fun r e => by cases e)) hY W ((hb.cell (p := ⟨Bs, 0, none⟩) hbs).trans hs) ((hb.cell (p := ⟨Bn, 0, none⟩) hbn).trans hn) h0
/-! ### an operation in a round goes as everywhere -/
def onlyN (K : Act → World → Prop) : Exit → Act → World → Prop
  | .normal, a, w => K a w
  | _, _, _ => False
theorem opIn {P : Program} {o : Oper} {a : Act} {w : World} {K : Act → World → Prop} {Q : Exit → Act → World → Prop} (l n : Nat) (hnd : ∀ c, o.op ≠ .defer c) (h : o.wp P a w K (onlyN K)) : o.wpIn (Fence.wide.inRound l) n P a w K Q := by
  refine ⟨fun _ _ => trivial, ?_⟩
  rw [Oper.semAt_plain _ _ _ hnd]
  unfold Oper.wp at h
  generalize (execOp a.eval o).run P w = r at h
  cases r with
  | ok nx w' =>
    cases nx with
    | value v => exact h
    | skip => exact h
    | defer d => exact h
    | enter f args =>
      refine ⟨fun h => by simp [Fence.wide] at h, ?_⟩
      refine CallsIn.inRound l ((callsIn_wide.2 h).mono fun e w'' he => ?_)
      cases e with
      | returned v => exact he
      | panicked c => exact he.elim
      | outgrown => obtain ⟨_, _, hf⟩ := he; exact hf.elim
    | row row args =>
      refine ⟨fun h => by simp [Fence.wide] at h, fun c cs _ => ?_⟩
      obtain ⟨v, w2, h1, h2⟩ := h c cs
      exact ⟨v, w2, h1, stepsIn_wide.2 h2⟩
    | _ => exact h.elim
  | halt x w' =>
    cases x with
    | panic v => exact (show False from h).elim
    | _ => exact h.elim
theorem listIn {P : Program} {ops : Array Oper} {rest : List Oper} {o : Oper} {a : Act} {w : World} {Q : Exit → Act → World → Prop} (l n : Nat) (hg : o.guard = none) (hnd : ∀ c, o.op ≠ .defer c)
    (h : wpList P ops (onlyN (wpListIn (Fence.wide.inRound l) n P ops Q rest)) [o] a w) : wpListIn (Fence.wide.inRound l) n P ops Q (o :: rest) a w := by
  unfold wpList at h
  rw [if_pos (by simp [Region.wanted, hg])] at h
  unfold wpListIn
  rw [if_pos (by simp [Region.wanted, hg])]
  rcases h with h | ⟨_, _, _, h⟩
  · exact opIn l n hnd h
  · exact h.elim
end Go.Proofs.YtknndmhkfonfmaaDoor

/-
  contracts of cardexref07: Batches, Room, Head, Open, Same.
-/
namespace Go.Proofs.YtknndmhkfonfmaaDoor
open Go.RowKit

theorem hd.newest_may (a b : dk.Blk) : hd.may (hd.newest a b).2.1 = true := by
  have hg : ∀ x : dk.Blk, hd.may (hd.get x).2.1 = true := fun x => by
    by_cases h : (hd.get x).2.2 = 0
    · exact (hd.get_num h).2.2
    · rw [(hd.get_err h).2]; rfl
  unfold hd.newest
  split
  · rfl
  · split
    · exact hg b
    · exact hg a
theorem hd.newest_lt (a b : dk.Blk) : (hd.newest a b).1 ≤ 4611686018427387904 := by
  unfold hd.newest
  split
  · exact Nat.zero_le _
  · split
    · exact hd.get_lt b
    · exact hd.get_lt a
/-- a pointer to what the call made -/
def NewP (w : World) (v : Value) : Prop := ∀ k, v = .pointer (some ⟨k, 0, none⟩) → w.heap.size ≤ k
theorem newp_none (w : World) : NewP w (.pointer none) := fun k e => by simp at e
theorem newp_at {w : World} {g : Nat} (h : w.heap.size ≤ g) : NewP w (.pointer (some ⟨g, 0, none⟩)) := fun k e => by
  injection e with e
  injection e with e
  injection e with e
  omega
theorem rs_at {w : World} {b o : Nat} {n c : Nat} {ll : List (List UInt8)} (h : RS w (some ⟨b, o, none⟩) n c ll) {i : Nat} (hi : i < n) : ∃ A' c', w.cell? ⟨b, o + i, none⟩ = some (.slice A' (ll.getD i []).length c') ∧ BS w A' (ll.getD i []).length c' (ll.getD i []) := by
  obtain ⟨b', o', e, hb, hc⟩ := h.has (by omega)
  injection e with e
  injection e with e1 e2
  subst e1 e2
  obtain ⟨A', c', e1, e2⟩ := hc i (by rw [h.len]; exact hi)
  have he : ll.getD i [] = ll[i]'(by rw [h.len]; exact hi) := by rw [List.getD_eq_getElem?_getD, List.getElem?_eq_getElem (by rw [h.len]; exact hi)]; rfl
  rw [he]
  exact ⟨A', c', e1, e2⟩
set_option maxHeartbeats 2000000 in
set_option maxRecDepth 100000 in
/-- the same rows of bytes? -/
theorem same_rows {A1 A2 : Option Addr} {n1 c1 n2 c2 : Nat} {l1 l2 : List (List UInt8)} {w : World} (h1 : RS w A1 n1 c1 l1) (h2 : RS w A2 n2 c2 l2) : Calls Tryd.prog 15 #[.slice A1 n1 c1, .slice A2 n2 c2] w fun e w' => e = .returned (.bool (decide (l1 = l2))) ∧ Below w.heap.size w w' := by
  have hlen1 := h1.len
  have hlen2 := h2.len
  by_cases hn : n1 = n2
  · subst hn
    have hnb : ((n1 : Int) != (n1 : Int)) = false := by simp
    have H1 := Lib.hid h1
    have H2 := Lib.hid h2
    have hcap1 := h1.cap
    have hmax1 := h1.max
    have hcap2 := h2.cap
    have hmax2 := h2.max
    clear h1 h2
    go_enter Tryd.func15, Tryd.ntmps15
    go_wp2_with fail
    go_loopw [5] (fun t wr => ∃ (i : Nat), t = .int .i64 i ∧ i ≤ n1 ∧ Hid (∀ k, k < i → l1.getD k [] = l2.getD k []) ∧ Below w.heap.size w wr) (fun t _ => n1 - (intOf t).toNat)
    case atStart => exact ⟨0, rfl, by omega, fun k hk => by omega, Below.refl _ _⟩
    case round =>
      obtain ⟨i, rfl, hin, hz, hb⟩ := hrel
      by_cases hi : i < n1
      · have hi' : (i : Int) < (n1 : Int) := by omega
        have r1 := H1.out.below hb
        have r2 := H2.out.below hb
        obtain ⟨b1, o1, rfl, -⟩ := r1.has (by omega)
        obtain ⟨b2, o2, rfl, -⟩ := r2.has (by omega)
        obtain ⟨X1, k1, e1, g1⟩ := rs_at r1 hi
        obtain ⟨X2, k2, e2, g2⟩ := rs_at r2 hi
        obtain ⟨a1, ha1⟩ : ∃ a, l1.getD i [] = a := ⟨_, rfl⟩
        obtain ⟨a2, ha2⟩ : ∃ a, l2.getD i [] = a := ⟨_, rfl⟩
        rw [ha1] at e1 g1
        rw [ha2] at e2 g2
        have HS := Lib.hid (fun n => same_any _ _ _ _ _ _ a1 a2 (wr.drewN n) (show BS (wr.drewN n) X1 a1.length k1 a1 from ⟨g1.len, g1.cap, g1.max, g1.small, g1.has⟩) (show BS (wr.drewN n) X2 a2.length k2 a2 from ⟨g2.len, g2.cap, g2.max, g2.small, g2.has⟩))
        by_cases ha : a1 = a2
        · rw [decide_eq_true ha] at HS
          have hz2 : Hid (∀ k, k < i + 1 → l1.getD k [] = l2.getD k []) := fun k hk => by
            by_cases hk2 : k < i
            · exact hz.out k hk2
            · obtain rfl : k = i := by omega
              rw [ha1, ha2, ha]
          clear r1 r2 g1 g2 ha1 ha2 ha
          go_wp2_with fail
          go_quiet (first | (go_at_call 31; exact quiet_is (HS.out _)))
          go_wp2_with fail
          go_roundw
          case rel => exact ⟨i + 1, by go_num, by omega, hz2, ⟨hb.os, hb.tape, hb.output, hb.size, hb.block⟩⟩
          case measure => simp [intOf]; omega
        · rw [decide_eq_false ha] at HS
          have hd : decide (l1 = l2) = false := by
            rw [decide_eq_false_iff_not]
            intro e
            rw [e] at ha1
            exact ha (ha1.symm.trans ha2)
          have HDD := Lib.hid hd
          clear r1 r2 g1 g2 ha1 ha2 ha hd
          go_wp2_with fail
          go_quiet (first | (go_at_call 31; exact quiet_is (HS.out _)))
          go_wp2_with fail
          go_ret
          exact ⟨by rw [HDD.out]; rfl, ⟨hb.os, hb.tape, hb.output, hb.size, hb.block⟩⟩
      · have hi' : ¬ (i : Int) < (n1 : Int) := by omega
        have hd : decide (l1 = l2) = true := by
          rw [decide_eq_true_eq]
          refine List.ext_getElem (by omega) fun k h1 h2 => ?_
          have := hz.out k (by omega)
          rw [List.getD_eq_getElem?_getD, List.getD_eq_getElem?_getD, List.getElem?_eq_getElem h1, List.getElem?_eq_getElem h2] at this
          exact this
        have HDD := Lib.hid hd
        clear hd
        go_wp2_with fail
        go_ret
        exact ⟨by rw [HDD.out]; rfl, hb⟩
  · have hnb : ((n1 : Int) != (n2 : Int)) = true := by rw [bne_iff_ne]; omega
    have hd : decide (l1 = l2) = false := by
      rw [decide_eq_false_iff_not]
      intro e
      rw [e] at hlen1
      omega
    rw [hd]
    clear h1 h2
    go_enter Tryd.func15, Tryd.ntmps15
    go_wp2_with fail
    go_ret
    exact ⟨rfl, Below.refl _ _⟩
end Go.Proofs.YtknndmhkfonfmaaDoor

/-
  contracts of cardexref07: blocks, lay, Make, Append, Replace.
-/
namespace Go.Proofs.YtknndmhkfonfmaaDoor
open Go.RowKit
namespace jn
/-- a block under way: the first i bytes behind the place at_ of a row -/
def part (row : List UInt8) (at_ i : Nat) : Blk := (row.drop at_).take i ++ List.replicate (128 - i) 0
theorem part_length {row : List UInt8} {at_ i : Nat} (h : at_ + i ≤ row.length) (hi : i ≤ 128) : (part row at_ i).length = 128 := by
  rw [part, List.length_append, List.length_take, List.length_drop, List.length_replicate]
  omega
theorem part_zero (row : List UInt8) (at_ : Nat) : part row at_ 0 = dk.zero := rfl
theorem part_set {row : List UInt8} {at_ i : Nat} (h : at_ + i < row.length) (hi : i < 128) : (part row at_ i).set i (row[at_ + i]'h) = part row at_ (i + 1) := by
  unfold part
  rw [List.set_append_right _ _ (by rw [List.length_take]; omega)]
  have e1 : i - ((row.drop at_).take i).length = 0 := by rw [List.length_take, List.length_drop]; omega
  rw [e1, show 128 - i = (128 - (i + 1)) + 1 from by omega, List.replicate_succ, List.set_cons_zero, List.take_add_one, List.getElem?_drop, List.getElem?_eq_getElem h]
  simp
theorem part_blk {row : List UInt8} {k i : Nat} (hi : i ≤ 128) (hend : i = 128 ∨ row.length ≤ k * 128 + i) (hle : k * 128 + i ≤ row.length) : part row (k * 128) i = blk row k := by
  unfold part blk
  rcases hend with rfl | he
  · have hl : ((row.drop (k * 128)).take 128).length = 128 := by rw [List.length_take, List.length_drop]; omega
    rw [hl]
  · have e1 : (row.drop (k * 128)).take i = row.drop (k * 128) := List.take_of_length_le (by rw [List.length_drop]; omega)
    have e2 : (row.drop (k * 128)).take 128 = row.drop (k * 128) := List.take_of_length_le (by rw [List.length_drop]; omega)
    rw [e1, e2, List.length_drop]
    congr 2
    omega
/-- the first k blocks of a row -/
def firstB (row : List UInt8) (k : Nat) : List Blk := (List.range k).map (blk row)
theorem firstB_snoc (row : List UInt8) (k : Nat) : firstB row k ++ [blk row k] = firstB row (k + 1) := by simp [firstB, List.range_succ]
theorem firstB_length (row : List UInt8) (k : Nat) : (firstB row k).length = k := by simp [firstB]
end jn
namespace jn
theorem lay_w {s : St} {at_ : Nat} {L : List Blk} (k : hd.H) (h : ¬ (writes s at_ L).1 = 0) : lay s at_ L k = writes s at_ L := by unfold jn.lay; rw [if_neg h]
theorem lay_f {s : St} {at_ : Nat} {L : List Blk} (k : hd.H) (h : (writes s at_ L).1 = 0) (h2 : ¬ (dk.flush (writes s at_ L).2).1 = 0) : lay s at_ L k = dk.flush (writes s at_ L).2 := by unfold jn.lay; rw [if_pos h, if_neg h2]
theorem lay_h {s : St} {at_ : Nat} {L : List Blk} (k : hd.H) (h : (writes s at_ L).1 = 0) (h2 : (dk.flush (writes s at_ L).2).1 = 0) : lay s at_ L k = layH (dk.flush (writes s at_ L).2).2 k := by unfold jn.lay; rw [if_pos h, if_pos h2]
theorem writes_at {s : St} {at_ : Nat} {L : List Blk} {i : Nat} (hi : i < L.length) (h : (writes s at_ (L.take i)).1 = 0) :
    writes s at_ (L.take (i + 1)) = dk.write (writes s at_ (L.take i)).2 ((at_ : Int) + (i : Int)) L[i] := by
  have e : L.take (i + 1) = L.take i ++ [L[i]] := by rw [List.take_add_one, List.getElem?_eq_getElem hi]; rfl
  rw [e, writes_snoc _ _ _ _ h, List.length_take]
  congr 1
  omega
theorem writes_end {s : St} {at_ : Nat} {L : List Blk} {i : Nat} (h : ¬ (writes s at_ (L.take i)).1 = 0) : writes s at_ L = writes s at_ (L.take i) := by
  conv => lhs; rw [← List.take_append_drop i L]
  exact writes_stop _ _ _ _ h
end jn
theorem own_form {w : World} {base n size : Nat} {e : TypeId} {v : Value} {xs : List Value} (h : w.ownsRow base e size v n xs) : ∃ A c, v = .slice A n c ∧ n ≤ c ∧ c ≤ 9223372036854775807 ∧ (0 < n → ∃ g, A = some ⟨g, 0, none⟩) := by
  rcases h.2 with ⟨rfl, rfl⟩ | ⟨g, cap, cur, rfl, _, _, h1, h2, _⟩
  · exact ⟨none, 0, rfl, Nat.le_refl _, by omega, fun h => by omega⟩
  · exact ⟨_, cap, rfl, h1, by rw [maxLen_eq] at h2; exact h2, fun _ => ⟨g, rfl⟩⟩
variable {w w' : World} {F : List Nat} {j : Value} {s : dk.St}
end Go.Proofs.YtknndmhkfonfmaaDoor

/-
  THE PROGRAM's journal: the blocks of a row.
-/
namespace Go.Proofs.YtknndmhkfonfmaaDoor
open Go.RowKit Go.Shelf
attribute [local go_sem] Oper.semAt_some
theorem chunk_any (A : Option Addr) (L C : Nat) (w : World) : Calls Tryd.prog 56 #[.slice A L C, .int .i64 128] w fun e w' =>
    e = .returned (.func (.func 70) #[] #[.pointer (some ⟨w.heap.size, 0, none⟩), .pointer (some ⟨w.heap.size + 1, 0, none⟩)]) ∧
      w' = (w.alloc (.cells #[.slice A L C] 23)).alloc (.cells #[.int .i64 128] 3) := by
  have c1 : ((w.alloc (.cells #[.slice A L C] 23)).alloc (.cells #[.int .i64 128] 3)).cell? ⟨w.heap.size + 1, 0, none⟩ = some (.int .i64 128) := by
    have h := heap_alloc_new (w.alloc (.cells #[.slice A L C] 23)) (.cells #[.int .i64 128] 3)
    rw [show (w.alloc (.cells #[.slice A L C] 23)).heap.size = w.heap.size + 1 from by simp] at h
    rw [cell_of_row _ _ 0 _ _ _ h]
    rfl
  go_enter Tryd.func56, Tryd.ntmps56
  go_wp2_with fail
  go_ret
  exact ⟨rfl, rfl⟩
theorem piece_bs {w : World} {g L C : Nat} {row : List UInt8} (h : BS w (some ⟨g, 0, none⟩) L C row) (x : Nat) : BS w (some ⟨g, x * 128, none⟩) (pieceL L x) (pieceL L x) ((row.drop (x * 128)).take (pieceL L x)) := by
  have hc := h.cap
  have hm := h.max
  by_cases hx : x * 128 < L
  · have h1 := h.cut (at_ := x * 128) (k := pieceL L x) (c' := pieceL L x) (by unfold pieceL; omega) (Nat.le_refl _) (by unfold pieceL; omega) (by unfold pieceL; omega)
    have e : (some (⟨g, 0, none⟩ : Addr)).map (fun y => y.add (x * 128)) = some ⟨g, x * 128, none⟩ := by
      simp only [Option.map_some, Addr.add]
      split <;> simp_all
    rw [e] at h1
    exact h1
  · have h0 : pieceL L x = 0 := by unfold pieceL; omega
    rw [h0, List.take_zero]
    exact BS.empty (by omega)
theorem piece_blk {L : Nat} {row : List UInt8} (hl : row.length = L) (x : Nat) : splice dk.zero 0 (((row.drop (x * 128)).take (pieceL L x)).take 128) = jn.blk row x := by
  have e : ((row.drop (x * 128)).take (pieceL L x)).take 128 = (row.drop (x * 128)).take 128 := by
    rw [List.take_take]
    by_cases h : 128 ≤ L - x * 128
    · rw [show min 128 (pieceL L x) = 128 from by unfold pieceL; omega]
    · rw [show min 128 (pieceL L x) = L - x * 128 from by unfold pieceL; omega, List.take_of_length_le (by rw [List.length_drop]; omega), List.take_of_length_le (by rw [List.length_drop]; omega)]
  rw [e]
  unfold splice jn.blk
  rw [List.take_zero, List.nil_append, Nat.zero_add, show dk.zero = List.replicate 128 0 from rfl, List.drop_replicate]
theorem frozen_of_row {w : World} {b : Nat} {cs : Array Value} {t : TypeId} (h : w.heap[b]? = some (.cells cs t (0, 0))) (i : Nat) : w.frozen? ⟨b, i, none⟩ = false := by simp [World.frozen?, h]
set_option maxHeartbeats 4000000 in
set_option maxRecDepth 100000 in
theorem cblocks_any (g L C : Nat) (row : List UInt8) (w : World) (hB : BS w (some ⟨g, 0, none⟩) L C row) (h0 : 0 < L) (hL : L ≤ 1048584) :
    Calls Tryd.prog 39 #[.slice (some ⟨g, 0, none⟩) L C] w fun e w' => ∃ v, e = .returned v ∧ w'.ownsRow w.heap.size 62 128 v (jn.count L) (dk.cellsS (jn.firstB row (jn.count L))) ∧ Below w.heap.size w w' := by
  refine (callsIn_wide (n := 5)).1 ?_
  refine callsIn_of_wp_marks Tryd.func39 rfl trivial ?_ rfl
  simp only [Tryd.ntmps39, List.size_toArray, List.length_cons, List.length_nil, Nat.reduceAdd, Nat.reduceSub, Array.replicate_succ, Array.replicate_zero, List.push_toArray, List.append_toArray, List.nil_append, List.cons_append]
  gi_wp2
  refine ⟨trivial, (callsIn_wide.2 (chunk_any _ _ _ _)).mono ?_⟩
  rintro e w1 ⟨rfl, hw1⟩
  rw [show (w.alloc (.cells #[.slice none 0 0] 45)).heap.size = w.heap.size + 1 from by simp]
  have e0 := heap_alloc_new w (.cells #[.slice none 0 0] 45)
  have e1 := heap_alloc_new (w.alloc (.cells #[.slice none 0 0] 45)) (.cells #[.slice (some ⟨g, 0, none⟩) L C] 23)
  have e2 := heap_alloc_new ((w.alloc (.cells #[.slice none 0 0] 45)).alloc (.cells #[.slice (some ⟨g, 0, none⟩) L C] 23)) (.cells #[.int .i64 128] 3)
  have s1 : (w.alloc (.cells #[.slice none 0 0] 45)).heap.size = w.heap.size + 1 := by simp
  have s2 : ((w.alloc (.cells #[.slice none 0 0] 45)).alloc (.cells #[.slice (some ⟨g, 0, none⟩) L C] 23)).heap.size = w.heap.size + 1 + 1 := by simp
  have f1 := (Below.heap_alloc _ (.cells #[.int .i64 128] 3) _ (show w.heap.size + 1 < ((w.alloc (.cells #[.slice none 0 0] 45)).alloc (.cells #[.slice (some ⟨g, 0, none⟩) L C] 23)).heap.size by simp <;> omega)).trans (s1 ▸ e1)
  have f0 := (Below.heap_alloc _ (.cells #[.int .i64 128] 3) _ (show w.heap.size < ((w.alloc (.cells #[.slice none 0 0] 45)).alloc (.cells #[.slice (some ⟨g, 0, none⟩) L C] 23)).heap.size by simp <;> omega)).trans ((Below.heap_alloc _ (.cells #[.slice (some ⟨g, 0, none⟩) L C] 23) _ (show w.heap.size < (w.alloc (.cells #[.slice none 0 0] 45)).heap.size by simp)).trans e0)
  rw [s2] at e2
  rw [← hw1] at e2 f1 f0
  have hb1 : Below w.heap.size w w1 := by rw [hw1]; exact (((Below.refl _ _).alloc (Nat.le_refl _) _).alloc (by simp) _).alloc (by simp <;> omega) _
  have hsz : w1.heap.size = w.heap.size + 3 := by rw [hw1]; simp
  clear hw1 e0 e1 s1 s2
  obtain ⟨B, hBB⟩ : ∃ B, w.heap.size = B := ⟨_, rfl⟩
  rw [hBB] at e2 f1 f0 hsz
  simp only [hBB]
  have hcap := hB.cap
  have hmax := hB.max
  gi_wp2
  refine wpIn_rangeFunc_ownF (α := Nat) rfl (by omega) (gf := 70) (lb := #[.pointer (some ⟨B + 1, 0, none⟩), .pointer (some ⟨B + 1 + 1, 0, none⟩)]) rfl trivial (enters_of Tryd.func70 (by kernel_rfl) rfl)
    (chunk_stops 4 g L C hL hcap hmax (B + 1) (B + 1 + 1) w1 (by omega) (by omega) (by rw [cell_of_row _ _ 0 _ _ _ f1]; rfl) (by rw [cell_of_row _ _ 0 _ _ _ e2]; rfl))
    (fun h h2 => Stay.trans h h2) (fun W l o o' hl _ _ _ k hk => World.putObj_heap_other (by simp at hk; omega)) (Below.refl _ _) (fun _ => rfl)
    (fun pre W => ∃ v, W.heap[B]? = some (.cells #[v] 45 (0, 0)) ∧ W.ownsRow w1.heap.size 62 128 v pre.length (dk.cellsS (pre.map (jn.blk row))) ∧ Below B w W ∧ w1.heap.size ≤ W.heap.size)
    (fun _ _ _ => False) ?hI (fun _ _ _ _ _ h _ _ => h) ⟨_, f0, World.ownsRow_nil _ _ _ _, hBB ▸ hb1, Nat.le_refl _⟩
    (fun x => { tmps := #[.slice (some ⟨g, 0, none⟩) L C, undef, .slice none 0 0, .pointer (some ⟨B, 0, none⟩), pieceV g L x, undef, .slice (some ⟨g, 0, none⟩) L C, .func (.func 70) #[] #[.pointer (some ⟨B + 1, 0, none⟩), .pointer (some ⟨B + 1 + 1, 0, none⟩)], pieceV g L x, undef, undef, undef, undef, undef, undef, undef, undef], defers := [] }) ?assign ?body ?done ?stop
  case assign =>
    intro l x W K hK
    gi_wp2
    exact hK
  case hI =>
    rintro pre W W' row' ⟨v, h1, h2, h3, h4⟩ hg hr
    have hne : ∀ (k : Nat) cs t, W.heap[k]? = some (.cells cs t (0, 0)) → some k ≠ row' := fun k cs t hk e => by
      obtain ⟨_, o, ho, hc⟩ := hr k e.symm
      rw [hk] at ho
      injection ho with ho
      rw [← ho] at hc
      cases hc
    refine ⟨v, (hg.block B (Array.getElem?_eq_some_iff.1 h1).1 (hne B _ _ h1)).trans h1, own_keepB h2 fun k hk => ?_, h3.grown hg (by rw [← hBB]; exact h3.size) (fun k e => by have := (hr k e).1; omega), Nat.le_trans h4 hg.size⟩
    rcases h2.2 with ⟨rfl, _⟩ | ⟨q, cp, cur, rfl, _, hq, _⟩
    · simp [Value.ownBlock] at hk
    · simp only [Value.ownBlock, Option.some.injEq] at hk
      subst hk
      exact hg.block q (Array.getElem?_eq_some_iff.1 hq).1 (hne q _ _ hq)
  case body =>
    rintro l pre x W ⟨v, h1, h2, h3, h4⟩ hlen
    have hcnt : pre.length ≤ 16384 := by unfold jn.count at hlen; omega
    have hBl := (Array.getElem?_eq_some_iff.1 h1).1
    have c0 : W.cell? ⟨B, 0, none⟩ = some v := by rw [cell_of_row _ _ 0 _ _ _ h1]; rfl
    have nX := heap_alloc_new W (.cells (dk.cells dk.zero).toArray 62)
    obtain ⟨X, hX⟩ : ∃ X, W.heap.size = X := ⟨_, rfl⟩
    rw [hX] at nX
    obtain ⟨hz, -⟩ := zero_of_info zero_blk
    have hBW := hB.below (w' := W) (by rw [hBB]; exact h3)
    have hpb := (piece_bs hBW x).alloc (.cells (dk.cells dk.zero).toArray 62)
    have HBLK := Lib.hid (piece_blk hB.len x)
    have hbl := jn.blk_length row x
    have own4 := own_alloc h2 (.cells (dk.cells dk.zero).toArray 62)
    have hb4 := h3.alloc (by omega) (.cells (dk.cells dk.zero).toArray 62)
    have hvB := own_base h2
    have hvX := own_lt h2
    have h14 := (Below.heap_alloc W (.cells (dk.cells dk.zero).toArray 62) B hBl).trans h1
    unfold pieceV
    gi_wp2_with (first
      | (refine listIn l 3 rfl (by intro c h; cases h) ?_; refine wpList_copy_bytes rfl (.tmp 9) (.tmp 10) 23 23 rfl 5 Tryd.underlying23 (by kernel_rfl) (E := 62) (bl := dk.zero) nX rfl rfl hpb (by decide) ?_; intro w5 r5 c5; have hs5 := c5.size; rw [HBLK.out] at r5; have h15 := (c5.block B (by simp; omega) (by simp; omega)).trans h14; have c15 : w5.cell? ⟨B, 0, none⟩ = some v := (by rw [cell_of_row _ _ 0 _ _ _ h15]; rfl); have own5 := own_keepB own4 (fun k hk => c5.block k (by have := hvX k hk; simp; omega) (by have := hvX k hk; simp; omega)); have hb5 := hb4.trans (c5.below (B := B) (by have := hb4.size; omega) (fun k hk => by simp at hk; omega)); have g5 := blk_range r5; have hs4 : X + 1 ≤ w5.heap.size := (by simp at hs5; omega); change wpListIn _ _ _ _ _ _ _ _)
      | (refine listIn l 3 rfl (by intro c h; cases h) ?_; refine wp_ld (.tmp 5) (jn.blk row x) g5 hbl rfl rfl rfl ?_; change wpListIn _ _ _ _ _ _ _ _)
      | (refine listIn l 3 rfl (by intro c h; cases h) ?_; refine wp_bs1 (.tmp 13) (jn.blk row x) hbl rfl rfl rfl ?_; change wpListIn _ _ _ _ _ _ _ _)
      | (refine listIn l 3 rfl (by intro c h; cases h) ?_; refine wp_apb (.tmp 12) (.tmp 14) (own_alloc own5 _) (by simp; omega) (heap_alloc_new w5 _) hbl (by omega) rfl rfl rfl rfl ?_; intro gg cp w7 own7 g7 at7 lt7; have hvne : v.ownBlock ≠ some B := (fun e => by have := hvB B e; omega); have h17 := (g7.block B (by simp; omega) (fun e => hvne e.symm)).trans ((Below.heap_alloc w5 _ B (by omega)).trans h15); have c17 : w7.cell? ⟨B, 0, none⟩ = some v := (by rw [cell_of_row _ _ 0 _ _ _ h17]; rfl); have z17 : w7.frozen? ⟨B, 0, none⟩ = false := (frozen_of_row h17 0); change wpListIn _ _ _ _ _ _ _ _))
    have h18 := block_set (i := 0) h17 (.slice (some ⟨gg, 0, none⟩) (pre.length + 1) cp)
    have hgB := own_base own7 gg rfl
    have hkeep : ∀ k, k < W.heap.size → k ≠ B → v.ownBlock ≠ some k → (w7.setCell ⟨B, 0, none⟩ (.slice (some ⟨gg, 0, none⟩) (pre.length + 1) cp)).heap[k]? = W.heap[k]? := fun k k1 k2 k3 =>
      (((Below.heap_setCell w7 ⟨B, 0, none⟩ _ k k2).trans (g7.block k (by simp; omega) (fun e => k3 e.symm))).trans (Below.heap_alloc w5 _ k (by omega))).trans ((c5.block k (by simp; omega) (by simp; omega)).trans (Below.heap_alloc W _ k k1))
    have hsz7 := g7.size
    refine ⟨⟨?_, fun k o hk ho => ?_⟩, fun k hk => ?_, _, h18, ?_, ?_, ?_⟩
    · simp at hsz7; simp; omega
    · refine (hkeep k (Array.getElem?_eq_some_iff.1 hk).1 (fun e => ?_) (fun e => ?_)).trans hk
      · rw [e, h1] at hk
        injection hk with hk
        rw [← hk] at ho
        cases ho
      · rcases h2.2 with ⟨rfl, _⟩ | ⟨q, cp2, cur, rfl, _, hq, _⟩
        · simp [Value.ownBlock] at e
        · simp only [Value.ownBlock, Option.some.injEq] at e
          subst e
          rw [hq] at hk
          injection hk with hk
          rw [← hk] at ho
          cases ho
    · simp only [List.mem_cons, List.not_mem_nil, or_false] at hk
      exact hkeep k (by omega) (by omega) (fun e => by have := hvB k e; omega)
    · rw [List.length_append, List.map_append]
      exact own_keepB own7 fun k hk => Below.heap_setCell w7 ⟨B, 0, none⟩ _ k (by simp only [Value.ownBlock, Option.some.injEq] at hk; show k ≠ B; omega)
    · exact ((hb5.alloc (by have := hb5.size; omega) _).grown g7 (by simp; omega) (fun k hk => by have := hvB k hk; omega)).setCell (p := ⟨B, 0, none⟩) (Nat.le_refl B) _
    · simp at hsz7; simp; omega
  case done =>
    rintro D xs W hD rfl ⟨v, h1, h2, h3, h4⟩ hK
    have c0 : W.cell? ⟨B, 0, none⟩ = some v := by rw [cell_of_row _ _ 0 _ _ _ h1]; rfl
    rw [List.length_range] at h2
    have hne : ∀ k, v.ownBlock = some k → k ≠ D := fun k hk e => by
      rcases h2.2 with ⟨rfl, _⟩ | ⟨q, cp2, cur, rfl, _, hq, _⟩
      · simp [Value.ownBlock] at hk
      · simp only [Value.ownBlock, Option.some.injEq] at hk
        rw [hk, e, hK] at hq
        cases hq
    gi_wp2
    refine ⟨by simp, .inl ⟨_, _, rfl, run_takeDeferred hK, ?_⟩⟩
    refine ⟨_, results_tmp rfl _ _ _, v, rfl, ownsRow_base (own_keepB h2 fun k hk => World.putObj_heap_other (hne k hk)) (by omega), ?_⟩
    rw [hBB]
    exact h3.trans (belowK_b (w := w1) (n₀ := B) (by omega) W D _ _ hD hK rfl rfl)
  case stop =>
    rintro D c pre W _ _ h _
    exact h.elim
end Go.Proofs.YtknndmhkfonfmaaDoor
