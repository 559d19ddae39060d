/-
  A SLICE OF BYTE SLICES among the arguments: it reads as a list of lists; what the second form's bound gives of it.
-/
import Derived.Test.YtbjnmiaplegkcaaDoorLaw
import Derived.Test.YtbjnmiaplegkcaaDoorBulk
import Derived.Deep.Matrix
namespace Go.Proofs.YtbjnmiaplegkcaaDoor
open Go.ChangeShapes Go.WideShapes Go.ChangeAt Go.RowKit

/-- THE SLICE '.slice A n c' OF BYTE SLICES READS AS ll IN w. -/
structure RS (w : World) (A : Option Addr) (n c : Nat) (ll : List (List UInt8)) : Prop where
  len : ll.length = n
  cap : n ≤ c
  max : c ≤ 9223372036854775807
  has : 0 < n → ∃ b o, A = some ⟨b, o, none⟩ ∧ b < w.heap.size ∧ ∀ i (h : i < ll.length), ∃ Ai ci, w.cell? ⟨b, o + i, none⟩ = some (.slice Ai ll[i].length ci) ∧ BS w Ai ll[i].length ci ll[i]
theorem RS.below {w w' : World} {A : Option Addr} {n c : Nat} {ll : List (List UInt8)} (h : RS w A n c ll) (hb : Below w.heap.size w w') : RS w' A n c ll :=
  ⟨h.len, h.cap, h.max, fun hn => by
    obtain ⟨b, o, e, hbl, hc⟩ := h.has hn
    refine ⟨b, o, e, Nat.lt_of_lt_of_le hbl hb.size, fun i hi => ?_⟩
    obtain ⟨Ai, ci, h1, h2⟩ := hc i hi
    exact ⟨Ai, ci, (hb.cell (p := ⟨b, o + i, none⟩) hbl).trans h1, h2.below hb⟩⟩

theorem weights_of {H : Type} {P : Program} {ts : List TypeId} {ds : List (DataW H)} (h : (DataW.weightsEach P ts ds).all (· ≤ reachBytes) = true) {j : Nat} {t : TypeId} {d : DataW H} (ht : ts[j]? = some t) (hd : ds[j]? = some d) :
    ∀ n ∈ d.weights P t, n ≤ reachBytes := fun n hn => by
  have := List.all_eq_true.1 h _ (DataW.weights_mem_each ht hd n hn)
  simpa using this
theorem weightsAll_mem {H : Type} {P : Program} {e : TypeId} {d : DataW H} {n : Nat} : ∀ {l : List (DataW H)}, d ∈ l → n ∈ d.weights P e → n ∈ DataW.weightsAll P e l
  | [], h, _ => by cases h
  | x :: r, h, hn => by
    simp only [DataW.weightsAll, List.mem_append]
    rcases List.mem_cons.1 h with rfl | h
    · exact .inl hn
    · exact .inr (weightsAll_mem h hn)
theorem bs_of_row {w : World} {A : Option Addr} {L C : Nat} {zs : List Int} (hl : L ≤ C) (hm : C ≤ maxLen) (hz : zs.length = C) (hw : ∀ n ∈ zs, (Lit.int .u8 n).wf = true) (h0 : A = none → C = 0)
    (hc : ∀ a', A = some a' → ∀ c, c < C → w.cell? (a'.add c) = some (.int .u8 (zs.getD c 0))) (hs : L ≤ 281474976710656) : ∃ l : List UInt8, l.length = L ∧ BS w A L C l := by
  obtain ⟨l, rfl⟩ := bytes_of_wf hw
  rw [maxLen_eq] at hm
  simp only [List.length_map] at hz
  refine ⟨l.take L, by simp; omega, by simp; omega, hl, hm, hs, fun hL => ?_⟩
  cases A with
  | none => have := h0 rfl; omega
  | some a =>
    have hcell := hc a rfl
    have hc0 := hcell 0 (by omega)
    have hsp : a.spot = none := by
      have : a.add 0 = a := by simp [Addr.add]
      rw [this] at hc0
      unfold World.cell? at hc0
      split at hc0
      · cases hsp : a.spot with
        | none => rfl
        | some x => simp [hsp] at hc0
      · cases hc0
    obtain ⟨b, o, sp⟩ := a
    simp only at hsp
    subst hsp
    refine ⟨b, o, rfl, World.block_lt_of_cell? _ _ hc0, fun i hi => ?_⟩
    have hi' : i < l.length := by simp at hi; omega
    have := hcell i (by simp at hi; omega)
    rw [Addr.add_lit] at this
    rw [this]
    simp [List.getD, hi']

/-- byte slices among the arguments, of the second form's bulk: each of at most so many letters, and at most so many of them -/
theorem open_rows {H : Type} {enc : TypeId × Value → H} {W : World} {base : Nat} {v : Value} {d : DataW H} {ps : List MemPlace}
    (hval : Value.okWide Tryd.prog W .any base 41 v) (h : DataW.Trod enc Tryd.prog W 0 (fun _ => true) true 41 v d ps) (hk : Rows.uptoBulk d ≤ 1048576) :
    ∃ A n c ll, v = .slice A n c ∧ RS W A n c ll ∧ n ≤ 1048576 ∧ ∀ l ∈ ll, l.length ≤ 1048576 := by
  obtain ⟨a0, len, cap, rfl⟩ := okWide_slice Tryd.underlying41 hval
  obtain ⟨fuel, hf⟩ := h
  rcases Deep.open_int_rows Tryd.underlying41 Tryd.underlying23 Tryd.underlying5 (by kernel_rfl) (by kernel_rfl) hf with ⟨hcs, hx⟩ | ⟨a, len', cap', A, L, C, Z, hcs, _, hl, hm, hx, hr⟩
  · simp [Value.cells] at hcs
    obtain ⟨rfl, rfl, rfl⟩ := hcs
    exact ⟨none, 0, 0, [], rfl, ⟨rfl, Nat.le_refl _, by omega, fun h => absurd h (by omega)⟩, by omega, by simp⟩
  · simp [Value.cells] at hcs
    obtain ⟨rfl, rfl, rfl⟩ := hcs
    simp only [Prod.mk.injEq] at hx
    obtain ⟨rfl, rfl⟩ := hx
    rw [maxLen_eq] at hm
    simp only [Rows.uptoBulk] at hk
    have hmany := bulks.many ((List.range len).map fun r => Deep.intRow (H := H) .u8 (A r) (L r) (Z r))
    rw [List.length_map, List.length_range] at hmany
    have hL : ∀ r, r < len → L r ≤ 1048576 := fun r hrl => by
      obtain ⟨_, r1, r2, r3, _, r5, _⟩ := hr r (by omega)
      have h1 := bulks.one_of ((List.range len).map fun r => Deep.intRow (H := H) .u8 (A r) (L r) (Z r)) r (Deep.intRow .u8 (A r) (L r) (Z r)) (by simp [hrl])
      have h3 : Rows.uptoBulk (Deep.intRow (H := H) .u8 (A r) (L r) (Z r)) ≤ 1048576 := by omega
      clear h1
      cases hA : A r with
      | none =>
        have := r5 hA
        omega
      | some a' =>
        rw [hA] at h3
        simp only [Deep.intRow, Rows.uptoBulk] at h3
        have h2 := bulks.many (H := H) (lits .u8 ((Z r).take (L r)))
        simp only [lits, List.length_map, List.length_take, r3] at h2 h3
        omega
    have each : ∀ r, r < len → ∃ l : List UInt8, l.length = L r ∧ BS W (A r) (L r) (C r) l := fun r hrl => by
      obtain ⟨_, r1, r2, r3, r4, r5, r6⟩ := hr r (by omega)
      exact bs_of_row r1 r2 r3 r4 r5 (fun a' ha => (r6 a' ha).2) (by have := hL r hrl; omega)
    obtain ⟨y, hy⟩ := Deep.choose_lt each
    refine ⟨some a, len, cap, (List.range len).map y, rfl, ⟨by simp, hl, hm, fun h0 => ?_⟩, by omega, fun l hlm => ?_⟩
    · have hc0 := (hr 0 (by omega)).1
      have hsp : a.spot = none := by
        have : a.add 0 = a := by simp [Addr.add]
        rw [this] at hc0
        unfold World.cell? at hc0
        split at hc0
        · cases hsp : a.spot with
          | none => rfl
          | some x => simp [hsp] at hc0
        · cases hc0
      obtain ⟨b, o, sp⟩ := a
      simp only at hsp
      subst hsp
      refine ⟨b, o, rfl, World.block_lt_of_cell? _ _ hc0, fun i hi => ?_⟩
      have hi' : i < len := by simpa using hi
      have hci := (hr i (by omega)).1
      rw [Addr.add_lit] at hci
      have h1 := hy i hi'
      refine ⟨A i, C i, ?_, ?_⟩
      · rw [hci]; simp [h1.1]
      · simp only [List.getElem_map, List.getElem_range, h1.1]; exact h1.2
    · obtain ⟨r, hrm, rfl⟩ := List.mem_map.1 hlm
      have hrl := List.mem_range.1 hrm
      rw [(hy r hrl).1]
      exact hL r hrl
/-- byte slices among the arguments, whatever their bulk -/
theorem open_rows1 {H : Type} {enc : TypeId × Value → H} {W : World} {base : Nat} {v : Value} {d : DataW H} {ps : List MemPlace}
    (hval : Value.okWide Tryd.prog W .any base 41 v) (h : DataW.Trod enc Tryd.prog W 0 (fun _ => true) true 41 v d ps) (hw : ∀ n ∈ d.weights Tryd.prog 41, n ≤ reachBytes) :
    ∃ A n c ll, v = .slice A n c ∧ RS W A n c ll ∧ n ≤ 140737488351232 ∧ ∀ l ∈ ll, l.length ≤ 140737488351232 := by
  obtain ⟨a0, len, cap, rfl⟩ := okWide_slice Tryd.underlying41 hval
  obtain ⟨fuel, hf⟩ := h
  have hrb : reachBytes = 140737488351232 := by decide
  rcases Deep.open_int_rows Tryd.underlying41 Tryd.underlying23 Tryd.underlying5 (by kernel_rfl) (by kernel_rfl) hf with ⟨hcs, hx⟩ | ⟨a, len', cap', A, L, C, Z, hcs, _, hl, hm, hx, hr⟩
  · simp [Value.cells] at hcs
    obtain ⟨rfl, rfl, rfl⟩ := hcs
    exact ⟨none, 0, 0, [], rfl, ⟨rfl, Nat.le_refl _, by omega, fun h => absurd h (by omega)⟩, by omega, by simp⟩
  · simp [Value.cells] at hcs
    obtain ⟨rfl, rfl, rfl⟩ := hcs
    simp only [Prod.mk.injEq] at hx
    obtain ⟨rfl, rfl⟩ := hx
    rw [maxLen_eq] at hm
    have b8 : Tryd.prog.bytesOf 5 = 1 := by kernel_rfl
    have b24 : Tryd.prog.bytesOf 23 = 24 := by kernel_rfl
    simp only [DataW.weights, Tryd.underlying41, b24] at hw
    have hlen : len ≤ 140737488351232 := by
      have h1 := hw _ (List.mem_cons_self ..)
      rw [List.length_map, List.length_range, hrb] at h1
      omega
    have hL : ∀ r, r < len → L r ≤ 140737488351232 := fun r hrl => by
      obtain ⟨_, r1, r2, r3, _, r5, _⟩ := hr r (by omega)
      cases hA : A r with
      | none => have := r5 hA; omega
      | some a' =>
        have hmem : ((lits (H := H) .u8 ((Z r).take (L r))).length + (lits (H := H) .u8 ((Z r).drop (L r))).length) * 1 ∈ DataW.weightsAll Tryd.prog 23 ((List.range len).map fun r => Deep.intRow (H := H) .u8 (A r) (L r) (Z r)) := by
          refine weightsAll_mem (d := Deep.intRow (H := H) .u8 (A r) (L r) (Z r)) (List.mem_map.2 ⟨r, List.mem_range.2 hrl, rfl⟩) ?_
          rw [hA]
          simp only [Deep.intRow, DataW.weights, Tryd.underlying23, b8]
          exact List.mem_cons_self ..
        have h1 := hw _ (List.mem_cons_of_mem _ (List.mem_append_left _ hmem))
        simp only [lits, List.length_map, List.length_take, List.length_drop, r3, hrb] at h1
        omega
    have each : ∀ r, r < len → ∃ l : List UInt8, l.length = L r ∧ BS W (A r) (L r) (C r) l := fun r hrl => by
      obtain ⟨_, r1, r2, r3, r4, r5, r6⟩ := hr r (by omega)
      exact bs_of_row r1 r2 r3 r4 r5 (fun a' ha => (r6 a' ha).2) (by have := hL r hrl; omega)
    obtain ⟨y, hy⟩ := Deep.choose_lt each
    refine ⟨some a, len, cap, (List.range len).map y, rfl, ⟨by simp, hl, hm, fun h0 => ?_⟩, hlen, fun l hlm => ?_⟩
    · have hc0 := (hr 0 (by omega)).1
      have hsp : a.spot = none := by
        have : a.add 0 = a := by simp [Addr.add]
        rw [this] at hc0
        unfold World.cell? at hc0
        split at hc0
        · cases hsp : a.spot with
          | none => rfl
          | some x => simp [hsp] at hc0
        · cases hc0
      obtain ⟨b, o, sp⟩ := a
      simp only at hsp
      subst hsp
      refine ⟨b, o, rfl, World.block_lt_of_cell? _ _ hc0, fun i hi => ?_⟩
      have hi' : i < len := by simpa using hi
      have hci := (hr i (by omega)).1
      rw [Addr.add_lit] at hci
      have h1 := hy i hi'
      refine ⟨A i, C i, ?_, ?_⟩
      · rw [hci]; simp [h1.1]
      · simp only [List.getElem_map, List.getElem_range, h1.1]; exact h1.2
    · obtain ⟨r, hrm, rfl⟩ := List.mem_map.1 hlm
      have hrl := List.mem_range.1 hrm
      rw [(hy r hrl).1]
      exact hL r hrl
end Go.Proofs.YtbjnmiaplegkcaaDoor
