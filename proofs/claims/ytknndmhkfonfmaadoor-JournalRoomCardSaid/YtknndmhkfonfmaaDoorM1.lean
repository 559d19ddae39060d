/-
  WORDS FOR BYTES IN MEMORY: a byte slice that reads as a list (BS); a byte slice of the call's own, all of whose room is bytes (OwnB); append, string(b), stores, frames over them. No program is named here.
-/
import Derived.WalkKit
import Derived.Laws.BytesArg
import Derived.Laws.AppendOwn
import Derived.Laws.OwnMore
import Derived.Deep.Draws
import Derived.RegionTactic
import Derived.Lib.Hide
import Derived.Test.YtknndmhkfonfmaaDoorRows
import Derived.ProofKit
import Derived.OpenShut
import Derived.JoinedCond
import Derived.SizedLaws
import Derived.Deep.CondSized
import Derived.ChangeMaps5
import Derived.Laws.IdiomArrays
import Derived.Deep.MidRow
import Derived.Deep.QuietTactic
import Derived.BigQuiet
import Derived.WalkSpells
import Derived.Deep.WholeRow
import Derived.StillTailTactics
import Derived.DeepKeys
import Derived.Deep.Slices
namespace Go.Proofs.YtknndmhkfonfmaaDoor
open Go.RowKit

/-- a byte as a value -/
abbrev bv (x : UInt8) : Value := .int .u8 (x.toNat : Int)

theorem bv_one (x : UInt8) : (bv x).oneCell' = true := rfl
theorem bvs_one (l : List UInt8) : ∀ u ∈ l.map bv, u.oneCell' = true := by
  intro u hu
  obtain ⟨_, _, rfl⟩ := List.mem_map.1 hu
  rfl
theorem bv_inj {x y : UInt8} (h : bv x = bv y) : x = y := by
  injection h with _ h
  exact UInt8.toNat_inj.1 (by omega)

/-- THE SLICE '.slice A n c' READS AS l IN w. -/
structure BS (w : World) (A : Option Addr) (n c : Nat) (l : List UInt8) : Prop where
  len : l.length = n
  cap : n ≤ c
  max : c ≤ 9223372036854775807
  small : n ≤ 281474976710656
  has : 0 < n → ∃ b o, A = some ⟨b, o, none⟩ ∧ b < w.heap.size ∧ ∀ i (h : i < l.length), w.cell? ⟨b, o + i, none⟩ = some (bv l[i])

namespace BS
variable {w w' : World} {A : Option Addr} {n c : Nat} {l : List UInt8}
theorem keep (h : BS w A n c l) (hs : w.heap.size ≤ w'.heap.size) (hk : ∀ p : Addr, p.block < w.heap.size → w'.cell? p = w.cell? p) : BS w' A n c l :=
  ⟨h.len, h.cap, h.max, h.small, fun hn => by
    obtain ⟨b, o, e, hb, hc⟩ := h.has hn
    exact ⟨b, o, e, by omega, fun i hi => (hk ⟨b, o + i, none⟩ hb).trans (hc i hi)⟩⟩
theorem below (h : BS w A n c l) (hb : Below w.heap.size w w') : BS w' A n c l := h.keep hb.size fun _ hp => hb.cell hp
theorem drew (h : BS w A n c l) : BS w.drew A n c l := ⟨h.len, h.cap, h.max, h.small, h.has⟩
theorem drewN (h : BS w A n c l) (k : Nat) : BS (w.drewN k) A n c l := ⟨h.len, h.cap, h.max, h.small, h.has⟩
theorem alloc (h : BS w A n c l) (o : Obj) : BS (w.alloc o) A n c l := h.below ((Below.refl _ _).alloc (Nat.le_refl _) o)
theorem nil_ (w : World) : BS w none 0 0 [] := ⟨rfl, by omega, by omega, by omega, fun h => absurd h (by omega)⟩
end BS

/-- what stands from 'at_' on, k bytes, with room up to c' -/
theorem BS.cut {w : World} {A : Option Addr} {n c : Nat} {l : List UInt8} (h : BS w A n c l) {at_ k c' : Nat} (hk : at_ + k ≤ n) (hc : k ≤ c') (hm : c' ≤ 9223372036854775807) (h0 : 0 < k) : BS w (A.map fun x => x.add at_) k c' ((l.drop at_).take k) :=
  ⟨by have := h.len; simp; omega, hc, hm, by have := h.small; omega, fun _ => by
    obtain ⟨b, o, rfl, hb, hcell⟩ := h.has (by omega)
    refine ⟨b, o + at_, by simp [Addr.add_lit], hb, fun i hi => ?_⟩
    have hi' : at_ + i < l.length := by have := h.len; simp at hi; omega
    rw [Nat.add_assoc, hcell (at_ + i) hi']
    simp⟩
/-- its first k bytes, with the same room -/
theorem BS.take {w : World} {A : Option Addr} {n c : Nat} {l : List UInt8} (h : BS w A n c l) {k : Nat} (hk : k ≤ n) : BS w A k c (l.take k) :=
  ⟨by have := h.len; simp; omega, by have := h.cap; omega, h.max, by have := h.small; omega, fun h0 => by
    obtain ⟨b, o, rfl, hb, hcell⟩ := h.has (by omega)
    refine ⟨b, o, rfl, hb, fun i hi => ?_⟩
    have hi' : i < l.length := by simp at hi; omega
    rw [hcell i hi']
    simp⟩
theorem BS.empty {w : World} {A : Option Addr} {c : Nat} (hm : c ≤ 9223372036854775807) : BS w A 0 c [] := ⟨rfl, by omega, hm, by omega, fun h => absurd h (by omega)⟩

/-- A byte slice below block B, known at a former world. -/
theorem BS.below_of {w w' : World} {A : Option Addr} {n c B : Nat} {l : List UInt8} (h : BS w A n c l) (hB : w.heap.size ≤ B) (hb : Below B w w') : BS w' A n c l := h.below (hb.mono hB)

/-- A BYTE SLICE OF THE CALL's OWN (from block base on), all of whose room holds bytes. e: the number of the type uint8. -/
def OwnB (e : TypeId) (w : World) (base : Nat) (v : Value) (l : List UInt8) : Prop :=
  (v = .slice none 0 0 ∧ l = []) ∨
  ∃ (g : Nat) (r : List UInt8), v = .slice (some ⟨g, 0, none⟩) l.length (l.length + r.length) ∧ base ≤ g ∧ w.heap[g]? = some (.cells ((l ++ r).map bv).toArray e (0, 0)) ∧ l.length + r.length ≤ 9223372036854775807 ∧ l.length ≤ 281474976710656

theorem maxLen_eq : maxLen = 9223372036854775807 := by unfold maxLen; decide

namespace OwnB
variable {e : TypeId} {w w' : World} {base : Nat} {v : Value} {l : List UInt8}
theorem nil_ (e : TypeId) (w : World) (base : Nat) : OwnB e w base (.slice none 0 0) [] := .inl ⟨rfl, rfl⟩
theorem mono {base' : Nat} (h : OwnB e w base v l) (hb : base' ≤ base) : OwnB e w base' v l :=
  h.imp id fun ⟨g, r, a, b, c⟩ => ⟨g, r, a, Nat.le_trans hb b, c⟩
theorem drew (h : OwnB e w base v l) : OwnB e w.drew base v l := h
theorem drewN (h : OwnB e w base v l) (k : Nat) : OwnB e (w.drewN k) base v l := h
theorem lt (h : OwnB e w base v l) : ∀ k, v.ownBlock = some k → base ≤ k ∧ k < w.heap.size := by
  intro k hk
  rcases h with ⟨rfl, _⟩ | ⟨g, r, rfl, hb, hg, _⟩
  · simp [Value.ownBlock] at hk
  · simp [Value.ownBlock] at hk
    subst hk
    exact ⟨hb, (Array.getElem?_eq_some_iff.1 hg).1⟩
theorem kept {row : Option Nat} (h : OwnB e w base v l) (hg : w.grownBy w' row) (hne : v.ownBlock = none ∨ v.ownBlock ≠ row) : OwnB e w' base v l := by
  rcases h with hn | ⟨g, r, rfl, hb, hgg, rest⟩
  · exact .inl hn
  · refine .inr ⟨g, r, rfl, hb, ?_, rest⟩
    rw [hg.block g (Array.getElem?_eq_some_iff.1 hgg).1 (by simpa [Value.ownBlock] using hne)]
    exact hgg
theorem alloc (h : OwnB e w base v l) (o : Obj) : OwnB e (w.alloc o) base v l :=
  h.kept (World.grownBy_alloc w o none) (by cases hv : v.ownBlock <;> simp)
theorem below {B : Nat} (h : OwnB e w base v l) (hb : Below B w w') (hB : w.heap.size ≤ B) : OwnB e w' base v l := by
  rcases h with hn | ⟨g, r, rfl, hbb, hgg, rest⟩
  · exact .inl hn
  · refine .inr ⟨g, r, rfl, hbb, ?_, rest⟩
    have := (Array.getElem?_eq_some_iff.1 hgg).1
    rw [hb.block g (by omega)]
    exact hgg
theorem row (h : OwnB e w base v l) : w.ownsRow base e 1 v l.length (l.map bv) := by
  rcases h with ⟨rfl, rfl⟩ | ⟨g, r, rfl, hb, hg, hm⟩
  · exact World.ownsRow_nil _ _ _ _
  · refine ⟨by simp, .inr ⟨g, _, _, rfl, hb, hg, by omega, by rw [maxLen_eq]; exact hm.1, by simp, ?_⟩⟩
    simp [List.take_left']
/-- what the value looks like -/
theorem form (h : OwnB e w base v l) : ∃ A c, v = .slice A l.length c ∧ BS w A l.length c l := by
  rcases h with ⟨rfl, rfl⟩ | ⟨g, r, rfl, hb, hg, hm⟩
  · exact ⟨none, 0, rfl, BS.nil_ w⟩
  · refine ⟨_, _, rfl, rfl, by omega, hm.1, hm.2, fun _ => ⟨g, 0, rfl, (Array.getElem?_eq_some_iff.1 hg).1, fun i hi => ?_⟩⟩
    rw [Nat.zero_add, cell_of_row w g i _ e (0, 0) hg]
    simp only [List.getElem?_toArray, List.getElem?_map]
    rw [List.getElem?_append_left hi, List.getElem?_eq_getElem hi]
    rfl
theorem bs {A : Option Addr} {n c : Nat} (h : OwnB e w base (.slice A n c) l) : BS w A n c l := by
  obtain ⟨A', c', he, hb⟩ := h.form
  injection he with h1 h2 h3
  subst h1 h2 h3
  exact hb
end OwnB

/-- A BLOCK OF BYTES, KNOWN WHOLE. -/
def RowB (e : TypeId) (w : World) (g : Nat) (l : List UInt8) : Prop := w.heap[g]? = some (.cells ((l.map bv).toArray) e (0, 0))
namespace RowB
variable {e : TypeId} {w w' : World} {g : Nat} {l : List UInt8}
theorem lt (h : RowB e w g l) : g < w.heap.size := (Array.getElem?_eq_some_iff.1 h).1
theorem cell (h : RowB e w g l) {i : Nat} (hi : i < l.length) : w.cell? ⟨g, i, none⟩ = some (bv l[i]) := by
  rw [cell_of_row w g i _ e (0, 0) h]
  simp [hi]
theorem frozen (h : RowB e w g l) (i : Nat) : w.frozen? ⟨g, i, none⟩ = false := by
  unfold RowB at h
  simp [World.frozen?, h]
theorem drew (h : RowB e w g l) : RowB e w.drew g l := h
theorem drewN (h : RowB e w g l) (n : Nat) : RowB e (w.drewN n) g l := h
theorem alloc (h : RowB e w g l) (o : Obj) : RowB e (w.alloc o) g l := (Below.heap_alloc w o g h.lt).trans h
theorem set_ (h : RowB e w g l) (i : Nat) (x : UInt8) : RowB e (w.setCell ⟨g, i, none⟩ (bv x)) g (l.set i x) := by
  unfold RowB at h ⊢
  simp [World.setCell, Array.getElem?_modify, h, List.map_set]
theorem far (h : RowB e w g l) {p : Addr} (hp : g ≠ p.block) (u : Value) : RowB e (w.setCell p u) g l := (Below.heap_setCell w p u g hp).trans h
theorem below {B : Nat} (h : RowB e w g l) (hb : Below B w w') (hg : g < B) : RowB e w' g l := (hb.block g hg).trans h
theorem own {base : Nat} {k : Nat} {r : List UInt8} (h : RowB e w g (l ++ r)) (hb : base ≤ g) (hk : l.length + r.length ≤ 281474976710656) (hl : k = l.length + r.length) : OwnB e w base (.slice (some ⟨g, 0, none⟩) l.length k) l :=
  .inr ⟨g, r, by rw [hl], hb, h, by omega, by omega⟩
theorem own_all {base : Nat} (h : RowB e w g l) (hb : base ≤ g) (hk : l.length ≤ 281474976710656) : OwnB e w base (.slice (some ⟨g, 0, none⟩) l.length l.length) l :=
  .inr ⟨g, [], by simp, hb, by rw [List.append_nil]; exact h, by simp; omega, hk⟩
end RowB

/-- k zero bytes -/
def zeroB (k : Nat) : Array Value := ((List.replicate k (0 : UInt8)).map bv).toArray
theorem zeroB_row (w : World) (e : TypeId) (k : Nat) : RowB e (w.alloc (.cells (zeroB k) e)) w.heap.size (List.replicate k 0) := heap_alloc_new w _
theorem run_make_bytes {P : Program} (t e : TypeId) (i : TypeInfo) (ht : P.underlying t = some (.slice e)) (hi : P.info? e = some i) (hz : i.zero = some (.int .u8 0)) (hs : i.size = 1) (hb : i.bytes = 1)
    (kl kc : IntKind) (k : Nat) (hk : k ≤ 281474976710656) (w : World) :
    (Instr.makeSlice t (.int kl (k : Int)) (.int kc (k : Int))).run P w = .ok (.slice (some ⟨w.heap.size, 0, none⟩) k k) (w.alloc (.cells (zeroB k) e)) := by
  have hr := run_make (P := P) w t e i _ ht hi hz kl kc (k : Int) (k : Int) (by omega) (by omega) (by rw [hb]; omega) (by omega)
  have hzz : madeCells (Value.int .u8 0).cells (k * i.size) = zeroB k := by
    rw [hs, Nat.mul_one]
    apply Array.ext_getElem?
    intro j
    by_cases hj : j < k
    · simp [madeCells, zeroB, Value.cells, hj, Nat.mod_one]
    · simp [madeCells, zeroB, Value.cells, hj]
  rw [hr, Int.toNat_natCast, hzz]

section append
variable {P : Program} (w : World)

theorem grown_own (e : TypeId) (base : Nat) (l l2 : List UInt8) (old : Nat) (h63 : l.length + l2.length ≤ 140737488355328) (hbase : base ≤ w.heap.size) (row : Option Nat) :
    OwnB e (w.drew.alloc (.cells ((l.map bv).toArray ++ (l2.map bv).toArray ++ Builtin.zeroCells (Value.int .u8 0).cells (grownCap w (l.length + l2.length) old e - (l.length + l2.length))) e)) base
        (.slice (some ⟨w.heap.size, 0, none⟩) (l.length + l2.length) (grownCap w (l.length + l2.length) old e)) (l ++ l2) ∧
      w.grownBy (w.drew.alloc (.cells ((l.map bv).toArray ++ (l2.map bv).toArray ++ Builtin.zeroCells (Value.int .u8 0).cells (grownCap w (l.length + l2.length) old e - (l.length + l2.length))) e)) row := by
  have hge := grownCap_ge w (l.length + l2.length) old e
  have hcm : grownCap w (l.length + l2.length) old e ≤ maxLen := grownCap_le_maxLen w (l.length + l2.length) old e (by rw [maxLen_eq]; omega)
  rw [maxLen_eq] at hcm
  refine ⟨.inr ⟨w.heap.size, List.replicate (grownCap w (l.length + l2.length) old e - (l.length + l2.length)) 0, ?_, hbase, ?_, ?_, by rw [List.length_append]; omega⟩, ⟨rfl, rfl, rfl, by simp, fun k hk _ => Below.heap_alloc w.drew _ k hk⟩⟩
  · simp only [List.length_append, List.length_replicate]
    congr 1
    omega
  · have hz : Builtin.zeroCells (Value.int .u8 0).cells (grownCap w (l.length + l2.length) old e - (l.length + l2.length)) = ((List.replicate (grownCap w (l.length + l2.length) old e - (l.length + l2.length)) (0 : UInt8)).map bv).toArray := by
      apply Array.ext_getElem?
      intro i
      by_cases hi : i < grownCap w (l.length + l2.length) old e - (l.length + l2.length)
      · simp [Builtin.zeroCells, Value.cells, hi, Nat.mod_one]
      · simp [Builtin.zeroCells, Value.cells, hi]
    rw [hz]
    refine (heap_alloc_new w.drew _).trans ?_
    simp
  · simp only [List.length_append, List.length_replicate]
    omega

theorem run_append_bytes (t ty e : TypeId) (i : TypeInfo) (ht : P.underlying t = some (.slice e)) (hi : P.info? e = some i) (hz : i.zero = some (.int .u8 0)) (hs : i.size = 1) (hby : i.bytes = 1)
    (base : Nat) (v : Value) (l : List UInt8) (hown : OwnB e w base v l) (A : Option Addr) (m c : Nat) (l2 : List UInt8) (hx : BS w A m c l2)
    (hroom : l.length + m ≤ 140737488355328) (hbase : base ≤ w.heap.size) :
    ∃ v' w', (Builtin.append_ #[t, t] ty #[v, .slice A m c]).run P w = .ok v' w' ∧ OwnB e w' base v' (l ++ l2) ∧ w.grownBy w' v.ownBlock ∧ (v'.ownBlock = v.ownBlock ∨ v'.ownBlock = some w.heap.size) ∧ (v' = .slice none 0 0 ↔ v = .slice none 0 0 ∧ m = 0) := by
  obtain rfl := hx.len
  rcases Nat.eq_zero_or_pos l2.length with h0 | h0
  · -- nothing is appended
    have hn : l2 = [] := List.eq_nil_of_length_eq_zero h0
    subst hn
    rw [List.append_nil]
    refine ⟨v, w, ?_, hown, ⟨rfl, rfl, rfl, Nat.le_refl _, fun _ _ _ => rfl⟩, .inl rfl, by simp⟩
    rcases A with _ | ad
    · rcases hown with ⟨rfl, rfl⟩ | ⟨g, r, rfl, hb, hg, hm⟩
      · simp [Builtin.append_, run_underlying ht, sizeOf, typeInfo, hi, Builtin.lenOf, Builtin.firstCells]
      · simp [Builtin.append_, run_underlying ht, sizeOf, typeInfo, hi, Builtin.lenOf, Builtin.firstCells, storeCells]
    · rcases hown with ⟨rfl, rfl⟩ | ⟨g, r, rfl, hb, hg, hm⟩
      · simp [Builtin.append_, run_underlying ht, sizeOf, typeInfo, hi, Builtin.lenOf, Builtin.firstCells, loadCells, loadCellsFrom]
      · simp [Builtin.append_, run_underlying ht, sizeOf, typeInfo, hi, Builtin.lenOf, Builtin.firstCells, storeCells, loadCells, loadCellsFrom]
  · obtain ⟨b, o, rfl, hb, hcell⟩ := hx.has h0
    have hnews : ∀ j u, (l2.map bv)[j]? = some u → w.cell? ((⟨b, o, none⟩ : Addr).add j) = some u := by
      intro j u hu
      rw [List.getElem?_map] at hu
      obtain ⟨y, hy, rfl⟩ := Option.map_eq_some_iff.1 hu
      obtain ⟨hj, rfl⟩ := List.getElem?_eq_some_iff.1 hy
      rw [Addr.add_lit]
      exact hcell j hj
    have hl : (l2.map bv).length = l2.length * i.size := by rw [hs]; simp
    have h1 := bvs_one l2
    rcases hown with ⟨rfl, rfl⟩ | ⟨g, r, rfl, hbg, hg, hm⟩
    · simp only [List.length_nil, Nat.zero_add] at hroom
      have hr := run_append_nil (P := P) w t ty e i _ ht hi hz ⟨b, o, none⟩ l2.length c (l2.map bv) hl hnews (by omega) (by omega) (by rw [hby]; omega)
      have hgr := grown_own w e base [] l2 0 (by simpa using hroom) hbase (Value.ownBlock (.slice none 0 0))
      simp only [List.length_nil, List.map_nil, Nat.zero_add, List.nil_append, Array.empty_append] at hgr ⊢
      exact ⟨_, _, hr, hgr.1, hgr.2, .inr rfl, ⟨fun h => (by cases h), fun h => absurd h.2 (by omega)⟩⟩
    · by_cases hroom' : l.length + l2.length ≤ l.length + r.length
      · have hfit : l.length * i.size + (l2.map bv).length ≤ ((l ++ r).map bv).toArray.size := by rw [hs]; simp; omega
        have hr := run_append_room (P := P) w t ty e i ht hi g l.length (l.length + r.length) _ hg ⟨b, o, none⟩ l2.length c (l2.map bv) hl hnews h1 hroom' hfit
        refine ⟨_, _, hr, .inr ⟨g, r.drop l2.length, ?_, hbg, ?_, ?_, by rw [List.length_append]; omega⟩, ⟨rfl, rfl, rfl, by simp, fun k _ hk => setRow_other w g k _ (fun e => hk (by simp [Value.ownBlock, e]))⟩, .inl rfl, by simp⟩
        · simp only [List.length_append, List.length_drop]
          congr 1
          omega
        · rw [setRow_heap w g _ _ e _ hg, hs]
          congr 2
          simp [List.map_drop, List.drop_append, List.take_left']
        · simp only [List.length_append, List.length_drop]
          omega
      · have holds : ∀ j u, (l.map bv)[j]? = some u → w.cell? ((⟨g, 0, none⟩ : Addr).add j) = some u := by
          intro j u hu
          rw [List.getElem?_map] at hu
          obtain ⟨y, hy, rfl⟩ := Option.map_eq_some_iff.1 hu
          obtain ⟨hj, rfl⟩ := List.getElem?_eq_some_iff.1 hy
          rw [Addr.add_lit, Nat.zero_add, cell_of_row w g j _ e (0, 0) hg]
          simp only [List.getElem?_toArray, List.getElem?_map]
          rw [List.getElem?_append_left hj, List.getElem?_eq_getElem hj]
          rfl
        have hr := run_append_grow (P := P) w t ty e i _ ht hi hz ⟨g, 0, none⟩ l.length (l.length + r.length) (l.map bv) (by rw [hs]; simp) holds ⟨b, o, none⟩ l2.length c (l2.map bv) hl hnews (by omega) (by omega) (growslice_fits (by omega) (by rw [hby]; omega))
        have hgr := grown_own w e base l l2 (l.length + r.length) hroom hbase (Value.ownBlock (.slice (some ⟨g, 0, none⟩) l.length (l.length + r.length)))
        exact ⟨_, _, hr, hgr.1, hgr.2, .inr rfl, by simp⟩
theorem wpList_append_bytes {ops : Array Oper} {rest : List Oper} {o : Oper} {a : Act} {Q : Exit → Act → World → Prop} (hgd : o.guard = none) (s x : Operand) (t : TypeId)
    (ho : o.op = .call { callee := .builtin .append, args := #[s, x], argTypes := #[t, t] })
    (e : TypeId) (i : TypeInfo) (ht : P.underlying t = some (.slice e)) (hi : P.info? e = some i) (hz : i.zero = some (.int .u8 0)) (hsz : i.size = 1) (hby : i.bytes = 1)
    (base : Nat) (v : Value) (l : List UInt8) (hs : a.eval s = v) (hown : OwnB e w base v l) (A : Option Addr) (m c : Nat) (l2 : List UInt8) (hx : a.eval x = .slice A m c) (hb : BS w A m c l2)
    (hroom : l.length + m ≤ 140737488355328) (hbase : base ≤ w.heap.size)
    (h : ∀ v' w', OwnB e w' base v' (l ++ l2) → w.grownBy w' v.ownBlock → (v'.ownBlock = v.ownBlock ∨ v'.ownBlock = some w.heap.size) → (v' = .slice none 0 0 ↔ v = .slice none 0 0 ∧ m = 0) → wpList P ops Q rest (a.put o.dst v') w') : wpList P ops Q (o :: rest) a w := by
  refine wpList_plain hgd fun K hK => ?_
  obtain ⟨v', w', hr, h2, h3, h4, h5⟩ := run_append_bytes (P := P) w t o.type e i ht hi hz hsz hby base v l hown A m c l2 hb hroom hbase
  unfold Oper.wp execOp
  simp only [ho, resolve, invoke, builtin, Sem.run_bind, Sem.run_pure, Result.andThen_ok, List.map_toArray, List.map_cons, List.map_nil, hs, hx, hr]
  exact hK _ _ (h v' w' h2 h3 h4 h5)
end append

/-- q | y << m, where q has m bits at the most -/
theorem or_shl {q m y : Nat} (hq : q < 2 ^ m) (hy : (q : Nat) + y * 2 ^ m < 18446744073709551616) : bits .or .u64 (q : Int) (IntKind.u64.wrap ((y : Int) * 2 ^ m)) = ((q + y * 2 ^ m : Nat) : Int) := by
  have e : ((y : Int) * 2 ^ m) = ((y * 2 ^ m : Nat) : Int) := by simp
  have hw : IntKind.u64.wrap ((y * 2 ^ m : Nat) : Int) = ((y * 2 ^ m : Nat) : Int) := IntWalk.u64_in _ ⟨by omega, by omega⟩
  rw [e, hw, u64_or_nat _ _ (by omega) (by omega), Nat.or_comm, nat_join m _ _ (Nat.mul_mod_left _ _) hq, Nat.add_comm]

theorem u64_nat (x : Nat) : IntKind.u64.wrap (x : Int) = ((x % 18446744073709551616 : Nat) : Int) := by
  simp [IntKind.wrap, IntKind.bits, IntKind.signed]
theorem u64_mul (x y : Nat) : IntKind.u64.wrap ((x : Int) * (y : Int)) = ((x * y % 18446744073709551616 : Nat) : Int) := by
  rw [← u64_nat, Int.natCast_mul]
theorem u64_add (x y : Nat) : IntKind.u64.wrap ((x : Int) + (y : Int)) = (((x + y) % 18446744073709551616 : Nat) : Int) := by
  rw [← u64_nat, Int.natCast_add]

theorem xor_bv (x y : UInt8) : Value.int .u8 (bits BinOp.xor IntKind.u8 (y.toNat : Int) (x.toNat : Int)) = bv (y ^^^ x) := by
  rw [u8_xor_nat _ _ y.toNat_lt x.toNat_lt]
  simp [bv]
theorem grown_setCell {w wr : World} {g : Nat} (h : w.grownBy wr (some g)) (i : Nat) (u : Value) : w.grownBy (wr.setCell ⟨g, i, none⟩ u) (some g) :=
  ⟨h.os, h.tape, h.output, by simpa [World.setCell] using h.size, fun k hk hne => (Below.heap_setCell wr ⟨g, i, none⟩ u k (fun e => hne (by rw [e]))).trans (h.block k hk hne)⟩

/-- a slice's length: for a loop's measure -/
def lenV : Value → Nat | .slice _ n _ => n | _ => 0

/-- one byte in a new block -/
theorem BS.one (w : World) (e : TypeId) (x : UInt8) : BS (w.alloc (.cells #[bv x] e)) (some ⟨w.heap.size, 0, none⟩) 1 1 [x] :=
  ⟨rfl, Nat.le_refl _, by omega, by omega, fun _ => ⟨_, _, rfl, by simp, fun i hi => by
    obtain rfl : i = 0 := by simp at hi; omega
    exact cell_of_row _ _ 0 #[bv x] e (0, 0) (heap_alloc_new w _)⟩⟩

theorem BS.one' (w : World) (e : TypeId) (x : UInt8) {y : Int} (h : y = x.toNat) : BS (w.alloc (.cells #[.int .u8 y] e)) (some ⟨w.heap.size, 0, none⟩) 1 1 [x] := by
  subst h
  exact BS.one w e x
theorem OwnB.step {e : TypeId} {w0 w w' : World} {base : Nat} {v : Value} {l : List UInt8} (hb : Below base w0 w) (ho : OwnB e w base v l) (hg : w.grownBy w' v.ownBlock) (hB : base ≤ w.heap.size) : Below base w0 w' :=
  hb.grown hg hB fun k hk => (ho.lt k hk).1

/-- a byte slice as a string -/
theorem run_convert_bs {P : Program} {w : World} {A : Option Addr} {n c : Nat} {l : List UInt8} (h : BS w A n c l) (src e dst : TypeId) (hs : P.underlying src = some (.slice e)) (he : P.underlying e = some (.int .u8)) (hd : P.underlying dst = some .string) :
    (convert src dst (.slice A n c)).run P w = .ok (.string ⟨l.toArray⟩) w := by
  obtain rfl := h.len
  rcases Nat.eq_zero_or_pos l.length with h0 | h0
  · have hn : l = [] := List.eq_nil_of_length_eq_zero h0
    subst hn
    rcases A with _ | ad
    · rw [run_convert_bytes_nil w src e hs he _ _ dst hd]
      rfl
    · rw [run_convert_bytes_string w src dst e _ _ c hs he hd, List.length_nil, run_bytesToString w _ 0 c [] (by simp [loadCells, loadCellsFrom, Sem.run_pure])]
      rfl
  · obtain ⟨b, o, rfl, _, hc⟩ := h.has h0
    rw [run_convert_bytes_arg w src e hs he b o l.length c (l.map fun x => (x.toNat : Int)) (by simp) (fun i hi => by rw [hc i hi]; simp [List.getD, hi]) dst hd]
    congr 1
    simp only [strOfNums, List.map_map]
    congr 2
    conv => rhs; rw [← List.map_id l]
    apply congrArg
    apply List.map_congr_left
    intro x _
    simp

end Go.Proofs.YtknndmhkfonfmaaDoor

/-
  FROM A WALK TO THE STATEMENT: what every law's last step needs: arguments opened (numbers, bools, strings, byte slices), arguments that read behind the call as before.
-/
namespace Go.Proofs.YtknndmhkfonfmaaDoor
open Go.ChangeShapes Go.WideShapes Go.ChangeAt Go.RowKit

theorem own_none : ownKnob Tryd.prog.godebug = none := by kernel_rfl
theorem laid_out : laidOutB Tryd.prog = true := by kernel_rfl

set_option maxRecDepth 100000 in
theorem trodAll_stays {H : Type} {enc : TypeId × Value → H} {P : Program} (hl : laidOutB P = true) {W W' : World} {sp : Nat → Bool} (hb : Below W.heap.size W W') :
    ∀ {ts : List TypeId} {vs : List Value} {ds : List (DataW H)} {ps : List MemPlace}, (∀ t ∈ ts, P.readableRec t = true ∧ t < P.types.size) →
      DataW.TrodAll enc P W 0 (fun _ => true) true ts vs ds ps → (∀ x ∈ ps, x.block < W.heap.size) → (∀ x ∈ ps, sp x.block = true) → DataW.TrodAll enc P W' 0 sp true ts vs ds ps
  | [], vs, ds, ps, _, h, _, _ => by
    obtain ⟨rfl, rfl, rfl⟩ := trodAll_nil h
    exact trodAll_mk0
  | t :: ts, vs, ds, ps, hts, h, hlt, hsp => by
    obtain ⟨v, vs', d, ds', p, q, rfl, rfl, rfl, h0, hr⟩ := trodAll_cons h
    have h1 := hts t (List.mem_cons_self ..)
    exact trodAll_cons_mk (WideElems.Trod_stays hl h1.1 h1.2 h0 (fun x hx => hb.same (hlt x (List.mem_append_left _ hx))) (fun x hx => hsp x (List.mem_append_left _ hx)))
      (trodAll_stays hl hb (fun t' ht' => hts t' (List.mem_cons_of_mem _ ht')) hr (fun x hx => hlt x (List.mem_append_right _ hx)) (fun x hx => hsp x (List.mem_append_right _ hx)))

set_option maxRecDepth 100000 in
/-- what a law that answers true leaves -/
theorem law_post {H : Type} {enc : TypeId × Value → H} {f : Func} {s : ChangeSpec} {W W' : World} {args : Array Value} {ds gs : List (DataW H)} {before : List MemPlace}
    (hres : f.resultTypes = #[4]) (hfn : s.fn H (ds ++ gs) = { results := [.lit (.bool true)], args := ds }) (hv : s.vars = [])
    (hts : ∀ t ∈ f.params.toList, Tryd.prog.readableRec t = true ∧ t < Tryd.prog.types.size)
    (hW : DataW.Whole enc Tryd.prog f.params.toList s.vars false W args.toList ds gs before) (hb : Below W.heap.size W W') :
    s.post enc Tryd.prog f false true false false W args (.bool true) W' := by
  have hlt : ∀ x ∈ before, x.block < W.heap.size := fun x hx => hW.lt x hx
  have hW' := hW
  obtain ⟨p, q, hA, hV, rfl, _, _⟩ := hW
  rw [hv] at hV
  obtain ⟨rfl, rfl⟩ := trodVars_none hV
  rw [List.append_nil] at hlt hW'
  refine ⟨ds, [], p, [], p, [], hW', ?_, ?_, ?_, hb.frame _, fun h => by cases h⟩
  · rw [hfn, hres]
    exact trodAll_cons_mk (shut_bool Tryd.underlying4 _) trodAll_mk0
  · rw [hfn]
    exact trodAll_stays laid_out hb hts hA hlt (fun x hx => by simpa using hlt x hx)
  · rw [hv, hfn]
    exact rfl

set_option maxRecDepth 100000 in
theorem string_small {H : Type} {ts : List TypeId} {ds : List (DataW H)} (h : (DataW.weightsEach Tryd.prog ts ds).all (· ≤ reachBytes) = true) {j : Nat} {l : List UInt8}
    (ht : ts[j]? = some 9) (hd : ds[j]? = some (.lit (.string l))) : l.length ≤ 140737488351232 := by
  have h1 := sized_string h ht hd
  have h3 : reachBytes = 140737488351232 := by decide
  omega

set_option maxRecDepth 100000 in
theorem bytes_of_wf {zs : List Int} (h : ∀ n ∈ zs, (Lit.int .u8 n).wf = true) : ∃ l : List UInt8, zs = l.map fun x => (x.toNat : Int) := by
  refine ⟨zs.map fun n => UInt8.ofNat n.toNat, ?_⟩
  rw [List.map_map]
  conv => lhs; rw [← List.map_id zs]
  apply List.map_congr_left
  intro n hn
  have hw := h n hn
  have hx : 0 ≤ n ∧ n ≤ 255 := by simpa [Lit.wf, IntKind.min, IntKind.max, IntKind.signed, IntKind.bits] using hw
  simp
  omega
set_option maxRecDepth 100000 in
/-- a byte slice among the arguments: k letters in all, with its room -/
theorem open_bytes {H : Type} {enc : TypeId × Value → H} {W : World} {base : Nat} {v : Value} {d : DataW H} {ps : List MemPlace}
    (hval : Value.okWide Tryd.prog W .any base 23 v) (h : DataW.Trod enc Tryd.prog W 0 (fun _ => true) true 23 v d ps) :
    ∃ A n c l, v = .slice A n c ∧ (n ≤ 281474976710656 → BS W A n c l) ∧ (A = none ∧ n = 0 ∨ ∃ elems spare, d = .slice elems spare ∧ elems.length = n) := by
  obtain ⟨a0, len, cap, rfl⟩ := okWide_slice Tryd.underlying23 hval
  obtain ⟨fuel, hf⟩ := h
  rcases open_ints Tryd.underlying23 Tryd.underlying5 (by kernel_rfl) hf with ⟨hcs, hx⟩ | ⟨a, len', cap', zs, hcs, _, hl, hm, hz, hx, hcell, hwz⟩
  · simp [Value.cells] at hcs
    obtain ⟨rfl, rfl, rfl⟩ := hcs
    exact ⟨none, 0, 0, [], rfl, fun _ => BS.nil_ W, .inl ⟨rfl, rfl⟩⟩
  · simp [Value.cells] at hcs
    obtain ⟨rfl, rfl, rfl⟩ := hcs
    simp only [Prod.mk.injEq] at hx
    obtain ⟨rfl, rfl⟩ := hx
    simp only [if_true] at hz
    obtain ⟨l, rfl⟩ := bytes_of_wf hwz
    simp only [List.length_map] at hz hcell
    rw [maxLen_eq] at hm
    refine ⟨some a, len, cap, l.take len, rfl, fun hs => ⟨by simp; omega, hl, hm, hs, fun h0 => ?_⟩, .inr ⟨_, _, rfl, by simp [lits]; omega⟩⟩
    have hc0 := hcell 0 (by omega)
    have hsp : a.spot = none := by
      have : a.add 0 = a := by simp [Addr.add]
      rw [this] at hc0
      unfold World.cell? at hc0
      split at hc0
      · cases hsp : a.spot with
        | none => rfl
        | some x => simp [hsp] at hc0
      · cases hc0
    obtain ⟨b, o, sp⟩ := a
    simp only at hsp
    subst hsp
    refine ⟨b, o, rfl, World.block_lt_of_cell? _ _ hc0, fun i hi => ?_⟩
    have hi' : i < l.length := by simp at hi; omega
    have := hcell i (by omega)
    rw [Addr.add_lit] at this
    rw [this]
    simp [List.getD, hi']
set_option maxRecDepth 100000 in
theorem bytes_small {H : Type} {ts : List TypeId} {ds : List (DataW H)} (h : (DataW.weightsEach Tryd.prog ts ds).all (· ≤ reachBytes) = true) {j : Nat} {A : Option Addr} {n : Nat} {d : DataW H}
    (ht : ts[j]? = some 23) (hd : ds[j]? = some d) (hs : A = none ∧ n = 0 ∨ ∃ elems spare, d = .slice elems spare ∧ elems.length = n) : n ≤ 140737488351232 := by
  rcases hs with ⟨_, rfl⟩ | ⟨elems, spare, rfl, rfl⟩
  · omega
  · have h1 := sized_slice h ht hd Tryd.underlying23
    have h2 : Tryd.prog.bytesOf 5 = 1 := by kernel_rfl
    have h3 : reachBytes = 140737488351232 := by decide
    rw [h2, h3] at h1
    omega


end Go.Proofs.YtknndmhkfonfmaaDoor

/-
  FOOTPRINTS: which blocks a call may have changed; what is known of other blocks stays. No program is named here.
-/
namespace Go.Proofs.YtknndmhkfonfmaaDoor
open Go.RowKit

/-- blocks of F alone, and new ones, may have changed -/
structure Chg (w w' : World) (F : List Nat) : Prop where
  os : w'.os = w.os
  tape : w'.tape = w.tape
  output : w'.output = w.output
  size : w.heap.size ≤ w'.heap.size
  block : ∀ k, k < w.heap.size → k ∉ F → w'.heap[k]? = w.heap[k]?
/-- F' has blocks of F and new ones alone -/
def Sub (w : World) (F' F : List Nat) : Prop := ∀ k ∈ F', k ∈ F ∨ w.heap.size ≤ k
def Apt (F G : List Nat) : Prop := ∀ k ∈ F, k ∉ G
/-- all of F is there -/
def Ther (w : World) (F : List Nat) : Prop := ∀ k ∈ F, k < w.heap.size
/-- w' has what w has in the blocks of F -/
def Same (w w' : World) (F : List Nat) : Prop := ∀ k ∈ F, w'.heap[k]? = w.heap[k]?

theorem Sub.refl (w : World) (F : List Nat) : Sub w F F := fun _ h => .inl h
theorem Sub.trans {w w1 : World} {F F1 F2 : List Nat} (h : Sub w1 F2 F1) (h1 : Sub w F1 F) (hs : w.heap.size ≤ w1.heap.size) : Sub w F2 F := fun k hk => by
  rcases h k hk with h2 | h2
  · exact h1 k h2
  · exact .inr (Nat.le_trans hs h2)
theorem Sub.app {w : World} {F F' G G' : List Nat} (h : Sub w F' F) (h' : Sub w G' G) : Sub w (F' ++ G') (F ++ G) := fun k hk => by
  rcases List.mem_append.1 hk with h1 | h1
  · exact (h k h1).imp (fun x => List.mem_append_left _ x) id
  · exact (h' k h1).imp (fun x => List.mem_append_right _ x) id
theorem Chg.refl (w : World) (F : List Nat) : Chg w w F := ⟨rfl, rfl, rfl, Nat.le_refl _, fun _ _ _ => rfl⟩
theorem Chg.trans {w w1 w2 : World} {F F1 : List Nat} (h : Chg w w1 F) (h1 : Chg w1 w2 F1) (hF : Sub w F1 F) : Chg w w2 F :=
  ⟨h1.os.trans h.os, h1.tape.trans h.tape, h1.output.trans h.output, Nat.le_trans h.size h1.size, fun k hk hn => by
    rw [h1.block k (Nat.lt_of_lt_of_le hk h.size) (fun hm => by
      rcases hF k hm with h2 | h2
      · exact hn h2
      · omega)]
    exact h.block k hk hn⟩
theorem Chg.mono {w w' : World} {F G : List Nat} (h : Chg w w' F) (hF : Sub w F G) : Chg w w' G := (Chg.refl w G).trans h hF
theorem Chg.of_below {w w' : World} (h : Below w.heap.size w w') (F : List Nat) : Chg w w' F := ⟨h.os, h.tape, h.output, h.size, fun k hk _ => h.block k hk⟩
theorem Chg.below {w w' : World} {F : List Nat} {B : Nat} (h : Chg w w' F) (hB : B ≤ w.heap.size) (hF : ∀ k ∈ F, B ≤ k) : Below B w w' :=
  ⟨h.os, h.tape, h.output, h.size, fun k hk => h.block k (by omega) (fun hm => by have := hF k hm; omega)⟩
theorem Chg.setCell (w : World) (g i : Nat) (u : Value) : Chg w (w.setCell ⟨g, i, none⟩ u) [g] :=
  ⟨rfl, rfl, rfl, by simp [World.setCell], fun k _ hn => Below.heap_setCell w ⟨g, i, none⟩ u k (fun e => hn (by rw [List.mem_singleton]; exact e))⟩
theorem Chg.setCells (g : Nat) : ∀ (vs : List Value) (i : Nat) (w : World), Chg w (w.setCells g i vs) [g]
  | [], _, w => Chg.refl w _
  | v :: r, i, w => by
    rw [World.setCells]
    exact (Chg.setCell w g i v).trans (Chg.setCells g r (i + 1) _) (Sub.refl _ _)
theorem Chg.alloc (w : World) (o : Obj) (F : List Nat) : Chg w (w.alloc o) F := Chg.of_below ((Below.refl _ _).alloc (Nat.le_refl _) o) F
theorem Chg.drew (w : World) (F : List Nat) : Chg w w.drew F := ⟨rfl, rfl, rfl, Nat.le_refl _, fun _ _ _ => rfl⟩
theorem Chg.drewN (w : World) (n : Nat) (F : List Nat) : Chg w (w.drewN n) F := ⟨rfl, rfl, rfl, Nat.le_refl _, fun _ _ _ => rfl⟩
theorem Chg.grown {w w' : World} {row : Option Nat} (h : w.grownBy w' row) : Chg w w' row.toList :=
  ⟨h.os, h.tape, h.output, h.size, fun k hk hn => h.block k hk (fun e => hn (by rw [← e]; simp))⟩
theorem Ther.mono {w w' : World} {F : List Nat} (h : Ther w F) (hs : w.heap.size ≤ w'.heap.size) : Ther w' F := fun k hk => Nat.lt_of_lt_of_le (h k hk) hs
theorem Ther.app {w : World} {F G : List Nat} (h : Ther w F) (h' : Ther w G) : Ther w (F ++ G) := fun k hk => (List.mem_append.1 hk).elim (h k) (h' k)
theorem Apt.symm {F G : List Nat} (h : Apt F G) : Apt G F := fun k hk hm => h k hm hk
theorem Apt.step {w : World} {F F' G : List Nat} (h : Apt F G) (hs : Sub w F' F) (hG : Ther w G) : Apt F' G := fun k hk hm => by
  rcases hs k hk with h1 | h1
  · exact h k h1 hm
  · have := hG k hm
    omega
theorem Chg.same {w w' : World} {F G : List Nat} (h : Chg w w' F) (ha : Apt F G) (hG : Ther w G) : Same w w' G := fun k hk => h.block k (hG k hk) (fun hm => ha k hm hk)
theorem Same.cell {w w' : World} {F : List Nat} (h : Same w w' F) {p : Addr} (hp : p.block ∈ F) : w'.cell? p = w.cell? p := by
  simp only [World.cell?, h _ hp]
theorem Same.sub {w w' : World} {F G : List Nat} (h : Same w w' F) (hG : ∀ k ∈ G, k ∈ F) : Same w w' G := fun k hk => h k (hG k hk)
theorem Same.drew (w : World) (F : List Nat) : Same w w.drew F := fun _ _ => rfl

/-- one cell of a known block is stored -/
theorem block_set {w : World} {g i : Nat} {cs : Array Value} {t : TypeId} {fr : Nat × Nat} (h : w.heap[g]? = some (.cells cs t fr)) (v : Value) : (w.setCell ⟨g, i, none⟩ v).heap[g]? = some (.cells (cs.setIfInBounds i v) t fr) := by
  simp only [World.setCell, Array.getElem?_modify, h]
  simp
/-- cells in the midst of a known block are stored -/
theorem block_sets {g : Nat} {t : TypeId} {fr : Nat × Nat} : ∀ (vs : List Value) (i : Nat) (cs : List Value) (w : World), w.heap[g]? = some (.cells cs.toArray t fr) → i + vs.length ≤ cs.length →
    (w.setCells g i vs).heap[g]? = some (.cells (cs.take i ++ vs ++ cs.drop (i + vs.length)).toArray t fr)
  | [], i, cs, w, h, _ => by
    rw [World.setCells, h]
    simp
  | v :: r, i, cs, w, h, hl => by
    rw [World.setCells]
    simp only [List.length_cons] at hl
    have h1 := block_set (i := i) h v
    have e1 : (cs.toArray.setIfInBounds i v) = (cs.set i v).toArray := by simp
    rw [e1] at h1
    have := block_sets r (i + 1) (cs.set i v) _ h1 (by simp; omega)
    rw [this]
    congr 3
    have e2 : (cs.set i v).take (i + 1) = cs.take i ++ [v] := by
      rw [List.take_succ_eq_append_getElem (by simp; omega), List.take_set_of_le (Nat.le_refl _)]
      simp
    have e3 : (cs.set i v).drop (i + 1 + r.length) = cs.drop (i + (v :: r).length) := by
      rw [List.drop_set_of_lt (by omega), List.length_cons, Nat.add_assoc, Nat.add_comm 1]
    rw [e2, e3]
    simp
/-- a range of a known block -/
theorem range_of {w : World} {g : Nat} {cs : List Value} {t : TypeId} {fr : Nat × Nat} (h : w.heap[g]? = some (.cells cs.toArray t fr)) (o : Nat) (vs : List Value) (hv : ∀ j v, vs[j]? = some v → cs[o + j]? = some v) : w.rangeAt g o vs := fun j v hj => by
  rw [cell_of_row w g (o + j) cs.toArray t fr h]
  simpa using hv j v hj
theorem there_of {w : World} {g : Nat} {cs : List Value} {t : TypeId} (h : w.heap[g]? = some (.cells cs.toArray t (0, 0))) (o n : Nat) (hn : o + n ≤ cs.length) : w.there g o n := fun j hj => by
  refine ⟨?_, by simp [World.frozen?, h]⟩
  rw [cell_of_row w g (o + j) cs.toArray t (0, 0) h]
  simp
  omega
end Go.Proofs.YtknndmhkfonfmaaDoor

/-
  PURE: a disk: what is sure, what was written since, in order; what each act answers and leaves. No program is named here.
-/
namespace Go.Proofs.YtknndmhkfonfmaaDoor.dk

abbrev Blk := List UInt8
/-- a block of 0s -/
def zero : Blk := List.replicate 128 0
/-- a disk -/
structure St where
  S : List Blk
  L : List (Int × Blk)
  cut : Int
  black : Bool
  many : Int
/-- its blocks are blocks; what is written is written to one of them -/
structure St.Ok (s : St) : Prop where
  lenS : ∀ b ∈ s.S, b.length = 128
  some : 64 ≤ s.S.length
  most : s.S.length ≤ 4096
  lenL : ∀ x ∈ s.L, x.2.length = 128
  inL : ∀ x ∈ s.L, 0 ≤ x.1 ∧ x.1 < s.S.length

/-- what is asked ahead of a block -/
def asks (s : St) (n : Int) : Int := if s.black then 9 else if n < 0 ∨ (s.S.length : Int) ≤ n then 2 else 0
/-- is the power cut at this step? else the step is done -/
def step (s : St) : Int × St := if s.cut = 1 then (9, { s with black := true }) else (0, { s with cut := if 1 < s.cut then s.cut - 1 else s.cut, many := s.many + 1 })
def look (b : Blk) (n : Int) : List (Int × Blk) → Blk
  | [] => b
  | x :: r => look (if x.1 = n then x.2 else b) n r
def read (s : St) (n : Int) : Blk × Int := if asks s n = 0 then (look (s.S.getD n.toNat zero) n s.L, 0) else (zero, asks s n)
def write (s : St) (n : Int) (b : Blk) : Int × St :=
  if asks s n = 0 then (if (step s).1 = 0 then (0, { (step s).2 with L := s.L ++ [(n, b)] }) else (9, (step s).2)) else (asks s n, s)
def lay (S : List Blk) : List (Int × Blk) → List Blk
  | [] => S
  | x :: r => lay (S.set x.1.toNat x.2) r
def flush (s : St) : Int × St :=
  if s.black then (9, s) else if (step s).1 = 0 then (0, { (step s).2 with S := lay s.S s.L, L := [] }) else (9, (step s).2)
def arm (s : St) (n : Int) : Int × St := if s.black then (9, s) else if n < 0 then (2, s) else (0, { s with cut := n })
def sure (s : St) (n : Int) : Blk × Int := if n < 0 ∨ (s.S.length : Int) ≤ n then (zero, 2) else (s.S.getD n.toNat zero, 0)
def rot (s : St) (n at_ : Int) (x : UInt8) : Int × St :=
  if n < 0 ∨ (s.S.length : Int) ≤ n ∨ at_ < 0 ∨ 128 ≤ at_ then (2, s)
  else (0, { s with S := s.S.set n.toNat ((s.S.getD n.toNat zero).set at_.toNat ((s.S.getD n.toNat zero).getD at_.toNat 0 ^^^ x)) })
/-- the first bytes of a new block, the others of an old one -/
def torn (old now : Blk) (n : Int) : Blk := now.take n.toNat ++ old.drop n.toNat
def tear (S : List Blk) : List (Int × Blk) → List Int → List Blk
  | [], _ => S
  | x :: r, p => tear (S.set x.1.toNat (torn (S.getD x.1.toNat zero) x.2 (p.headD 0))) r p.tail
def crash (s : St) (p : List Int) : St := { s with S := tear s.S s.L p, L := [], black := false, cut := 0 }

theorem look_snoc (b : Blk) (n : Int) (L : List (Int × Blk)) (x : Int × Blk) : look b n (L ++ [x]) = if x.1 = n then x.2 else look b n L := by
  induction L generalizing b with
  | nil => rfl
  | cons y r ih => exact ih _
theorem lay_snoc (L : List (Int × Blk)) (S : List Blk) (x : Int × Blk) : lay S (L ++ [x]) = (lay S L).set x.1.toNat x.2 := by
  induction L generalizing S with
  | nil => rfl
  | cons y r ih => exact ih _
theorem tear_snoc (L : List (Int × Blk)) (S : List Blk) (x : Int × Blk) (p : List Int) : tear S (L ++ [x]) p = (tear S L p).set x.1.toNat (torn ((tear S L p).getD x.1.toNat zero) x.2 (p.getD L.length 0)) := by
  induction L generalizing S p with
  | nil => cases p <;> rfl
  | cons y r ih =>
    rw [List.cons_append, tear, ih, List.length_cons]
    cases p <;> simp [tear]
theorem lay_length (L : List (Int × Blk)) (S : List Blk) : (lay S L).length = S.length := by
  induction L generalizing S with
  | nil => rfl
  | cons x r ih => rw [lay, ih, List.length_set]
theorem tear_length (L : List (Int × Blk)) (S : List Blk) (p : List Int) : (tear S L p).length = S.length := by
  induction L generalizing S p with
  | nil => rfl
  | cons x r ih => rw [tear, ih, List.length_set]
theorem torn_length {a b : Blk} (n : Int) (ha : a.length = 128) (hb : b.length = 128) : (torn a b n).length = 128 := by
  unfold torn
  rw [List.length_append, List.length_take, List.length_drop]
  omega
theorem set_len {S : List Blk} (h : ∀ b ∈ S, b.length = 128) {i : Nat} {b : Blk} (hb : b.length = 128) : ∀ x ∈ S.set i b, x.length = 128 := fun x hx => by
  rcases List.mem_or_eq_of_mem_set hx with h1 | rfl
  · exact h x h1
  · exact hb
theorem getD_len {S : List Blk} (h : ∀ b ∈ S, b.length = 128) (i : Nat) : (S.getD i zero).length = 128 := by
  rw [List.getD_eq_getElem?_getD]
  cases hi : S[i]? with
  | none => rfl
  | some b => exact h b (List.mem_of_getElem? hi)
theorem lay_len (L : List (Int × Blk)) (hL : ∀ x ∈ L, x.2.length = 128) (S : List Blk) (hS : ∀ b ∈ S, b.length = 128) : ∀ b ∈ lay S L, b.length = 128 := by
  induction L generalizing S with
  | nil => exact hS
  | cons x r ih => exact ih (fun y hy => hL y (List.mem_cons_of_mem _ hy)) _ (set_len hS (hL x (List.mem_cons_self ..)))
theorem tear_len (L : List (Int × Blk)) (hL : ∀ x ∈ L, x.2.length = 128) (S : List Blk) (hS : ∀ b ∈ S, b.length = 128) (p : List Int) : ∀ b ∈ tear S L p, b.length = 128 := by
  induction L generalizing S p with
  | nil => exact hS
  | cons x r ih => exact ih (fun y hy => hL y (List.mem_cons_of_mem _ hy)) _ (set_len hS (torn_length _ (getD_len hS _) (hL x (List.mem_cons_self ..)))) _
theorem look_len (L : List (Int × Blk)) (hL : ∀ x ∈ L, x.2.length = 128) (n : Int) (b : Blk) (hb : b.length = 128) : (look b n L).length = 128 := by
  induction L generalizing b with
  | nil => exact hb
  | cons x r ih =>
    rw [look]
    refine ih (fun y hy => hL y (List.mem_cons_of_mem _ hy)) _ ?_
    split
    · exact hL x (List.mem_cons_self ..)
    · exact hb
theorem step_S (s : St) : (step s).2.S = s.S := by unfold step; split <;> rfl
theorem step_L (s : St) : (step s).2.L = s.L := by unfold step; split <;> rfl
theorem Ok.step {s : St} (h : s.Ok) : (step s).2.Ok := ⟨by rw [step_S]; exact h.lenS, by rw [step_S]; exact h.some, by rw [step_S]; exact h.most, by rw [step_L]; exact h.lenL, by rw [step_L, step_S]; exact h.inL⟩
theorem asks_in {s : St} {n : Int} (h : asks s n = 0) : s.black = false ∧ 0 ≤ n ∧ n < s.S.length := by
  unfold asks at h
  cases hb : s.black with
  | true => rw [hb] at h; simp at h
  | false =>
    rw [hb] at h
    simp only [Bool.false_eq_true, if_false] at h
    split at h
    · omega
    · exact ⟨rfl, by omega, by omega⟩
theorem Ok.write {s : St} (h : s.Ok) {n : Int} {b : Blk} (hb : b.length = 128) : (write s n b).2.Ok := by
  unfold dk.write
  split
  · next ha =>
    obtain ⟨_, h0, h1⟩ := asks_in ha
    split
    · refine ⟨by rw [step_S]; exact h.lenS, by rw [step_S]; exact h.some, by rw [step_S]; exact h.most, fun x hx => ?_, fun x hx => ?_⟩
      · rcases List.mem_append.1 hx with hx | hx
        · exact h.lenL x hx
        · rw [List.mem_singleton.1 hx]; exact hb
      · rw [step_S]
        rcases List.mem_append.1 hx with hx | hx
        · exact h.inL x hx
        · rw [List.mem_singleton.1 hx]; exact ⟨h0, h1⟩
    · exact Ok.step h
  · exact h
theorem Ok.flush {s : St} (h : s.Ok) : (flush s).2.Ok := by
  unfold dk.flush
  split
  · exact h
  · split
    · exact ⟨lay_len _ h.lenL _ h.lenS, by simp only [lay_length]; exact h.some, by simp only [lay_length]; exact h.most, fun x hx => by simp at hx, fun x hx => by simp at hx⟩
    · exact Ok.step h
theorem Ok.arm {s : St} (h : s.Ok) (n : Int) : (arm s n).2.Ok := by
  unfold dk.arm
  split
  · exact h
  · split
    · exact h
    · exact ⟨h.lenS, h.some, h.most, h.lenL, h.inL⟩
theorem Ok.rot {s : St} (h : s.Ok) (n at_ : Int) (x : UInt8) : (rot s n at_ x).2.Ok := by
  unfold dk.rot
  split
  · exact h
  · exact ⟨set_len h.lenS (by rw [List.length_set]; exact getD_len h.lenS _), by simp only [List.length_set]; exact h.some, by simp only [List.length_set]; exact h.most, h.lenL, by simp only [List.length_set]; exact h.inL⟩
theorem Ok.crash {s : St} (h : s.Ok) (p : List Int) : (crash s p).Ok :=
  ⟨tear_len _ h.lenL _ h.lenS _, by unfold dk.crash; rw [tear_length]; exact h.some, by unfold dk.crash; rw [tear_length]; exact h.most, fun x hx => by simp [dk.crash] at hx, fun x hx => by simp [dk.crash] at hx⟩
end Go.Proofs.YtknndmhkfonfmaaDoor.dk

/-
  A DISK IN MEMORY: a struct of five fields, its blocks in a row, what is not sure in a row of the call's own. No program is named here: the types' numbers come in.
-/
namespace Go.Proofs.YtknndmhkfonfmaaDoor
open Go.RowKit

/-- THE SLICE OF INTEGERS '.slice A n c' READS AS l IN w. -/
structure IS (w : World) (A : Option Addr) (n c : Nat) (l : List Int) : Prop where
  len : l.length = n
  cap : n ≤ c
  max : c ≤ 9223372036854775807
  has : 0 < n → ∃ b o, A = some ⟨b, o, none⟩ ∧ b < w.heap.size ∧ ∀ i (h : i < l.length), w.cell? ⟨b, o + i, none⟩ = some (.int .i64 l[i])
theorem IS.chg {w w' : World} {A : Option Addr} {n c : Nat} {l : List Int} {F : List Nat} (h : IS w A n c l) (hC : Chg w w' F) (hA : 0 < n → ∀ b o, A = some ⟨b, o, none⟩ → b ∉ F) : IS w' A n c l :=
  ⟨h.len, h.cap, h.max, fun hn => by
    obtain ⟨b, o, e, hb, hc⟩ := h.has hn
    refine ⟨b, o, e, Nat.lt_of_lt_of_le hb hC.size, fun i hi => ?_⟩
    have e2 : w'.cell? ⟨b, o + i, none⟩ = w.cell? ⟨b, o + i, none⟩ := by simp only [World.cell?, hC.block b hb (hA hn b o e)]
    rw [e2]
    exact hc i hi⟩

/-! ### Lists of one length each, laid behind each other -/
theorem flat_length {α : Type} (k : Nat) : ∀ (LL : List (List α)), (∀ x ∈ LL, x.length = k) → LL.flatten.length = LL.length * k
  | [], _ => by simp
  | x :: r, h => by
    rw [List.flatten_cons, List.length_append, h x (List.mem_cons_self ..), flat_length k r (fun y hy => h y (List.mem_cons_of_mem _ hy)), List.length_cons, Nat.add_mul, Nat.one_mul, Nat.add_comm]
theorem flat_get {α : Type} (k : Nat) : ∀ (LL : List (List α)), (∀ x ∈ LL, x.length = k) → ∀ (i : Nat) (hi : i < LL.length) (j : Nat), j < k → LL.flatten[i * k + j]? = LL[i][j]?
  | [], _, i, hi, _, _ => by simp at hi
  | x :: r, h, 0, _, j, hj => by
    rw [List.flatten_cons, Nat.zero_mul, Nat.zero_add, List.getElem?_append_left (by rw [h x (List.mem_cons_self ..)]; exact hj)]
    rfl
  | x :: r, h, i + 1, hi, j, hj => by
    have hx := h x (List.mem_cons_self ..)
    rw [List.flatten_cons, List.getElem?_append_right (by rw [hx, Nat.add_mul]; omega), hx, show (i + 1) * k + j - k = i * k + j from by rw [Nat.add_mul]; omega]
    exact flat_get k r (fun y hy => h y (List.mem_cons_of_mem _ hy)) i (by simpa using hi) j hj
theorem flat_set {α : Type} (k : Nat) : ∀ (LL : List (List α)), (∀ x ∈ LL, x.length = k) → ∀ (i : Nat), i < LL.length → ∀ (y : List α), y.length = k → LL.flatten.take (i * k) ++ y ++ LL.flatten.drop (i * k + k) = (LL.set i y).flatten
  | [], _, i, hi, _, _ => by simp at hi
  | x :: r, h, 0, _, y, _ => by
    have hx := h x (List.mem_cons_self ..)
    simp [← hx]
  | x :: r, h, i + 1, hi, y, hy => by
    have hx := h x (List.mem_cons_self ..)
    have ih := flat_set k r (fun z hz => h z (List.mem_cons_of_mem _ hz)) i (by simpa using hi) y hy
    rw [List.set_cons_succ, List.flatten_cons, List.flatten_cons, ← ih, show (i + 1) * k = x.length + i * k from by rw [hx, Nat.add_mul]; omega, List.take_length_add_append, show x.length + i * k + k = x.length + (i * k + k) from by omega,
      List.drop_length_add_append, List.append_assoc, List.append_assoc, List.append_assoc]

theorem flat_set1 {α : Type} (k : Nat) : ∀ (LL : List (List α)), (∀ x ∈ LL, x.length = k) → ∀ (i : Nat) (hi : i < LL.length) (j : Nat), j < k → ∀ u, LL.flatten.set (i * k + j) u = (LL.set i (LL[i].set j u)).flatten
  | [], _, i, hi, _, _, _ => by simp at hi
  | x :: r, h, 0, _, j, hj, u => by
    have hx := h x (List.mem_cons_self ..)
    rw [List.flatten_cons, Nat.zero_mul, Nat.zero_add, List.set_append_left _ _ (by omega)]
    rfl
  | x :: r, h, i + 1, hi, j, hj, u => by
    have hx := h x (List.mem_cons_self ..)
    have ih := flat_set1 k r (fun z hz => h z (List.mem_cons_of_mem _ hz)) i (by simpa using hi) j hj u
    rw [List.flatten_cons, List.set_append_right _ _ (by rw [hx, Nat.add_mul]; omega), hx, show (i + 1) * k + j - k = i * k + j from by rw [Nat.add_mul]; omega, ih]
    rfl

namespace dk
/-- a block as a value, and its cells -/
abbrev cells (b : Blk) : List Value := b.map bv
abbrev val (b : Blk) : Value := .agg (cells b).toArray
/-- what is not sure, as cells -/
abbrev put (x : Int × Blk) : List Value := .int .i64 x.1 :: cells x.2
def cellsL (L : List (Int × Blk)) : List Value := (L.map put).flatten
def cellsS (S : List Blk) : List Value := (S.map cells).flatten

/-- THE DISK s IN w: the struct in block p, its blocks in block g, what is not sure in v. T, E, P: the types' numbers of the struct, a block, a write that is not sure. -/
structure M (T E P : TypeId) (w : World) (p g c : Nat) (r : List Value) (v : Value) (s : St) : Prop where
  obj : w.heap[p]? = some (.cells #[.slice (some ⟨g, 0, none⟩) s.S.length c, v, .int .i64 s.cut, .bool s.black, .int .i64 s.many] T (0, 0))
  row : w.heap[g]? = some (.cells (cellsS s.S ++ r).toArray E (0, 0))
  cap : s.S.length ≤ c
  max : c ≤ 9223372036854775807
  loose : w.ownsRow 0 P 129 v s.L.length (cellsL s.L)
  ok : s.Ok
  ne1 : p ≠ g
  ne2 : v.ownBlock ≠ some p
  ne3 : v.ownBlock ≠ some g
  cutR : 0 ≤ s.cut ∧ s.cut ≤ 9223372036854775807
  manyR : 0 ≤ s.many ∧ s.many ≤ 4611686018427387904
/-- its blocks of memory -/
def fp (p g : Nat) (v : Value) : List Nat := p :: g :: v.ownBlock.toList

variable {T E P : TypeId} {w w' : World} {p g c : Nat} {r : List Value} {v : Value} {s : St}
theorem own_keep {e : TypeId} {size n : Nat} {xs : List Value} (h : w.ownsRow 0 e size v n xs) (hs : ∀ k, v.ownBlock = some k → w'.heap[k]? = w.heap[k]?) : w'.ownsRow 0 e size v n xs :=
  ⟨h.1, h.2.imp id fun ⟨k, cap, cur, hv, hb, hk, rest⟩ => ⟨k, cap, cur, hv, hb, by rw [hs k (by rw [hv]; rfl)]; exact hk, rest⟩⟩
theorem M.keep (h : M T E P w p g c r v s) (hs : Same w w' (fp p g v)) : M T E P w' p g c r v s :=
  ⟨by rw [hs p (by simp [fp])]; exact h.obj, by rw [hs g (by simp [fp])]; exact h.row, h.cap, h.max, own_keep h.loose (fun k hk => hs k (by simp [fp, hk])), h.ok, h.ne1, h.ne2, h.ne3, h.cutR, h.manyR⟩
theorem M.there (h : M T E P w p g c r v s) : Ther w (fp p g v) := fun k hk => by
  simp only [fp, List.mem_cons, Option.mem_toList] at hk
  rcases hk with rfl | rfl | hk
  · exact (Array.getElem?_eq_some_iff.1 h.obj).1
  · exact (Array.getElem?_eq_some_iff.1 h.row).1
  · rcases h.loose.2 with ⟨rfl, _⟩ | ⟨k', _, _, rfl, _, hk', _⟩
    · simp [Value.ownBlock] at hk
    · simp only [Value.ownBlock, Option.some.injEq] at hk
      subst hk
      exact (Array.getElem?_eq_some_iff.1 hk').1
theorem M.alloc (h : M T E P w p g c r v s) (o : Obj) : M T E P (w.alloc o) p g c r v s := h.keep (fun k hk => Below.heap_alloc w o k (h.there k hk))
theorem M.drew (h : M T E P w p g c r v s) : M T E P w.drew p g c r v s := h.keep (fun _ _ => rfl)
theorem M.drewN (h : M T E P w p g c r v s) (n : Nat) : M T E P (w.drewN n) p g c r v s := h.keep (fun _ _ => rfl)
theorem M.below (h : M T E P w p g c r v s) (hb : Below w.heap.size w w') : M T E P w' p g c r v s := h.keep (fun k hk => hb.block k (h.there k hk))
theorem M.c0 (h : M T E P w p g c r v s) : w.cell? ⟨p, 0, none⟩ = some (.slice (some ⟨g, 0, none⟩) s.S.length c) := by rw [cell_of_row _ _ 0 _ _ _ h.obj]; rfl
theorem M.c1 (h : M T E P w p g c r v s) : w.cell? ⟨p, 1, none⟩ = some v := by rw [cell_of_row _ _ 1 _ _ _ h.obj]; rfl
theorem M.c2 (h : M T E P w p g c r v s) : w.cell? ⟨p, 2, none⟩ = some (.int .i64 s.cut) := by rw [cell_of_row _ _ 2 _ _ _ h.obj]; rfl
theorem M.c3 (h : M T E P w p g c r v s) : w.cell? ⟨p, 3, none⟩ = some (.bool s.black) := by rw [cell_of_row _ _ 3 _ _ _ h.obj]; rfl
theorem M.c4 (h : M T E P w p g c r v s) : w.cell? ⟨p, 4, none⟩ = some (.int .i64 s.many) := by rw [cell_of_row _ _ 4 _ _ _ h.obj]; rfl
theorem M.fz (h : M T E P w p g c r v s) (i : Nat) : w.frozen? ⟨p, i, none⟩ = false := by simp [World.frozen?, h.obj]
theorem cells_len (h : s.Ok) : ∀ x ∈ s.S.map cells, x.length = 128 := fun x hx => by
  obtain ⟨b, hb, rfl⟩ := List.mem_map.1 hx
  rw [List.length_map]
  exact h.lenS b hb
theorem puts_len (h : s.Ok) : ∀ x ∈ s.L.map put, x.length = 129 := fun x hx => by
  obtain ⟨b, hb, rfl⟩ := List.mem_map.1 hx
  rw [List.length_cons, List.length_map, h.lenL b hb]
/-- block i -/
theorem M.block (h : M T E P w p g c r v s) {i : Nat} (hi : i < s.S.length) : w.rangeAt g (i * 128) (cells s.S[i]) :=
  range_of h.row _ _ fun j u hj => by
    have hj' : j < 128 := by
      have := (List.getElem?_eq_some_iff.1 hj).1
      rwa [List.length_map, h.ok.lenS _ (List.getElem_mem hi)] at this
    have hl := flat_length 128 _ (cells_len h.ok)
    rw [List.length_map] at hl
    have h1 := flat_get 128 (s.S.map cells) (cells_len h.ok) i (by simpa using hi) j hj'
    rw [List.getElem_map, hj] at h1
    rw [List.getElem?_append_left]
    · exact h1
    · unfold cellsS
      rw [hl]
      have : (i + 1) * 128 ≤ s.S.length * 128 := Nat.mul_le_mul_right _ hi
      omega
/-- write i that is not sure -/
theorem M.put_ (h : M T E P w p g c r v s) {i : Nat} (hi : i < s.L.length) : ∃ k cap, v = .slice (some ⟨k, 0, none⟩) s.L.length cap ∧ s.L.length ≤ cap ∧ cap ≤ 9223372036854775807 ∧ w.cell? ⟨k, i * 129, none⟩ = some (.int .i64 s.L[i].1) ∧ w.rangeAt k (i * 129 + 1) (cells s.L[i].2) := by
  rcases h.loose.2 with ⟨_, h0⟩ | ⟨k, cap, cur, rfl, _, hk, hc1, hc2, hc3, hc4⟩
  · omega
  · have hget : ∀ j, j < 129 → cur.toList[i * 129 + j]? = (put s.L[i])[j]? := fun j hj => by
      have h1 := flat_get 129 (s.L.map put) (puts_len h.ok) i (by simpa using hi) j hj
      rw [List.getElem_map] at h1
      rw [← h1]
      have e : (s.L.map put).flatten = cur.toList.take (s.L.length * 129) := hc4.symm
      rw [e, List.getElem?_take_of_lt]
      have : (i + 1) * 129 ≤ s.L.length * 129 := Nat.mul_le_mul_right _ hi
      omega
    refine ⟨k, cap, rfl, hc1, by rw [maxLen_eq] at hc2; exact hc2, ?_, ?_⟩
    · rw [cell_of_row _ _ _ _ _ _ hk, ← Array.getElem?_toList]
      have := hget 0 (by omega)
      rw [Nat.add_zero] at this
      rw [this]
      rfl
    · intro j u hj
      have hj' : j < 128 := by
        have := (List.getElem?_eq_some_iff.1 hj).1
        rwa [List.length_map, h.ok.lenL _ (List.getElem_mem hi)] at this
      rw [cell_of_row _ _ _ _ _ _ hk, ← Array.getElem?_toList, Nat.add_assoc]
      rw [hget (1 + j) (by omega), Nat.add_comm 1 j]
      exact hj
/-- a cell of another block is stored: a range stays -/
theorem range_setCell {w : World} {b o : Nat} {cs : List Value} (h : w.rangeAt b o cs) (a : Addr) (u : Value) (hne : a.block ≠ b) : (w.setCell a u).rangeAt b o cs := fun j v hv => by
  rw [World.cell?_setCell_other _ _ _ _ (fun e => hne (by rw [e]))]
  exact h j v hv
theorem range_grown {w w' : World} {b o : Nat} {cs : List Value} {row : Option Nat} (h : w.rangeAt b o cs) (hg : w.grownBy w' row) (hne : some b ≠ row) : w'.rangeAt b o cs := fun j v hv => by
  have h1 := h j v hv
  have hlt := World.block_lt_of_cell? w _ h1
  have e : w'.cell? ⟨b, o + j, none⟩ = w.cell? ⟨b, o + j, none⟩ := by simp only [World.cell?, hg.block b hlt hne]
  rw [e]
  exact h1
/-- a struct of a number and a block, built: the cells are laid one by one -/
theorem fold_set : ∀ (vs : List Value) (off : Nat) (k : Nat) (cs : List Value), off + k + vs.length ≤ cs.length →
    List.foldl (fun (c : Array Value) (x : Value × Nat) => c.setIfInBounds (off + x.snd) x.fst) cs.toArray (vs.zipIdx k) = (cs.take (off + k) ++ vs ++ cs.drop (off + k + vs.length)).toArray
  | [], off, k, cs, _ => by simp
  | v :: r, off, k, cs, h => by
    simp only [List.length_cons] at h
    rw [List.zipIdx_cons, List.foldl_cons]
    have e1 : (cs.toArray.setIfInBounds (off + k) v) = (cs.set (off + k) v).toArray := by simp
    simp only [e1]
    rw [fold_set r off (k + 1) (cs.set (off + k) v) (by simp; omega)]
    have e2 : (cs.set (off + k) v).take (off + (k + 1)) = cs.take (off + k) ++ [v] := by
      rw [← Nat.add_assoc, List.take_succ_eq_append_getElem (by simp; omega), List.take_set_of_le (Nat.le_refl _)]
      simp
    have e3 : (cs.set (off + k) v).drop (off + (k + 1) + r.length) = cs.drop (off + k + (v :: r).length) := by
      rw [List.drop_set_of_lt (by omega), List.length_cons]
      congr 1
      omega
    rw [e2, e3]
    simp
theorem build_put (n : Int) (b : Blk) (hb : b.length = 128) : List.foldl (fun (c : Array Value) (x : Value × Nat) => c.setIfInBounds (1 + x.snd) x.fst) (((put (0, zero)).toArray).setIfInBounds 0 (.int .i64 n)) (cells b).zipIdx = (put (n, b)).toArray := by
  have e1 : ((put (0, zero)).toArray).setIfInBounds 0 (.int .i64 n) = (put (n, zero)).toArray := by simp
  have hz : (put (n, zero)).length = 129 := by simp [zero]
  rw [e1]
  have := fold_set (cells b) 1 0 (put (n, zero)) (by rw [hz]; simp [hb])
  refine this.trans ?_
  rw [List.drop_of_length_le (by rw [hz]; simp [hb])]
  simp
theorem put_size (b : Int × Blk) (hb : b.2.length = 128) : (put b).toArray.size = 129 := by simp [hb]
/-- one element that fills a row of one -/
theorem fill_one (sz : Nat) (cs PB : Array Value) (h : PB.size = sz) (hc : cs.size = sz) : Instr.fill (fun i => some (i * sz, sz)) cs [(0, .agg PB)] = some PB := by
  have e : PB.zipIdx.foldl (fun (c : Array Value) (x : Value × Nat) => c.setIfInBounds (0 + x.snd) x.fst) cs = PB := by
    have h1 := fold_set PB.toList 0 0 cs.toList (by simp [h, hc])
    have h2 : (cs.toList.take (0 + 0) ++ PB.toList ++ cs.toList.drop (0 + 0 + PB.toList.length)).toArray = PB := by
      rw [List.drop_of_length_le (by simp [h, hc])]
      simp
    rw [h2] at h1
    obtain ⟨PL⟩ := PB
    obtain ⟨CL⟩ := cs
    simpa using h1
  unfold Instr.fill
  simp only [Nat.zero_mul, Value.cells]
  rw [if_neg (by simp [h, hc])]
  unfold Instr.fill
  exact congrArg some e
/-- one write was appended, and the slice is laid into the struct -/
theorem M.appended {w3 : World} {gg cap : Nat} {x : Int × Blk} (h : M T E P w p g c r v s) (hg : w.grownBy w3 v.ownBlock) (hown : w3.ownsRow 0 P 129 (.slice (some ⟨gg, 0, none⟩) (s.L.length + 1) cap) (s.L.length + 1) (cellsL s.L ++ put x))
    (hat : v.ownBlock = some gg ∨ gg = w.heap.size) (hx : x.2.length = 128) (hi : 0 ≤ x.1 ∧ x.1 < s.S.length) :
    M T E P (w3.setCell ⟨p, 1, none⟩ (.slice (some ⟨gg, 0, none⟩) (s.L.length + 1) cap)) p g c r (.slice (some ⟨gg, 0, none⟩) (s.L.length + 1) cap) { s with L := s.L ++ [x] } ∧
      Chg w (w3.setCell ⟨p, 1, none⟩ (.slice (some ⟨gg, 0, none⟩) (s.L.length + 1) cap)) (fp p g v) ∧ Sub w (fp p g (.slice (some ⟨gg, 0, none⟩) (s.L.length + 1) cap)) (fp p g v) := by
  have hp : p < w.heap.size := h.there p (by simp [fp])
  have hgl : g < w.heap.size := h.there g (by simp [fp])
  have hgp : gg ≠ p := by
    rcases hat with e | e
    · exact fun e2 => h.ne2 (by rw [e, e2])
    · omega
  have hgg : gg ≠ g := by
    rcases hat with e | e
    · exact fun e2 => h.ne3 (by rw [e, e2])
    · omega
  have hobj : w3.heap[p]? = _ := (hg.block p hp (fun e => h.ne2 e.symm)).trans h.obj
  have hrow : w3.heap[g]? = _ := (hg.block g hgl (fun e => h.ne3 e.symm)).trans h.row
  refine ⟨⟨(block_set hobj _).trans (by simp), (Below.heap_setCell w3 _ _ g (fun e => h.ne1 e.symm)).trans hrow, h.cap, h.max, ?_, ⟨h.ok.lenS, h.ok.some, h.ok.most, fun y hy => ?_, fun y hy => ?_⟩, h.ne1, fun e => hgp (by simpa [Value.ownBlock] using e), fun e => hgg (by simpa [Value.ownBlock] using e), h.cutR, h.manyR⟩, ?_, fun k hk => ?_⟩
  · have e : cellsL (s.L ++ [x]) = cellsL s.L ++ put x := by simp [cellsL]
    rw [e, List.length_append]
    refine own_keep hown fun k hk => Below.heap_setCell w3 _ _ k fun e2 => ?_
    simp only [Value.ownBlock, Option.some.injEq] at hk
    exact hgp (hk.trans e2)
  · rcases List.mem_append.1 hy with hy | hy
    · exact h.ok.lenL y hy
    · rw [List.mem_singleton.1 hy]; exact hx
  · rcases List.mem_append.1 hy with hy | hy
    · exact h.ok.inL y hy
    · rw [List.mem_singleton.1 hy]; exact hi
  · refine ((Chg.grown hg).mono (G := fp p g v) (fun k hk => .inl (by simp [fp] at hk ⊢; simp [hk]))).trans (Chg.setCell w3 p 1 _) (fun k hk => .inl (by simp [fp] at hk ⊢; simp [hk]))
  · simp only [fp, List.mem_cons, Option.mem_toList, Value.ownBlock, Option.some.injEq] at hk ⊢
    rcases hk with rfl | rfl | rfl
    · exact .inl (.inl rfl)
    · exact .inl (.inr (.inl rfl))
    · rcases hat with e | e
      · exact .inl (.inr (.inr e))
      · exact .inr (by omega)
/-- block i was stored anew -/
theorem M.stored {W : World} {i : Nat} {b : Blk} (h : M T E P w p g c r v s) (hi : i < s.S.length) (hb : b.length = 128)
    (hW : W.heap[g]? = some (.cells ((cellsS s.S ++ r).take (i * 128) ++ cells b ++ (cellsS s.S ++ r).drop (i * 128 + 128)).toArray E (0, 0))) (hC : Chg w W [g]) : M T E P W p g c r v { s with S := s.S.set i b } := by
  have hl := flat_length 128 _ (cells_len h.ok)
  rw [List.length_map] at hl
  have hle : i * 128 + 128 ≤ s.S.length * 128 := by
    have : (i + 1) * 128 ≤ s.S.length * 128 := Nat.mul_le_mul_right _ hi
    omega
  have e : (cellsS s.S ++ r).take (i * 128) ++ cells b ++ (cellsS s.S ++ r).drop (i * 128 + 128) = cellsS (s.S.set i b) ++ r := by
    have h1 := flat_set 128 (s.S.map cells) (cells_len h.ok) i (by simpa using hi) (cells b) (by rw [List.length_map]; exact hb)
    unfold cellsS
    rw [List.map_set, ← h1, List.take_append_of_le_length (by rw [hl]; omega), List.drop_append_of_le_length (by rw [hl]; omega)]
    simp
  rw [e] at hW
  have hp : p < w.heap.size := h.there p (by simp [fp])
  exact ⟨by rw [hC.block p hp (fun e => h.ne1 (List.mem_singleton.1 e)), List.length_set]; exact h.obj, hW, by rw [List.length_set]; exact h.cap, h.max,
    own_keep h.loose (fun k hk => hC.block k (h.there k (by simp [fp, hk])) (fun e => h.ne3 (by rw [hk, List.mem_singleton.1 e]))),
    ⟨set_len h.ok.lenS hb, by rw [List.length_set]; exact h.ok.some, by rw [List.length_set]; exact h.ok.most, h.ok.lenL, by rw [List.length_set]; exact h.ok.inL⟩, h.ne1, h.ne2, h.ne3, h.cutR, h.manyR⟩
theorem M.rowLen (h : M T E P w p g c r v s) {i : Nat} (hi : i < s.S.length) : i * 128 + 128 ≤ (cellsS s.S ++ r).length := by
  have hl := flat_length 128 _ (cells_len h.ok)
  rw [List.length_map] at hl
  have : (i + 1) * 128 ≤ s.S.length * 128 := Nat.mul_le_mul_right _ hi
  rw [List.length_append]
  unfold cellsS
  omega
/-- what is not sure is let go -/
theorem M.clear_ (h : M T E P w p g c r v s) : M T E P (w.setCell ⟨p, 1, none⟩ (.slice none 0 0)) p g c r (.slice none 0 0) { s with L := [] } :=
  ⟨(block_set h.obj _).trans (by simp), (Below.heap_setCell w _ _ g (fun e => h.ne1 e.symm)).trans h.row, h.cap, h.max, World.ownsRow_nil _ _ _ _, ⟨h.ok.lenS, h.ok.some, h.ok.most, fun _ hx => by simp at hx, fun _ hx => by simp at hx⟩, h.ne1, by simp [Value.ownBlock], by simp [Value.ownBlock], h.cutR, h.manyR⟩
theorem sub_nil : Sub w (fp p g (.slice none 0 0)) (fp p g v) := fun k hk => .inl (by
  have : k = p ∨ k = g := by simpa [fp, Value.ownBlock] using hk
  rcases this with rfl | rfl <;> simp [fp])
theorem sub_p : Sub w [p] (fp p g v) := fun k hk => .inl (by simp [fp] at hk ⊢; simp [hk])
theorem sub_g : Sub w [g] (fp p g v) := fun k hk => .inl (by simp [fp] at hk ⊢; simp [hk])
/-- one byte of block i was stored anew -/
theorem M.byte {i k : Nat} {y : UInt8} (h : M T E P w p g c r v s) (hi : i < s.S.length) (hk : k < 128) :
    M T E P (w.setCell ⟨g, i * 128 + k, none⟩ (bv y)) p g c r v { s with S := s.S.set i (s.S[i].set k y) } := by
  have hb := h.ok.lenS _ (List.getElem_mem hi)
  have hl := flat_length 128 _ (cells_len h.ok)
  rw [List.length_map] at hl
  have hle : i * 128 + 128 ≤ s.S.length * 128 := by
    have : (i + 1) * 128 ≤ s.S.length * 128 := Nat.mul_le_mul_right _ hi
    omega
  have h1 := flat_set1 128 (s.S.map cells) (cells_len h.ok) i (by simpa using hi) k hk (bv y)
  have e : (cellsS s.S ++ r).set (i * 128 + k) (bv y) = cellsS (s.S.set i (s.S[i].set k y)) ++ r := by
    unfold cellsS
    rw [List.set_append_left _ _ (by rw [hl]; omega), h1, List.map_set]
    simp
  have hrow : (w.setCell ⟨g, i * 128 + k, none⟩ (bv y)).heap[g]? = some (.cells (cellsS (s.S.set i (s.S[i].set k y)) ++ r).toArray E (0, 0)) := by
    rw [← e]
    exact (block_set h.row _).trans (by simp)
  have hC := Chg.setCell w g (i * 128 + k) (bv y)
  have hp : p < w.heap.size := h.there p (by simp [fp])
  exact ⟨by rw [hC.block p hp (fun e => h.ne1 (List.mem_singleton.1 e)), List.length_set]; exact h.obj, hrow, by rw [List.length_set]; exact h.cap, h.max,
    own_keep h.loose (fun k hk => hC.block k (h.there k (by simp [fp, hk])) (fun e => h.ne3 (by rw [hk, List.mem_singleton.1 e]))),
    ⟨set_len h.ok.lenS (by rw [List.length_set]; exact hb), by rw [List.length_set]; exact h.ok.some, by rw [List.length_set]; exact h.ok.most, h.ok.lenL, by rw [List.length_set]; exact h.ok.inL⟩, h.ne1, h.ne2, h.ne3, h.cutR, h.manyR⟩
theorem cell_sets_far {w : World} {g o : Nat} {vs : List Value} {a : Addr} (h : a.block ≠ g) : (w.setCells g o vs).cell? a = w.cell? a := by
  have hC := Chg.setCells g vs o w
  rcases Nat.lt_or_ge a.block w.heap.size with h1 | h1
  · simp only [World.cell?, hC.block a.block h1 (fun e => h (List.mem_singleton.1 e))]
  · have e : (w.setCells g o vs).heap.size = w.heap.size := by
      clear hC h h1
      induction vs generalizing o w with
      | nil => rfl
      | cons v r ih => rw [World.setCells, ih]; simp [World.setCell]
    simp only [World.cell?]
    rw [Array.getElem?_eq_none (by omega), Array.getElem?_eq_none (by omega)]
theorem range_sets_far {w : World} {g o b ob : Nat} {vs cs : List Value} (h : w.rangeAt b ob cs) (hne : b ≠ g) : (w.setCells g o vs).rangeAt b ob cs := fun j v hv => by
  rw [cell_sets_far (a := ⟨b, ob + j, none⟩) hne]
  exact h j v hv
theorem range_below {w w' : World} {b o : Nat} {cs : List Value} (h : w.rangeAt b o cs) (hb : Below w.heap.size w w') : w'.rangeAt b o cs := fun j v hv => by
  have h1 := h j v hv
  rw [hb.cell (p := ⟨b, o + j, none⟩) (World.block_lt_of_cell? w _ h1)]
  exact h1
end dk
end Go.Proofs.YtknndmhkfonfmaaDoor

/-
  WHAT MANY TEXTS SHARE: endings, the bytes' type, bytes of a call's own, bytes in a new block, integers that came in; cardexref00.Same.
-/
namespace Go.Proofs.YtknndmhkfonfmaaDoor
open Go.RowKit

theorem ret_bool {a b : Bool} (h : a = b) : Ending.returned (.bool a) = .returned (.bool b) := by rw [h]
theorem ret_slice {A : Option Addr} {n n' c c' : Nat} (h : n = n') (h' : c = c') : Ending.returned (.slice A n c) = .returned (.slice A n' c') := by rw [h, h']
theorem ret_int {k : IntKind} {a b : Int} (h : a = b) : Ending.returned (.int k a) = .returned (.int k b) := by rw [h]

theorem info_u8 : (Tryd.prog.info? 5).map (fun i => (i.zero, i.size, i.bytes)) = some (some (.int .u8 0), 1, 1) := by kernel_rfl
/-- how a call that answers bytes of its own ends -/
def OwnEnd (E : TypeId) (l : List UInt8) (w : World) (e : Ending) (w' : World) : Prop := ∃ v, e = .returned v ∧ OwnB E w' w.heap.size v l ∧ Below w.heap.size w w'

set_option maxRecDepth 100000 in
theorem own_empty (w : World) (e : TypeId) : OwnB e (w.alloc (.cells #[] e)) w.heap.size (.slice (some ⟨w.heap.size, 0, none⟩) 0 0) [] :=
  .inr ⟨w.heap.size, [], rfl, Nat.le_refl _, heap_alloc_new w _, by simp, by simp⟩
set_option maxRecDepth 100000 in
theorem bs_none {w : World} {n c : Nat} {l : List UInt8} (h : BS w none n c l) : n = 0 ∧ l = [] := by
  rcases Nat.eq_zero_or_pos n with h0 | h0
  · exact ⟨h0, List.eq_nil_of_length_eq_zero (h.len.trans h0)⟩
  · obtain ⟨b, o, he, _⟩ := h.has h0
    cases he

set_option maxRecDepth 100000 in
theorem own_lit (w : World) (e : TypeId) (l : List UInt8) (cs : Array Value) (hcs : cs = (l.map bv).toArray) (n : Nat) (hn : n = l.length) (hs : n ≤ 281474976710656) :
    OwnEnd e l w (.returned (.slice (some ⟨w.heap.size, 0, none⟩) n n)) (w.alloc (.cells cs e)) := by
  subst hcs hn
  exact ⟨_, rfl, .inr ⟨w.heap.size, [], by simp, Nat.le_refl _, by rw [List.append_nil]; exact heap_alloc_new w _, by simp; omega, hs⟩, (Below.refl _ _).alloc (Nat.le_refl _) _⟩

set_option maxRecDepth 100000 in
/-- bytes in a new block -/
theorem BS.lit (w : World) (e : TypeId) (l : List UInt8) (cs : Array Value) (hcs : cs = (l.map bv).toArray) (n : Nat) (hn : n = l.length) (hs : n ≤ 281474976710656) : BS (w.alloc (.cells cs e)) (some ⟨w.heap.size, 0, none⟩) n n l := by
  subst hcs hn
  refine ⟨rfl, Nat.le_refl _, by omega, hs, fun _ => ⟨_, _, rfl, by simp, fun i hi => ?_⟩⟩
  rw [Nat.zero_add]
  rw [cell_of_row _ _ i (l.map bv).toArray e (0, 0) (heap_alloc_new w _)]
  simp [hi]

set_option maxRecDepth 100000 in
theorem drop_bs {w : World} {A : Option Addr} {n c : Nat} {l : List UInt8} (h : BS w A n c l) {j : Nat} (hj : j < n) : BS w (A.map fun x => x.add j) (n - j) (c - j) (l.drop j) := by
  have hl := h.len
  have hc := h.cap
  have hm := h.max
  have := h.cut (at_ := j) (k := n - j) (c' := c - j) (by omega) (by omega) (by omega) (by omega)
  rwa [List.take_of_length_le (by simp; omega)] at this

set_option maxRecDepth 100000 in
theorem u32_nat {a : Int} (w : (Lit.int .u32 a).wf = true) : ∃ n : Nat, a = n ∧ n < 4294967296 := by
  have hx : 0 ≤ a ∧ a ≤ 4294967295 := by simpa [Lit.wf, IntKind.min, IntKind.max, IntKind.signed, IntKind.bits] using w
  exact ⟨a.toNat, by omega, by omega⟩
set_option maxRecDepth 100000 in
theorem u64_nat' {a : Int} (w : (Lit.int .u64 a).wf = true) : ∃ n : Nat, a = n ∧ n < 18446744073709551616 := by
  have hx : 0 ≤ a ∧ a ≤ 18446744073709551615 := by simpa [Lit.wf, IntKind.min, IntKind.max, IntKind.signed, IntKind.bits] using w
  exact ⟨a.toNat, by omega, by omega⟩
set_option maxRecDepth 100000 in
theorem i64_range {a : Int} (w : (Lit.int .i64 a).wf = true) : -9223372036854775808 ≤ a ∧ a ≤ 9223372036854775807 := by
  simpa [Lit.wf, IntKind.min, IntKind.max, IntKind.signed, IntKind.bits] using w

set_option maxRecDepth 100000 in
theorem i32_range {a : Int} (w : (Lit.int .i32 a).wf = true) : -2147483648 ≤ a ∧ a ≤ 2147483647 := by
  simpa [Lit.wf, IntKind.min, IntKind.max, IntKind.signed, IntKind.bits] using w

set_option maxRecDepth 100000 in
theorem same_any (A1 A2 : Option Addr) (n1 c1 n2 c2 : Nat) (l1 l2 : List UInt8) (w : World) (h1 : BS w A1 n1 c1 l1) (h2 : BS w A2 n2 c2 l2) :
    Calls Tryd.prog 31 #[.slice A1 n1 c1, .slice A2 n2 c2] w fun e w' => e = .returned (.bool (decide (l1 = l2))) ∧ w = w' := by
  have k1 := run_convert_bs (P := Tryd.prog) h1 23 5 9 Tryd.underlying23 Tryd.underlying5 Tryd.underlying9
  have k2 := run_convert_bs (P := Tryd.prog) h2 23 5 9 Tryd.underlying23 Tryd.underlying5 Tryd.underlying9
  go_enter Tryd.func31, Tryd.ntmps31
  go_wp2
  go_ret
  exact ⟨ret_bool (by by_cases h : l1 = l2 <;> simp [h]), rfl⟩

set_option maxRecDepth 100000 in
theorem same_true (A1 A2 : Option Addr) (n1 c1 n2 c2 : Nat) (l : List UInt8) (w : World) (h1 : BS w A1 n1 c1 l) (h2 : BS w A2 n2 c2 l) :
    Calls Tryd.prog 31 #[.slice A1 n1 c1, .slice A2 n2 c2] w fun e w' => e = .returned (.bool true) ∧ w = w' :=
  (same_any A1 A2 n1 c1 n2 c2 l l w h1 h2).mono fun _ _ h => by simpa using h
set_option maxRecDepth 100000 in
theorem same_false (A1 A2 : Option Addr) (n1 c1 n2 c2 : Nat) (l1 l2 : List UInt8) (w : World) (h1 : BS w A1 n1 c1 l1) (h2 : BS w A2 n2 c2 l2) (hne : l1 ≠ l2) :
    Calls Tryd.prog 31 #[.slice A1 n1 c1, .slice A2 n2 c2] w fun e w' => e = .returned (.bool false) ∧ w = w' :=
  (same_any A1 A2 n1 c1 n2 c2 l1 l2 w h1 h2).mono fun _ _ h => by simpa [hne] using h
set_option maxRecDepth 100000 in
theorem same_lit (A : Option Addr) (n c : Nat) (l : List UInt8) (w : World) (cs : Array Value) (hcs : cs = (l.map bv).toArray) (h : BS w A n c l) :
    Calls Tryd.prog 31 #[.slice A n c, .slice (some ⟨w.heap.size, 0, none⟩) n n] (w.alloc (.cells cs 5)) fun e w' => e = .returned (.bool true) ∧ Below w.heap.size w w' :=
  (same_true _ _ _ _ _ _ l _ (h.alloc _) (BS.lit w _ l cs hcs n h.len.symm h.small)).mono fun _ _ h => ⟨h.1, h.2 ▸ (Below.refl _ _).alloc (Nat.le_refl _) _⟩

end Go.Proofs.YtknndmhkfonfmaaDoor

/-
  WALKING OVER BLOCKS: a block is loaded and stored as one value; its cells are never written out.
-/
namespace Go.Proofs.YtknndmhkfonfmaaDoor
open Go.RowKit

theorem info_blk : (Tryd.prog.info? 62).map (·.size) = some 128 := by kernel_rfl
theorem info_blk' {b : dk.Blk} (hb : b.length = 128) : (Tryd.prog.info? 62).map (·.size) = some (dk.cells b).length := by rw [List.length_map, hb]; exact info_blk
theorem zero_blk : (Tryd.prog.info? 62).map (fun i => (i.zero, i.size)) = some (some (dk.val dk.zero), 128) := by kernel_rfl
theorem zero_len : dk.zero.length = 128 := List.length_replicate
theorem cells_one (b : dk.Blk) : (dk.cells b).toArray.all (·.oneCell') = true := all_oneCell_toArray (bvs_one b)
theorem new_range (w : World) (e : TypeId) (b : dk.Blk) : (w.alloc (.cells (dk.cells b).toArray e)).rangeAt w.heap.size 0 (dk.cells b) := fun j u hj => by
  rw [Nat.zero_add, cell_of_row _ _ j _ e (0, 0) (heap_alloc_new w _)]
  simpa using hj
theorem blk_range {w : World} {g : Nat} {b : dk.Blk} {e : TypeId} {fr : Nat × Nat} (h : w.heap[g]? = some (.cells (dk.cells b).toArray e fr)) : w.rangeAt g 0 (dk.cells b) :=
  range_of h 0 _ fun j v hj => by rw [Nat.zero_add]; exact hj
theorem blk_load {w : World} {g o : Nat} {b : dk.Blk} (h : w.rangeAt g o (dk.cells b)) (hb : b.length = 128) : (loadVar 62 ⟨g, o, none⟩).run Tryd.prog w = .ok (dk.val b) w :=
  run_loadVar_mid w g o _ _ _ h Tryd.underlying62 rfl (info_blk' hb)
theorem ret_tup {a b : Value} {x y : Value} (h : a = x) (h2 : b = y) : Ending.returned (.tuple #[a, b]) = .returned (.tuple #[x, y]) := by rw [h, h2]
theorem results_cell_tmp {fn : Func} {t u : Tmp} {T : TypeId} (h : fn.results = #[.cell t T, .tmp u]) {tmps : Array Value} {P : Program} {w : World} {a : Addr} {x : Value} (ht : tmps.getD t undef = .pointer (some a)) (hl : (loadVar T a).run P w = .ok x w) :
    (results fn tmps).run P w = .ok (.tuple #[x, tmps.getD u undef]) w := by
  have ht' : tmps[t]?.getD undef = .pointer (some a) := by simpa using ht
  simp [results, h, ht', asAddr, hl]
theorem results_cell {fn : Func} {t : Tmp} {T : TypeId} (h : fn.results = #[.cell t T]) {tmps : Array Value} {P : Program} {w : World} {a : Addr} {x : Value} (ht : tmps.getD t undef = .pointer (some a)) (hl : (loadVar T a).run P w = .ok x w) :
    (results fn tmps).run P w = .ok x w := by
  have ht' : tmps[t]?.getD undef = .pointer (some a) := by simpa using ht
  simp [results, h, ht', asAddr, hl]

/-- a new block, and a store into it -/
theorem new_chg {w W : World} {o : Obj} (h : Chg (w.alloc o) W [w.heap.size]) : Below w.heap.size w W :=
  ((Chg.alloc w o []).trans h (fun k hk => .inr (by simp at hk; omega))).below (Nat.le_refl _) (fun k hk => by simp at hk)

section
variable {ops : Array Oper} {rest : List Oper} {o : Oper} {a : Act} {w : World} {Q : Exit → Act → World → Prop}
/-- a block is loaded -/
theorem wp_ld (x : Operand) (b : dk.Blk) {g off : Nat} (hr : w.rangeAt g off (dk.cells b)) (hb : b.length = 128) (hgd : o.guard = none) (ho : o.op = .load 62 x) (hx : a.eval x = .pointer (some ⟨g, off, none⟩))
    (h : wpList Tryd.prog ops Q rest (a.put o.dst (dk.val b)) w) : wpList Tryd.prog ops Q (o :: rest) a w :=
  wpList_load_mid hgd _ x ho g off hx _ _ hr Tryd.underlying62 rfl (info_blk' hb) h
/-- a block is loaded, behind a guard -/
theorem wp_ldg {K : Act → World → Prop} (x : Operand) (b : dk.Blk) {g off : Nat} (hr : w.rangeAt g off (dk.cells b)) (hb : b.length = 128) (ho : o.op = .load 62 x) (hx : a.eval x = .pointer (some ⟨g, off, none⟩))
    (h : K (a.put o.dst (dk.val b)) w) : o.wp Tryd.prog a w K Q :=
  wp_load_mid _ x ho g off hx _ _ hr Tryd.underlying62 rfl (info_blk' hb) h
/-- a block is stored -/
theorem wp_st (x y : Operand) (b : dk.Blk) {g off : Nat} {cs : List Value} {E : TypeId} (hrow : w.heap[g]? = some (.cells cs.toArray E (0, 0))) (hlen : off + 128 ≤ cs.length) (hb : b.length = 128) (hgd : o.guard = none)
    (ho : o.op = .store 62 x y) (hx : a.eval x = .pointer (some ⟨g, off, none⟩)) (hy : a.eval y = dk.val b)
    (h : ∀ W, W.heap[g]? = some (.cells (cs.take off ++ dk.cells b ++ cs.drop (off + 128)).toArray E (0, 0)) → Chg w W [g] → wpList Tryd.prog ops Q rest (a.put o.dst undef) W) : wpList Tryd.prog ops Q (o :: rest) a w := by
  have hl : (dk.cells b).length = 128 := by rw [List.length_map, hb]
  have h2 := block_sets (dk.cells b) off cs w hrow (by rw [hl]; exact hlen)
  rw [hl] at h2
  refine wpList_store_mid hgd _ x y ho g off (dk.cells b).toArray hx hy ?_ (by simpa [hb] using info_blk) (cells_one b) ?_
  · have := there_of hrow off 128 hlen
    simpa [hb] using this
  · exact h _ h2 (Chg.setCells g _ _ _)
/-- a block is stored into a block of memory of its own -/
theorem wp_st0 (x y : Operand) (b : dk.Blk) {g : Nat} {old : dk.Blk} {E : TypeId} (hrow : w.heap[g]? = some (.cells (dk.cells old).toArray E (0, 0))) (hold : old.length = 128) (hb : b.length = 128) (hgd : o.guard = none)
    (ho : o.op = .store 62 x y) (hx : a.eval x = .pointer (some ⟨g, 0, none⟩)) (hy : a.eval y = dk.val b)
    (h : ∀ W, W.heap[g]? = some (.cells (dk.cells b).toArray E (0, 0)) → Chg w W [g] → wpList Tryd.prog ops Q rest (a.put o.dst undef) W) : wpList Tryd.prog ops Q (o :: rest) a w :=
  wp_st x y b hrow (by rw [List.length_map, hold]; omega) hb hgd ho hx hy fun W h1 h2 => h W (by
    rw [h1, List.take_zero, List.nil_append, List.drop_of_length_le (by rw [List.length_map, hold]; omega), List.append_nil]) h2
end

/-- in a region that draws: a block is loaded -/
theorem still_ld {ops : Array Oper} {rest : List Oper} {o : Oper} {a : Act} {w : World} {Q : Act → Prop} (x : Operand) (b : dk.Blk) {g off : Nat} (hr : w.rangeAt g off (dk.cells b)) (hb : b.length = 128) (ho : o.op = .load 62 x) (hx : a.eval x = .pointer (some ⟨g, off, none⟩))
    (hw : Region.wanted o (yielded ops a.tmps) = true) (h : wpStill Tryd.prog ops w Q rest (a.put o.dst (dk.val b))) : wpStill Tryd.prog ops w Q (o :: rest) a := by
  refine wpStill_step fun K hK => ?_
  rw [if_pos hw]
  unfold Oper.still execOp
  have hl := run_loadAt_mid (P := Tryd.prog) w g off 62 _ _ hr Tryd.underlying62 rfl (info_blk' hb)
  simp only [ho, hx, Sem.run_bind, hl, Sem.run_pure, Result.andThen_ok]
  rw [Oper.stillUpon_value]
  exact hK _ h
end Go.Proofs.YtknndmhkfonfmaaDoor

/-
  blocks compared.
-/
namespace Go.Proofs.YtknndmhkfonfmaaDoor
open Go.RowKit

set_option maxRecDepth 100000 in
theorem mapM_some {α β : Type} (f : α → Option β) (g : α → β) : ∀ l : List α, (∀ a ∈ l, f a = some (g a)) → l.mapM f = some (l.map g)
  | [], _ => rfl
  | a :: l, h => by
    rw [List.mapM_cons, h a (List.mem_cons_self ..), mapM_some f g l (fun x hx => h x (List.mem_cons_of_mem _ hx))]
    rfl
set_option maxRecDepth 100000 in
theorem wf_u8' (x : UInt8) : (Lit.int .u8 (x.toNat : Int)).wf = true := by
  have := x.toNat_lt
  simp [Lit.wf, IntKind.min, IntKind.max, IntKind.signed, IntKind.bits]
  omega
theorem cells_u8' : Tryd.prog.cellsOf 5 = 1 := by kernel_rfl
theorem cells_blk : Tryd.prog.cellsOf 62 = 128 := by kernel_rfl
set_option maxRecDepth 100000 in
theorem lits_blk (b : dk.Blk) (hb : b.length = 128) : Tryd.prog.keyLits 2 62 (dk.val b).cells.toList = some (b.map fun x => Lit.int .u8 (x.toNat : Int)) := by
  unfold Program.keyLits
  rw [Tryd.underlying62]
  have hc : (dk.val b).cells.toList = dk.cells b := by simp [Value.cells]
  rw [hc]
  simp only [cells_blk, cells_u8']
  rw [if_pos (by rw [List.length_map, hb])]
  rw [mapM_some _ (fun i => [Lit.int .u8 ((b.getD i 0).toNat : Int)]) _ (fun i hi => by
    have hi' : i < b.length := by rw [hb]; exact List.mem_range.1 hi
    have e : ((dk.cells b).drop (i * 1)).take 1 = [bv (b.getD i 0)] := by
      rw [Nat.mul_one, List.getD_eq_getElem?_getD, List.getElem?_eq_getElem hi', List.drop_eq_getElem_cons (by rw [List.length_map]; exact hi')]
      simp
    rw [e]
    unfold Program.keyLits
    rw [Tryd.underlying5]
    simp [wf_u8'])]
  rw [Option.map_some]
  congr 1
  rw [← List.flatMap_def]
  apply List.ext_getElem?
  intro i
  have e2 : ((List.range 128).flatMap fun i => [Lit.int .u8 ((b.getD i 0).toNat : Int)]) = (List.range 128).map fun i => Lit.int .u8 ((b.getD i 0).toNat : Int) := by
    rw [List.map_eq_flatMap]
  rw [e2, List.getElem?_map, List.getElem?_map]
  by_cases hi : i < 128
  · rw [List.getElem?_range hi, List.getElem?_eq_getElem (by omega)]
    simp [List.getD, hb, hi]
  · rw [List.getElem?_eq_none (by simp; omega), List.getElem?_eq_none (by omega)]
    rfl
set_option maxRecDepth 100000 in
theorem eq_blk (a b : dk.Blk) (ha : a.length = 128) (hb : b.length = 128) (W : World) : (Op.equalIn 10000 62 (dk.val a) (dk.val b)).run Tryd.prog W = .ok (decide (a = b)) W := by
  obtain ⟨r, hr, hiff⟩ := run_equalIn_deep (P := Tryd.prog) 9998 2 62 (by kernel_rfl) W 2 2 _ _ _ _ (by simp [Value.formed, Tryd.underlying62, cells_blk, ha]) (by simp [Value.formed, Tryd.underlying62, cells_blk, hb]) (lits_blk a ha) (lits_blk b hb)
  refine hr.trans ?_
  congr 1
  rw [Bool.eq_iff_iff, hiff, decide_eq_true_iff]
  constructor
  · intro h
    have hinj : ∀ x y : UInt8, Lit.int .u8 (x.toNat : Int) = Lit.int .u8 (y.toNat : Int) → x = y := fun x y e => by
      injection e with _ e
      exact UInt8.toNat_inj.1 (by omega)
    exact List.map_inj_right hinj |>.1 h
  · intro h; rw [h]
set_option maxRecDepth 100000 in
/-- a block is loaded, behind a guard that holds -/
theorem wp_ldw {ops : Array Oper} {rest : List Oper} {o : Oper} {a : Act} {w : World} {Q : Exit → Act → World → Prop} (x : Operand) (b : dk.Blk) {g off : Nat} (hr : w.rangeAt g off (dk.cells b)) (hb : b.length = 128) (ho : o.op = .load 62 x) (hx : a.eval x = .pointer (some ⟨g, off, none⟩))
    (hw : Region.wanted o (yielded ops a.tmps) = true) (h : wpList Tryd.prog ops Q rest (a.put o.dst (dk.val b)) w) : wpList Tryd.prog ops Q (o :: rest) a w :=
  wpList_step fun K hK => by
    rw [if_pos hw]
    exact wp_ldg x b hr hb ho hx (hK _ _ h)
end Go.Proofs.YtknndmhkfonfmaaDoor

/-
  ARGUMENTS OPENED: a block by value, a slice of integers, a slice of structs with a block.
-/
namespace Go.Proofs.YtknndmhkfonfmaaDoor
open Go.ChangeShapes Go.WideShapes Go.ChangeAt Go.RowKit

section
variable {H : Type} {enc : TypeId × Value → H} {W : World}

set_option maxRecDepth 100000 in
theorem byte_of_wf' {n : Int} (hw : (Lit.int .u8 n).wf = true) : ∃ x : UInt8, Value.int .u8 n = bv x := by
  have hx : 0 ≤ n ∧ n ≤ 255 := by simpa [Lit.wf, IntKind.min, IntKind.max, IntKind.signed, IntKind.bits] using hw
  refine ⟨UInt8.ofNat n.toNat, ?_⟩
  simp
  omega
set_option maxRecDepth 100000 in
/-- a block, by its cells -/
theorem open_blk {sp : Nat → Bool} {held : Bool} {fuel : Nat} {cs : List Value} {x : DataW H × List MemPlace} (h : DataW.trod enc Tryd.prog W 0 sp held fuel 62 cs = some x) : ∃ b : dk.Blk, b.length = 128 ∧ cs = dk.cells b := by
  obtain ⟨xs, m, rfl, rfl, hl, hxl, hx⟩ := DataW.trod_array Tryd.underlying62 h
  rw [cells_blk] at hl
  have each : ∀ i, i < 128 → ∃ y : UInt8, cs[i]? = some (bv y) := fun i hi => by
    have h1 := hx i hi
    rw [cells_u8', Nat.mul_one, List.getElem?_eq_getElem (by omega)] at h1
    obtain ⟨n, hn, _, hw⟩ := DataW.trod_int Tryd.underlying5 h1
    rw [List.drop_eq_getElem_cons (by omega)] at hn
    simp only [List.take_succ_cons, List.take_zero, List.cons.injEq, and_true] at hn
    obtain ⟨y, hy⟩ := byte_of_wf' hw
    exact ⟨y, by rw [List.getElem?_eq_getElem (by omega), hn, hy]⟩
  obtain ⟨Y, hY⟩ := Deep.choose_lt each
  refine ⟨(List.range 128).map Y, by simp, ?_⟩
  apply List.ext_getElem?
  intro i
  by_cases hi : i < 128
  · rw [hY i hi, List.getElem?_map, List.getElem?_map, List.getElem?_range hi]
    rfl
  · rw [List.getElem?_eq_none (by omega), List.getElem?_eq_none (by simp; omega)]

set_option maxRecDepth 100000 in
/-- a block, by value -/
theorem open_blk_val {base : Nat} {v : Value} {d : DataW H} {ps : List MemPlace}
    (hval : Value.okWide Tryd.prog W .any base 62 v) (h : DataW.Trod enc Tryd.prog W 0 (fun _ => true) true 62 v d ps) : ∃ b : dk.Blk, v = dk.val b ∧ b.length = 128 := by
  obtain ⟨cs, rfl, hsz, _⟩ : ∃ cs, v = .agg cs ∧ cs.size = Tryd.prog.cellsOf 62 ∧ Row.okWide Tryd.prog W .any base 62 cs := by
    simpa [Value.okWide, Tryd.underlying62] using hval
  obtain ⟨fuel, hf⟩ := h
  obtain ⟨b, hb, hcs⟩ := open_blk hf
  refine ⟨b, ?_, hb⟩
  simp only [Value.cells] at hcs
  rw [dk.val, ← hcs]

set_option maxRecDepth 100000 in
theorem cells_spot {n : Nat} {a : Addr} {cs : List Value} (hn : 0 < n) (h : W.cells? 0 a n = some cs) : ∃ b o, a = ⟨b, o, none⟩ ∧ b < W.heap.size ∧ cs.length = n ∧ ∀ i, i < n → W.cell? ⟨b, o + i, none⟩ = cs[i]? := by
  unfold World.cells? at h
  rw [if_pos (Nat.zero_le _)] at h
  have hlen : cs.length = n := by simpa using mapM_some_length h
  have hget : ∀ i, i < n → W.cell? (a.add i) = cs[i]? := fun i hi => by
    have := mapM_some_get h i i (by simp [hi])
    exact this
  have h0 := hget 0 hn
  rw [List.getElem?_eq_getElem (by omega)] at h0
  have hsp : a.spot = none := by
    have : a.add 0 = a := by simp [Addr.add]
    rw [this] at h0
    unfold World.cell? at h0
    split at h0
    · cases hsp : a.spot with
      | none => rfl
      | some x => simp [hsp] at h0
    · cases h0
  obtain ⟨b, o, sp⟩ := a
  simp only at hsp
  subst hsp
  refine ⟨b, o, rfl, World.block_lt_of_cell? _ _ h0, hlen, fun i hi => ?_⟩
  rw [← hget i hi, Addr.add_lit]
end


set_option maxRecDepth 100000 in
/-- a slice of integers, by its cell -/
theorem open_is {H : Type} {enc : TypeId × Value → H} {W : World} {fuel : Nat} {cs : List Value} {x : DataW H × List MemPlace} (h : DataW.trod enc Tryd.prog W 0 (fun _ => true) true fuel 24 cs = some x) : ∃ A n c l, cs = [.slice A n c] ∧ IS W A n c l := by
  rcases open_ints Tryd.underlying24 Tryd.underlying3 (by kernel_rfl) h with ⟨hcs, hx⟩ | ⟨a, len, cap, zs, hcs, _, hl, hm, hz, hx, hcell, hwz⟩
  · exact ⟨none, 0, 0, [], hcs, rfl, Nat.le_refl _, by omega, fun h => absurd h (by omega)⟩
  · rw [maxLen_eq] at hm
    simp only [if_true] at hz
    refine ⟨some a, len, cap, zs.take len, hcs, by simp; omega, hl, hm, fun h0 => ?_⟩
    have hc0 := hcell 0 (by omega)
    have hsp : a.spot = none := by
      have : a.add 0 = a := by simp [Addr.add]
      rw [this] at hc0
      unfold World.cell? at hc0
      split at hc0
      · cases hsp : a.spot with
        | none => rfl
        | some x => simp [hsp] at hc0
      · cases hc0
    obtain ⟨b, o, sp⟩ := a
    simp only at hsp
    subst hsp
    refine ⟨b, o, rfl, World.block_lt_of_cell? _ _ hc0, fun i hi => ?_⟩
    have hi' : i < zs.length := by simp at hi; omega
    have := hcell i (by simp at hi; omega)
    rw [Addr.add_lit] at this
    rw [this]
    simp [List.getD, hi']
set_option maxRecDepth 100000 in
theorem open_picks {H : Type} {enc : TypeId × Value → H} {W : World} {base : Nat} {v : Value} {d : DataW H} {ps : List MemPlace}
    (hval : Value.okWide Tryd.prog W .any base 24 v) (h : DataW.Trod enc Tryd.prog W 0 (fun _ => true) true 24 v d ps) : ∃ A n c l, v = .slice A n c ∧ IS W A n c l := by
  obtain ⟨a0, len, cap, rfl⟩ := okWide_slice Tryd.underlying24 hval
  obtain ⟨fuel, hf⟩ := h
  obtain ⟨A, n, c, l, hcs, hI⟩ := open_is hf
  simp [Value.cells] at hcs
  obtain ⟨rfl, rfl, rfl⟩ := hcs
  exact ⟨_, _, _, l, rfl, hI⟩


end Go.Proofs.YtknndmhkfonfmaaDoor

/-
  PURE: a rest is a word of 32 bits; what a bit, bytes, rows of bytes leave of it; what is true of them. No program is named here.
-/
namespace Go.Proofs.YtknndmhkfonfmaaDoor.crc

abbrev W := BitVec 32
/-- moved on by a bit -/
def one (x : W) : W := if x.getLsbD 0 then (x >>> 1) ^^^ 2197175160#32 else x >>> 1
/-- moved on by k bits -/
def on : Nat → W → W
  | 0, x => x
  | k + 1, x => on k (one x)

theorem xor4 (a b c d : W) : (a ^^^ b) ^^^ (c ^^^ d) = (a ^^^ c) ^^^ (b ^^^ d) := by
  ext i; simp; cases a[i] <;> cases b[i] <;> cases c[i] <;> cases d[i] <;> rfl
theorem xor_swap (a b c : W) : (a ^^^ b) ^^^ c = (a ^^^ c) ^^^ b := by
  ext i; simp; cases a[i] <;> cases b[i] <;> cases c[i] <;> rfl
theorem xor_two (a b : W) : (a ^^^ b) ^^^ b = a := by
  ext i; simp
theorem one_xor (x y : W) : one (x ^^^ y) = one x ^^^ one y := by
  unfold one
  rw [BitVec.getLsbD_xor, BitVec.ushiftRight_xor_distrib]
  cases x.getLsbD 0 <;> cases y.getLsbD 0 <;> simp
  · rw [BitVec.xor_assoc]
  · rw [xor_swap]
  · rw [xor4]; simp
theorem one_zero : one 0#32 = 0#32 := by decide
theorem on_xor (k : Nat) (x y : W) : on k (x ^^^ y) = on k x ^^^ on k y := by
  induction k generalizing x y with
  | zero => rfl
  | succ k ih => rw [on, one_xor, ih]; rfl
theorem on_zero (k : Nat) : on k 0#32 = 0#32 := by
  induction k with
  | zero => rfl
  | succ k ih => rw [on, one_zero, ih]
theorem on_add (k m : Nat) (x : W) : on (k + m) x = on m (on k x) := by
  induction k generalizing x with
  | zero => rw [Nat.zero_add]; rfl
  | succ k ih => rw [Nat.succ_add, on, ih]; rfl
theorem on_succ' (k : Nat) (x : W) : on (k + 1) x = one (on k x) := by rw [on_add]; rfl
theorem one_inj0 (x : W) (h : one x = 0#32) : x = 0#32 := by
  unfold one at h
  cases hb : x.getLsbD 0 with
  | true =>
    rw [if_pos hb] at h
    have h31 := congrArg (fun z : W => z.getLsbD 31) h
    simp at h31
  | false =>
    rw [if_neg (by rw [hb]; simp)] at h
    apply BitVec.eq_of_getLsbD_eq
    intro i hi
    rcases i with _ | i
    · rw [hb]; simp
    · have h1 := congrArg (fun z : W => z.getLsbD i) h
      simp only [BitVec.getLsbD_ushiftRight] at h1
      rw [Nat.add_comm, h1]
      simp
theorem one_inj (x y : W) (h : one x = one y) : x = y := by
  have h1 : one (x ^^^ y) = 0#32 := by rw [one_xor, h, BitVec.xor_self]
  have h2 := one_inj0 _ h1
  have h3 : (x ^^^ y) ^^^ y = 0#32 ^^^ y := by rw [h2]
  rwa [xor_two, BitVec.zero_xor] at h3
theorem on_inj (k : Nat) (x y : W) (h : on k x = on k y) : x = y := by
  induction k generalizing x y with
  | zero => exact h
  | succ k ih => exact one_inj _ _ (ih _ _ h)

/-- a byte as a word -/
def wb (c : UInt8) : W := BitVec.ofNat 32 c.toNat
def into (x : W) (c : UInt8) : W := on 8 (x ^^^ wb c)
def go (x : W) : List UInt8 → W
  | [] => x
  | c :: l => go (into x c) l
def more (s : W) (l : List UInt8) : W := ~~~ (go (~~~ s) l)
def of (l : List UInt8) : W := more 0#32 l
def join (a b : W) (n : Nat) : W := on (8 * n) a ^^^ b

theorem on8 (x : W) : on 8 x = on 4 (on 4 x) := on_add 4 4 x
theorem into_four (x : W) (c : UInt8) : into x c = on 4 (on 4 (x ^^^ wb c)) := on8 _
theorem go_append (x : W) (l m : List UInt8) : go x (l ++ m) = go (go x l) m := by
  induction l generalizing x with
  | nil => rfl
  | cons c l ih => exact ih _
theorem go_snoc (x : W) (l : List UInt8) (c : UInt8) : go x (l ++ [c]) = into (go x l) c := by rw [go_append]; rfl
theorem into_two (x y : W) (c : UInt8) : into x c ^^^ into y c = on 8 (x ^^^ y) := by
  unfold into
  rw [← on_xor, xor4, BitVec.xor_self, BitVec.xor_zero]
theorem go_two (x y : W) (l : List UInt8) : go x l ^^^ go y l = on (8 * l.length) (x ^^^ y) := by
  induction l generalizing x y with
  | nil => rfl
  | cons c l ih =>
    rw [go, go, ih, into_two, ← on_add]
    congr 1
    simp
    omega
theorem not_two (x y : W) : ~~~ x ^^^ ~~~ y = x ^^^ y := by
  ext i; simp
theorem more_append (s : W) (l m : List UInt8) : more s (l ++ m) = more (more s l) m := by
  unfold more
  rw [go_append, BitVec.not_not]
theorem of_nil : of [] = 0#32 := by decide
theorem more_nil (s : W) : more s [] = s := by simp [more, go]
theorem more_two (s t : W) (l : List UInt8) : more s l ^^^ more t l = on (8 * l.length) (s ^^^ t) := by
  unfold more
  rw [not_two, go_two, not_two]
theorem of_append (l m : List UInt8) : of (l ++ m) = join (of l) (of m) m.length := by
  have h := more_two (of l) 0#32 m
  rw [BitVec.xor_zero] at h
  unfold join
  rw [← h]
  show of (l ++ m) = more (of l) m ^^^ more 0#32 m ^^^ more 0#32 m
  rw [xor_two]
  exact more_append 0#32 l m
theorem join_nil (b : W) (n : Nat) : join (of []) b n = b := by
  unfold join
  rw [of_nil, on_zero, BitVec.zero_xor]
theorem more_inj (s t : W) (l : List UInt8) (h : more s l = more t l) : s = t := by
  have h1 := more_two s t l
  rw [h, BitVec.xor_self] at h1
  have h2 := on_inj _ _ _ (h1.symm.trans (on_zero (8 * l.length)).symm)
  have h3 : (s ^^^ t) ^^^ t = 0#32 ^^^ t := by rw [h2]
  rwa [xor_two, BitVec.zero_xor] at h3

/-- what has no low bits comes down -/
theorem one_even (x : W) (h : x.getLsbD 0 = false) : one x = x >>> 1 := by
  unfold one
  rw [h]
  simp
theorem on_low (k : Nat) (x : W) (h : ∀ i, i < k → x.getLsbD i = false) : on k x = x >>> k := by
  induction k generalizing x with
  | zero => simp [on]
  | succ k ih =>
    rw [on, one_even x (h 0 (by omega)), ih _ (fun i hi => by rw [BitVec.getLsbD_ushiftRight]; exact h _ (by omega)), ← BitVec.shiftRight_add, Nat.add_comm]
/-- a byte that is moved up by k bits, and k bits on, is the byte -/
theorem on_up (k : Nat) (c : UInt8) (hk : k ≤ 24) : on k (wb c <<< k) = wb c := by
  rw [on_low _ _ (fun i hi => by simp [hi])]
  apply BitVec.eq_of_getLsbD_eq
  intro i hi
  rw [BitVec.getLsbD_ushiftRight, BitVec.getLsbD_shiftLeft]
  by_cases h : k + i < 32
  · simp [h]
  · have hc := c.toNat_lt
    have : (wb c).getLsbD i = false := by
      unfold wb
      rw [BitVec.getLsbD_ofNat]
      rw [Nat.testBit_lt_two_pow (Nat.lt_of_lt_of_le hc (by rw [show (2 : Nat) ^ 8 = 256 from rfl, show (256 : Nat) = 2 ^ 8 from rfl]; exact Nat.pow_le_pow_right (by omega) (by omega)))]
      simp
    rw [this]
    simp [h]
/-- four bytes as a word, the first one lowest -/
def le4 (a b c d : UInt8) : W := wb a ^^^ wb b <<< 8 ^^^ wb c <<< 16 ^^^ wb d <<< 24
theorem go4 (x : W) (a b c d : UInt8) : go x [a, b, c, d] = on 32 (x ^^^ le4 a b c d) := by
  have hb : on 8 (wb b <<< 8) = wb b := on_up 8 b (by omega)
  have hc : on 8 (on 8 (wb c <<< 16)) = wb c := by rw [← on_add]; exact on_up 16 c (by omega)
  have hd : on 8 (on 8 (on 8 (wb d <<< 24))) = wb d := by rw [← on_add, ← on_add]; exact on_up 24 d (by omega)
  have h32 : ∀ y : W, on 32 y = on 8 (on 8 (on 8 (on 8 y))) := fun y => by
    rw [← on_add, ← on_add, ← on_add]
  rw [h32]
  show on 8 (on 8 (on 8 (on 8 (x ^^^ wb a) ^^^ wb b) ^^^ wb c) ^^^ wb d) = _
  unfold le4
  simp only [on_xor, hb, hc, hd, BitVec.xor_assoc]
theorem wb_bit (c : UInt8) (i : Nat) : (wb c).getLsbD i = c.toNat.testBit i := by
  unfold wb
  rw [BitVec.getLsbD_ofNat]
  by_cases h : i < 32
  · simp [h]
  · have hc := c.toNat_lt
    rw [Nat.testBit_lt_two_pow (Nat.lt_of_lt_of_le hc (by rw [show (2 : Nat) ^ 8 = 256 from rfl, show (256 : Nat) = 2 ^ 8 from rfl]; exact Nat.pow_le_pow_right (by omega) (by omega)))]
    simp
theorem byte_high (c : UInt8) (i : Nat) (h : 8 ≤ i) : c.toNat.testBit i = false := by
  have hc := c.toNat_lt
  exact Nat.testBit_lt_two_pow (Nat.lt_of_lt_of_le hc (by rw [show (2 : Nat) ^ 8 = 256 from rfl, show (256 : Nat) = 2 ^ 8 from rfl]; exact Nat.pow_le_pow_right (by omega) (by omega)))
theorem le4_bit (a b c d : UInt8) (i : Nat) (h : i < 32) : (le4 a b c d).getLsbD i =
    (a.toNat.testBit i ^^ (decide (8 ≤ i) && b.toNat.testBit (i - 8)) ^^ (decide (16 ≤ i) && c.toNat.testBit (i - 16)) ^^ (decide (24 ≤ i) && d.toNat.testBit (i - 24))) := by
  unfold le4
  simp only [BitVec.getLsbD_xor, BitVec.getLsbD_shiftLeft, wb_bit, h, decide_true, Bool.true_and]
  have e : ∀ k, (!decide (i < k)) = decide (k ≤ i) := fun k => by
    by_cases hk : i < k
    · simp [hk]
    · simp [hk]; omega
  rw [e, e, e]
theorem byte_eq {a a' : UInt8} (h : ∀ j, j < 8 → a.toNat.testBit j = a'.toNat.testBit j) : a = a' := by
  apply UInt8.toNat_inj.1
  apply Nat.eq_of_testBit_eq
  intro j
  by_cases hj : j < 8
  · exact h j hj
  · rw [byte_high a j (by omega), byte_high a' j (by omega)]
theorem le4_inj {a b c d a' b' c' d' : UInt8} (h : le4 a b c d = le4 a' b' c' d') : a = a' ∧ b = b' ∧ c = c' ∧ d = d' := by
  have hb : ∀ i, i < 32 → _ := fun i hi => (le4_bit a b c d i hi).symm.trans ((congrArg (fun z : W => z.getLsbD i) h).trans (le4_bit a' b' c' d' i hi))
  refine ⟨byte_eq fun j hj => ?_, byte_eq fun j hj => ?_, byte_eq fun j hj => ?_, byte_eq fun j hj => ?_⟩
  · have := hb j (by omega)
    simpa [show ¬ 8 ≤ j from by omega, show ¬ 16 ≤ j from by omega, show ¬ 24 ≤ j from by omega] using this
  · have := hb (8 + j) (by omega)
    simpa [show ¬ 16 ≤ 8 + j from by omega, show ¬ 24 ≤ 8 + j from by omega, byte_high _ (8 + j) (by omega)] using this
  · have := hb (16 + j) (by omega)
    simpa [show 8 ≤ 16 + j from by omega, show ¬ 24 ≤ 16 + j from by omega, byte_high _ (16 + j) (by omega), byte_high _ (16 + j - 8) (by omega)] using this
  · have := hb (24 + j) (by omega)
    simpa [show 8 ≤ 24 + j from by omega, show 16 ≤ 24 + j from by omega, byte_high _ (24 + j) (by omega), byte_high _ (24 + j - 8) (by omega), byte_high _ (24 + j - 16) (by omega)] using this
/-- FOUR BYTES SIDE BY SIDE -/
theorem side (ahead behind : List UInt8) (a b c d a' b' c' d' : UInt8) (h : of (ahead ++ [a, b, c, d] ++ behind) = of (ahead ++ [a', b', c', d'] ++ behind)) : a = a' ∧ b = b' ∧ c = c' ∧ d = d' := by
  unfold of at h
  rw [more_append, more_append 0#32 (ahead ++ [a', b', c', d'])] at h
  have h1 := more_inj _ _ _ h
  rw [more_append, more_append 0#32 ahead] at h1
  have h2 : go (~~~ more 0#32 ahead) [a, b, c, d] = go (~~~ more 0#32 ahead) [a', b', c', d'] := by
    have h3 := congrArg (fun z : W => ~~~ z) h1
    simpa only [more, BitVec.not_not] using h3
  rw [go4, go4] at h2
  have h3 := on_inj _ _ _ h2
  have h4 := congrArg (fun z : W => z ^^^ ~~~ more 0#32 ahead) h3
  simp only [BitVec.xor_comm _ (le4 a b c d), BitVec.xor_comm _ (le4 a' b' c' d'), xor_two] at h4
  exact le4_inj h4

/-- what agrees at each bit alone agrees -/
theorem lin_eq (f g : W → W) (hf : ∀ x y, f (x ^^^ y) = f x ^^^ f y) (hg : ∀ x y, g (x ^^^ y) = g x ^^^ g y)
    (h : ∀ i : Fin 32, f (BitVec.twoPow 32 i) = g (BitVec.twoPow 32 i)) (x : W) : f x = g x := by
  have f0 : f 0#32 = 0#32 := by have := hf 0#32 0#32; simpa using this
  have g0 : g 0#32 = 0#32 := by have := hg 0#32 0#32; simpa using this
  have key : ∀ k, k ≤ 32 → ∀ x : W, (∀ i, k ≤ i → x.getLsbD i = false) → f x = g x := by
    intro k
    induction k with
    | zero =>
      intro _ x hx
      have : x = 0#32 := BitVec.eq_of_getLsbD_eq fun i hi => by rw [hx i (Nat.zero_le _)]; simp
      rw [this, f0, g0]
    | succ k ih =>
      intro hk x hx
      have ih := ih (by omega)
      cases hb : x.getLsbD k with
      | false =>
        exact ih x fun i hi => by
          rcases Nat.eq_or_lt_of_le hi with rfl | hi
          · exact hb
          · exact hx i hi
      | true =>
        have h1 : f (x ^^^ BitVec.twoPow 32 k) = g (x ^^^ BitVec.twoPow 32 k) := ih _ fun i hi => by
          rw [BitVec.getLsbD_xor, BitVec.getLsbD_twoPow]
          rcases Nat.eq_or_lt_of_le hi with rfl | hi
          · rw [hb]
            simp
            omega
          · rw [hx i hi]
            simp
            try omega
        have h2 := h ⟨k, by omega⟩
        simp only at h2
        have h3 : x = (x ^^^ BitVec.twoPow 32 k) ^^^ BitVec.twoPow 32 k := (xor_two _ _).symm
        rw [h3, hf, hg, h1, h2]
  exact key 32 (Nat.le_refl _) x fun i hi => BitVec.getLsbD_of_ge _ _ hi

theorem on4_add (x y : W) : ((x ^^^ y) >>> 4) ^^^ on 4 ((x ^^^ y) &&& 15#32) = ((x >>> 4) ^^^ on 4 (x &&& 15#32)) ^^^ ((y >>> 4) ^^^ on 4 (y &&& 15#32)) := by
  have e : (x ^^^ y) &&& 15#32 = (x &&& 15#32) ^^^ (y &&& 15#32) := by
    ext i
    simp only [BitVec.getElem_and, BitVec.getElem_xor]
    cases x[i] <;> cases y[i] <;> simp
  rw [e, on_xor, BitVec.ushiftRight_xor_distrib, xor4]
/-- four bits at once -/
theorem on4 (x : W) : on 4 x = (x >>> 4) ^^^ on 4 (x &&& 15#32) :=
  lin_eq (on 4) (fun x => (x >>> 4) ^^^ on 4 (x &&& 15#32)) (on_xor 4) on4_add (by decide +kernel) x

/-- the product, as the code reckons it: place by place -/
def timesN (a b : W) : Nat → W
  | 0 => 0#32
  | j + 1 => one (timesN a b j) ^^^ (if b.getLsbD j then a else 0#32)
def times (a b : W) : W := timesN a b 32
theorem timesN_add (a a' b : W) (j : Nat) : timesN (a ^^^ a') b j = timesN a b j ^^^ timesN a' b j := by
  induction j with
  | zero => simp [timesN]
  | succ j ih =>
    rw [timesN, timesN, timesN, ih, one_xor, xor4]
    cases b.getLsbD j <;> simp
theorem timesN_down (a b : W) (j : Nat) : timesN a b (j + 1) = timesN a (b >>> 1) j ^^^ (if b.getLsbD 0 then on j a else 0#32) := by
  induction j with
  | zero => simp [timesN, one_zero, on]
  | succ j ih =>
    rw [timesN, ih, timesN, one_xor]
    have e : (b >>> 1).getLsbD j = b.getLsbD (j + 1) := by rw [BitVec.getLsbD_ushiftRight, Nat.add_comm]
    have e2 : one (if b.getLsbD 0 = true then on j a else 0#32) = (if b.getLsbD 0 = true then on (j + 1) a else 0#32) := by
      cases b.getLsbD 0
      · simp [one_zero]
      · simp [on_succ']
    rw [e, e2, xor_swap]
theorem times_poly (a : W) : times a 2197175160#32 = on 32 a :=
  lin_eq (fun a => times a 2197175160#32) (on 32) (fun x y => timesN_add x y _ 32) (on_xor 32) (by decide +kernel) a
theorem times_add (a b c : W) (j : Nat) : timesN a (b ^^^ c) j = timesN a b j ^^^ timesN a c j := by
  induction j with
  | zero => simp [timesN]
  | succ j ih =>
    rw [timesN, timesN, timesN, ih, one_xor, xor4, BitVec.getLsbD_xor]
    cases b.getLsbD j <;> cases c.getLsbD j <;> simp
theorem times_shift (a b : W) : times a (b >>> 1) ^^^ (if b.getLsbD 0 then on 32 a else 0#32) = one (times a b) := by
  have h := timesN_down a b 32
  have h2 : timesN a b 33 = one (times a b) := by
    show one (timesN a b 32) ^^^ (if b.getLsbD 32 then a else 0#32) = _
    rw [BitVec.getLsbD_of_ge b 32 (Nat.le_refl _)]
    simp [times]
  rw [← h2, h]
  rfl
theorem times_one (a b : W) : times a (one b) = one (times a b) := by
  rw [← times_shift]
  unfold one
  cases hb : b.getLsbD 0 with
  | false => simp
  | true =>
    simp only [if_true]
    rw [← times_poly]
    exact times_add a _ _ 32
theorem times_on (a b : W) (k : Nat) : times a (on k b) = on k (times a b) := by
  induction k generalizing b with
  | zero => rfl
  | succ k ih => rw [on, ih, times_one]; rfl
/-- what 1 << 31 comes to, moved on by k bits, moves on by k bits -/
theorem times_top (a : W) : times a 2147483648#32 = a :=
  lin_eq (fun a => times a 2147483648#32) (fun a => a) (fun x y => timesN_add x y _ 32) (fun _ _ => rfl) (by decide +kernel) a
theorem times_step (a : W) (k : Nat) : times a (on k 2147483648#32) = on k a := by rw [times_on, times_top]
theorem step_byte : (8388608#32 : W) = on 8 2147483648#32 := by decide +kernel
end Go.Proofs.YtknndmhkfonfmaaDoor.crc

/-
  contracts of crc's functions: byOne, byFour, times, On, Into, More, Of, Join.
-/
namespace Go.Proofs.YtknndmhkfonfmaaDoor
open Go.RowKit

/-- a rest as a value -/
abbrev wv (x : crc.W) : Value := .int .u32 (x.toNat : Int)
theorem wv_ret {x : crc.W} {a : Int} (h : a = (x.toNat : Int)) : Ending.returned (.int .u32 a) = .returned (wv x) := by rw [h]
theorem wv_shr (x : crc.W) (j : Nat) : (x.toNat : Int) / (2 : Int) ^ j = ((x >>> j).toNat : Int) := by
  rw [BitVec.toNat_ushiftRight, Nat.shiftRight_eq_div_pow, Int.natCast_ediv, Int.natCast_pow]
  rfl
theorem wv_half (x : crc.W) : (x.toNat : Int) / (2 : Int) = ((x >>> 1).toNat : Int) := by
  rw [← wv_shr, Int.pow_one]
theorem wv_xor (x y : crc.W) : bits .xor .u32 (x.toNat : Int) (y.toNat : Int) = ((x ^^^ y).toNat : Int) := by
  rw [u32_xor_nat _ _ x.isLt y.isLt, BitVec.toNat_xor]
theorem wv_and (x y : crc.W) : bits .and .u32 (x.toNat : Int) (y.toNat : Int) = ((x &&& y).toNat : Int) := by
  rw [u32_and_nat _ _ x.isLt y.isLt, BitVec.toNat_and]
theorem wv_bit (x : crc.W) : bits .and .u32 (x.toNat : Int) 1 = if x.getLsbD 0 then 1 else 0 := by
  rw [show (1 : Int) = ((1 : Nat) : Int) from rfl, u32_and_nat _ _ x.isLt (by omega), Nat.and_one_is_mod]
  have e : x.getLsbD 0 = decide (x.toNat % 2 = 1) := by
    rw [← BitVec.testBit_toNat, Nat.testBit_zero]
  rw [e]
  by_cases h : x.toNat % 2 = 1
  · simp [h]
  · simp [h]; omega
theorem wv_bit_ne (x : crc.W) : (bits .and .u32 (x.toNat : Int) 1 != 0) = x.getLsbD 0 := by
  rw [wv_bit]
  cases x.getLsbD 0 <;> rfl

theorem i64_odd (n : Nat) (h : n < 9223372036854775808) : (bits .and .i64 (n : Int) 1 != 0) = (n % 2 == 1) := by
  have e : bits .and .i64 (n : Int) 1 = ((n % 2 : Nat) : Int) := by
    show IntKind.i64.wrap ((BitVec.ofInt 64 (n : Int) &&& BitVec.ofInt 64 ((1 : Nat) : Int)).toNat : Int) = _
    rw [BitVec.toNat_and, ofInt_u64 n (by omega), ofInt_u64 1 (by omega), nat_mask1, IntKind.wrap_i64]
    omega
  rw [e, Bool.eq_iff_iff]
  simp
  omega

/-- THE TABLE IN MEMORY: for each four lowest bits what they leave. -/
structure Tab (w : World) : Prop where
  lt : 1 < w.heap.size
  at_ : ∀ i, i < 16 → w.cell? ⟨1, i, none⟩ = some (wv (crc.on 4 (BitVec.ofNat 32 i)))
theorem Tab.below {w w' : World} (h : Tab w) (hb : Below w.heap.size w w') : Tab w' :=
  ⟨Nat.lt_of_lt_of_le h.lt hb.size, fun i hi => (hb.cell h.lt).trans (h.at_ i hi)⟩
theorem Tab.drew {w : World} (h : Tab w) : Tab w.drew := ⟨h.lt, h.at_⟩
theorem Tab.drewN {w : World} (h : Tab w) (k : Nat) : Tab (w.drewN k) := ⟨h.lt, h.at_⟩
theorem Tab.alloc {w : World} (h : Tab w) (o : Obj) : Tab (w.alloc o) := h.below ((Below.refl _ _).alloc (Nat.le_refl _) o)

theorem byFour_any (x : crc.W) (w : World) (ht : Tab w) : Calls Tryd.prog 78 #[wv x] w fun e w' => e = .returned (wv (crc.on 4 x)) ∧ w = w' := by
  have e1 : bits .and .u32 (x.toNat : Int) 15 = ((x.toNat % 16 : Nat) : Int) := by
    rw [show (15 : Int) = ((15 : Nat) : Int) from rfl, u32_and_nat _ _ x.isLt (by omega), nat_mask4]
  have hc := ht.at_ (x.toNat % 16) (by omega)
  go_enter Tryd.func78, Tryd.ntmps78
  go_wp2
  go_ret
  refine ⟨wv_ret ?_, rfl⟩
  have e2 : (x.toNat : Int) / (16 : Int) = ((x >>> 4).toNat : Int) := wv_shr x 4
  have e3 : BitVec.ofNat 32 (x.toNat % 16) = x &&& 15#32 := by
    apply BitVec.eq_of_toNat_eq
    rw [BitVec.toNat_ofNat, BitVec.toNat_and, show (15#32 : crc.W).toNat = 15 from rfl, nat_mask4]
    omega
  rw [e2, wv_xor, e3, ← crc.on4]

theorem u8_word (c : UInt8) : (c.toNat : Int) = ((crc.wb c).toNat : Int) := by
  have := c.toNat_lt
  rw [crc.wb, BitVec.toNat_ofNat]
  omega
/-- Into: the rest behind a byte. -/
theorem into_any (x : crc.W) (c : UInt8) (w : World) (ht : Tab w) : Calls Tryd.prog 77 #[wv x, bv c] w fun e w' => e = .returned (wv (crc.into x c)) ∧ w = w' := by
  have hc := c.toNat_lt
  obtain ⟨y, hy⟩ : ∃ y : crc.W, y = x ^^^ crc.wb c := ⟨_, rfl⟩
  have e1 : bits .xor .u32 (x.toNat : Int) (c.toNat : Int) = (y.toNat : Int) := by rw [u8_word, wv_xor, hy]
  have HY := Lib.hid hy
  have h4 := byFour_any y w ht
  obtain ⟨z, hz⟩ : ∃ z : crc.W, z = crc.on 4 y := ⟨_, rfl⟩
  have HZ := Lib.hid hz
  rw [← hz] at h4
  have h5 := byFour_any z w ht
  obtain ⟨u, hu⟩ : ∃ u : crc.W, u = crc.on 4 z := ⟨_, rfl⟩
  have HU := Lib.hid hu
  rw [← hu] at h5
  have H4 := Lib.hid h4
  have H5 := Lib.hid h5
  clear hy hz hu h4 h5
  go_enter Tryd.func77, Tryd.ntmps77
  go_wp2_with fail
  refine H4.out.mono ?_
  rintro e w1 ⟨rfl, rfl⟩
  go_wp2_with fail
  refine H5.out.mono ?_
  rintro e w1 ⟨rfl, rfl⟩
  go_wp2_with fail
  go_ret
  refine ⟨congrArg Ending.returned (congrArg wv ?_), rfl⟩
  rw [HU.out, HZ.out, HY.out, crc.into_four]

theorem wv_not (x : crc.W) : bits .xor .u32 IntKind.u32.max (x.toNat : Int) = ((~~~ x).toNat : Int) := by
  rw [show IntKind.u32.max = ((4294967295#32 : crc.W).toNat : Int) from rfl, wv_xor, show (4294967295#32 : crc.W) = BitVec.allOnes 32 from rfl, BitVec.allOnes_xor]

/-- More: the sum of some bytes and these, of the sum of those. -/
theorem more_any (s : crc.W) (A : Option Addr) (n c : Nat) (l : List UInt8) (w : World) (hB : BS w A n c l) (ht : Tab w) : Calls Tryd.prog 76 #[wv s, .slice A n c] w fun e w' => e = .returned (wv (crc.more s l)) ∧ w = w' := by
  have hl := hB.len
  have hsm := hB.small
  have HL := Lib.hid hl
  clear hl
  go_enter Tryd.func76, Tryd.ntmps76
  go_wp2_with fail
  go_loop [5, 12] (fun r i => ∃ j : Nat, j ≤ n ∧ i = .int .i64 j ∧ r = wv (crc.go (~~~ s) (l.take j))) (fun _ i => n - (intOf i).toNat)
  case atStart => exact ⟨0, by omega, rfl, congrArg (Value.int .u32) (wv_not s)⟩
  case round =>
    obtain ⟨j, hj, rfl, rfl⟩ := hrel
    by_cases hlt : j < n
    · obtain ⟨b, o, rfl, hbl, hcell⟩ := hB.has (by omega)
      have hx := hcell j (by rw [HL.out]; exact hlt)
      generalize hy : l[j]'(by rw [HL.out]; exact hlt) = y at hx
      have hst : l.take (j + 1) = l.take j ++ [y] := by rw [List.take_succ_eq_append_getElem (by rw [HL.out]; exact hlt), hy]
      have HST := Lib.hid hst
      clear hst hy hcell
      go_wp2_with (go_at_call 77; refine (into_any _ y _ ht).mono ?_; rintro e w1 ⟨rfl, rfl⟩)
      go_roundw
      case rel =>
        refine ⟨j + 1, by omega, by go_num, ?_⟩
        rw [HST.out, crc.go_snoc]
      case measure => simp [intOf]; omega
    · obtain rfl : j = n := by omega
      go_wp2
      go_ret
      refine ⟨wv_ret ?_, rfl⟩
      rw [wv_not, List.take_of_length_le (by rw [HL.out]; exact Nat.le_refl _)]
      rfl

/-- Of: the sum. -/
theorem of_any (A : Option Addr) (n c : Nat) (l : List UInt8) (w : World) (h : BS w A n c l) (ht : Tab w) : Calls Tryd.prog 74 #[.slice A n c] w fun e w' => e = .returned (wv (crc.of l)) ∧ w = w' := by
  go_enter Tryd.func74, Tryd.ntmps74
  go_wp2_with (go_at_call 76; refine (more_any 0#32 _ _ _ l _ h ht).mono ?_; rintro e w1 ⟨rfl, rfl⟩)
  go_ret
  exact ⟨rfl, rfl⟩

end Go.Proofs.YtknndmhkfonfmaaDoor

/-
  THE SMALL CALLEES: contracts of num's and cardexref01's small functions.
-/
namespace Go.Proofs.YtknndmhkfonfmaaDoor
open Go.RowKit

/-- 1, 2, 4, 8 -/
def isSz (n : Int) : Bool := n == 1 || n == 2 || n == 4 || n == 8
theorem isSz_cases {n : Int} (h : isSz n = true) : n = 1 ∨ n = 2 ∨ n = 4 ∨ n = 8 := by simpa [isSz, or_assoc] using h
theorem isSz_not {n : Int} (h : isSz n = false) : n ≠ 1 ∧ n ≠ 2 ∧ n ≠ 4 ∧ n ≠ 8 := by
  simp only [isSz, Bool.or_eq_false_iff, beq_eq_false_iff_ne] at h
  exact ⟨h.1.1.1, h.1.1.2, h.1.2, h.2⟩

theorem isSize_any (n : Int) (w : World) : Calls Tryd.prog 72 #[.int .i64 n] w fun e w' => e = .returned (.bool (isSz n)) ∧ w = w' := by
  by_cases h1 : n = 1
  · subst h1; go_enter Tryd.func72, Tryd.ntmps72; go_wp2; go_ret; exact ⟨rfl, rfl⟩
  by_cases h2 : n = 2
  · subst h2; go_enter Tryd.func72, Tryd.ntmps72; go_wp2; go_ret; exact ⟨rfl, rfl⟩
  by_cases h4 : n = 4
  · subst h4; go_enter Tryd.func72, Tryd.ntmps72; go_wp2; go_ret; exact ⟨rfl, rfl⟩
  by_cases h8 : n = 8
  · subst h8; go_enter Tryd.func72, Tryd.ntmps72; go_wp2; go_ret; exact ⟨rfl, rfl⟩
  have hz : isSz n = false := by simp [isSz, h1, h2, h4, h8]
  rw [hz]
  have b1 : (n == 1) = false := by simpa using h1
  have b2 : (n == 2) = false := by simpa using h2
  have b4 : (n == 4) = false := by simpa using h4
  have b8 : (n == 8) = false := by simpa using h8
  clear hz
  go_enter Tryd.func72, Tryd.ntmps72
  go_wp2
  go_ret
  exact ⟨rfl, rfl⟩

theorem size_any (n : Int) (w : World) : Calls Tryd.prog 49 #[.int .i64 n] w fun e w' => e = .returned (.bool (isSz n)) ∧ w = w' := by
  by_cases h1 : n = 1
  · subst h1; go_enter Tryd.func49, Tryd.ntmps49; go_wp2; go_ret; exact ⟨rfl, rfl⟩
  by_cases h2 : n = 2
  · subst h2; go_enter Tryd.func49, Tryd.ntmps49; go_wp2; go_ret; exact ⟨rfl, rfl⟩
  by_cases h4 : n = 4
  · subst h4; go_enter Tryd.func49, Tryd.ntmps49; go_wp2; go_ret; exact ⟨rfl, rfl⟩
  by_cases h8 : n = 8
  · subst h8; go_enter Tryd.func49, Tryd.ntmps49; go_wp2; go_ret; exact ⟨rfl, rfl⟩
  have hz : isSz n = false := by simp [isSz, h1, h2, h4, h8]
  rw [hz]
  have b1 : (n == 1) = false := by simpa using h1
  have b2 : (n == 2) = false := by simpa using h2
  have b4 : (n == 4) = false := by simpa using h4
  have b8 : (n == 8) = false := by simpa using h8
  clear hz
  go_enter Tryd.func49, Tryd.ntmps49
  go_wp2
  go_ret
  exact ⟨rfl, rfl⟩

theorem isPlace_yes (A : Option Addr) (n c : Nat) (at_ : Int) (w : World) (h0 : 0 ≤ at_) (h1 : at_ ≤ n) :
    Calls Tryd.prog 73 #[.slice A n c, .int .i64 at_] w fun e w' => e = .returned (.bool true) ∧ w = w' := by
  go_enter Tryd.func73, Tryd.ntmps73
  go_wp2
  go_ret
  exact ⟨rfl, rfl⟩
theorem isPlace_no (A : Option Addr) (n c : Nat) (at_ : Int) (w : World) (h : at_ < 0 ∨ n < at_) :
    Calls Tryd.prog 73 #[.slice A n c, .int .i64 at_] w fun e w' => e = .returned (.bool false) ∧ w = w' := by
  rcases h with h | h
  · have h' : ¬ 0 ≤ at_ := by omega
    go_enter Tryd.func73, Tryd.ntmps73
    go_wp2
    go_ret
    exact ⟨rfl, rfl⟩
  · have h0 : 0 ≤ at_ := by omega
    have h1 : ¬ at_ ≤ n := by omega
    go_enter Tryd.func73, Tryd.ntmps73
    go_wp2
    go_ret
    exact ⟨rfl, rfl⟩

theorem fits_any (n : Nat) (k : Nat) (w : World) (hk : k ≤ 8) :
    Calls Tryd.prog 75 #[.int .u64 n, .int .i64 k] w fun e w' => e = .returned (.bool (decide (n < 256 ^ k))) ∧ w = w' := by
  go_enter Tryd.func75, Tryd.ntmps75
  go_wp2
  go_ret
  refine ⟨ret_bool ?_, rfl⟩
  have e : (256 : Nat) ^ k = 2 ^ (8 * k) := by rw [Nat.pow_mul]
  have e2 : ((n : Int) / 2 ^ (8 * k) == 0) = decide (n / 2 ^ (8 * k) = 0) := by
    rw [show ((2 : Int) ^ (8 * k)) = ((2 ^ (8 * k) : Nat) : Int) from by simp, show (n : Int) / ((2 ^ (8 * k) : Nat) : Int) = ((n / 2 ^ (8 * k) : Nat) : Int) from by simp]
    generalize n / 2 ^ (8 * k) = q
    rw [Bool.eq_iff_iff, beq_iff_eq, decide_eq_true_iff]
    omega
  refine e2.trans ?_
  rw [e, decide_eq_decide, Nat.div_eq_zero_iff]
  have : 0 < 2 ^ (8 * k) := Nat.pow_pos (by omega)
  omega

theorem cut_any (A : Option Addr) (n c : Nat) (l : List UInt8) (at_ k : Nat) (w : World) (h : BS w A n c l) (hk : at_ + k ≤ n) :
    Calls Tryd.prog 61 #[.slice A n c, .int .i64 at_, .int .i64 k] w fun e w' => ∃ A', e = .returned (.slice A' k k) ∧ BS w A' k k ((l.drop at_).take k) ∧ w = w' := by
  have hc := h.cap
  have hm := h.max
  have hsm := h.small
  by_cases h0 : k = 0
  · subst h0
    go_enter Tryd.func61, Tryd.ntmps61
    go_wp2
    go_ret
    exact ⟨A, rfl, by rw [List.take_zero]; exact BS.empty (by omega), rfl⟩
  · have h1 : ¬ at_ + k = at_ := by omega
    go_enter Tryd.func61, Tryd.ntmps61
    go_wp2
    go_ret
    exact ⟨_, ret_slice (by omega) (by omega), h.cut hk (Nat.le_refl _) (by omega) (by omega), rfl⟩

/-- the lowest byte first -/
def leBytes (n : Nat) : Nat → List UInt8
  | 0 => []
  | k + 1 => leBytes n k ++ [UInt8.ofNat (n / 2 ^ (8 * k))]
theorem leBytes_length (n k : Nat) : (leBytes n k).length = k := by induction k with
  | zero => rfl
  | succ k ih => simp [leBytes, ih]

theorem byte_of (n m : Nat) : Value.int .u8 ((n : Int) / 2 ^ m % 256) = bv (UInt8.ofNat (n / 2 ^ m)) := by
  have e : ((2 : Int) ^ m) = ((2 ^ m : Nat) : Int) := by simp
  simp only [bv, e, UInt8.toNat_ofNat']
  congr 1
theorem le_step (n k j : Nat) (h : j < k) : (leBytes n j ++ List.replicate (k - j) 0).set j (UInt8.ofNat (n / 2 ^ (8 * j))) = leBytes n (j + 1) ++ List.replicate (k - (j + 1)) 0 := by
  rw [List.set_append_right _ _ (by rw [leBytes_length]; omega), leBytes_length, Nat.sub_self, show k - j = (k - (j + 1)) + 1 from by omega, List.replicate_succ, List.set_cons_zero]
  simp [leBytes]
theorem lowestFirst_any (n : Nat) (k : Nat) (w : World) (hk : k ≤ 8) :
    Calls Tryd.prog 57 #[.int .u64 n, .int .i64 k] w fun e w' => ∃ v, e = .returned v ∧ OwnB 5 w' w.heap.size v (leBytes n k) ∧ Below w.heap.size w w' := by
  obtain ⟨i0, hi, hz0, hz1, hz2⟩ := info_parts info_u8
  have hmk := fun W => run_make_bytes (P := Tryd.prog) 23 5 i0 Tryd.underlying23 hi hz0 hz1 hz2 .i64 .i64 k (by omega) W
  go_enter Tryd.func57, Tryd.ntmps57
  go_wp2_with fail
  go_loopw [6, 11] (fun _ i wr => ∃ j : Nat, j ≤ k ∧ i = .int .i64 j ∧ RowB 5 wr w.heap.size (leBytes n j ++ List.replicate (k - j) 0) ∧ Below w.heap.size w wr) (fun _ i _ => k - (intOf i).toNat)
  case atStart => exact ⟨0, by omega, rfl, by simpa [leBytes] using zeroB_row w 5 k, (Below.refl _ _).alloc (Nat.le_refl _) _⟩
  case round =>
    obtain ⟨j, hj, rfl, hr, hb⟩ := hrel
    by_cases hlt : j < k
    · have hc := hr.cell (i := j) (by simp [leBytes_length]; omega)
      have hf := hr.frozen j
      go_wp2
      go_roundw
      case rel =>
        refine ⟨j + 1, by omega, by go_num, ?_, hb.setCell (Nat.le_refl _) _⟩
        have h1 := hr.set_ j (UInt8.ofNat (n / 2 ^ (8 * j)))
        rw [le_step n k j hlt] at h1
        rw [byte_of n (8 * j)]
        exact h1
      case measure => simp [intOf]; omega
    · obtain rfl : j = k := by omega
      go_wp2
      go_ret
      have h1 := hr.own_all (base := w.heap.size) (Nat.le_refl _) (by simp [leBytes_length]; omega)
      simp only [Nat.sub_self, List.replicate_zero, List.append_nil, leBytes_length] at h1
      exact ⟨_, rfl, h1, hb⟩

/-- the size is one, and the number is one of it -/
def putOk (n : Nat) (s : Int) : Bool := isSz s && decide (n < 256 ^ s.toNat)
/-- how a call that answers bytes and an error ends -/
def BytesEnd (E : TypeId) (ok : Bool) (err : Int) (l : List UInt8) (w : World) (e : Ending) (w' : World) : Prop :=
  (ok = false → e = .returned (.tuple #[.slice none 0 0, .int .i64 err])) ∧ (ok = true → ∃ v, e = .returned (.tuple #[v, .int .i64 0]) ∧ OwnB E w' w.heap.size v l) ∧ Below w.heap.size w w'

theorem put_no (n : Nat) (s : Int) (w : World) (h : putOk n s = false) :
    Calls Tryd.prog 68 #[.int .u64 n, .int .i64 s] w fun e w' => e = .returned (.tuple #[.slice none 0 0, .int .i64 2]) ∧ w = w' := by
  rcases hz : isSz s with _ | _
  · clear h
    go_enter Tryd.func68, Tryd.ntmps68
    go_wp2_with (go_at_call 72; refine (isSize_any _ _).mono ?_; rintro e w' ⟨rfl, rfl⟩)
    go_ret2
    exact ⟨rfl, rfl⟩
  · obtain ⟨k, rfl⟩ : ∃ k : Nat, s = (k : Int) := by rcases isSz_cases hz with h | h | h | h <;> exact ⟨s.toNat, by omega⟩
    have hk : k ≤ 8 := by rcases isSz_cases hz with h | h | h | h <;> omega
    have hd : decide (n < 256 ^ k) = false := by simpa [putOk, hz] using h
    clear h
    go_enter Tryd.func68, Tryd.ntmps68
    go_wp2_with (first | (go_at_call 72; refine (isSize_any _ _).mono ?_; rintro e w' ⟨rfl, rfl⟩) | (go_at_call 75; refine (fits_any n k _ hk).mono ?_; rintro e w' ⟨rfl, rfl⟩))
    go_ret2
    exact ⟨rfl, rfl⟩
theorem put_yes (n : Nat) (k : Nat) (w : World) (h : putOk n k = true) :
    Calls Tryd.prog 68 #[.int .u64 n, .int .i64 k] w fun e w' => ∃ v, e = .returned (.tuple #[v, .int .i64 0]) ∧ OwnB 5 w' w.heap.size v (leBytes n k) ∧ Below w.heap.size w w' := by
  have hz : isSz k = true := by simp [putOk] at h; exact h.1
  have hk : k ≤ 8 := by rcases isSz_cases hz with h | h | h | h <;> omega
  have hd : decide (n < 256 ^ k) = true := by simpa [putOk, hz] using h
  clear h
  go_enter Tryd.func68, Tryd.ntmps68
  go_wp2_with (first | (go_at_call 72; refine (isSize_any _ _).mono ?_; rintro e w' ⟨rfl, rfl⟩) | (go_at_call 75; refine (fits_any n k _ hk).mono ?_; rintro e w' ⟨rfl, rfl⟩) | (go_at_call 57; refine (lowestFirst_any n k _ hk).mono ?_; rintro e w' ⟨v, rfl, ho, hb⟩))
  go_ret2
  exact ⟨_, rfl, ho, hb⟩

theorem rput_no_size (n : Nat) (s : Int) (w : World) (hz : isSz s = false) :
    Calls Tryd.prog 32 #[.int .u64 n, .int .i64 s] w fun e w' => e = .returned (.tuple #[.slice none 0 0, .int .i64 2]) ∧ w = w' := by
  go_enter Tryd.func32, Tryd.ntmps32
  go_wp2_with (go_at_call 49; refine (size_any _ _).mono ?_; rintro e w' ⟨rfl, rfl⟩)
  go_ret2
  exact ⟨rfl, rfl⟩
theorem rput_size (n : Nat) (k : Nat) (w : World) (hn : n < 18446744073709551616) (hz : isSz k = true) :
    Calls Tryd.prog 32 #[.int .u64 n, .int .i64 k] w (BytesEnd 5 (putOk n k) 2 (leBytes n k) w) := by
  obtain ⟨i0, hi, hz0, hz1, hz2⟩ := info_parts info_u8
  have hk : k ≤ 8 := by rcases isSz_cases hz with h | h | h | h <;> omega
  go_enter Tryd.func32, Tryd.ntmps32
  go_wp2_with (go_at_call 49; refine (size_any _ _).mono ?_; rintro e w' ⟨rfl, rfl⟩)
  go_loopw [0, 6] (fun m b wr => ∃ (j q : Nat) (A : Option Addr) (c : Nat), j ≤ k ∧ m = .int .u64 (q : Int) ∧ q < 18446744073709551616 ∧ Hid (q = n / 2 ^ (8 * j)) ∧ b = .slice A j c ∧ OwnB 5 wr w.heap.size b (leBytes n j) ∧ Below w.heap.size w wr) (fun _ b _ => k - lenV b)
  case atStart => exact ⟨0, n, none, 0, by omega, rfl, hn, Lib.hid (by simp), rfl, OwnB.nil_ _ _ _, Below.refl _ _⟩
  case round =>
    obtain ⟨j, q, A, c, hj, rfl, hq, HQ, rfl, ho, hb⟩ := hrel
    have hsz := hb.size
    by_cases hlt : j < k
    · go_wp2_with (at_builtin; refine wpList_append_bytes _ rfl (.tmp 14) (.tmp 18) 23 rfl 5 i0 Tryd.underlying23 hi hz0 hz1 hz2 w.heap.size _ _ rfl (ho.alloc _) _ 1 1 [UInt8.ofNat q] rfl (BS.one' _ _ _ (by simp)) (by rw [leBytes_length]; omega) (by simp; omega) ?_; intro v1 w1 ho1 hg1 _ _)
      go_roundw
      case rel =>
        obtain ⟨A1, c1, rfl, hb1⟩ := ho1.form
        have e1 : (leBytes n j ++ [UInt8.ofNat q]) = leBytes n (j + 1) := by rw [leBytes, HQ.out]
        rw [e1] at ho1
        simp only [e1, leBytes_length] at ho1 ⊢
        refine ⟨j + 1, q / 256, A1, c1, by omega, by go_num, by omega, Lib.hid ?_, rfl, ho1, OwnB.step (hb.alloc hsz _) (ho.alloc _) hg1 (by simp; omega)⟩
        rw [HQ.out, Nat.div_div_eq_div_mul, show 8 * (j + 1) = 8 * j + 8 from by omega, Nat.pow_add]
      case measure =>
        obtain ⟨A1, c1, rfl, hb1⟩ := ho1.form
        simp [lenV, leBytes_length]
        omega
    · obtain rfl : j = k := by omega
      have hd : decide (n < 256 ^ j) = decide (q = 0) := by
        rw [HQ.out, decide_eq_decide, Nat.div_eq_zero_iff, show (256 : Nat) ^ j = 2 ^ (8 * j) from by rw [Nat.pow_mul]]
        have : 0 < 2 ^ (8 * j) := Nat.pow_pos (by omega)
        omega
      have hp : putOk n (j : Int) = decide (q = 0) := by simp only [putOk, hz, Int.toNat_natCast, hd, Bool.true_and]
      have HP : Hid (putOk n (j : Int) = decide (q = 0)) := Lib.hid hp
      clear hp hd
      by_cases h0 : q = 0
      · subst h0
        go_wp2_with fail
        go_ret2
        exact ⟨fun h => (by rw [HP.out] at h; simp at h), fun _ => ⟨_, rfl, ho⟩, hb⟩
      · have hne : ((q : Int) != 0) = true := by rw [bne_iff_ne]; omega
        go_wp2_with fail
        go_ret2
        exact ⟨fun _ => rfl, fun h => absurd (of_decide_eq_true (HP.out.symm.trans h)) h0, hb⟩
theorem rput_any (n : Nat) (s : Int) (w : World) (hn : n < 18446744073709551616) :
    Calls Tryd.prog 32 #[.int .u64 n, .int .i64 s] w (BytesEnd 5 (putOk n s) 2 (leBytes n s.toNat) w) := by
  rcases hz : isSz s with _ | _
  · have hp : putOk n s = false := by simp [putOk, hz]
    rw [hp]
    exact (rput_no_size n s w hz).mono fun e w' h => ⟨fun _ => h.1, fun h => (by cases h), h.2 ▸ Below.refl _ _⟩
  · obtain ⟨k, rfl⟩ : ∃ k : Nat, s = (k : Int) := by rcases isSz_cases hz with h | h | h | h <;> exact ⟨s.toNat, by omega⟩
    exact rput_size n k w hn hz

theorem put_any (n : Nat) (s : Int) (w : World) :
    Calls Tryd.prog 68 #[.int .u64 n, .int .i64 s] w (BytesEnd 5 (putOk n s) 2 (leBytes n s.toNat) w) := by
  rcases hp : putOk n s with _ | _
  · exact (put_no n s w hp).mono fun e w' h => ⟨fun _ => h.1, fun h => (by cases h), h.2 ▸ Below.refl _ _⟩
  · have hz : isSz s = true := by simp [putOk] at hp; exact hp.1
    obtain ⟨k, rfl⟩ : ∃ k : Nat, s = (k : Int) := by rcases isSz_cases hz with h | h | h | h <;> exact ⟨s.toNat, by omega⟩
    exact (put_yes n k w hp).mono fun e w' ⟨v, h1, h2, h3⟩ => ⟨fun h => by (cases h), fun _ => ⟨v, h1, h2⟩, h3⟩

/-- the number whose bytes these are, the lowest first -/
def leVal : List UInt8 → Nat
  | [] => 0
  | b :: r => b.toNat + 256 * leVal r
theorem leVal_snoc (l : List UInt8) (x : UInt8) : leVal (l ++ [x]) = leVal l + x.toNat * 2 ^ (8 * l.length) := by
  induction l with
  | nil => simp [leVal]
  | cons b r ih =>
    simp only [List.cons_append, leVal, ih, List.length_cons]
    rw [show 8 * (r.length + 1) = 8 * r.length + 8 from by omega, Nat.pow_add]
    generalize 2 ^ (8 * r.length) = p
    rw [show x.toNat * (p * 2 ^ 8) = 256 * (x.toNat * p) from by rw [show (2 : Nat) ^ 8 = 256 from rfl, Nat.mul_comm p 256, Nat.mul_left_comm]]
    omega
theorem leVal_lt (l : List UInt8) : leVal l < 2 ^ (8 * l.length) := by
  induction l with
  | nil => simp [leVal]
  | cons b r ih =>
    have := b.toNat_lt
    simp only [leVal, List.length_cons]
    rw [show 8 * (r.length + 1) = 8 * r.length + 8 from by omega, Nat.pow_add, show (2 : Nat) ^ 8 = 256 from rfl]
    omega

/-- what Get answers -/
def getR (l : List UInt8) (at_ s : Int) : Nat × Int :=
  if isSz s && decide (0 ≤ at_ ∧ at_ ≤ l.length) then (if at_ + s ≤ l.length then (leVal ((l.drop at_.toNat).take s.toNat), 0) else (0, 4)) else (0, 2)

theorem get_yes (A : Option Addr) (n c : Nat) (l : List UInt8) (at_ k : Nat) (w : World) (h : BS w A n c l) (hz : isSz k = true) (hat : at_ + k ≤ n) :
    Calls Tryd.prog 60 #[.slice A n c, .int .i64 at_, .int .i64 k] w fun e w' => e = .returned (.tuple #[.int .u64 (leVal ((l.drop at_).take k)), .int .i64 0]) ∧ w = w' := by
  have hk : k ≤ 8 := by rcases isSz_cases hz with h | h | h | h <;> omega
  have hc := h.cap
  have hm := h.max
  have hsm := h.small
  go_enter Tryd.func60, Tryd.ntmps60
  go_wp2_with (first | (go_at_call 72; refine (isSize_any _ _).mono ?_; rintro e w' ⟨rfl, rfl⟩) | (go_at_call 73; refine (isPlace_yes _ _ _ _ _ (by omega) (by omega)).mono ?_; rintro e w' ⟨rfl, rfl⟩) | (go_at_call 61; refine (cut_any A n c l at_ k _ h hat).mono ?_; rintro e w' ⟨A', rfl, hcut, rfl⟩))
  go_loop [8, 9, 10, 31] (fun m _ _ i => ∃ (j q : Nat), j ≤ k ∧ m = .int .u64 (q : Int) ∧ q < 18446744073709551616 ∧ Hid (q = leVal (((l.drop at_).take k).take j)) ∧ i = .int .i64 j) (fun _ _ _ i => k - (intOf i).toNat)
  case atStart => exact ⟨0, 0, by omega, rfl, by omega, Lib.hid (by simp [leVal]), rfl⟩
  case round =>
    obtain ⟨j, q, hj, rfl, hq, HQ, rfl⟩ := hrel
    by_cases hlt : j < k
    · obtain ⟨b, o, rfl, _, hcell⟩ := hcut.has (by omega)
      have hx := hcell j (by rw [hcut.len]; omega)
      generalize hy : ((l.drop at_).take k)[j]'(by rw [hcut.len]; omega) = y at hx
      have HY := Lib.hid hy
      clear hy hcell
      have hyb := y.toNat_lt
      have hj8 : j ≤ 7 := by omega
      have hql : q < 2 ^ (8 * j) := by
        have := leVal_lt (((l.drop at_).take k).take j)
        rw [List.length_take, hcut.len, Nat.min_eq_left hj, ← HQ.out] at this
        exact this
      have hsn : leVal (((l.drop at_).take k).take (j + 1)) = q + y.toNat * 2 ^ (8 * j) := by
        rw [List.take_succ_eq_append_getElem (by rw [hcut.len]; omega), leVal_snoc, HY.out, ← HQ.out, List.length_take, hcut.len, Nat.min_eq_left hj]
      have hlt64 : q + y.toNat * 2 ^ (8 * j) < 18446744073709551616 := by
        have h1 := leVal_lt (((l.drop at_).take k).take (j + 1))
        rw [hsn] at h1
        have h2 : 8 * (((l.drop at_).take k).take (j + 1)).length ≤ 64 := by rw [List.length_take, hcut.len]; omega
        exact Nat.lt_of_lt_of_le h1 (Nat.pow_le_pow_right (by omega) h2)
      have HS := Lib.hid hsn
      have HO := Lib.hid (or_shl (y := y.toNat) hql hlt64)
      clear hsn
      have HL := Lib.hid hlt64
      clear hlt64 hql
      go_wp2
      go_round
      case rel => exact ⟨j + 1, q + y.toNat * 2 ^ (8 * j), by omega, by rw [HO.out], HL.out, Lib.hid HS.out.symm, by go_num⟩
      case measure => simp [intOf]; omega
    · obtain rfl : j = k := by omega
      go_wp2
      go_ret2
      refine ⟨?_, rfl⟩
      rw [HQ.out, List.take_of_length_le (i := j) (by rw [hcut.len]; omega)]
      rfl
theorem get_any (A : Option Addr) (n c : Nat) (l : List UInt8) (at_ s : Int) (w : World) (h : BS w A n c l) :
    Calls Tryd.prog 60 #[.slice A n c, .int .i64 at_, .int .i64 s] w fun e w' => e = .returned (.tuple #[.int .u64 (getR l at_ s).1, .int .i64 (getR l at_ s).2]) ∧ w = w' := by
  have hc := h.cap
  have hm := h.max
  have hsm := h.small
  have hl := h.len
  rcases hz : isSz s with _ | _
  · have hr : getR l at_ s = (0, 2) := by simp [getR, hz]
    rw [hr]
    clear hl hr
    go_enter Tryd.func60, Tryd.ntmps60
    go_wp2_with (go_at_call 72; refine (isSize_any _ _).mono ?_; rintro e w' ⟨rfl, rfl⟩)
    go_ret2
    exact ⟨rfl, rfl⟩
  · obtain ⟨k, rfl⟩ : ∃ k : Nat, s = (k : Int) := by rcases isSz_cases hz with h | h | h | h <;> exact ⟨s.toNat, by omega⟩
    have hk : k ≤ 8 := by rcases isSz_cases hz with h | h | h | h <;> omega
    by_cases hp : 0 ≤ at_ ∧ at_ ≤ n
    · obtain ⟨j, rfl⟩ := Int.eq_ofNat_of_zero_le hp.1
      by_cases hs : j + k ≤ n
      · have hr : getR l j k = (leVal ((l.drop j).take k), 0) := by
          have h1 : (j : Int) ≤ l.length := by omega
          have h2 : (j : Int) + k ≤ l.length := by omega
          simp [getR, hz, h2]; omega
        rw [hr]
        exact get_yes A n c l j k w h hz hs
      · have hr : getR l j k = (0, 4) := by
          have h1 : j ≤ l.length := by omega
          have h2 : ¬ (j : Int) + k ≤ l.length := by omega
          simp [getR, hz, h1, h2]
        rw [hr]
        have hs' : (n : Int) - j < k := by omega
        clear hl hr
        go_enter Tryd.func60, Tryd.ntmps60
        go_wp2_with (first | (go_at_call 72; refine (isSize_any _ _).mono ?_; rintro e w' ⟨rfl, rfl⟩) | (go_at_call 73; refine (isPlace_yes _ _ _ _ _ (by omega) (by omega)).mono ?_; rintro e w' ⟨rfl, rfl⟩))
        go_ret2
        exact ⟨rfl, rfl⟩
    · have hr : getR l at_ k = (0, 2) := by
        have h1 : ¬ (0 ≤ at_ ∧ at_ ≤ (l.length : Int)) := by omega
        simp only [getR, hz, decide_eq_false h1]
        rfl
      rw [hr]
      clear hl hr
      have hp' : at_ < 0 ∨ (n : Int) < at_ := by omega
      go_enter Tryd.func60, Tryd.ntmps60
      go_wp2_with (first | (go_at_call 72; refine (isSize_any _ _).mono ?_; rintro e w' ⟨rfl, rfl⟩) | (go_at_call 73; refine (isPlace_no _ _ _ _ _ hp').mono ?_; rintro e w' ⟨rfl, rfl⟩))
      go_ret2
      exact ⟨rfl, rfl⟩


end Go.Proofs.YtknndmhkfonfmaaDoor
