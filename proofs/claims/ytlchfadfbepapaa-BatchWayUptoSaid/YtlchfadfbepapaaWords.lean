/-
  WORDS FOR BYTES IN MEMORY: a byte slice that reads as a list (BS); a byte slice of the call's own, all of whose room is bytes (OwnB); append, string(b), stores, frames over them. No program is named here.
-/
import Derived.WalkKit
import Derived.Laws.BytesArg
import Derived.Laws.AppendOwn
import Derived.Laws.OwnMore
import Derived.Deep.Draws
import Derived.RegionTactic
import Derived.Lib.Hide
namespace Go.Proofs.Ytlchfadfbepapaa
open Go.RowKit

/-- a byte as a value -/
abbrev bv (x : UInt8) : Value := .int .u8 (x.toNat : Int)

theorem bv_one (x : UInt8) : (bv x).oneCell' = true := rfl
theorem bvs_one (l : List UInt8) : ∀ u ∈ l.map bv, u.oneCell' = true := by
  intro u hu
  obtain ⟨_, _, rfl⟩ := List.mem_map.1 hu
  rfl
theorem bv_inj {x y : UInt8} (h : bv x = bv y) : x = y := by
  injection h with _ h
  exact UInt8.toNat_inj.1 (by omega)

/-- THE SLICE '.slice A n c' READS AS l IN w. -/
structure BS (w : World) (A : Option Addr) (n c : Nat) (l : List UInt8) : Prop where
  len : l.length = n
  cap : n ≤ c
  max : c ≤ 9223372036854775807
  small : n ≤ 281474976710656
  has : 0 < n → ∃ b o, A = some ⟨b, o, none⟩ ∧ b < w.heap.size ∧ ∀ i (h : i < l.length), w.cell? ⟨b, o + i, none⟩ = some (bv l[i])

namespace BS
variable {w w' : World} {A : Option Addr} {n c : Nat} {l : List UInt8}
theorem keep (h : BS w A n c l) (hs : w.heap.size ≤ w'.heap.size) (hk : ∀ p : Addr, p.block < w.heap.size → w'.cell? p = w.cell? p) : BS w' A n c l :=
  ⟨h.len, h.cap, h.max, h.small, fun hn => by
    obtain ⟨b, o, e, hb, hc⟩ := h.has hn
    exact ⟨b, o, e, by omega, fun i hi => (hk ⟨b, o + i, none⟩ hb).trans (hc i hi)⟩⟩
theorem below (h : BS w A n c l) (hb : Below w.heap.size w w') : BS w' A n c l := h.keep hb.size fun _ hp => hb.cell hp
theorem drew (h : BS w A n c l) : BS w.drew A n c l := ⟨h.len, h.cap, h.max, h.small, h.has⟩
theorem drewN (h : BS w A n c l) (k : Nat) : BS (w.drewN k) A n c l := ⟨h.len, h.cap, h.max, h.small, h.has⟩
theorem alloc (h : BS w A n c l) (o : Obj) : BS (w.alloc o) A n c l := h.below ((Below.refl _ _).alloc (Nat.le_refl _) o)
theorem nil_ (w : World) : BS w none 0 0 [] := ⟨rfl, by omega, by omega, by omega, fun h => absurd h (by omega)⟩
end BS

/-- what stands from 'at_' on, k bytes, with room up to c' -/
theorem BS.cut {w : World} {A : Option Addr} {n c : Nat} {l : List UInt8} (h : BS w A n c l) {at_ k c' : Nat} (hk : at_ + k ≤ n) (hc : k ≤ c') (hm : c' ≤ 9223372036854775807) (h0 : 0 < k) : BS w (A.map fun x => x.add at_) k c' ((l.drop at_).take k) :=
  ⟨by have := h.len; simp; omega, hc, hm, by have := h.small; omega, fun _ => by
    obtain ⟨b, o, rfl, hb, hcell⟩ := h.has (by omega)
    refine ⟨b, o + at_, by simp [Addr.add_lit], hb, fun i hi => ?_⟩
    have hi' : at_ + i < l.length := by have := h.len; simp at hi; omega
    rw [Nat.add_assoc, hcell (at_ + i) hi']
    simp⟩
/-- its first k bytes, with the same room -/
theorem BS.take {w : World} {A : Option Addr} {n c : Nat} {l : List UInt8} (h : BS w A n c l) {k : Nat} (hk : k ≤ n) : BS w A k c (l.take k) :=
  ⟨by have := h.len; simp; omega, by have := h.cap; omega, h.max, by have := h.small; omega, fun h0 => by
    obtain ⟨b, o, rfl, hb, hcell⟩ := h.has (by omega)
    refine ⟨b, o, rfl, hb, fun i hi => ?_⟩
    have hi' : i < l.length := by simp at hi; omega
    rw [hcell i hi']
    simp⟩
theorem BS.empty {w : World} {A : Option Addr} {c : Nat} (hm : c ≤ 9223372036854775807) : BS w A 0 c [] := ⟨rfl, by omega, hm, by omega, fun h => absurd h (by omega)⟩

/-- A byte slice below block B, known at a former world. -/
theorem BS.below_of {w w' : World} {A : Option Addr} {n c B : Nat} {l : List UInt8} (h : BS w A n c l) (hB : w.heap.size ≤ B) (hb : Below B w w') : BS w' A n c l := h.below (hb.mono hB)

/-- A BYTE SLICE OF THE CALL's OWN (from block base on), all of whose room holds bytes. e: the number of the type uint8. -/
def OwnB (e : TypeId) (w : World) (base : Nat) (v : Value) (l : List UInt8) : Prop :=
  (v = .slice none 0 0 ∧ l = []) ∨
  ∃ (g : Nat) (r : List UInt8), v = .slice (some ⟨g, 0, none⟩) l.length (l.length + r.length) ∧ base ≤ g ∧ w.heap[g]? = some (.cells ((l ++ r).map bv).toArray e (0, 0)) ∧ l.length + r.length ≤ 9223372036854775807 ∧ l.length ≤ 281474976710656

theorem maxLen_eq : maxLen = 9223372036854775807 := by unfold maxLen; decide

namespace OwnB
variable {e : TypeId} {w w' : World} {base : Nat} {v : Value} {l : List UInt8}
theorem nil_ (e : TypeId) (w : World) (base : Nat) : OwnB e w base (.slice none 0 0) [] := .inl ⟨rfl, rfl⟩
theorem mono {base' : Nat} (h : OwnB e w base v l) (hb : base' ≤ base) : OwnB e w base' v l :=
  h.imp id fun ⟨g, r, a, b, c⟩ => ⟨g, r, a, Nat.le_trans hb b, c⟩
theorem drew (h : OwnB e w base v l) : OwnB e w.drew base v l := h
theorem drewN (h : OwnB e w base v l) (k : Nat) : OwnB e (w.drewN k) base v l := h
theorem lt (h : OwnB e w base v l) : ∀ k, v.ownBlock = some k → base ≤ k ∧ k < w.heap.size := by
  intro k hk
  rcases h with ⟨rfl, _⟩ | ⟨g, r, rfl, hb, hg, _⟩
  · simp [Value.ownBlock] at hk
  · simp [Value.ownBlock] at hk
    subst hk
    exact ⟨hb, (Array.getElem?_eq_some_iff.1 hg).1⟩
theorem kept {row : Option Nat} (h : OwnB e w base v l) (hg : w.grownBy w' row) (hne : v.ownBlock = none ∨ v.ownBlock ≠ row) : OwnB e w' base v l := by
  rcases h with hn | ⟨g, r, rfl, hb, hgg, rest⟩
  · exact .inl hn
  · refine .inr ⟨g, r, rfl, hb, ?_, rest⟩
    rw [hg.block g (Array.getElem?_eq_some_iff.1 hgg).1 (by simpa [Value.ownBlock] using hne)]
    exact hgg
theorem alloc (h : OwnB e w base v l) (o : Obj) : OwnB e (w.alloc o) base v l :=
  h.kept (World.grownBy_alloc w o none) (by cases hv : v.ownBlock <;> simp)
theorem below {B : Nat} (h : OwnB e w base v l) (hb : Below B w w') (hB : w.heap.size ≤ B) : OwnB e w' base v l := by
  rcases h with hn | ⟨g, r, rfl, hbb, hgg, rest⟩
  · exact .inl hn
  · refine .inr ⟨g, r, rfl, hbb, ?_, rest⟩
    have := (Array.getElem?_eq_some_iff.1 hgg).1
    rw [hb.block g (by omega)]
    exact hgg
theorem row (h : OwnB e w base v l) : w.ownsRow base e 1 v l.length (l.map bv) := by
  rcases h with ⟨rfl, rfl⟩ | ⟨g, r, rfl, hb, hg, hm⟩
  · exact World.ownsRow_nil _ _ _ _
  · refine ⟨by simp, .inr ⟨g, _, _, rfl, hb, hg, by omega, by rw [maxLen_eq]; exact hm.1, by simp, ?_⟩⟩
    simp [List.take_left']
/-- what the value looks like -/
theorem form (h : OwnB e w base v l) : ∃ A c, v = .slice A l.length c ∧ BS w A l.length c l := by
  rcases h with ⟨rfl, rfl⟩ | ⟨g, r, rfl, hb, hg, hm⟩
  · exact ⟨none, 0, rfl, BS.nil_ w⟩
  · refine ⟨_, _, rfl, rfl, by omega, hm.1, hm.2, fun _ => ⟨g, 0, rfl, (Array.getElem?_eq_some_iff.1 hg).1, fun i hi => ?_⟩⟩
    rw [Nat.zero_add, cell_of_row w g i _ e (0, 0) hg]
    simp only [List.getElem?_toArray, List.getElem?_map]
    rw [List.getElem?_append_left hi, List.getElem?_eq_getElem hi]
    rfl
theorem bs {A : Option Addr} {n c : Nat} (h : OwnB e w base (.slice A n c) l) : BS w A n c l := by
  obtain ⟨A', c', he, hb⟩ := h.form
  injection he with h1 h2 h3
  subst h1 h2 h3
  exact hb
end OwnB

/-- A BLOCK OF BYTES, KNOWN WHOLE. -/
def RowB (e : TypeId) (w : World) (g : Nat) (l : List UInt8) : Prop := w.heap[g]? = some (.cells ((l.map bv).toArray) e (0, 0))
namespace RowB
variable {e : TypeId} {w w' : World} {g : Nat} {l : List UInt8}
theorem lt (h : RowB e w g l) : g < w.heap.size := (Array.getElem?_eq_some_iff.1 h).1
theorem cell (h : RowB e w g l) {i : Nat} (hi : i < l.length) : w.cell? ⟨g, i, none⟩ = some (bv l[i]) := by
  rw [cell_of_row w g i _ e (0, 0) h]
  simp [hi]
theorem frozen (h : RowB e w g l) (i : Nat) : w.frozen? ⟨g, i, none⟩ = false := by
  unfold RowB at h
  simp [World.frozen?, h]
theorem drew (h : RowB e w g l) : RowB e w.drew g l := h
theorem drewN (h : RowB e w g l) (n : Nat) : RowB e (w.drewN n) g l := h
theorem alloc (h : RowB e w g l) (o : Obj) : RowB e (w.alloc o) g l := (Below.heap_alloc w o g h.lt).trans h
theorem set_ (h : RowB e w g l) (i : Nat) (x : UInt8) : RowB e (w.setCell ⟨g, i, none⟩ (bv x)) g (l.set i x) := by
  unfold RowB at h ⊢
  simp [World.setCell, Array.getElem?_modify, h, List.map_set]
theorem far (h : RowB e w g l) {p : Addr} (hp : g ≠ p.block) (u : Value) : RowB e (w.setCell p u) g l := (Below.heap_setCell w p u g hp).trans h
theorem below {B : Nat} (h : RowB e w g l) (hb : Below B w w') (hg : g < B) : RowB e w' g l := (hb.block g hg).trans h
theorem own {base : Nat} {k : Nat} {r : List UInt8} (h : RowB e w g (l ++ r)) (hb : base ≤ g) (hk : l.length + r.length ≤ 281474976710656) (hl : k = l.length + r.length) : OwnB e w base (.slice (some ⟨g, 0, none⟩) l.length k) l :=
  .inr ⟨g, r, by rw [hl], hb, h, by omega, by omega⟩
theorem own_all {base : Nat} (h : RowB e w g l) (hb : base ≤ g) (hk : l.length ≤ 281474976710656) : OwnB e w base (.slice (some ⟨g, 0, none⟩) l.length l.length) l :=
  .inr ⟨g, [], by simp, hb, by rw [List.append_nil]; exact h, by simp; omega, hk⟩
end RowB

/-- k zero bytes -/
def zeroB (k : Nat) : Array Value := ((List.replicate k (0 : UInt8)).map bv).toArray
theorem zeroB_row (w : World) (e : TypeId) (k : Nat) : RowB e (w.alloc (.cells (zeroB k) e)) w.heap.size (List.replicate k 0) := heap_alloc_new w _
theorem run_make_bytes {P : Program} (t e : TypeId) (i : TypeInfo) (ht : P.underlying t = some (.slice e)) (hi : P.info? e = some i) (hz : i.zero = some (.int .u8 0)) (hs : i.size = 1) (hb : i.bytes = 1)
    (kl kc : IntKind) (k : Nat) (hk : k ≤ 281474976710656) (w : World) :
    (Instr.makeSlice t (.int kl (k : Int)) (.int kc (k : Int))).run P w = .ok (.slice (some ⟨w.heap.size, 0, none⟩) k k) (w.alloc (.cells (zeroB k) e)) := by
  have hr := run_make (P := P) w t e i _ ht hi hz kl kc (k : Int) (k : Int) (by omega) (by omega) (by rw [hb]; omega) (by omega)
  have hzz : madeCells (Value.int .u8 0).cells (k * i.size) = zeroB k := by
    rw [hs, Nat.mul_one]
    apply Array.ext_getElem?
    intro j
    by_cases hj : j < k
    · simp [madeCells, zeroB, Value.cells, hj, Nat.mod_one]
    · simp [madeCells, zeroB, Value.cells, hj]
  rw [hr, Int.toNat_natCast, hzz]

section append
variable {P : Program} (w : World)

theorem grown_own (e : TypeId) (base : Nat) (l l2 : List UInt8) (old : Nat) (h63 : l.length + l2.length ≤ 140737488355328) (hbase : base ≤ w.heap.size) (row : Option Nat) :
    OwnB e (w.drew.alloc (.cells ((l.map bv).toArray ++ (l2.map bv).toArray ++ Builtin.zeroCells (Value.int .u8 0).cells (grownCap w (l.length + l2.length) old e - (l.length + l2.length))) e)) base
        (.slice (some ⟨w.heap.size, 0, none⟩) (l.length + l2.length) (grownCap w (l.length + l2.length) old e)) (l ++ l2) ∧
      w.grownBy (w.drew.alloc (.cells ((l.map bv).toArray ++ (l2.map bv).toArray ++ Builtin.zeroCells (Value.int .u8 0).cells (grownCap w (l.length + l2.length) old e - (l.length + l2.length))) e)) row := by
  have hge := grownCap_ge w (l.length + l2.length) old e
  have hcm : grownCap w (l.length + l2.length) old e ≤ maxLen := grownCap_le_maxLen w (l.length + l2.length) old e (by rw [maxLen_eq]; omega)
  rw [maxLen_eq] at hcm
  refine ⟨.inr ⟨w.heap.size, List.replicate (grownCap w (l.length + l2.length) old e - (l.length + l2.length)) 0, ?_, hbase, ?_, ?_, by rw [List.length_append]; omega⟩, ⟨rfl, rfl, rfl, by simp, fun k hk _ => Below.heap_alloc w.drew _ k hk⟩⟩
  · simp only [List.length_append, List.length_replicate]
    congr 1
    omega
  · have hz : Builtin.zeroCells (Value.int .u8 0).cells (grownCap w (l.length + l2.length) old e - (l.length + l2.length)) = ((List.replicate (grownCap w (l.length + l2.length) old e - (l.length + l2.length)) (0 : UInt8)).map bv).toArray := by
      apply Array.ext_getElem?
      intro i
      by_cases hi : i < grownCap w (l.length + l2.length) old e - (l.length + l2.length)
      · simp [Builtin.zeroCells, Value.cells, hi, Nat.mod_one]
      · simp [Builtin.zeroCells, Value.cells, hi]
    rw [hz]
    refine (heap_alloc_new w.drew _).trans ?_
    simp
  · simp only [List.length_append, List.length_replicate]
    omega

theorem run_append_bytes (t ty e : TypeId) (i : TypeInfo) (ht : P.underlying t = some (.slice e)) (hi : P.info? e = some i) (hz : i.zero = some (.int .u8 0)) (hs : i.size = 1) (hby : i.bytes = 1)
    (base : Nat) (v : Value) (l : List UInt8) (hown : OwnB e w base v l) (A : Option Addr) (m c : Nat) (l2 : List UInt8) (hx : BS w A m c l2)
    (hroom : l.length + m ≤ 140737488355328) (hbase : base ≤ w.heap.size) :
    ∃ v' w', (Builtin.append_ #[t, t] ty #[v, .slice A m c]).run P w = .ok v' w' ∧ OwnB e w' base v' (l ++ l2) ∧ w.grownBy w' v.ownBlock ∧ (v'.ownBlock = v.ownBlock ∨ v'.ownBlock = some w.heap.size) ∧ (v' = .slice none 0 0 ↔ v = .slice none 0 0 ∧ m = 0) := by
  obtain rfl := hx.len
  rcases Nat.eq_zero_or_pos l2.length with h0 | h0
  · -- nothing is appended
    have hn : l2 = [] := List.eq_nil_of_length_eq_zero h0
    subst hn
    rw [List.append_nil]
    refine ⟨v, w, ?_, hown, ⟨rfl, rfl, rfl, Nat.le_refl _, fun _ _ _ => rfl⟩, .inl rfl, by simp⟩
    rcases A with _ | ad
    · rcases hown with ⟨rfl, rfl⟩ | ⟨g, r, rfl, hb, hg, hm⟩
      · simp [Builtin.append_, run_underlying ht, sizeOf, typeInfo, hi, Builtin.lenOf, Builtin.firstCells]
      · simp [Builtin.append_, run_underlying ht, sizeOf, typeInfo, hi, Builtin.lenOf, Builtin.firstCells, storeCells]
    · rcases hown with ⟨rfl, rfl⟩ | ⟨g, r, rfl, hb, hg, hm⟩
      · simp [Builtin.append_, run_underlying ht, sizeOf, typeInfo, hi, Builtin.lenOf, Builtin.firstCells, loadCells, loadCellsFrom]
      · simp [Builtin.append_, run_underlying ht, sizeOf, typeInfo, hi, Builtin.lenOf, Builtin.firstCells, storeCells, loadCells, loadCellsFrom]
  · obtain ⟨b, o, rfl, hb, hcell⟩ := hx.has h0
    have hnews : ∀ j u, (l2.map bv)[j]? = some u → w.cell? ((⟨b, o, none⟩ : Addr).add j) = some u := by
      intro j u hu
      rw [List.getElem?_map] at hu
      obtain ⟨y, hy, rfl⟩ := Option.map_eq_some_iff.1 hu
      obtain ⟨hj, rfl⟩ := List.getElem?_eq_some_iff.1 hy
      rw [Addr.add_lit]
      exact hcell j hj
    have hl : (l2.map bv).length = l2.length * i.size := by rw [hs]; simp
    have h1 := bvs_one l2
    rcases hown with ⟨rfl, rfl⟩ | ⟨g, r, rfl, hbg, hg, hm⟩
    · simp only [List.length_nil, Nat.zero_add] at hroom
      have hr := run_append_nil (P := P) w t ty e i _ ht hi hz ⟨b, o, none⟩ l2.length c (l2.map bv) hl hnews (by omega) (by omega) (by rw [hby]; omega)
      have hgr := grown_own w e base [] l2 0 (by simpa using hroom) hbase (Value.ownBlock (.slice none 0 0))
      simp only [List.length_nil, List.map_nil, Nat.zero_add, List.nil_append, Array.empty_append] at hgr ⊢
      exact ⟨_, _, hr, hgr.1, hgr.2, .inr rfl, ⟨fun h => (by cases h), fun h => absurd h.2 (by omega)⟩⟩
    · by_cases hroom' : l.length + l2.length ≤ l.length + r.length
      · have hfit : l.length * i.size + (l2.map bv).length ≤ ((l ++ r).map bv).toArray.size := by rw [hs]; simp; omega
        have hr := run_append_room (P := P) w t ty e i ht hi g l.length (l.length + r.length) _ hg ⟨b, o, none⟩ l2.length c (l2.map bv) hl hnews h1 hroom' hfit
        refine ⟨_, _, hr, .inr ⟨g, r.drop l2.length, ?_, hbg, ?_, ?_, by rw [List.length_append]; omega⟩, ⟨rfl, rfl, rfl, by simp, fun k _ hk => setRow_other w g k _ (fun e => hk (by simp [Value.ownBlock, e]))⟩, .inl rfl, by simp⟩
        · simp only [List.length_append, List.length_drop]
          congr 1
          omega
        · rw [setRow_heap w g _ _ e _ hg, hs]
          congr 2
          simp [List.map_drop, List.drop_append, List.take_left']
        · simp only [List.length_append, List.length_drop]
          omega
      · have holds : ∀ j u, (l.map bv)[j]? = some u → w.cell? ((⟨g, 0, none⟩ : Addr).add j) = some u := by
          intro j u hu
          rw [List.getElem?_map] at hu
          obtain ⟨y, hy, rfl⟩ := Option.map_eq_some_iff.1 hu
          obtain ⟨hj, rfl⟩ := List.getElem?_eq_some_iff.1 hy
          rw [Addr.add_lit, Nat.zero_add, cell_of_row w g j _ e (0, 0) hg]
          simp only [List.getElem?_toArray, List.getElem?_map]
          rw [List.getElem?_append_left hj, List.getElem?_eq_getElem hj]
          rfl
        have hr := run_append_grow (P := P) w t ty e i _ ht hi hz ⟨g, 0, none⟩ l.length (l.length + r.length) (l.map bv) (by rw [hs]; simp) holds ⟨b, o, none⟩ l2.length c (l2.map bv) hl hnews (by omega) (by omega) (growslice_fits (by omega) (by rw [hby]; omega))
        have hgr := grown_own w e base l l2 (l.length + r.length) hroom hbase (Value.ownBlock (.slice (some ⟨g, 0, none⟩) l.length (l.length + r.length)))
        exact ⟨_, _, hr, hgr.1, hgr.2, .inr rfl, by simp⟩
theorem wpList_append_bytes {ops : Array Oper} {rest : List Oper} {o : Oper} {a : Act} {Q : Exit → Act → World → Prop} (hgd : o.guard = none) (s x : Operand) (t : TypeId)
    (ho : o.op = .call { callee := .builtin .append, args := #[s, x], argTypes := #[t, t] })
    (e : TypeId) (i : TypeInfo) (ht : P.underlying t = some (.slice e)) (hi : P.info? e = some i) (hz : i.zero = some (.int .u8 0)) (hsz : i.size = 1) (hby : i.bytes = 1)
    (base : Nat) (v : Value) (l : List UInt8) (hs : a.eval s = v) (hown : OwnB e w base v l) (A : Option Addr) (m c : Nat) (l2 : List UInt8) (hx : a.eval x = .slice A m c) (hb : BS w A m c l2)
    (hroom : l.length + m ≤ 140737488355328) (hbase : base ≤ w.heap.size)
    (h : ∀ v' w', OwnB e w' base v' (l ++ l2) → w.grownBy w' v.ownBlock → (v'.ownBlock = v.ownBlock ∨ v'.ownBlock = some w.heap.size) → (v' = .slice none 0 0 ↔ v = .slice none 0 0 ∧ m = 0) → wpList P ops Q rest (a.put o.dst v') w') : wpList P ops Q (o :: rest) a w := by
  refine wpList_plain hgd fun K hK => ?_
  obtain ⟨v', w', hr, h2, h3, h4, h5⟩ := run_append_bytes (P := P) w t o.type e i ht hi hz hsz hby base v l hown A m c l2 hb hroom hbase
  unfold Oper.wp execOp
  simp only [ho, resolve, invoke, builtin, Sem.run_bind, Sem.run_pure, Result.andThen_ok, List.map_toArray, List.map_cons, List.map_nil, hs, hx, hr]
  exact hK _ _ (h v' w' h2 h3 h4 h5)
end append

/-- q | y << m, where q has m bits at the most -/
theorem or_shl {q m y : Nat} (hq : q < 2 ^ m) (hy : (q : Nat) + y * 2 ^ m < 18446744073709551616) : bits .or .u64 (q : Int) (IntKind.u64.wrap ((y : Int) * 2 ^ m)) = ((q + y * 2 ^ m : Nat) : Int) := by
  have e : ((y : Int) * 2 ^ m) = ((y * 2 ^ m : Nat) : Int) := by simp
  have hw : IntKind.u64.wrap ((y * 2 ^ m : Nat) : Int) = ((y * 2 ^ m : Nat) : Int) := IntWalk.u64_in _ ⟨by omega, by omega⟩
  rw [e, hw, u64_or_nat _ _ (by omega) (by omega), Nat.or_comm, nat_join m _ _ (Nat.mul_mod_left _ _) hq, Nat.add_comm]

theorem u64_nat (x : Nat) : IntKind.u64.wrap (x : Int) = ((x % 18446744073709551616 : Nat) : Int) := by
  simp [IntKind.wrap, IntKind.bits, IntKind.signed]
theorem u64_mul (x y : Nat) : IntKind.u64.wrap ((x : Int) * (y : Int)) = ((x * y % 18446744073709551616 : Nat) : Int) := by
  rw [← u64_nat, Int.natCast_mul]
theorem u64_add (x y : Nat) : IntKind.u64.wrap ((x : Int) + (y : Int)) = (((x + y) % 18446744073709551616 : Nat) : Int) := by
  rw [← u64_nat, Int.natCast_add]

theorem xor_bv (x y : UInt8) : Value.int .u8 (bits BinOp.xor IntKind.u8 (y.toNat : Int) (x.toNat : Int)) = bv (y ^^^ x) := by
  rw [u8_xor_nat _ _ y.toNat_lt x.toNat_lt]
  simp [bv]
theorem grown_setCell {w wr : World} {g : Nat} (h : w.grownBy wr (some g)) (i : Nat) (u : Value) : w.grownBy (wr.setCell ⟨g, i, none⟩ u) (some g) :=
  ⟨h.os, h.tape, h.output, by simpa [World.setCell] using h.size, fun k hk hne => (Below.heap_setCell wr ⟨g, i, none⟩ u k (fun e => hne (by rw [e]))).trans (h.block k hk hne)⟩

/-- a slice's length: for a loop's measure -/
def lenV : Value → Nat | .slice _ n _ => n | _ => 0

/-- one byte in a new block -/
theorem BS.one (w : World) (e : TypeId) (x : UInt8) : BS (w.alloc (.cells #[bv x] e)) (some ⟨w.heap.size, 0, none⟩) 1 1 [x] :=
  ⟨rfl, Nat.le_refl _, by omega, by omega, fun _ => ⟨_, _, rfl, by simp, fun i hi => by
    obtain rfl : i = 0 := by simp at hi; omega
    exact cell_of_row _ _ 0 #[bv x] e (0, 0) (heap_alloc_new w _)⟩⟩

theorem BS.one' (w : World) (e : TypeId) (x : UInt8) {y : Int} (h : y = x.toNat) : BS (w.alloc (.cells #[.int .u8 y] e)) (some ⟨w.heap.size, 0, none⟩) 1 1 [x] := by
  subst h
  exact BS.one w e x
theorem OwnB.step {e : TypeId} {w0 w w' : World} {base : Nat} {v : Value} {l : List UInt8} (hb : Below base w0 w) (ho : OwnB e w base v l) (hg : w.grownBy w' v.ownBlock) (hB : base ≤ w.heap.size) : Below base w0 w' :=
  hb.grown hg hB fun k hk => (ho.lt k hk).1

/-- a byte slice as a string -/
theorem run_convert_bs {P : Program} {w : World} {A : Option Addr} {n c : Nat} {l : List UInt8} (h : BS w A n c l) (src e dst : TypeId) (hs : P.underlying src = some (.slice e)) (he : P.underlying e = some (.int .u8)) (hd : P.underlying dst = some .string) :
    (convert src dst (.slice A n c)).run P w = .ok (.string ⟨l.toArray⟩) w := by
  obtain rfl := h.len
  rcases Nat.eq_zero_or_pos l.length with h0 | h0
  · have hn : l = [] := List.eq_nil_of_length_eq_zero h0
    subst hn
    rcases A with _ | ad
    · rw [run_convert_bytes_nil w src e hs he _ _ dst hd]
      rfl
    · rw [run_convert_bytes_string w src dst e _ _ c hs he hd, List.length_nil, run_bytesToString w _ 0 c [] (by simp [loadCells, loadCellsFrom, Sem.run_pure])]
      rfl
  · obtain ⟨b, o, rfl, _, hc⟩ := h.has h0
    rw [run_convert_bytes_arg w src e hs he b o l.length c (l.map fun x => (x.toNat : Int)) (by simp) (fun i hi => by rw [hc i hi]; simp [List.getD, hi]) dst hd]
    congr 1
    simp only [strOfNums, List.map_map]
    congr 2
    conv => rhs; rw [← List.map_id l]
    apply congrArg
    apply List.map_congr_left
    intro x _
    simp

end Go.Proofs.Ytlchfadfbepapaa
