/-
  A DISK IN MEMORY: a struct of five fields, its blocks in a row, what is not sure in a row of the call's own. No program is named here: the types' numbers come in.
-/
import Derived.Test.YtiiigbhkbpdciaaDoorWords
import Derived.Test.YtiiigbhkbpdciaaDoorFoot
import Derived.Test.YtiiigbhkbpdciaaDoorDiskL
namespace Go.Proofs.YtiiigbhkbpdciaaDoor
open Go.RowKit

/-- THE SLICE OF INTEGERS '.slice A n c' READS AS l IN w. -/
structure IS (w : World) (A : Option Addr) (n c : Nat) (l : List Int) : Prop where
  len : l.length = n
  cap : n ≤ c
  max : c ≤ 9223372036854775807
  has : 0 < n → ∃ b o, A = some ⟨b, o, none⟩ ∧ b < w.heap.size ∧ ∀ i (h : i < l.length), w.cell? ⟨b, o + i, none⟩ = some (.int .i64 l[i])
theorem IS.chg {w w' : World} {A : Option Addr} {n c : Nat} {l : List Int} {F : List Nat} (h : IS w A n c l) (hC : Chg w w' F) (hA : 0 < n → ∀ b o, A = some ⟨b, o, none⟩ → b ∉ F) : IS w' A n c l :=
  ⟨h.len, h.cap, h.max, fun hn => by
    obtain ⟨b, o, e, hb, hc⟩ := h.has hn
    refine ⟨b, o, e, Nat.lt_of_lt_of_le hb hC.size, fun i hi => ?_⟩
    have e2 : w'.cell? ⟨b, o + i, none⟩ = w.cell? ⟨b, o + i, none⟩ := by simp only [World.cell?, hC.block b hb (hA hn b o e)]
    rw [e2]
    exact hc i hi⟩

/-! ### Lists of one length each, laid behind each other -/
theorem flat_length {α : Type} (k : Nat) : ∀ (LL : List (List α)), (∀ x ∈ LL, x.length = k) → LL.flatten.length = LL.length * k
  | [], _ => by simp
  | x :: r, h => by
    rw [List.flatten_cons, List.length_append, h x (List.mem_cons_self ..), flat_length k r (fun y hy => h y (List.mem_cons_of_mem _ hy)), List.length_cons, Nat.add_mul, Nat.one_mul, Nat.add_comm]
theorem flat_get {α : Type} (k : Nat) : ∀ (LL : List (List α)), (∀ x ∈ LL, x.length = k) → ∀ (i : Nat) (hi : i < LL.length) (j : Nat), j < k → LL.flatten[i * k + j]? = LL[i][j]?
  | [], _, i, hi, _, _ => by simp at hi
  | x :: r, h, 0, _, j, hj => by
    rw [List.flatten_cons, Nat.zero_mul, Nat.zero_add, List.getElem?_append_left (by rw [h x (List.mem_cons_self ..)]; exact hj)]
    rfl
  | x :: r, h, i + 1, hi, j, hj => by
    have hx := h x (List.mem_cons_self ..)
    rw [List.flatten_cons, List.getElem?_append_right (by rw [hx, Nat.add_mul]; omega), hx, show (i + 1) * k + j - k = i * k + j from by rw [Nat.add_mul]; omega]
    exact flat_get k r (fun y hy => h y (List.mem_cons_of_mem _ hy)) i (by simpa using hi) j hj
theorem flat_set {α : Type} (k : Nat) : ∀ (LL : List (List α)), (∀ x ∈ LL, x.length = k) → ∀ (i : Nat), i < LL.length → ∀ (y : List α), y.length = k → LL.flatten.take (i * k) ++ y ++ LL.flatten.drop (i * k + k) = (LL.set i y).flatten
  | [], _, i, hi, _, _ => by simp at hi
  | x :: r, h, 0, _, y, _ => by
    have hx := h x (List.mem_cons_self ..)
    simp [← hx]
  | x :: r, h, i + 1, hi, y, hy => by
    have hx := h x (List.mem_cons_self ..)
    have ih := flat_set k r (fun z hz => h z (List.mem_cons_of_mem _ hz)) i (by simpa using hi) y hy
    rw [List.set_cons_succ, List.flatten_cons, List.flatten_cons, ← ih, show (i + 1) * k = x.length + i * k from by rw [hx, Nat.add_mul]; omega, List.take_length_add_append, show x.length + i * k + k = x.length + (i * k + k) from by omega,
      List.drop_length_add_append, List.append_assoc, List.append_assoc, List.append_assoc]

theorem flat_set1 {α : Type} (k : Nat) : ∀ (LL : List (List α)), (∀ x ∈ LL, x.length = k) → ∀ (i : Nat) (hi : i < LL.length) (j : Nat), j < k → ∀ u, LL.flatten.set (i * k + j) u = (LL.set i (LL[i].set j u)).flatten
  | [], _, i, hi, _, _, _ => by simp at hi
  | x :: r, h, 0, _, j, hj, u => by
    have hx := h x (List.mem_cons_self ..)
    rw [List.flatten_cons, Nat.zero_mul, Nat.zero_add, List.set_append_left _ _ (by omega)]
    rfl
  | x :: r, h, i + 1, hi, j, hj, u => by
    have hx := h x (List.mem_cons_self ..)
    have ih := flat_set1 k r (fun z hz => h z (List.mem_cons_of_mem _ hz)) i (by simpa using hi) j hj u
    rw [List.flatten_cons, List.set_append_right _ _ (by rw [hx, Nat.add_mul]; omega), hx, show (i + 1) * k + j - k = i * k + j from by rw [Nat.add_mul]; omega, ih]
    rfl

namespace dk
/-- a block as a value, and its cells -/
abbrev cells (b : Blk) : List Value := b.map bv
abbrev val (b : Blk) : Value := .agg (cells b).toArray
/-- what is not sure, as cells -/
abbrev put (x : Int × Blk) : List Value := .int .i64 x.1 :: cells x.2
def cellsL (L : List (Int × Blk)) : List Value := (L.map put).flatten
def cellsS (S : List Blk) : List Value := (S.map cells).flatten

/-- THE DISK s IN w: the struct in block p, its blocks in block g, what is not sure in v. T, E, P: the types' numbers of the struct, a block, a write that is not sure. -/
structure M (T E P : TypeId) (w : World) (p g c : Nat) (r : List Value) (v : Value) (s : St) : Prop where
  obj : w.heap[p]? = some (.cells #[.slice (some ⟨g, 0, none⟩) s.S.length c, v, .int .i64 s.cut, .bool s.black, .int .i64 s.many] T (0, 0))
  row : w.heap[g]? = some (.cells (cellsS s.S ++ r).toArray E (0, 0))
  cap : s.S.length ≤ c
  max : c ≤ 9223372036854775807
  loose : w.ownsRow 0 P 129 v s.L.length (cellsL s.L)
  ok : s.Ok
  ne1 : p ≠ g
  ne2 : v.ownBlock ≠ some p
  ne3 : v.ownBlock ≠ some g
  cutR : 0 ≤ s.cut ∧ s.cut ≤ 9223372036854775807
  manyR : 0 ≤ s.many ∧ s.many ≤ 4611686018427387904
/-- its blocks of memory -/
def fp (p g : Nat) (v : Value) : List Nat := p :: g :: v.ownBlock.toList

variable {T E P : TypeId} {w w' : World} {p g c : Nat} {r : List Value} {v : Value} {s : St}
theorem own_keep {e : TypeId} {size n : Nat} {xs : List Value} (h : w.ownsRow 0 e size v n xs) (hs : ∀ k, v.ownBlock = some k → w'.heap[k]? = w.heap[k]?) : w'.ownsRow 0 e size v n xs :=
  ⟨h.1, h.2.imp id fun ⟨k, cap, cur, hv, hb, hk, rest⟩ => ⟨k, cap, cur, hv, hb, by rw [hs k (by rw [hv]; rfl)]; exact hk, rest⟩⟩
theorem M.keep (h : M T E P w p g c r v s) (hs : Same w w' (fp p g v)) : M T E P w' p g c r v s :=
  ⟨by rw [hs p (by simp [fp])]; exact h.obj, by rw [hs g (by simp [fp])]; exact h.row, h.cap, h.max, own_keep h.loose (fun k hk => hs k (by simp [fp, hk])), h.ok, h.ne1, h.ne2, h.ne3, h.cutR, h.manyR⟩
theorem M.there (h : M T E P w p g c r v s) : Ther w (fp p g v) := fun k hk => by
  simp only [fp, List.mem_cons, Option.mem_toList] at hk
  rcases hk with rfl | rfl | hk
  · exact (Array.getElem?_eq_some_iff.1 h.obj).1
  · exact (Array.getElem?_eq_some_iff.1 h.row).1
  · rcases h.loose.2 with ⟨rfl, _⟩ | ⟨k', _, _, rfl, _, hk', _⟩
    · simp [Value.ownBlock] at hk
    · simp only [Value.ownBlock, Option.some.injEq] at hk
      subst hk
      exact (Array.getElem?_eq_some_iff.1 hk').1
theorem M.alloc (h : M T E P w p g c r v s) (o : Obj) : M T E P (w.alloc o) p g c r v s := h.keep (fun k hk => Below.heap_alloc w o k (h.there k hk))
theorem M.drew (h : M T E P w p g c r v s) : M T E P w.drew p g c r v s := h.keep (fun _ _ => rfl)
theorem M.drewN (h : M T E P w p g c r v s) (n : Nat) : M T E P (w.drewN n) p g c r v s := h.keep (fun _ _ => rfl)
theorem M.below (h : M T E P w p g c r v s) (hb : Below w.heap.size w w') : M T E P w' p g c r v s := h.keep (fun k hk => hb.block k (h.there k hk))
theorem M.c0 (h : M T E P w p g c r v s) : w.cell? ⟨p, 0, none⟩ = some (.slice (some ⟨g, 0, none⟩) s.S.length c) := by rw [cell_of_row _ _ 0 _ _ _ h.obj]; rfl
theorem M.c1 (h : M T E P w p g c r v s) : w.cell? ⟨p, 1, none⟩ = some v := by rw [cell_of_row _ _ 1 _ _ _ h.obj]; rfl
theorem M.c2 (h : M T E P w p g c r v s) : w.cell? ⟨p, 2, none⟩ = some (.int .i64 s.cut) := by rw [cell_of_row _ _ 2 _ _ _ h.obj]; rfl
theorem M.c3 (h : M T E P w p g c r v s) : w.cell? ⟨p, 3, none⟩ = some (.bool s.black) := by rw [cell_of_row _ _ 3 _ _ _ h.obj]; rfl
theorem M.c4 (h : M T E P w p g c r v s) : w.cell? ⟨p, 4, none⟩ = some (.int .i64 s.many) := by rw [cell_of_row _ _ 4 _ _ _ h.obj]; rfl
theorem M.fz (h : M T E P w p g c r v s) (i : Nat) : w.frozen? ⟨p, i, none⟩ = false := by simp [World.frozen?, h.obj]
theorem cells_len (h : s.Ok) : ∀ x ∈ s.S.map cells, x.length = 128 := fun x hx => by
  obtain ⟨b, hb, rfl⟩ := List.mem_map.1 hx
  rw [List.length_map]
  exact h.lenS b hb
theorem puts_len (h : s.Ok) : ∀ x ∈ s.L.map put, x.length = 129 := fun x hx => by
  obtain ⟨b, hb, rfl⟩ := List.mem_map.1 hx
  rw [List.length_cons, List.length_map, h.lenL b hb]
/-- block i -/
theorem M.block (h : M T E P w p g c r v s) {i : Nat} (hi : i < s.S.length) : w.rangeAt g (i * 128) (cells s.S[i]) :=
  range_of h.row _ _ fun j u hj => by
    have hj' : j < 128 := by
      have := (List.getElem?_eq_some_iff.1 hj).1
      rwa [List.length_map, h.ok.lenS _ (List.getElem_mem hi)] at this
    have hl := flat_length 128 _ (cells_len h.ok)
    rw [List.length_map] at hl
    have h1 := flat_get 128 (s.S.map cells) (cells_len h.ok) i (by simpa using hi) j hj'
    rw [List.getElem_map, hj] at h1
    rw [List.getElem?_append_left]
    · exact h1
    · unfold cellsS
      rw [hl]
      have : (i + 1) * 128 ≤ s.S.length * 128 := Nat.mul_le_mul_right _ hi
      omega
/-- write i that is not sure -/
theorem M.put_ (h : M T E P w p g c r v s) {i : Nat} (hi : i < s.L.length) : ∃ k cap, v = .slice (some ⟨k, 0, none⟩) s.L.length cap ∧ s.L.length ≤ cap ∧ cap ≤ 9223372036854775807 ∧ w.cell? ⟨k, i * 129, none⟩ = some (.int .i64 s.L[i].1) ∧ w.rangeAt k (i * 129 + 1) (cells s.L[i].2) := by
  rcases h.loose.2 with ⟨_, h0⟩ | ⟨k, cap, cur, rfl, _, hk, hc1, hc2, hc3, hc4⟩
  · omega
  · have hget : ∀ j, j < 129 → cur.toList[i * 129 + j]? = (put s.L[i])[j]? := fun j hj => by
      have h1 := flat_get 129 (s.L.map put) (puts_len h.ok) i (by simpa using hi) j hj
      rw [List.getElem_map] at h1
      rw [← h1]
      have e : (s.L.map put).flatten = cur.toList.take (s.L.length * 129) := hc4.symm
      rw [e, List.getElem?_take_of_lt]
      have : (i + 1) * 129 ≤ s.L.length * 129 := Nat.mul_le_mul_right _ hi
      omega
    refine ⟨k, cap, rfl, hc1, by rw [maxLen_eq] at hc2; exact hc2, ?_, ?_⟩
    · rw [cell_of_row _ _ _ _ _ _ hk, ← Array.getElem?_toList]
      have := hget 0 (by omega)
      rw [Nat.add_zero] at this
      rw [this]
      rfl
    · intro j u hj
      have hj' : j < 128 := by
        have := (List.getElem?_eq_some_iff.1 hj).1
        rwa [List.length_map, h.ok.lenL _ (List.getElem_mem hi)] at this
      rw [cell_of_row _ _ _ _ _ _ hk, ← Array.getElem?_toList, Nat.add_assoc]
      rw [hget (1 + j) (by omega), Nat.add_comm 1 j]
      exact hj
/-- a cell of another block is stored: a range stays -/
theorem range_setCell {w : World} {b o : Nat} {cs : List Value} (h : w.rangeAt b o cs) (a : Addr) (u : Value) (hne : a.block ≠ b) : (w.setCell a u).rangeAt b o cs := fun j v hv => by
  rw [World.cell?_setCell_other _ _ _ _ (fun e => hne (by rw [e]))]
  exact h j v hv
theorem range_grown {w w' : World} {b o : Nat} {cs : List Value} {row : Option Nat} (h : w.rangeAt b o cs) (hg : w.grownBy w' row) (hne : some b ≠ row) : w'.rangeAt b o cs := fun j v hv => by
  have h1 := h j v hv
  have hlt := World.block_lt_of_cell? w _ h1
  have e : w'.cell? ⟨b, o + j, none⟩ = w.cell? ⟨b, o + j, none⟩ := by simp only [World.cell?, hg.block b hlt hne]
  rw [e]
  exact h1
/-- a struct of a number and a block, built: the cells are laid one by one -/
theorem fold_set : ∀ (vs : List Value) (off : Nat) (k : Nat) (cs : List Value), off + k + vs.length ≤ cs.length →
    List.foldl (fun (c : Array Value) (x : Value × Nat) => c.setIfInBounds (off + x.snd) x.fst) cs.toArray (vs.zipIdx k) = (cs.take (off + k) ++ vs ++ cs.drop (off + k + vs.length)).toArray
  | [], off, k, cs, _ => by simp
  | v :: r, off, k, cs, h => by
    simp only [List.length_cons] at h
    rw [List.zipIdx_cons, List.foldl_cons]
    have e1 : (cs.toArray.setIfInBounds (off + k) v) = (cs.set (off + k) v).toArray := by simp
    simp only [e1]
    rw [fold_set r off (k + 1) (cs.set (off + k) v) (by simp; omega)]
    have e2 : (cs.set (off + k) v).take (off + (k + 1)) = cs.take (off + k) ++ [v] := by
      rw [← Nat.add_assoc, List.take_succ_eq_append_getElem (by simp; omega), List.take_set_of_le (Nat.le_refl _)]
      simp
    have e3 : (cs.set (off + k) v).drop (off + (k + 1) + r.length) = cs.drop (off + k + (v :: r).length) := by
      rw [List.drop_set_of_lt (by omega), List.length_cons]
      congr 1
      omega
    rw [e2, e3]
    simp
theorem build_put (n : Int) (b : Blk) (hb : b.length = 128) : List.foldl (fun (c : Array Value) (x : Value × Nat) => c.setIfInBounds (1 + x.snd) x.fst) (((put (0, zero)).toArray).setIfInBounds 0 (.int .i64 n)) (cells b).zipIdx = (put (n, b)).toArray := by
  have e1 : ((put (0, zero)).toArray).setIfInBounds 0 (.int .i64 n) = (put (n, zero)).toArray := by simp
  have hz : (put (n, zero)).length = 129 := by simp [zero]
  rw [e1]
  have := fold_set (cells b) 1 0 (put (n, zero)) (by rw [hz]; simp [hb])
  refine this.trans ?_
  rw [List.drop_of_length_le (by rw [hz]; simp [hb])]
  simp
theorem put_size (b : Int × Blk) (hb : b.2.length = 128) : (put b).toArray.size = 129 := by simp [hb]
/-- one element that fills a row of one -/
theorem fill_one (sz : Nat) (cs PB : Array Value) (h : PB.size = sz) (hc : cs.size = sz) : Instr.fill (fun i => some (i * sz, sz)) cs [(0, .agg PB)] = some PB := by
  have e : PB.zipIdx.foldl (fun (c : Array Value) (x : Value × Nat) => c.setIfInBounds (0 + x.snd) x.fst) cs = PB := by
    have h1 := fold_set PB.toList 0 0 cs.toList (by simp [h, hc])
    have h2 : (cs.toList.take (0 + 0) ++ PB.toList ++ cs.toList.drop (0 + 0 + PB.toList.length)).toArray = PB := by
      rw [List.drop_of_length_le (by simp [h, hc])]
      simp
    rw [h2] at h1
    obtain ⟨PL⟩ := PB
    obtain ⟨CL⟩ := cs
    simpa using h1
  unfold Instr.fill
  simp only [Nat.zero_mul, Value.cells]
  rw [if_neg (by simp [h, hc])]
  unfold Instr.fill
  exact congrArg some e
/-- one write was appended, and the slice is laid into the struct -/
theorem M.appended {w3 : World} {gg cap : Nat} {x : Int × Blk} (h : M T E P w p g c r v s) (hg : w.grownBy w3 v.ownBlock) (hown : w3.ownsRow 0 P 129 (.slice (some ⟨gg, 0, none⟩) (s.L.length + 1) cap) (s.L.length + 1) (cellsL s.L ++ put x))
    (hat : v.ownBlock = some gg ∨ gg = w.heap.size) (hx : x.2.length = 128) (hi : 0 ≤ x.1 ∧ x.1 < s.S.length) :
    M T E P (w3.setCell ⟨p, 1, none⟩ (.slice (some ⟨gg, 0, none⟩) (s.L.length + 1) cap)) p g c r (.slice (some ⟨gg, 0, none⟩) (s.L.length + 1) cap) { s with L := s.L ++ [x] } ∧
      Chg w (w3.setCell ⟨p, 1, none⟩ (.slice (some ⟨gg, 0, none⟩) (s.L.length + 1) cap)) (fp p g v) ∧ Sub w (fp p g (.slice (some ⟨gg, 0, none⟩) (s.L.length + 1) cap)) (fp p g v) := by
  have hp : p < w.heap.size := h.there p (by simp [fp])
  have hgl : g < w.heap.size := h.there g (by simp [fp])
  have hgp : gg ≠ p := by
    rcases hat with e | e
    · exact fun e2 => h.ne2 (by rw [e, e2])
    · omega
  have hgg : gg ≠ g := by
    rcases hat with e | e
    · exact fun e2 => h.ne3 (by rw [e, e2])
    · omega
  have hobj : w3.heap[p]? = _ := (hg.block p hp (fun e => h.ne2 e.symm)).trans h.obj
  have hrow : w3.heap[g]? = _ := (hg.block g hgl (fun e => h.ne3 e.symm)).trans h.row
  refine ⟨⟨(block_set hobj _).trans (by simp), (Below.heap_setCell w3 _ _ g (fun e => h.ne1 e.symm)).trans hrow, h.cap, h.max, ?_, ⟨h.ok.lenS, h.ok.some, h.ok.most, fun y hy => ?_, fun y hy => ?_⟩, h.ne1, fun e => hgp (by simpa [Value.ownBlock] using e), fun e => hgg (by simpa [Value.ownBlock] using e), h.cutR, h.manyR⟩, ?_, fun k hk => ?_⟩
  · have e : cellsL (s.L ++ [x]) = cellsL s.L ++ put x := by simp [cellsL]
    rw [e, List.length_append]
    refine own_keep hown fun k hk => Below.heap_setCell w3 _ _ k fun e2 => ?_
    simp only [Value.ownBlock, Option.some.injEq] at hk
    exact hgp (hk.trans e2)
  · rcases List.mem_append.1 hy with hy | hy
    · exact h.ok.lenL y hy
    · rw [List.mem_singleton.1 hy]; exact hx
  · rcases List.mem_append.1 hy with hy | hy
    · exact h.ok.inL y hy
    · rw [List.mem_singleton.1 hy]; exact hi
  · refine ((Chg.grown hg).mono (G := fp p g v) (fun k hk => .inl (by simp [fp] at hk ⊢; simp [hk]))).trans (Chg.setCell w3 p 1 _) (fun k hk => .inl (by simp [fp] at hk ⊢; simp [hk]))
  · simp only [fp, List.mem_cons, Option.mem_toList, Value.ownBlock, Option.some.injEq] at hk ⊢
    rcases hk with rfl | rfl | rfl
    · exact .inl (.inl rfl)
    · exact .inl (.inr (.inl rfl))
    · rcases hat with e | e
      · exact .inl (.inr (.inr e))
      · exact .inr (by omega)
/-- block i was stored anew -/
theorem M.stored {W : World} {i : Nat} {b : Blk} (h : M T E P w p g c r v s) (hi : i < s.S.length) (hb : b.length = 128)
    (hW : W.heap[g]? = some (.cells ((cellsS s.S ++ r).take (i * 128) ++ cells b ++ (cellsS s.S ++ r).drop (i * 128 + 128)).toArray E (0, 0))) (hC : Chg w W [g]) : M T E P W p g c r v { s with S := s.S.set i b } := by
  have hl := flat_length 128 _ (cells_len h.ok)
  rw [List.length_map] at hl
  have hle : i * 128 + 128 ≤ s.S.length * 128 := by
    have : (i + 1) * 128 ≤ s.S.length * 128 := Nat.mul_le_mul_right _ hi
    omega
  have e : (cellsS s.S ++ r).take (i * 128) ++ cells b ++ (cellsS s.S ++ r).drop (i * 128 + 128) = cellsS (s.S.set i b) ++ r := by
    have h1 := flat_set 128 (s.S.map cells) (cells_len h.ok) i (by simpa using hi) (cells b) (by rw [List.length_map]; exact hb)
    unfold cellsS
    rw [List.map_set, ← h1, List.take_append_of_le_length (by rw [hl]; omega), List.drop_append_of_le_length (by rw [hl]; omega)]
    simp
  rw [e] at hW
  have hp : p < w.heap.size := h.there p (by simp [fp])
  exact ⟨by rw [hC.block p hp (fun e => h.ne1 (List.mem_singleton.1 e)), List.length_set]; exact h.obj, hW, by rw [List.length_set]; exact h.cap, h.max,
    own_keep h.loose (fun k hk => hC.block k (h.there k (by simp [fp, hk])) (fun e => h.ne3 (by rw [hk, List.mem_singleton.1 e]))),
    ⟨set_len h.ok.lenS hb, by rw [List.length_set]; exact h.ok.some, by rw [List.length_set]; exact h.ok.most, h.ok.lenL, by rw [List.length_set]; exact h.ok.inL⟩, h.ne1, h.ne2, h.ne3, h.cutR, h.manyR⟩
theorem M.rowLen (h : M T E P w p g c r v s) {i : Nat} (hi : i < s.S.length) : i * 128 + 128 ≤ (cellsS s.S ++ r).length := by
  have hl := flat_length 128 _ (cells_len h.ok)
  rw [List.length_map] at hl
  have : (i + 1) * 128 ≤ s.S.length * 128 := Nat.mul_le_mul_right _ hi
  rw [List.length_append]
  unfold cellsS
  omega
/-- what is not sure is let go -/
theorem M.clear_ (h : M T E P w p g c r v s) : M T E P (w.setCell ⟨p, 1, none⟩ (.slice none 0 0)) p g c r (.slice none 0 0) { s with L := [] } :=
  ⟨(block_set h.obj _).trans (by simp), (Below.heap_setCell w _ _ g (fun e => h.ne1 e.symm)).trans h.row, h.cap, h.max, World.ownsRow_nil _ _ _ _, ⟨h.ok.lenS, h.ok.some, h.ok.most, fun _ hx => by simp at hx, fun _ hx => by simp at hx⟩, h.ne1, by simp [Value.ownBlock], by simp [Value.ownBlock], h.cutR, h.manyR⟩
theorem sub_nil : Sub w (fp p g (.slice none 0 0)) (fp p g v) := fun k hk => .inl (by
  have : k = p ∨ k = g := by simpa [fp, Value.ownBlock] using hk
  rcases this with rfl | rfl <;> simp [fp])
theorem sub_p : Sub w [p] (fp p g v) := fun k hk => .inl (by simp [fp] at hk ⊢; simp [hk])
theorem sub_g : Sub w [g] (fp p g v) := fun k hk => .inl (by simp [fp] at hk ⊢; simp [hk])
/-- one byte of block i was stored anew -/
theorem M.byte {i k : Nat} {y : UInt8} (h : M T E P w p g c r v s) (hi : i < s.S.length) (hk : k < 128) :
    M T E P (w.setCell ⟨g, i * 128 + k, none⟩ (bv y)) p g c r v { s with S := s.S.set i (s.S[i].set k y) } := by
  have hb := h.ok.lenS _ (List.getElem_mem hi)
  have hl := flat_length 128 _ (cells_len h.ok)
  rw [List.length_map] at hl
  have hle : i * 128 + 128 ≤ s.S.length * 128 := by
    have : (i + 1) * 128 ≤ s.S.length * 128 := Nat.mul_le_mul_right _ hi
    omega
  have h1 := flat_set1 128 (s.S.map cells) (cells_len h.ok) i (by simpa using hi) k hk (bv y)
  have e : (cellsS s.S ++ r).set (i * 128 + k) (bv y) = cellsS (s.S.set i (s.S[i].set k y)) ++ r := by
    unfold cellsS
    rw [List.set_append_left _ _ (by rw [hl]; omega), h1, List.map_set]
    simp
  have hrow : (w.setCell ⟨g, i * 128 + k, none⟩ (bv y)).heap[g]? = some (.cells (cellsS (s.S.set i (s.S[i].set k y)) ++ r).toArray E (0, 0)) := by
    rw [← e]
    exact (block_set h.row _).trans (by simp)
  have hC := Chg.setCell w g (i * 128 + k) (bv y)
  have hp : p < w.heap.size := h.there p (by simp [fp])
  exact ⟨by rw [hC.block p hp (fun e => h.ne1 (List.mem_singleton.1 e)), List.length_set]; exact h.obj, hrow, by rw [List.length_set]; exact h.cap, h.max,
    own_keep h.loose (fun k hk => hC.block k (h.there k (by simp [fp, hk])) (fun e => h.ne3 (by rw [hk, List.mem_singleton.1 e]))),
    ⟨set_len h.ok.lenS (by rw [List.length_set]; exact hb), by rw [List.length_set]; exact h.ok.some, by rw [List.length_set]; exact h.ok.most, h.ok.lenL, by rw [List.length_set]; exact h.ok.inL⟩, h.ne1, h.ne2, h.ne3, h.cutR, h.manyR⟩
theorem cell_sets_far {w : World} {g o : Nat} {vs : List Value} {a : Addr} (h : a.block ≠ g) : (w.setCells g o vs).cell? a = w.cell? a := by
  have hC := Chg.setCells g vs o w
  rcases Nat.lt_or_ge a.block w.heap.size with h1 | h1
  · simp only [World.cell?, hC.block a.block h1 (fun e => h (List.mem_singleton.1 e))]
  · have e : (w.setCells g o vs).heap.size = w.heap.size := by
      clear hC h h1
      induction vs generalizing o w with
      | nil => rfl
      | cons v r ih => rw [World.setCells, ih]; simp [World.setCell]
    simp only [World.cell?]
    rw [Array.getElem?_eq_none (by omega), Array.getElem?_eq_none (by omega)]
theorem range_sets_far {w : World} {g o b ob : Nat} {vs cs : List Value} (h : w.rangeAt b ob cs) (hne : b ≠ g) : (w.setCells g o vs).rangeAt b ob cs := fun j v hv => by
  rw [cell_sets_far (a := ⟨b, ob + j, none⟩) hne]
  exact h j v hv
theorem range_below {w w' : World} {b o : Nat} {cs : List Value} (h : w.rangeAt b o cs) (hb : Below w.heap.size w w') : w'.rangeAt b o cs := fun j v hv => by
  have h1 := h j v hv
  rw [hb.cell (p := ⟨b, o + j, none⟩) (World.block_lt_of_cell? w _ h1)]
  exact h1
end dk
end Go.Proofs.YtiiigbhkbpdciaaDoor
