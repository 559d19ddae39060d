/-
  PURE: which of two blocks counts, where a beginning of a new one was written over the other one; arrays of blocks.
-/
import Derived.Test.YtbjnmiaplegkcaaDoorLives05
namespace Go.Proofs.YtbjnmiaplegkcaaDoor
open Go.RowKit
namespace sl
theorem worth_ok {b : Blk} (h : ¬ worth b = 0) : (get b).2.2 = 0 := by
  unfold worth at h
  unfold get at h ⊢
  split at h
  · simp at h
  · next h1 =>
    split at h
    · simp at h
    · next h2 => rw [if_neg h1, if_neg h2]
theorem torn_all (old now : Blk) (ho : old.length = 128) (hn : now.length = 128) : dk.torn old now 128 = now := by
  unfold dk.torn
  rw [List.take_of_length_le (by rw [hn]; decide), List.drop_of_length_le (by rw [ho]; decide), List.append_nil]
theorem Mix.one {y : Blk} (hy : y.length = 128) : Mix [y] y := by
  have h := Mix.none_.step hy 128
  rwa [torn_all dk.zero y List.length_replicate hy] at h
/-- of a beginning of a block of number N + 1, over 0s or over one of number N - 1: it is worth more than N just if it is the whole one -/
theorem counts {N : Nat} (h1 : 2 ≤ N) (h2 : N < 2305843009213693000) {old : Blk} {c : List UInt8} (hc : c.length ≤ 108) (at_ : Int)
    (ho : old = dk.zero ∨ ∃ b : List UInt8, b.length ≤ 108 ∧ old = sealB (N - 1) b) : N < worth (dk.torn old (sealB (N + 1) c) at_) ↔ dk.torn old (sealB (N + 1) c) at_ = sealB (N + 1) c := by
  constructor
  · intro h
    have hx := seal_length (N + 1) hc
    have hok := worth_ok (b := dk.torn old (sealB (N + 1) c) at_) (by omega)
    rcases ho with rfl | ⟨b, hb, rfl⟩
    · have hm := Mix.none_.step hx at_
      have hw : Were ([] ++ [sealB (N + 1) c]) (fun _ => N + 1) := ⟨fun i hi => by
        obtain rfl : i = 0 := by simp at hi; omega
        exact ⟨c, hc, rfl⟩, fun i _ => by omega, fun i _ => by omega, fun i j _ _ => by omega, fun i j hi hj _ => by simp at hi hj; omega⟩
      obtain ⟨i, hi, e⟩ := hm.whole hw hok
      obtain rfl : i = 0 := by simp at hi; omega
      exact e
    · have hy := seal_length (N - 1) hb
      have hm := (Mix.one hy).step hx at_
      have hw : Were ([sealB (N - 1) b] ++ [sealB (N + 1) c]) (fun i => if i = 0 then N - 1 else N + 1) := ⟨fun i hi => by
        have hcs : i = 0 ∨ i = 1 := by simp at hi; omega
        rcases hcs with rfl | rfl
        · exact ⟨b, hb, rfl⟩
        · exact ⟨c, hc, rfl⟩, fun i _ => by split <;> omega, fun i _ => by split <;> omega, fun i j _ _ => by split <;> split <;> omega, fun i j hi hj e => by
          simp at hi hj
          split at e <;> split at e <;> omega⟩
      obtain ⟨i, hi, e⟩ := hm.whole hw hok
      have hcs : i = 0 ∨ i = 1 := by simp at hi; omega
      rcases hcs with rfl | rfl
      · have e' : dk.torn (sealB (N - 1) b) (sealB (N + 1) c) at_ = sealB (N - 1) b := e
        rw [e', worth_seal (by omega) (by omega) hb] at h
        omega
      · exact e
  · intro e
    rw [e, worth_seal (by omega) (by omega) hc]
    omega
end sl

/-! ### Arrays of blocks -/
namespace dk
theorem arr_length {S : List Blk} (h : ∀ b ∈ S, b.length = 128) : (cellsS S).length = S.length * 128 := by
  unfold cellsS
  rw [flat_length 128 _ (fun x hx => by
    obtain ⟨b, hb, rfl⟩ := List.mem_map.1 hx
    rw [List.length_map]
    exact h b hb), List.length_map]
theorem arr_set {S : List Blk} (h : ∀ b ∈ S, b.length = 128) {i : Nat} (hi : i < S.length) {y : Blk} (hy : y.length = 128) : (cellsS S).take (i * 128) ++ cells y ++ (cellsS S).drop (i * 128 + 128) = cellsS (S.set i y) := by
  unfold cellsS
  rw [List.map_set]
  exact flat_set 128 _ (fun x hx => by
    obtain ⟨b, hb, rfl⟩ := List.mem_map.1 hx
    rw [List.length_map]
    exact h b hb) i (by simpa using hi) (cells y) (by rw [List.length_map]; exact hy)
theorem arr_range {w : World} {B : Nat} {S : List Blk} {E : TypeId} {fr : Nat × Nat} (h : ∀ b ∈ S, b.length = 128) (hB : w.heap[B]? = some (.cells (cellsS S).toArray E fr)) {i : Nat} (hi : i < S.length) : w.rangeAt B (i * 128) (cells S[i]) :=
  range_of hB _ _ fun j u hj => by
    have hj' : j < 128 := by
      have := (List.getElem?_eq_some_iff.1 hj).1
      rwa [List.length_map, h _ (List.getElem_mem hi)] at this
    have h1 := flat_get 128 (S.map cells) (fun x hx => by
      obtain ⟨b, hb, rfl⟩ := List.mem_map.1 hx
      rw [List.length_map]
      exact h b hb) i (by simpa using hi) j hj'
    rw [List.getElem_map, hj] at h1
    exact h1
/-- a pair of blocks in memory -/
theorem two0 {w : World} {B : Nat} {x y : Blk} {E : TypeId} {fr : Nat × Nat} (hx : x.length = 128) (hy : y.length = 128) (hB : w.heap[B]? = some (.cells (cellsS [x, y]).toArray E fr)) : w.rangeAt B 0 (cells x) := by
  have := arr_range (S := [x, y]) (fun b hb => by rcases List.mem_cons.1 hb with rfl | hb; exact hx; rw [List.mem_singleton.1 hb]; exact hy) hB (i := 0) (by simp)
  simpa using this
theorem two1 {w : World} {B : Nat} {x y : Blk} {E : TypeId} {fr : Nat × Nat} (hx : x.length = 128) (hy : y.length = 128) (hB : w.heap[B]? = some (.cells (cellsS [x, y]).toArray E fr)) : w.rangeAt B 128 (cells y) := by
  have := arr_range (S := [x, y]) (fun b hb => by rcases List.mem_cons.1 hb with rfl | hb; exact hx; rw [List.mem_singleton.1 hb]; exact hy) hB (i := 1) (by simp)
  simpa using this
theorem two_len {x y : Blk} (hx : x.length = 128) (hy : y.length = 128) : (cellsS [x, y]).length = 256 := by
  rw [arr_length (fun b hb => by rcases List.mem_cons.1 hb with rfl | hb; exact hx; rw [List.mem_singleton.1 hb]; exact hy)]
  simp
theorem two_set0 {x y z : Blk} (hx : x.length = 128) (hy : y.length = 128) (hz : z.length = 128) : (cellsS [x, y]).take 0 ++ cells z ++ (cellsS [x, y]).drop (0 + 128) = cellsS [z, y] := by
  have := arr_set (S := [x, y]) (fun b hb => by rcases List.mem_cons.1 hb with rfl | hb; exact hx; rw [List.mem_singleton.1 hb]; exact hy) (i := 0) (by simp) hz
  simpa using this
theorem two_set1 {x y z : Blk} (hx : x.length = 128) (hy : y.length = 128) (hz : z.length = 128) : (cellsS [x, y]).take 128 ++ cells z ++ (cellsS [x, y]).drop (128 + 128) = cellsS [x, z] := by
  have := arr_set (S := [x, y]) (fun b hb => by rcases List.mem_cons.1 hb with rfl | hb; exact hx; rw [List.mem_singleton.1 hb]; exact hy) (i := 1) (by simp) hz
  simpa using this
end dk
theorem zero_two : (Tryd.prog.info? 31).map (fun i => (i.zero, i.size)) = some (some (.agg (dk.cellsS [dk.zero, dk.zero]).toArray), 256) := by kernel_rfl
end Go.Proofs.YtbjnmiaplegkcaaDoor
