/-
  cardexlaw04's walk: DiskAll.
-/
import Derived.Test.YtajdeoackpfhoaaLaw04c
import Derived.Test.YtajdeoackpfhoaaDiskO
import Derived.Deep.AppendLies
import Derived.Test.YtajdeoackpfhoaaDiskR2
namespace Go.Proofs.Ytajdeoackpfhoaa
open Go.RowKit

namespace dk
theorem getD_set {S : List Blk} {i k : Nat} {b : Blk} (hi : i < S.length) : (S.set i b).getD k zero = if i = k then b else S.getD k zero := by
  simp only [List.getD_eq_getElem?_getD, List.getElem?_set]
  by_cases h : i = k
  · subst h
    rw [if_pos rfl, if_pos hi, if_pos rfl]
    rfl
  · rw [if_neg h, if_neg h]
theorem look_lay (k : Nat) : ∀ (L : List (Int × Blk)) (S : List Blk), (∀ x ∈ L, 0 ≤ x.1 ∧ x.1 < S.length) → look (S.getD k zero) k L = (lay S L).getD k zero
  | [], _, _ => rfl
  | x :: r, S, h => by
    obtain ⟨h0, h1⟩ := h x (List.mem_cons_self ..)
    rw [look, lay, ← look_lay k r _ (fun y hy => by rw [List.length_set]; exact h y (List.mem_cons_of_mem _ hy)), getD_set (by omega)]
    congr 1
    by_cases e : x.1 = (k : Int)
    · rw [if_pos e, if_pos (by omega)]
    · rw [if_neg e, if_neg (by omega)]
theorem tear_all : ∀ (L : List (Int × Blk)) (S : List Blk) (p : List Int), (∀ b ∈ S, b.length = 128) → (∀ x ∈ L, x.2.length = 128) → L.length ≤ p.length → (∀ q ∈ p, 128 ≤ q) → tear S L p = lay S L
  | [], _, _, _, _, _, _ => rfl
  | x :: r, S, p, hS, hL, hp, hq => by
    cases p with
    | nil => simp at hp
    | cons q p =>
      have h128 := hq q (List.mem_cons_self ..)
      have hx := hL x (List.mem_cons_self ..)
      have e : torn (S.getD x.1.toNat zero) x.2 q = x.2 := by
        have := getD_len hS x.1.toNat
        unfold torn
        rw [List.take_of_length_le (by omega), List.drop_of_length_le (by omega), List.append_nil]
      rw [tear, lay, List.headD_cons, List.tail_cons, e]
      exact tear_all r _ p (set_len hS hx) (fun y hy => hL y (List.mem_cons_of_mem _ hy)) (by simpa using hp) (fun y hy => hq y (List.mem_cons_of_mem _ hy))
theorem tear_nil : ∀ (L : List (Int × Blk)) (S : List Blk), tear S L [] = S
  | [], _ => rfl
  | x :: r, S => by
    rw [tear]
    have e : S.set x.1.toNat (torn (S.getD x.1.toNat zero) x.2 (List.headD [] 0)) = S := by
      have e1 : torn (S.getD x.1.toNat zero) x.2 (List.headD [] 0) = S.getD x.1.toNat zero := by simp [torn]
      rw [e1]
      apply List.ext_getElem?
      intro i
      rw [List.getElem?_set]
      by_cases h : x.1.toNat = i
      · subst h
        rw [if_pos rfl]
        by_cases hi : x.1.toNat < S.length
        · rw [if_pos hi, List.getD_eq_getElem?_getD, List.getElem?_eq_getElem hi]
          rfl
        · rw [if_neg hi, List.getElem?_eq_none (by omega)]
      · rw [if_neg h]
    rw [e]
    exact tear_nil r S
/-- S1 is sure, m0 steps were done, then l was written -/
def wst (S1 : List Blk) (m0 : Int) (l : List (UInt8 × Blk)) : St := ⟨S1, l.map conv, 0, false, m0 + (l.length : Int)⟩
theorem wst_start (l : List (UInt8 × Blk)) : flush (stw l) = (0, wst (lay (List.replicate 64 zero) (l.map conv)) ((l.length : Int) + 1) []) := by
  rw [flush_ok rfl rfl]
  simp [wst, stw]
theorem wst_snoc (S1 : List Blk) (m0 : Int) (l : List (UInt8 × Blk)) (x : UInt8 × Blk) (hS : S1.length = 64) : write (wst S1 m0 l) ((x.1.toNat % 16 : Nat) : Int) x.2 = (0, wst S1 m0 (l ++ [x])) := by
  rw [write_ok rfl rfl (by omega) (by simp [wst, hS]; omega)]
  simp [wst, conv]
  omega
theorem wst_in (S1 : List Blk) (m0 : Int) (l : List (UInt8 × Blk)) (hS : S1.length = 64) : ∀ x ∈ (wst S1 m0 l).L, 0 ≤ x.1 ∧ x.1 < S1.length := fun x hx => by
  obtain ⟨y, _, rfl⟩ := List.mem_map.1 hx
  simp only [conv]
  omega
theorem wst_read (S1 : List Blk) (m0 : Int) (l : List (UInt8 × Blk)) (hS : S1.length = 64) (k : Nat) (hk : k < 64) : read (wst S1 m0 l) k = ((lay S1 (l.map conv)).getD k zero, 0) := by
  have ha : asks (wst S1 m0 l) k = 0 := by
    unfold asks
    rw [if_neg (by simp [wst]), if_neg (by simp [wst, hS]; omega)]
  rw [read, if_pos ha, Int.toNat_natCast]
  exact congrArg (·, 0) (look_lay k _ _ (wst_in S1 m0 l hS))
/-- the first k blocks, then blocks of 0s -/
def firsts (S1 : List Blk) (k : Nat) : List Blk := S1.take k ++ List.replicate (16 - k) zero
theorem firsts_length {S1 : List Blk} (hS : S1.length = 64) {k : Nat} (hk : k ≤ 16) : (firsts S1 k).length = 16 := by
  simp [firsts, hS]
  omega
theorem firsts_set {S1 : List Blk} (hS : S1.length = 64) {k : Nat} (hk : k < 16) : (firsts S1 k).set k (S1.getD k zero) = firsts S1 (k + 1) := by
  unfold firsts
  rw [List.set_append_right _ _ (by simp; omega), show k - (S1.take k).length = 0 from by simp; omega, show 16 - k = (16 - (k + 1)) + 1 from by omega, List.replicate_succ, List.set_cons_zero, List.take_succ_eq_append_getElem (by omega), List.append_assoc]
  congr 1
  rw [List.getD_eq_getElem?_getD, List.getElem?_eq_getElem (by omega)]
  rfl
theorem firsts_len {S1 : List Blk} (h : ∀ b ∈ S1, b.length = 128) (k : Nat) : ∀ b ∈ firsts S1 k, b.length = 128 := fun b hb => by
  rcases List.mem_append.1 hb with hb | hb
  · exact h b (List.mem_of_mem_take hb)
  · rw [(List.mem_replicate.1 hb).2]
    exact List.length_replicate
theorem cellsS_length {S : List Blk} (h : ∀ b ∈ S, b.length = 128) : (cellsS S).length = S.length * 128 := by
  unfold cellsS
  rw [flat_length 128 _ (fun x hx => by
    obtain ⟨b, hb, rfl⟩ := List.mem_map.1 hx
    rw [List.length_map]
    exact h b hb), List.length_map]
theorem cellsS_set {S : List Blk} (h : ∀ b ∈ S, b.length = 128) {i : Nat} (hi : i < S.length) {y : Blk} (hy : y.length = 128) : (cellsS S).take (i * 128) ++ cells y ++ (cellsS S).drop (i * 128 + 128) = cellsS (S.set i y) := by
  unfold cellsS
  rw [List.map_set]
  exact flat_set 128 _ (fun x hx => by
    obtain ⟨b, hb, rfl⟩ := List.mem_map.1 hx
    rw [List.length_map]
    exact h b hb) i (by simpa using hi) (cells y) (by rw [List.length_map]; exact hy)
theorem cellsS_range {w : World} {B : Nat} {S : List Blk} {E : TypeId} {fr : Nat × Nat} (h : ∀ b ∈ S, b.length = 128) (hB : w.heap[B]? = some (.cells (cellsS S).toArray E fr)) {i : Nat} (hi : i < S.length) : w.rangeAt B (i * 128) (cells S[i]) :=
  range_of hB _ _ fun j u hj => by
    have hj' : j < 128 := by
      have := (List.getElem?_eq_some_iff.1 hj).1
      rwa [List.length_map, h _ (List.getElem_mem hi)] at this
    have h1 := flat_get 128 (S.map cells) (fun x hx => by
      obtain ⟨b, hb, rfl⟩ := List.mem_map.1 hx
      rw [List.length_map]
      exact h b hb) i (by simpa using hi) j hj'
    rw [List.getElem_map, hj] at h1
    exact h1
theorem firsts_get {S1 : List Blk} (hS : S1.length = 64) {k : Nat} (hk : k < 16) (h : k < (firsts S1 16).length) : (firsts S1 16)[k] = S1.getD k zero := by
  have e : (firsts S1 16)[k]? = some (S1.getD k zero) := by
    unfold firsts
    rw [List.getElem?_append_left (by simp; omega), List.getElem?_take_of_lt hk, List.getD_eq_getElem?_getD, List.getElem?_eq_getElem (by omega)]
    rfl
  exact Option.some.inj ((List.getElem?_eq_getElem h).symm.trans e)
theorem wst_kept (S1 : List Blk) (m0 : Int) (l : List (UInt8 × Blk)) (h1 : ∀ b ∈ S1, b.length = 128) (h2 : ∀ x ∈ (wst S1 m0 l).L, x.2.length = 128) (hp : List Int) (hj : l.length ≤ hp.length) (hq : ∀ q ∈ hp, 128 ≤ q) : (crash (wst S1 m0 l) hp).S = lay S1 (l.map conv) := by
  unfold crash
  exact tear_all _ _ _ h1 h2 (by simpa [wst] using hj) hq
theorem wst_lost (S1 : List Blk) (m0 : Int) (l : List (UInt8 × Blk)) : (crash (wst S1 m0 l) []).S = S1 := by
  unfold crash
  exact tear_nil _ _
/-- the numbers that keep all -/
def pk (j : Nat) : List Int := (List.range j).map fun (i : Nat) => 128 + (i : Int)
theorem pk_succ (j : Nat) : pk (j + 1) = pk j ++ [128 + (j : Int)] := by simp [pk, List.range_succ]
theorem pk_ge (j : Nat) : ∀ q ∈ pk j, 128 ≤ q := fun q hq => by
  obtain ⟨i, _, rfl⟩ := List.mem_map.1 hq
  omega
theorem pk_length (j : Nat) : (pk j).length = j := by simp [pk]
end dk
theorem zero_arr16 : (Try.prog.info? 52).map (fun i => (i.zero, i.size)) = some (some (.agg (dk.cellsS (List.replicate 16 dk.zero)).toArray), 2048) := by kernel_rfl
theorem info_int : (Try.prog.info? 3).map (fun i => (i.zero, i.size, i.bytes)) = some (some (.int .i64 0), 1, 8) := by kernel_rfl
theorem own_there {w : World} {base n size : Nat} {e : TypeId} {v : Value} {xs : List Value} (h : w.ownsRow base e size v n xs) : ∀ k, v.ownBlock = some k → k < w.heap.size := fun k hk => by
  rcases h.2 with ⟨rfl, _⟩ | ⟨g, _, _, rfl, _, hg, _⟩
  · simp [Value.ownBlock] at hk
  · simp only [Value.ownBlock, Option.some.injEq] at hk
    rw [← hk]
    exact (Array.getElem?_eq_some_iff.1 hg).1
/-- integers of the call's own, as a slice of integers -/
theorem IS.of_own {w : World} {base n : Nat} {v : Value} {l : List Int} (h : w.ownsRow base 3 1 v n (l.map (Value.int .i64 ·))) (hn : n = l.length) : ∃ A c, v = .slice A n c ∧ IS w A n c l ∧ (0 < n → ∀ b o, A = some ⟨b, o, none⟩ → v.ownBlock = some b) := by
  rcases h.2 with ⟨rfl, h0⟩ | ⟨g, cap, cur, rfl, hb, hg, h1, h2, h3, h4⟩
  · have h0' : n = 0 := h0
    refine ⟨none, 0, by rw [h0'], ⟨hn.symm, by omega, by omega, fun h => by omega⟩, fun h => by omega⟩
  · rw [maxLen_eq] at h2
    refine ⟨_, cap, rfl, ⟨hn.symm, h1, h2, fun _ => ⟨g, 0, rfl, (Array.getElem?_eq_some_iff.1 hg).1, fun i hi => ?_⟩⟩, fun _ b o e => by
      injection e with e
      injection e with e1 e2
      rw [← e1]; rfl⟩
    rw [Nat.zero_add, h.cellAt i (by omega), List.getElem?_map, List.getElem?_eq_getElem hi]
    rfl
end Go.Proofs.Ytajdeoackpfhoaa
