/-
  contract of the program's Copy.
-/
import Derived.Test.YtajdeoackpfhoaaDiskP5
namespace Go.Proofs.Ytajdeoackpfhoaa
open Go.RowKit
variable {w : World} {p g c : Nat} {r : List Value} {v : Value} {s : dk.St}

theorem below_grown {w w' : World} {o : Obj} (h : (w.alloc o).grownBy w' (some w.heap.size)) : Below w.heap.size w w' :=
  ⟨h.os, h.tape, h.output, Nat.le_trans (by simp) h.size, fun k hk => (h.block k (by simp; omega) (fun e => by simp only [Option.some.injEq] at e; omega)).trans (Below.heap_alloc w o k hk)⟩
theorem addr_add (g j : Nat) : (⟨g, 0, none⟩ : Addr).add j = ⟨g, j, none⟩ := by unfold Addr.add; split <;> simp_all
theorem own_weak {w : World} {b b' : Nat} {e : TypeId} {size n : Nat} {v : Value} {xs : List Value} (h : w.ownsRow b e size v n xs) (hb : b' ≤ b) : w.ownsRow b' e size v n xs :=
  ⟨h.1, h.2.imp id fun ⟨k, cap, cur, hv, h1, rest⟩ => ⟨k, cap, cur, hv, Nat.le_trans hb h1, rest⟩⟩

set_option maxHeartbeats 4000000 in
set_option maxRecDepth 100000 in
theorem pcloneS (S : List dk.Blk) (hS : ∀ b ∈ S, b.length = 128) (hn : 0 < S.length) (hm : S.length ≤ 4096) (g c : Nat) (hr : w.rangeAt g 0 (dk.cellsS S)) : Calls Try.prog 34 #[.slice (some ⟨g, 0, none⟩) S.length c] w fun e w' =>
    ∃ v', e = .returned v' ∧ w'.ownsRow w.heap.size 33 128 v' S.length (dk.cellsS S) ∧ Below w.heap.size w w' := by
  obtain ⟨i0, hi0, hz0, hs0, hb0⟩ := info_parts4 info_blk3
  have hlen : (dk.cellsS S).length = S.length * 128 := by
    unfold dk.cellsS
    rw [flat_length 128 _ (fun x hx => ?_), List.length_map]
    obtain ⟨b, hb, rfl⟩ := List.mem_map.1 hx
    rw [List.length_map]
    exact hS b hb
  have hone : ∀ u ∈ dk.cellsS S, u.oneCell' = true := fun u hu => by
    obtain ⟨x, hx, hu⟩ := List.mem_flatten.1 hu
    obtain ⟨b, _, rfl⟩ := List.mem_map.1 hx
    exact bvs_one b u hu
  generalize dk.cellsS S = cs at *
  have k1 := fun W => Lib.run_eql_slice_nil (P := Try.prog) W 56 33 (some ⟨g, 0, none⟩) S.length c 0 0 Try.underlying56
  have hown := World.ownsRow_lit (e := 33) (size := 128) w #[] 0 (Nat.le_refl _) (by rw [maxLen_eq]; omega) (by rfl)
  have hr1 := World.rangeAt_alloc hr (.cells #[] 33)
  go_enter Try.func34, Try.ntmps34
  go_wp2_with (at_builtin; refine wpList_append_own _ rfl (.tmp 5) (.tmp 6) 56 rfl w.heap.size 33 i0 _ 128 128 Try.underlying56 hi0 hz0 hs0 hb0 (by simp [Value.cells, zero_len]) (by omega) _ 0 [] rfl hown ⟨g, 0, none⟩ S.length c cs rfl hlen ?_ hone (by rw [maxLen_eq]; omega) (by omega) (by simp) ?_)
  · intro j u hj
    have := hr1 j u hj
    rwa [Nat.zero_add] at this
  · intro v' w' ho hg _
    go_wp2_with fail
    go_ret
    exact ⟨_, rfl, ho, below_grown hg⟩

set_option maxHeartbeats 4000000 in
set_option maxRecDepth 100000 in
theorem pcloneL (L : List (Int × dk.Blk)) (hm : L.length ≤ 1048576) (h : w.ownsRow 0 68 129 v L.length (dk.cellsL L)) : Calls Try.prog 35 #[v] w fun e w' =>
    ∃ v', e = .returned v' ∧ w'.ownsRow w.heap.size 68 129 v' L.length (dk.cellsL L) ∧ Below w.heap.size w w' := by
  obtain ⟨i0, hi0, hz0, hs0, hb0⟩ := info_parts3 info_pw
  have hlen := h.1
  have hone : ∀ u ∈ dk.cellsL L, u.oneCell' = true := fun u hu => by
    obtain ⟨x, hx, hu⟩ := List.mem_flatten.1 hu
    obtain ⟨b, _, rfl⟩ := List.mem_map.1 hx
    rcases List.mem_cons.1 hu with rfl | hu
    · rfl
    · exact bvs_one _ u hu
  have hcase : (v = .slice none 0 0 ∧ L.length = 0) ∨ ∃ g cap, v = .slice (some ⟨g, 0, none⟩) L.length cap := h.2.imp id fun ⟨g, cap, _, hv, _⟩ => ⟨g, cap, hv⟩
  generalize dk.cellsL L = cs at *
  generalize L.length = n at *
  rcases hcase with ⟨rfl, rfl⟩ | ⟨g, cap, rfl⟩
  · have k1 := fun W => Lib.run_eql_slice_nil (P := Try.prog) W 57 68 none 0 0 0 0 Try.underlying57
    obtain rfl : cs = [] := List.eq_nil_of_length_eq_zero (by omega)
    go_enter Try.func35, Try.ntmps35
    go_wp2_with fail
    go_ret
    exact ⟨_, rfl, World.ownsRow_nil _ _ _ _, Below.refl _ _⟩
  · have k1 := fun W => Lib.run_eql_slice_nil (P := Try.prog) W 57 68 (some ⟨g, 0, none⟩) n cap 0 0 Try.underlying57
    have hown := World.ownsRow_lit (e := 68) (size := 129) w #[] 0 (Nat.le_refl _) (by rw [maxLen_eq]; omega) (by rfl)
    have hcl : ∀ j u, cs[j]? = some u → w.cell? ⟨g, j, none⟩ = some u := fun j u hj => by
      have hj' := (List.getElem?_eq_some_iff.1 hj).1
      rw [h.cellAt j (by omega), hj]
    go_enter Try.func35, Try.ntmps35
    go_wp2_with (at_builtin; refine wpList_append_own _ rfl (.tmp 5) (.tmp 6) 57 rfl w.heap.size 68 i0 _ 129 136 Try.underlying57 hi0 hz0 hs0 hb0 (dk.put_size (0, dk.zero) zero_len) (by omega) _ 0 [] rfl hown ⟨g, 0, none⟩ n cap cs rfl hlen ?_ hone (by rw [maxLen_eq]; omega) (by omega) (by simp) ?_)
    · intro j u hj
      have h1 := hcl j u hj
      rw [((Chg.alloc w (.cells #[] 68) []).cell (a := ⟨g, j, none⟩) (World.block_lt_of_cell? w _ h1) (by simp))]
      exact h1
    · intro v' w' ho hg _
      go_wp2_with fail
      go_ret
      exact ⟨_, rfl, ho, below_grown hg⟩

set_option maxHeartbeats 4000000 in
set_option maxRecDepth 100000 in
theorem pcopy_any (h : PM w p g c r v s) (hl : s.L.length ≤ 1048576) : Calls Try.prog 12 #[.pointer (some ⟨p, 0, none⟩)] w fun e w' =>
    ∃ p' g' c' r' v', e = .returned (.pointer (some ⟨p', 0, none⟩)) ∧ PM w' p' g' c' r' v' s ∧ Below w.heap.size w w' ∧ w.heap.size ≤ p' ∧ w.heap.size ≤ g' ∧ (∀ k, v'.ownBlock = some k → w.heap.size ≤ k) := by
  have HN := Lib.hid (pnone_any h)
  have c0 := h.c0
  have c1 := h.c1
  have c2 := h.c2
  have c3 := h.c3
  have c4 := h.c4
  have hOL : ∃ A cap, v = .slice A s.L.length cap ∧ s.L.length ≤ cap ∧ cap ≤ 9223372036854775807 := h.own_len
  obtain ⟨A, cap, rfl, hcap, hmax⟩ := hOL
  have hMa := h.alloc (.cells #[.slice (some ⟨g, 0, none⟩) s.S.length c, .slice A s.L.length cap, .int .i64 s.cut, .bool s.black, .int .i64 s.many] 59)
  have o1 := heap_alloc_new w (.cells #[.slice (some ⟨g, 0, none⟩) s.S.length c, .slice A s.L.length cap, .int .i64 s.cut, .bool s.black, .int .i64 s.many] 59)
  have a0 := hMa.c0
  have a1 := hMa.c1
  have hpw : p ≠ w.heap.size := by have := h.there p (by simp [dk.fp]); omega
  have hsome := h.ok.some
  have hmost := h.ok.most
  have hrowS : ∀ W, PM W p g c r (.slice A s.L.length cap) s → W.rangeAt g 0 (dk.cellsS s.S) := fun W hW => range_of hW.row 0 _ (fun j u hj => by
    rw [Nat.zero_add, List.getElem?_append_left (List.getElem?_eq_some_iff.1 hj).1]
    exact hj)
  have HS := Lib.hid (pcloneS s.S h.ok.lenS (by omega) hmost g c (hrowS _ hMa))
  clear hrowS
  go_enter Try.func12, Try.ntmps12
  go_wp2_with fail
  refine HN.out.mono ?_
  rintro e w1 ⟨rfl, rfl⟩
  go_wp2_with fail
  refine HS.out.mono ?_
  rintro e w2 ⟨v2, rfl, ho2, hb2⟩
  obtain ⟨g2, cap2, rfl, hg2, hg2'⟩ := ho2.form (by omega)
  have hM2 := hMa.below hb2
  have o2 := (hb2.block w.heap.size (by simp)).trans o1
  have hsz2 := hb2.size
  simp only [World.size_alloc] at hg2 hsz2
  have e0 : (w2.cell? ⟨w.heap.size, 0, none⟩) = some (.slice (some ⟨g, 0, none⟩) s.S.length c) := by rw [cell_of_row _ _ 0 _ _ _ o2]; rfl
  have f0 : w2.frozen? ⟨w.heap.size, 0, none⟩ = false := by simp [World.frozen?, o2]
  have hpq : ∀ k ∈ dk.fp p g (.slice A s.L.length cap), k ≠ w.heap.size := fun k hk e => by have := h.there k hk; omega
  have hM3 := hM2.keep ((Chg.setCell w2 w.heap.size 0 (.slice (some ⟨g2, 0, none⟩) s.S.length cap2)).same (G := dk.fp p g (.slice A s.L.length cap)) (fun a ha hm => hpq a hm (List.mem_singleton.1 ha)) hM2.there)
  have o3 := block_set (i := 0) o2 (.slice (some ⟨g2, 0, none⟩) s.S.length cap2)
  have ho3 := dk.own_keep (w' := w2.setCell ⟨w.heap.size, 0, none⟩ (.slice (some ⟨g2, 0, none⟩) s.S.length cap2)) (own_weak ho2 (Nat.zero_le _)) (fun k hk => Below.heap_setCell _ _ _ k (by simp only [Value.ownBlock, Option.some.injEq] at hk; show k ≠ w.heap.size; omega))
  have hC3 : Chg w2 (w2.setCell ⟨w.heap.size, 0, none⟩ (.slice (some ⟨g2, 0, none⟩) s.S.length cap2)) [w.heap.size] := Chg.setCell _ _ _ _
  have b1 := hM3.c1
  have HL := Lib.hid (pcloneL s.L hl hM3.loose)
  clear a0 a1 c0 c1 c2 c3 c4 hMa hM2
  go_wp2_with fail
  refine HL.out.mono ?_
  rintro e w4 ⟨v4, rfl, ho4, hb4⟩
  obtain ⟨A4, n4, cap4, rfl⟩ : ∃ A4 n4 cap4, v4 = .slice A4 n4 cap4 := by
    rcases ho4.2 with ⟨hv, _⟩ | ⟨k', cp', _, hv, _⟩
    · exact ⟨_, _, _, hv⟩
    · exact ⟨_, _, _, hv⟩
  obtain ⟨v4, hv4⟩ : ∃ v4, v4 = Value.slice A4 n4 cap4 := ⟨_, rfl⟩
  rw [← hv4] at ho4
  generalize w2.setCell ⟨w.heap.size, 0, none⟩ (.slice (some ⟨g2, 0, none⟩) s.S.length cap2) = w3 at *
  have hsz3 := hC3.size
  have o4 := (hb4.block w.heap.size (by omega)).trans o3
  have e4 : (w4.cell? ⟨w.heap.size, 1, none⟩) = some (.slice A s.L.length cap) := by rw [cell_of_row _ _ 1 _ _ _ o4]; rfl
  have f4 : w4.frozen? ⟨w.heap.size, 1, none⟩ = false := by simp [World.frozen?, o4]
  have o5 := block_set (i := 1) o4 v4
  have hlt4 : ∀ k, v4.ownBlock = some k → w3.heap.size ≤ k := fun k hk => by
    rcases ho4.2 with ⟨hv, _⟩ | ⟨k', _, _, hv, h1, _⟩
    · rw [hv] at hk
      simp [Value.ownBlock] at hk
    · rw [hv] at hk
      simp only [Value.ownBlock, Option.some.injEq] at hk
      omega
  have ho5 := dk.own_keep (w' := w4.setCell ⟨w.heap.size, 1, none⟩ v4) (own_weak ho4 (Nat.zero_le _)) (fun k hk => Below.heap_setCell _ _ _ k (by have := hlt4 k hk; simp only; omega))
  have hB : Below w.heap.size w (w4.setCell ⟨w.heap.size, 1, none⟩ v4) := by
    have hA1 : Below w.heap.size w w2 := ((Below.refl _ _).alloc (Nat.le_refl _) _).trans ⟨hb2.os, hb2.tape, hb2.output, hb2.size, fun k hk => hb2.block k (by simp; omega)⟩
    have hA2 : Below w.heap.size w w3 := hA1.trans (hC3.below (by omega) (fun k hk => by rw [List.mem_singleton.1 hk]; omega))
    have hA3 : Below w.heap.size w w4 := hA2.trans ⟨hb4.os, hb4.tape, hb4.output, hb4.size, fun k hk => hb4.block k (by omega)⟩
    exact hA3.trans ((Chg.setCell w4 w.heap.size 1 v4).below (by have := hb4.size; omega) (fun k hk => by rw [List.mem_singleton.1 hk]; omega))
  obtain ⟨_, hgS⟩ := ho3
  rcases hgS with ⟨h0, _⟩ | ⟨g', cap', cur, hv', _, hcur, hcc, hcm, hcs, hct⟩
  · simp at h0
  obtain ⟨rfl, rfl⟩ : g2 = g' ∧ cap2 = cap' := by simpa using hv'
  have hg3 : g2 < w3.heap.size := by omega
  have hcur5 : (w4.setCell ⟨w.heap.size, 1, none⟩ v4).heap[g2]? = some (.cells cur 33 (0, 0)) := (Below.heap_setCell w4 _ _ g2 (by simp only; omega)).trans ((hb4.block g2 hg3).trans hcur)
  clear hM3 b1 o1 o2 o3 hcur e0 f0
  subst hv4
  go_wp2_with fail
  go_ret
  refine ⟨w.heap.size, g2, cap2, cur.toList.drop (s.S.length * 128), .slice A4 n4 cap4, rfl, ⟨?_, ?_, hcc, by rw [maxLen_eq] at hcm; exact hcm, ho5, h.ok, by omega, fun e => by have := hlt4 _ e; omega, fun e => by have := hlt4 _ e; omega, h.cutR, h.manyR⟩, hB, Nat.le_refl _, by omega, fun k hk => by have := hlt4 k hk; omega⟩
  · rw [o5]
    rfl
  · rw [hcur5, ← hct, List.take_append_drop, Array.toArray_toList]
end Go.Proofs.Ytajdeoackpfhoaa
