/-
  cardexref08's without, put.
-/
import Derived.Test.YtlchfadfbepapaaBatchT
import Derived.WalkMore
namespace Go.Proofs.Ytlchfadfbepapaa
open Go.RowKit
theorem bt.without_next {l : List bt.R} {i : Nat} (h : i < l.length) (k : bt.Key) : bt.without (l.take (i + 1)) k = if l[i].key = k then bt.without (l.take i) k else bt.without (l.take i) k ++ [l[i]] := by
  unfold bt.without
  rw [List.take_add_one, List.getElem?_eq_getElem h, Option.toList_some, List.filter_append]
  by_cases hk : l[i].key = k
  · rw [if_pos hk]
    simp [hk]
  · rw [if_neg hk]
    simp [hk]
theorem bt.without_le (l : List bt.R) (k : bt.Key) : (bt.without l k).length ≤ l.length := List.length_filter_le ..
set_option maxHeartbeats 4000000 in
set_option maxRecDepth 100000 in
theorem rwithout_any {Z : Nat → Prop} (A : Option Addr) (n c : Nat) (l : List bt.R) (k : List UInt8) (w : World) (h : TS w A n c l) (hz : TO Z w A n) (hZ : ∀ k, w.heap.size ≤ k → Z k) (hn : n ≤ 1099511627776) : Calls Try.prog 50 #[.slice A n c, str k] w fun e w' => (∃ A' c', e = .returned (.slice A' (bt.without l k).length c') ∧ TS w' A' (bt.without l k).length c' (bt.without l k) ∧ TO Z w' A' (bt.without l k).length) ∧ Below w.heap.size w w' := by
  have hl := h.len
  have hcap := h.cap
  have hmax := h.max
  have H := Lib.hid h
  clear h
  go_enter Try.func50, Try.ntmps50
  go_wp2_with fail
  go_loopw [5, 6] (fun v t wr => ∃ i : Nat, t = .int .i64 i ∧ i ≤ n ∧ OT 51 2 (eltR Z w) wr w.heap.size v (bt.without (l.take i) k) ∧ Below w.heap.size w wr) (fun _ t _ => n - (intOf t).toNat)
  case atStart => exact ⟨0, rfl, by omega, OT.nil_ _ _ _ _ _, Below.refl _ _⟩
  case round =>
    obtain ⟨i, rfl, hin, ho, hb⟩ := hrel
    by_cases hi : i < n
    · have hil : i < l.length := by omega
      have hnext := bt.without_next hil k
      have hle := bt.without_le (l.take i) k
      rw [List.length_take] at hle
      obtain ⟨b1, o1, rfl, hbl, hr1⟩ := H.out.has (by omega)
      obtain ⟨p1, X1, c1, q1, g1⟩ := hr1 i hil
      have z1 := (hz b1 o1 rfl (by omega)).2 i hi X1 _ c1 q1
      have p2 := (hb.cell (p := ⟨b1, o1 + i * 2, none⟩) hbl).trans p1
      have q2 := (hb.cell (p := ⟨b1, o1 + i * 2 + 1, none⟩) hbl).trans q1
      obtain ⟨r, hr⟩ : ∃ r, l[i] = r := ⟨_, rfl⟩
      rw [hr] at p2 q2 g1 z1 hnext
      clear hr p1 q1 hr1
      obtain ⟨kk, vv⟩ := r
      simp only at p2 q2 g1 z1 hnext
      have hR : eltR Z w [str kk, .slice X1 vv.length c1] ⟨kk, vv⟩ := ⟨X1, c1, rfl, g1, z1⟩
      obtain ⟨m, hm⟩ : ∃ m, vv.length = m := ⟨_, rfl⟩
      rw [hm] at q2 hR
      clear g1 z1 hm
      obtain ⟨L, hL⟩ : ∃ L, bt.without (l.take i) k = L := ⟨_, rfl⟩
      rw [hL] at ho hnext hle
      clear hL
      by_cases hk : kk = k
      · subst hk
        rw [if_pos rfl] at hnext
        have HN := Lib.hid hnext
        clear hnext
        go_wp2_with fail
        go_roundw
        case rel => exact ⟨i + 1, by go_num, by omega, HN.out ▸ ho, hb⟩
        case measure => simp [intOf]; omega
      · rw [if_neg hk] at hnext
        have HN := Lib.hid hnext
        have hke : (kk == k) = false := beq_eq_false_iff_ne.2 hk
        clear hnext hk
        have hoB := ho.alloc (.cells #[str kk, .slice X1 m c1] 51)
        have hbB := hb.alloc hb.size (.cells #[str kk, .slice X1 m c1] 51)
        have hlt := fun k hk => (ho.lt k hk).1
        have hnB : (wr.alloc (.cells #[str kk, .slice X1 m c1] 51)).heap[wr.heap.size]? = some (.cells #[str kk, .slice X1 m c1] 51 (0, 0)) := heap_alloc_new wr _
        have hsB : w.heap.size ≤ (wr.alloc (.cells #[str kk, .slice X1 m c1] 51)).heap.size := by have := hb.size; simp; omega
        clear ho hb
        go_wp2_with (at_builtin; refine wp_apr (.tmp 20) (.tmp 25) hoB hsB hnB hR (by omega) rfl rfl rfl rfl ?_; intro g cap W' ho2 hg2 hat2 hlt2; have hb2 := hbB.grown hg2 hsB hlt)
        go_roundw
        case rel => exact ⟨i + 1, by go_num, by omega, HN.out ▸ ho2, hb2⟩
        case measure => simp [intOf]; omega
    · have hie : i = n := by omega
      rw [List.take_of_length_le (by omega)] at ho
      obtain ⟨A', c', e1, ht, hto⟩ := ho.ts hb hZ
      clear hie
      go_wp2_with fail
      go_ret
      exact ⟨⟨A', c', e1 ▸ rfl, ht, hto⟩, hb⟩
theorem bt.put_le : ∀ (l : List bt.R) (x : bt.R), (bt.put l x).length ≤ l.length + 1
  | [], x => by simp [bt.put]
  | r :: t, x => by
    unfold bt.put
    split
    · have := bt.put_le t x
      simp; omega
    · have := List.length_filter_le (fun r => !(r.key == x.key)) (r :: t)
      simp only [List.length_cons] at this ⊢
      omega
/-- what is left to be put, at place i -/
def bt.rest (l : List bt.R) (x : bt.R) (i : Nat) (d : Bool) : List bt.R := if d then (l.drop i).filter (fun r => !(r.key == x.key)) else bt.put (l.drop i) x
theorem bt.rest_done {l : List bt.R} {x : bt.R} {i : Nat} (h : i < l.length) : bt.rest l x i true = if l[i].key = x.key then bt.rest l x (i + 1) true else l[i] :: bt.rest l x (i + 1) true := by
  unfold bt.rest
  rw [if_pos rfl, if_pos rfl, List.drop_eq_getElem_cons h, List.filter_cons]
  by_cases hk : l[i].key = x.key <;> simp [hk]
theorem bt.rest_less {l : List bt.R} {x : bt.R} {i : Nat} (h : i < l.length) (hl : bt.less l[i].key x.key = true) : bt.rest l x i false = l[i] :: bt.rest l x (i + 1) false := by
  unfold bt.rest
  rw [if_neg (by decide), if_neg (by decide), List.drop_eq_getElem_cons h, bt.put, if_pos hl]
theorem bt.rest_here {l : List bt.R} {x : bt.R} {i : Nat} (h : i < l.length) (hl : bt.less l[i].key x.key = false) : bt.rest l x i false = x :: bt.rest l x i true := by
  unfold bt.rest
  rw [if_neg (by decide), if_pos rfl, List.drop_eq_getElem_cons h, bt.put, if_neg (by rw [hl]; decide)]
set_option maxHeartbeats 8000000 in
set_option maxRecDepth 100000 in
theorem rput8_any {Z : Nat → Prop} (A : Option Addr) (n c : Nat) (l : List bt.R) (X : Option Addr) (cx : Nat) (x : bt.R) (w : World) (h : TS w A n c l) (hx : BS w X x.val.length cx x.val) (hz : TO Z w A n) (hx2 : 0 < x.val.length → ∀ g p, X = some ⟨g, p, none⟩ → Z g) (hZ : ∀ k, w.heap.size ≤ k → Z k) (hn : n ≤ 1099511627774) : Calls Try.prog 51 #[.slice A n c, .agg #[str x.key, .slice X x.val.length cx]] w fun e w' => (∃ A' c', e = .returned (.slice A' (bt.put l x).length c') ∧ TS w' A' (bt.put l x).length c' (bt.put l x) ∧ TO Z w' A' (bt.put l x).length) ∧ Below w.heap.size w w' := by
  obtain ⟨kx, vx⟩ := x
  simp only at hx hx2 ⊢
  have hl := h.len
  have hcap := h.cap
  have hmax := h.max
  have hRX0 : eltR Z w [str kx, .slice X vx.length cx] ⟨kx, vx⟩ := ⟨X, cx, rfl, hx, hx2⟩
  obtain ⟨mx, hmx⟩ : ∃ m, vx.length = m := ⟨_, rfl⟩
  rw [hmx] at hRX0 ⊢
  obtain ⟨W1, hW1⟩ : ∃ W, W = w.alloc (.cells #[str kx, .slice X mx cx] 51) := ⟨_, rfl⟩
  have bW1 : Below w.heap.size w W1 := hW1 ▸ (Below.refl _ _).alloc (Nat.le_refl _) _
  have sW1 : W1.heap.size = w.heap.size + 1 := by rw [hW1]; simp
  have nW1 : W1.heap[w.heap.size]? = some (.cells #[str kx, .slice X mx cx] 51 (0, 0)) := hW1 ▸ heap_alloc_new w _
  have hRX : eltR Z W1 [str kx, .slice X mx cx] ⟨kx, vx⟩ := by
    obtain ⟨A, c, e1, e2, e3⟩ := hRX0
    exact ⟨A, c, e1, e2.below bW1, e3⟩
  have H := Lib.hid (h.below bW1)
  have hz1 := Lib.hid (hz.below h bW1)
  have hZ1 := Lib.hid (show ∀ k, W1.heap.size ≤ k → Z k from fun k hk => hZ k (by omega))
  have hput : bt.put l ⟨kx, vx⟩ = [] ++ bt.rest l ⟨kx, vx⟩ 0 false := rfl
  have HPUT := Lib.hid hput
  clear h hx hx2 hz hZ hRX0 hput hmx
  go_enter Try.func51, Try.ntmps51
  go_wp2_with fail
  rw [← hW1]
  go_loopw [5, 6, 7] (fun v d t wr => ∃ (i : Nat) (dn : Bool) (acc : List bt.R), t = .int .i64 i ∧ i ≤ n ∧ d = .bool dn ∧ acc.length ≤ i + dn.toNat ∧ Hid (bt.put l ⟨kx, vx⟩ = acc ++ bt.rest l ⟨kx, vx⟩ i dn) ∧ OT 51 2 (eltR Z W1) wr W1.heap.size v acc ∧ Below W1.heap.size W1 wr) (fun _ _ t _ => n - (intOf t).toNat)
  case atStart => exact ⟨0, false, [], rfl, by omega, rfl, by simp, HPUT, OT.nil_ _ _ _ _ _, Below.refl _ _⟩
  case round =>
    clear HPUT
    obtain ⟨i, dn, acc, rfl, hin, rfl, hacc, HP, ho, hb⟩ := hrel
    have nwr := (hb.block w.heap.size (by omega)).trans nW1
    have x2 : wr.cell? ⟨w.heap.size, 0, none⟩ = some (str kx) := by unfold World.cell?; simp [nwr]
    have x3 : wr.cell? ⟨w.heap.size, 1, none⟩ = some (.slice X mx cx) := by unfold World.cell?; simp [nwr]
    by_cases hi : i < n
    · have hil : i < l.length := by omega
      obtain ⟨b1, o1, rfl, hbl, hr1⟩ := H.out.has (by omega)
      obtain ⟨p1, X1, c1, q1, g1⟩ := hr1 i hil
      have p2 := (hb.cell (p := ⟨b1, o1 + i * 2, none⟩) hbl).trans p1
      have q2 := (hb.cell (p := ⟨b1, o1 + i * 2 + 1, none⟩) hbl).trans q1
      have z1 := (hz1.out b1 o1 rfl (by omega)).2 i hi X1 _ c1 q1
      have hdone := bt.rest_done (x := ⟨kx, vx⟩) hil
      have hless := bt.rest_less (x := ⟨kx, vx⟩) hil
      have hhere := bt.rest_here (x := ⟨kx, vx⟩) hil
      obtain ⟨r, hr⟩ : ∃ r, l[i] = r := ⟨_, rfl⟩
      rw [hr] at p2 q2 p1 q1 g1 z1 hdone hless
      rw [hr] at hhere
      clear hr hr1
      obtain ⟨kk, vv⟩ := r
      simp only at p2 q2 p1 q1 g1 z1 hdone hless hhere
      have hR : eltR Z W1 [str kk, .slice X1 vv.length c1] ⟨kk, vv⟩ := ⟨X1, c1, rfl, g1, z1⟩
      obtain ⟨m, hm⟩ : ∃ m, vv.length = m := ⟨_, rfl⟩
      rw [hm] at q2 q1 hR
      clear g1 z1 hm
      have hs1 := str_list kk
      have hs2 := str_list kx
      cases dn with
      | true =>
        simp only [Bool.toNat_true] at hacc
        by_cases hk : kk = kx
        · subst hk
          rw [if_pos rfl] at hdone
          have HQ := Lib.hid (HP.out.trans (congrArg (acc ++ ·) hdone))
          clear hless hhere hdone HP H
          go_wp2_with fail
          refine wp_region_held_drew (S := fun W => W.cell? ⟨b1, o1 + i * 2, none⟩ = some (str kk) ∧ W.cell? ⟨w.heap.size, 0, none⟩ = some (str kk)) (by kernel_rfl) ⟨p2, x2⟩ (fun hHeld => ?_)
          refine wpAnyH_take (i := 0) (v := ?_) rfl (by kernel_rfl) (by kernel_rfl) (by kernel_rfl) (fun _ _ _ h => h) (Or.inl ⟨by rfl, ?_⟩) hHeld ?_
          rotate_left
          · intro w hSw; have f0 := hSw.1; have f1 := hSw.2; clear hSw; go_simp; try rfl
          simp only [List.getElem_toArray, List.getElem_cons_zero, Act.put, List.setIfInBounds_toArray, List.set_cons_zero, List.set_cons_succ]
          refine wpAnyH_take (i := 1) (v := ?_) rfl (by kernel_rfl) (by kernel_rfl) (by kernel_rfl) (fun _ _ _ h => h) (Or.inl ⟨by rfl, ?_⟩) hHeld ?_
          rotate_left
          · intro w hSw; have f0 := hSw.1; have f1 := hSw.2; clear hSw; go_simp; try rfl
          simp only [List.getElem_toArray, List.getElem_cons_zero, List.getElem_cons_succ, Act.put, List.setIfInBounds_toArray, List.set_cons_zero, List.set_cons_succ]
          refine wpAnyH_take (i := 2) (v := ?_) rfl (by kernel_rfl) (by kernel_rfl) (by kernel_rfl) (fun _ _ _ h => h) (Or.inl ⟨by rfl, ?_⟩) hHeld ?_
          rotate_left
          · intro w hSw; have f0 := hSw.1; have f1 := hSw.2; clear hSw; go_simp; try rfl
          simp only [List.getElem_toArray, List.getElem_cons_zero, List.getElem_cons_succ, Act.put, List.setIfInBounds_toArray, List.set_cons_zero, List.set_cons_succ]
          refine wpAnyH_take (i := 3) (v := undef) rfl (by kernel_rfl) (by kernel_rfl) (by kernel_rfl) (fun _ _ _ h => h) (Or.inr ⟨by rfl, rfl⟩) hHeld ?_
          simp only [List.getElem_toArray, List.getElem_cons_zero, List.getElem_cons_succ, Act.put, List.setIfInBounds_toArray, List.set_cons_zero, List.set_cons_succ]
          refine wpAnyH_take (i := 4) (v := undef) rfl (by kernel_rfl) (by kernel_rfl) (by kernel_rfl) (fun _ _ _ h => h) (Or.inr ⟨by rfl, rfl⟩) hHeld ?_
          simp only [List.getElem_toArray, List.getElem_cons_zero, List.getElem_cons_succ, Act.put, List.setIfInBounds_toArray, List.set_cons_zero, List.set_cons_succ]
          refine wpAnyH_take (i := 5) (v := undef) rfl (by kernel_rfl) (by kernel_rfl) (by kernel_rfl) (fun _ _ _ h => h) (Or.inr ⟨by rfl, rfl⟩) hHeld ?_
          simp only [List.getElem_toArray, List.getElem_cons_zero, List.getElem_cons_succ, Act.put, List.setIfInBounds_toArray, List.set_cons_zero, List.set_cons_succ]
          refine wpAnyH_take (i := 6) (v := undef) rfl (by kernel_rfl) (by kernel_rfl) (by kernel_rfl) (fun _ _ _ h => h) (Or.inr ⟨by rfl, rfl⟩) hHeld ?_
          simp only [List.getElem_toArray, List.getElem_cons_zero, List.getElem_cons_succ, Act.put, List.setIfInBounds_toArray, List.set_cons_zero, List.set_cons_succ]
          refine wpAnyH_take (i := 7) (v := undef) rfl (by kernel_rfl) (by kernel_rfl) (by kernel_rfl) (fun _ _ _ h => h) (Or.inr ⟨by rfl, rfl⟩) hHeld ?_
          simp only [List.getElem_toArray, List.getElem_cons_zero, List.getElem_cons_succ, Act.put, List.setIfInBounds_toArray, List.set_cons_zero, List.set_cons_succ]
          refine wpAnyH_take (i := 8) (v := undef) rfl (by kernel_rfl) (by kernel_rfl) (by kernel_rfl) (fun _ _ _ h => h) (Or.inr ⟨by rfl, rfl⟩) hHeld ?_
          simp only [List.getElem_toArray, List.getElem_cons_zero, List.getElem_cons_succ, Act.put, List.setIfInBounds_toArray, List.set_cons_zero, List.set_cons_succ]
          refine wpAnyH_take (i := 9) (v := undef) rfl (by kernel_rfl) (by kernel_rfl) (by kernel_rfl) (fun _ _ _ h => h) (Or.inr ⟨by rfl, rfl⟩) hHeld ?_
          simp only [List.getElem_toArray, List.getElem_cons_zero, List.getElem_cons_succ, Act.put, List.setIfInBounds_toArray, List.set_cons_zero, List.set_cons_succ]
          refine wpAnyH_take (i := 10) (v := undef) rfl (by kernel_rfl) (by kernel_rfl) (by kernel_rfl) (fun _ _ _ h => h) (Or.inr ⟨by rfl, rfl⟩) hHeld ?_
          simp only [List.getElem_toArray, List.getElem_cons_zero, List.getElem_cons_succ, Act.put, List.setIfInBounds_toArray, List.set_cons_zero, List.set_cons_succ]
          refine wpAnyH_take (i := 11) (v := ?_) rfl (by kernel_rfl) (by kernel_rfl) (by kernel_rfl) (fun _ _ _ h => h) (Or.inl ⟨by rfl, ?_⟩) hHeld ?_
          rotate_left
          · intro w hSw; have f0 := hSw.1; have f1 := hSw.2; clear hSw; go_simp; try rfl
          simp only [List.getElem_toArray, List.getElem_cons_zero, List.getElem_cons_succ, Act.put, List.setIfInBounds_toArray, List.set_cons_zero, List.set_cons_succ]
          refine wpAnyH_done (by kernel_rfl) ?_ _
          go_wp2_with fail
          refine wp_region_held_drew (S := fun W => W.cell? ⟨b1, o1 + i * 2, none⟩ = some (str kk) ∧ W.cell? ⟨w.heap.size, 0, none⟩ = some (str kk)) (by kernel_rfl) ⟨p2, x2⟩ (fun hHeld => ?_)
          refine wpAnyH_take (i := 0) (v := ?_) rfl (by kernel_rfl) (by kernel_rfl) (by kernel_rfl) (fun _ _ _ h => h) (Or.inl ⟨by rfl, ?_⟩) hHeld ?_
          rotate_left
          · intro w hSw; have f0 := hSw.1; have f1 := hSw.2; clear hSw; go_simp; try rfl
          simp only [List.getElem_toArray, List.getElem_cons_zero, Act.put, List.setIfInBounds_toArray, List.set_cons_zero, List.set_cons_succ]
          refine wpAnyH_take (i := 1) (v := ?_) rfl (by kernel_rfl) (by kernel_rfl) (by kernel_rfl) (fun _ _ _ h => h) (Or.inl ⟨by rfl, ?_⟩) hHeld ?_
          rotate_left
          · intro w hSw; have f0 := hSw.1; have f1 := hSw.2; clear hSw; go_simp; try rfl
          simp only [List.getElem_toArray, List.getElem_cons_zero, List.getElem_cons_succ, Act.put, List.setIfInBounds_toArray, List.set_cons_zero, List.set_cons_succ]
          refine wpAnyH_take (i := 2) (v := ?_) rfl (by kernel_rfl) (by kernel_rfl) (by kernel_rfl) (fun _ _ _ h => h) (Or.inl ⟨by rfl, ?_⟩) hHeld ?_
          rotate_left
          · intro w hSw; have f0 := hSw.1; have f1 := hSw.2; clear hSw; go_simp; try rfl
          simp only [List.getElem_toArray, List.getElem_cons_zero, List.getElem_cons_succ, Act.put, List.setIfInBounds_toArray, List.set_cons_zero, List.set_cons_succ]
          refine wpAnyH_take (i := 3) (v := ?_) rfl (by kernel_rfl) (by kernel_rfl) (by kernel_rfl) (fun _ _ _ h => h) (Or.inl ⟨by rfl, ?_⟩) hHeld ?_
          rotate_left
          · intro w hSw; have f0 := hSw.1; have f1 := hSw.2; clear hSw; go_simp; try rfl
          simp only [List.getElem_toArray, List.getElem_cons_zero, List.getElem_cons_succ, Act.put, List.setIfInBounds_toArray, List.set_cons_zero, List.set_cons_succ]
          refine wpAnyH_take (i := 4) (v := ?_) rfl (by kernel_rfl) (by kernel_rfl) (by kernel_rfl) (fun _ _ _ h => h) (Or.inl ⟨by rfl, ?_⟩) hHeld ?_
          rotate_left
          · intro w hSw; have f0 := hSw.1; have f1 := hSw.2; clear hSw; go_simp; try rfl
          simp only [List.getElem_toArray, List.getElem_cons_zero, List.getElem_cons_succ, Act.put, List.setIfInBounds_toArray, List.set_cons_zero, List.set_cons_succ]
          refine wpAnyH_take (i := 5) (v := ?_) rfl (by kernel_rfl) (by kernel_rfl) (by kernel_rfl) (fun _ _ _ h => h) (Or.inl ⟨by rfl, ?_⟩) hHeld ?_
          rotate_left
          · intro w hSw; have f0 := hSw.1; have f1 := hSw.2; clear hSw; go_simp; try rfl
          simp only [List.getElem_toArray, List.getElem_cons_zero, List.getElem_cons_succ, Act.put, List.setIfInBounds_toArray, List.set_cons_zero, List.set_cons_succ]
          refine wpAnyH_take (i := 6) (v := ?_) rfl (by kernel_rfl) (by kernel_rfl) (by kernel_rfl) (fun _ _ _ h => h) (Or.inl ⟨by rfl, ?_⟩) hHeld ?_
          rotate_left
          · intro w hSw; have f0 := hSw.1; have f1 := hSw.2; clear hSw; go_simp; try rfl
          simp only [List.getElem_toArray, List.getElem_cons_zero, List.getElem_cons_succ, Act.put, List.setIfInBounds_toArray, List.set_cons_zero, List.set_cons_succ]
          refine wpAnyH_take (i := 7) (v := ?_) rfl (by kernel_rfl) (by kernel_rfl) (by kernel_rfl) (fun _ _ _ h => h) (Or.inl ⟨by rfl, ?_⟩) hHeld ?_
          rotate_left
          · intro w hSw; have f0 := hSw.1; have f1 := hSw.2; clear hSw; go_simp; try rfl
          simp only [List.getElem_toArray, List.getElem_cons_zero, List.getElem_cons_succ, Act.put, List.setIfInBounds_toArray, List.set_cons_zero, List.set_cons_succ]
          refine wpAnyH_done (by kernel_rfl) ?_ _
          go_wp2_with fail
          go_roundw
          case rel => exact ⟨i + 1, true, acc, by go_num, by omega, rfl, by first | omega | (simp; omega), HQ, ho.drew.drew, hb.drew.drew⟩
          case measure => simp [intOf]; omega
        · rw [if_neg hk] at hdone
          have HQ := Lib.hid (show bt.put l ⟨kx, vx⟩ = (acc ++ [⟨kk, vv⟩]) ++ bt.rest l ⟨kx, vx⟩ (i + 1) true by rw [HP.out, hdone]; simp)
          have hke : (kk == kx) = false := beq_eq_false_iff_ne.2 hk
          clear hless hhere hdone HP H hk
          go_wp2_with fail
          refine wp_region_held_drew (S := fun W => W.cell? ⟨b1, o1 + i * 2, none⟩ = some (str kk) ∧ W.cell? ⟨w.heap.size, 0, none⟩ = some (str kx)) (by kernel_rfl) ⟨p2, x2⟩ (fun hHeld => ?_)
          refine wpAnyH_take (i := 0) (v := ?_) rfl (by kernel_rfl) (by kernel_rfl) (by kernel_rfl) (fun _ _ _ h => h) (Or.inl ⟨by rfl, ?_⟩) hHeld ?_
          rotate_left
          · intro w hSw; have f0 := hSw.1; have f1 := hSw.2; clear hSw; go_simp; try rfl
          simp only [List.getElem_toArray, List.getElem_cons_zero, Act.put, List.setIfInBounds_toArray, List.set_cons_zero, List.set_cons_succ]
          refine wpAnyH_take (i := 1) (v := ?_) rfl (by kernel_rfl) (by kernel_rfl) (by kernel_rfl) (fun _ _ _ h => h) (Or.inl ⟨by rfl, ?_⟩) hHeld ?_
          rotate_left
          · intro w hSw; have f0 := hSw.1; have f1 := hSw.2; clear hSw; go_simp; try rfl
          simp only [List.getElem_toArray, List.getElem_cons_zero, List.getElem_cons_succ, Act.put, List.setIfInBounds_toArray, List.set_cons_zero, List.set_cons_succ]
          refine wpAnyH_take (i := 2) (v := ?_) rfl (by kernel_rfl) (by kernel_rfl) (by kernel_rfl) (fun _ _ _ h => h) (Or.inl ⟨by rfl, ?_⟩) hHeld ?_
          rotate_left
          · intro w hSw; have f0 := hSw.1; have f1 := hSw.2; clear hSw; go_simp; try rfl
          simp only [List.getElem_toArray, List.getElem_cons_zero, List.getElem_cons_succ, Act.put, List.setIfInBounds_toArray, List.set_cons_zero, List.set_cons_succ]
          refine wpAnyH_take (i := 3) (v := undef) rfl (by kernel_rfl) (by kernel_rfl) (by kernel_rfl) (fun _ _ _ h => h) (Or.inr ⟨by rfl, rfl⟩) hHeld ?_
          simp only [List.getElem_toArray, List.getElem_cons_zero, List.getElem_cons_succ, Act.put, List.setIfInBounds_toArray, List.set_cons_zero, List.set_cons_succ]
          refine wpAnyH_take (i := 4) (v := undef) rfl (by kernel_rfl) (by kernel_rfl) (by kernel_rfl) (fun _ _ _ h => h) (Or.inr ⟨by rfl, rfl⟩) hHeld ?_
          simp only [List.getElem_toArray, List.getElem_cons_zero, List.getElem_cons_succ, Act.put, List.setIfInBounds_toArray, List.set_cons_zero, List.set_cons_succ]
          refine wpAnyH_take (i := 5) (v := undef) rfl (by kernel_rfl) (by kernel_rfl) (by kernel_rfl) (fun _ _ _ h => h) (Or.inr ⟨by rfl, rfl⟩) hHeld ?_
          simp only [List.getElem_toArray, List.getElem_cons_zero, List.getElem_cons_succ, Act.put, List.setIfInBounds_toArray, List.set_cons_zero, List.set_cons_succ]
          refine wpAnyH_take (i := 6) (v := undef) rfl (by kernel_rfl) (by kernel_rfl) (by kernel_rfl) (fun _ _ _ h => h) (Or.inr ⟨by rfl, rfl⟩) hHeld ?_
          simp only [List.getElem_toArray, List.getElem_cons_zero, List.getElem_cons_succ, Act.put, List.setIfInBounds_toArray, List.set_cons_zero, List.set_cons_succ]
          refine wpAnyH_take (i := 7) (v := undef) rfl (by kernel_rfl) (by kernel_rfl) (by kernel_rfl) (fun _ _ _ h => h) (Or.inr ⟨by rfl, rfl⟩) hHeld ?_
          simp only [List.getElem_toArray, List.getElem_cons_zero, List.getElem_cons_succ, Act.put, List.setIfInBounds_toArray, List.set_cons_zero, List.set_cons_succ]
          refine wpAnyH_take (i := 8) (v := undef) rfl (by kernel_rfl) (by kernel_rfl) (by kernel_rfl) (fun _ _ _ h => h) (Or.inr ⟨by rfl, rfl⟩) hHeld ?_
          simp only [List.getElem_toArray, List.getElem_cons_zero, List.getElem_cons_succ, Act.put, List.setIfInBounds_toArray, List.set_cons_zero, List.set_cons_succ]
          refine wpAnyH_take (i := 9) (v := undef) rfl (by kernel_rfl) (by kernel_rfl) (by kernel_rfl) (fun _ _ _ h => h) (Or.inr ⟨by rfl, rfl⟩) hHeld ?_
          simp only [List.getElem_toArray, List.getElem_cons_zero, List.getElem_cons_succ, Act.put, List.setIfInBounds_toArray, List.set_cons_zero, List.set_cons_succ]
          refine wpAnyH_take (i := 10) (v := undef) rfl (by kernel_rfl) (by kernel_rfl) (by kernel_rfl) (fun _ _ _ h => h) (Or.inr ⟨by rfl, rfl⟩) hHeld ?_
          simp only [List.getElem_toArray, List.getElem_cons_zero, List.getElem_cons_succ, Act.put, List.setIfInBounds_toArray, List.set_cons_zero, List.set_cons_succ]
          refine wpAnyH_take (i := 11) (v := ?_) rfl (by kernel_rfl) (by kernel_rfl) (by kernel_rfl) (fun _ _ _ h => h) (Or.inl ⟨by rfl, ?_⟩) hHeld ?_
          rotate_left
          · intro w hSw; have f0 := hSw.1; have f1 := hSw.2; clear hSw; go_simp; try rfl
          simp only [List.getElem_toArray, List.getElem_cons_zero, List.getElem_cons_succ, Act.put, List.setIfInBounds_toArray, List.set_cons_zero, List.set_cons_succ]
          refine wpAnyH_done (by kernel_rfl) ?_ _
          go_wp2_with fail
          refine wp_region_held_drew (S := fun W => W.cell? ⟨b1, o1 + i * 2, none⟩ = some (str kk) ∧ W.cell? ⟨w.heap.size, 0, none⟩ = some (str kx)) (by kernel_rfl) ⟨p2, x2⟩ (fun hHeld => ?_)
          refine wpAnyH_take (i := 0) (v := ?_) rfl (by kernel_rfl) (by kernel_rfl) (by kernel_rfl) (fun _ _ _ h => h) (Or.inl ⟨by rfl, ?_⟩) hHeld ?_
          rotate_left
          · intro w hSw; have f0 := hSw.1; have f1 := hSw.2; clear hSw; go_simp; try rfl
          simp only [List.getElem_toArray, List.getElem_cons_zero, Act.put, List.setIfInBounds_toArray, List.set_cons_zero, List.set_cons_succ]
          refine wpAnyH_take (i := 1) (v := ?_) rfl (by kernel_rfl) (by kernel_rfl) (by kernel_rfl) (fun _ _ _ h => h) (Or.inl ⟨by rfl, ?_⟩) hHeld ?_
          rotate_left
          · intro w hSw; have f0 := hSw.1; have f1 := hSw.2; clear hSw; go_simp; try rfl
          simp only [List.getElem_toArray, List.getElem_cons_zero, List.getElem_cons_succ, Act.put, List.setIfInBounds_toArray, List.set_cons_zero, List.set_cons_succ]
          refine wpAnyH_take (i := 2) (v := ?_) rfl (by kernel_rfl) (by kernel_rfl) (by kernel_rfl) (fun _ _ _ h => h) (Or.inl ⟨by rfl, ?_⟩) hHeld ?_
          rotate_left
          · intro w hSw; have f0 := hSw.1; have f1 := hSw.2; clear hSw; go_simp; try rfl
          simp only [List.getElem_toArray, List.getElem_cons_zero, List.getElem_cons_succ, Act.put, List.setIfInBounds_toArray, List.set_cons_zero, List.set_cons_succ]
          refine wpAnyH_take (i := 3) (v := ?_) rfl (by kernel_rfl) (by kernel_rfl) (by kernel_rfl) (fun _ _ _ h => h) (Or.inl ⟨by rfl, ?_⟩) hHeld ?_
          rotate_left
          · intro w hSw; have f0 := hSw.1; have f1 := hSw.2; clear hSw; go_simp; try rfl
          simp only [List.getElem_toArray, List.getElem_cons_zero, List.getElem_cons_succ, Act.put, List.setIfInBounds_toArray, List.set_cons_zero, List.set_cons_succ]
          refine wpAnyH_take (i := 4) (v := ?_) rfl (by kernel_rfl) (by kernel_rfl) (by kernel_rfl) (fun _ _ _ h => h) (Or.inl ⟨by rfl, ?_⟩) hHeld ?_
          rotate_left
          · intro w hSw; have f0 := hSw.1; have f1 := hSw.2; clear hSw; go_simp; try rfl
          simp only [List.getElem_toArray, List.getElem_cons_zero, List.getElem_cons_succ, Act.put, List.setIfInBounds_toArray, List.set_cons_zero, List.set_cons_succ]
          refine wpAnyH_take (i := 5) (v := ?_) rfl (by kernel_rfl) (by kernel_rfl) (by kernel_rfl) (fun _ _ _ h => h) (Or.inl ⟨by rfl, ?_⟩) hHeld ?_
          rotate_left
          · intro w hSw; have f0 := hSw.1; have f1 := hSw.2; clear hSw; go_simp; try rfl
          simp only [List.getElem_toArray, List.getElem_cons_zero, List.getElem_cons_succ, Act.put, List.setIfInBounds_toArray, List.set_cons_zero, List.set_cons_succ]
          refine wpAnyH_take (i := 6) (v := ?_) rfl (by kernel_rfl) (by kernel_rfl) (by kernel_rfl) (fun _ _ _ h => h) (Or.inl ⟨by rfl, ?_⟩) hHeld ?_
          rotate_left
          · intro w hSw; have f0 := hSw.1; have f1 := hSw.2; clear hSw; go_simp; try rfl
          simp only [List.getElem_toArray, List.getElem_cons_zero, List.getElem_cons_succ, Act.put, List.setIfInBounds_toArray, List.set_cons_zero, List.set_cons_succ]
          refine wpAnyH_take (i := 7) (v := ?_) rfl (by kernel_rfl) (by kernel_rfl) (by kernel_rfl) (fun _ _ _ h => h) (Or.inl ⟨by rfl, ?_⟩) hHeld ?_
          rotate_left
          · intro w hSw; have f0 := hSw.1; have f1 := hSw.2; clear hSw; go_simp; try rfl
          simp only [List.getElem_toArray, List.getElem_cons_zero, List.getElem_cons_succ, Act.put, List.setIfInBounds_toArray, List.set_cons_zero, List.set_cons_succ]
          refine wpAnyH_done (by kernel_rfl) ?_ _
          have hoBr := (ho.drew.drew).alloc (.cells #[str kk, .slice X1 m c1] 51)
          have hbBr := (hb.drew.drew).alloc (hb.drew.drew).size (.cells #[str kk, .slice X1 m c1] 51)
          have hltr := fun k hk => ((ho.drew.drew).lt k hk).1
          have hnBr : ((wr.drew.drew).alloc (.cells #[str kk, .slice X1 m c1] 51)).heap[(wr.drew.drew).heap.size]? = some (.cells #[str kk, .slice X1 m c1] 51 (0, 0)) := heap_alloc_new _ _
          have hsBr : W1.heap.size ≤ ((wr.drew.drew).alloc (.cells #[str kk, .slice X1 m c1] 51)).heap.size := hbBr.size
          go_wp2_with (at_builtin; refine wp_apr (.tmp 38) (.tmp 43) hoBr hsBr hnBr hR (by omega) rfl rfl rfl rfl ?_; intro gr capr Wr hor hgr hatr hlbr; have hbr := hbBr.grown hgr hsBr hltr)
          go_roundw
          case rel => exact ⟨i + 1, true, (acc ++ [⟨kk, vv⟩]), by go_num, by omega, rfl, by first | omega | (simp; omega), HQ, hor, hbr⟩
          case measure => simp [intOf]; omega
      | false =>
        simp only [Bool.toNat_false] at hacc
        cases hls : bt.less kk kx with
        | true =>
          have hk := bt.less_ne hls
          have hke : (kk == kx) = false := beq_eq_false_iff_ne.2 hk
          have hbl2 : Op.bytesLess kk kx = true := hls
          have HQ := Lib.hid (show bt.put l ⟨kx, vx⟩ = (acc ++ [⟨kk, vv⟩]) ++ bt.rest l ⟨kx, vx⟩ (i + 1) false by rw [HP.out, hless hls]; simp)
          clear hless hhere hdone HP H hk hls
          go_wp2_with fail
          refine wp_region_held_drew (S := fun W => W.cell? ⟨b1, o1 + i * 2, none⟩ = some (str kk) ∧ W.cell? ⟨w.heap.size, 0, none⟩ = some (str kx)) (by kernel_rfl) ⟨p2, x2⟩ (fun hHeld => ?_)
          refine wpAnyH_take (i := 0) (v := ?_) rfl (by kernel_rfl) (by kernel_rfl) (by kernel_rfl) (fun _ _ _ h => h) (Or.inl ⟨by rfl, ?_⟩) hHeld ?_
          rotate_left
          · intro w hSw; have f0 := hSw.1; have f1 := hSw.2; clear hSw; go_simp; try rfl
          simp only [List.getElem_toArray, List.getElem_cons_zero, Act.put, List.setIfInBounds_toArray, List.set_cons_zero, List.set_cons_succ]
          refine wpAnyH_take (i := 1) (v := ?_) rfl (by kernel_rfl) (by kernel_rfl) (by kernel_rfl) (fun _ _ _ h => h) (Or.inl ⟨by rfl, ?_⟩) hHeld ?_
          rotate_left
          · intro w hSw; have f0 := hSw.1; have f1 := hSw.2; clear hSw; go_simp; try rfl
          simp only [List.getElem_toArray, List.getElem_cons_zero, List.getElem_cons_succ, Act.put, List.setIfInBounds_toArray, List.set_cons_zero, List.set_cons_succ]
          refine wpAnyH_take (i := 2) (v := ?_) rfl (by kernel_rfl) (by kernel_rfl) (by kernel_rfl) (fun _ _ _ h => h) (Or.inl ⟨by rfl, ?_⟩) hHeld ?_
          rotate_left
          · intro w hSw; have f0 := hSw.1; have f1 := hSw.2; clear hSw; go_simp; try rfl
          simp only [List.getElem_toArray, List.getElem_cons_zero, List.getElem_cons_succ, Act.put, List.setIfInBounds_toArray, List.set_cons_zero, List.set_cons_succ]
          refine wpAnyH_take (i := 3) (v := ?_) rfl (by kernel_rfl) (by kernel_rfl) (by kernel_rfl) (fun _ _ _ h => h) (Or.inl ⟨by rfl, ?_⟩) hHeld ?_
          rotate_left
          · intro w hSw; have f0 := hSw.1; have f1 := hSw.2; clear hSw; go_simp; try rfl
          simp only [List.getElem_toArray, List.getElem_cons_zero, List.getElem_cons_succ, Act.put, List.setIfInBounds_toArray, List.set_cons_zero, List.set_cons_succ]
          refine wpAnyH_take (i := 4) (v := ?_) rfl (by kernel_rfl) (by kernel_rfl) (by kernel_rfl) (fun _ _ _ h => h) (Or.inl ⟨by rfl, ?_⟩) hHeld ?_
          rotate_left
          · intro w hSw; have f0 := hSw.1; have f1 := hSw.2; clear hSw; go_simp; try rfl
          simp only [List.getElem_toArray, List.getElem_cons_zero, List.getElem_cons_succ, Act.put, List.setIfInBounds_toArray, List.set_cons_zero, List.set_cons_succ]
          refine wpAnyH_take (i := 5) (v := ?_) rfl (by kernel_rfl) (by kernel_rfl) (by kernel_rfl) (fun _ _ _ h => h) (Or.inl ⟨by rfl, ?_⟩) hHeld ?_
          rotate_left
          · intro w hSw; have f0 := hSw.1; have f1 := hSw.2; clear hSw; go_simp; try rfl
          simp only [List.getElem_toArray, List.getElem_cons_zero, List.getElem_cons_succ, Act.put, List.setIfInBounds_toArray, List.set_cons_zero, List.set_cons_succ]
          refine wpAnyH_take (i := 6) (v := ?_) rfl (by kernel_rfl) (by kernel_rfl) (by kernel_rfl) (fun _ _ _ h => h) (Or.inl ⟨by rfl, ?_⟩) hHeld ?_
          rotate_left
          · intro w hSw; have f0 := hSw.1; have f1 := hSw.2; clear hSw; go_simp; try rfl
          simp only [List.getElem_toArray, List.getElem_cons_zero, List.getElem_cons_succ, Act.put, List.setIfInBounds_toArray, List.set_cons_zero, List.set_cons_succ]
          refine wpAnyH_take (i := 7) (v := ?_) rfl (by kernel_rfl) (by kernel_rfl) (by kernel_rfl) (fun _ _ _ h => h) (Or.inl ⟨by rfl, ?_⟩) hHeld ?_
          rotate_left
          · intro w hSw; have f0 := hSw.1; have f1 := hSw.2; clear hSw; go_simp; try rfl
          simp only [List.getElem_toArray, List.getElem_cons_zero, List.getElem_cons_succ, Act.put, List.setIfInBounds_toArray, List.set_cons_zero, List.set_cons_succ]
          refine wpAnyH_take (i := 8) (v := ?_) rfl (by kernel_rfl) (by kernel_rfl) (by kernel_rfl) (fun _ _ _ h => h) (Or.inl ⟨by rfl, ?_⟩) hHeld ?_
          rotate_left
          · intro w hSw; have f0 := hSw.1; have f1 := hSw.2; clear hSw; go_simp; try rfl
          simp only [List.getElem_toArray, List.getElem_cons_zero, List.getElem_cons_succ, Act.put, List.setIfInBounds_toArray, List.set_cons_zero, List.set_cons_succ]
          refine wpAnyH_take (i := 9) (v := ?_) rfl (by kernel_rfl) (by kernel_rfl) (by kernel_rfl) (fun _ _ _ h => h) (Or.inl ⟨by rfl, ?_⟩) hHeld ?_
          rotate_left
          · intro w hSw; have f0 := hSw.1; have f1 := hSw.2; clear hSw; go_simp; try rfl
          simp only [List.getElem_toArray, List.getElem_cons_zero, List.getElem_cons_succ, Act.put, List.setIfInBounds_toArray, List.set_cons_zero, List.set_cons_succ]
          refine wpAnyH_take (i := 10) (v := ?_) rfl (by kernel_rfl) (by kernel_rfl) (by kernel_rfl) (fun _ _ _ h => h) (Or.inl ⟨by rfl, ?_⟩) hHeld ?_
          rotate_left
          · intro w hSw; have f0 := hSw.1; have f1 := hSw.2; clear hSw; go_simp; try rfl
          simp only [List.getElem_toArray, List.getElem_cons_zero, List.getElem_cons_succ, Act.put, List.setIfInBounds_toArray, List.set_cons_zero, List.set_cons_succ]
          refine wpAnyH_take (i := 11) (v := ?_) rfl (by kernel_rfl) (by kernel_rfl) (by kernel_rfl) (fun _ _ _ h => h) (Or.inl ⟨by rfl, ?_⟩) hHeld ?_
          rotate_left
          · intro w hSw; have f0 := hSw.1; have f1 := hSw.2; clear hSw; go_simp; try rfl
          simp only [List.getElem_toArray, List.getElem_cons_zero, List.getElem_cons_succ, Act.put, List.setIfInBounds_toArray, List.set_cons_zero, List.set_cons_succ]
          refine wpAnyH_done (by kernel_rfl) ?_ _
          go_wp2_with fail
          refine wp_region_held_drew (S := fun W => W.cell? ⟨b1, o1 + i * 2, none⟩ = some (str kk) ∧ W.cell? ⟨w.heap.size, 0, none⟩ = some (str kx)) (by kernel_rfl) ⟨p2, x2⟩ (fun hHeld => ?_)
          refine wpAnyH_take (i := 0) (v := ?_) rfl (by kernel_rfl) (by kernel_rfl) (by kernel_rfl) (fun _ _ _ h => h) (Or.inl ⟨by rfl, ?_⟩) hHeld ?_
          rotate_left
          · intro w hSw; have f0 := hSw.1; have f1 := hSw.2; clear hSw; go_simp; try rfl
          simp only [List.getElem_toArray, List.getElem_cons_zero, Act.put, List.setIfInBounds_toArray, List.set_cons_zero, List.set_cons_succ]
          refine wpAnyH_take (i := 1) (v := ?_) rfl (by kernel_rfl) (by kernel_rfl) (by kernel_rfl) (fun _ _ _ h => h) (Or.inl ⟨by rfl, ?_⟩) hHeld ?_
          rotate_left
          · intro w hSw; have f0 := hSw.1; have f1 := hSw.2; clear hSw; go_simp; try rfl
          simp only [List.getElem_toArray, List.getElem_cons_zero, List.getElem_cons_succ, Act.put, List.setIfInBounds_toArray, List.set_cons_zero, List.set_cons_succ]
          refine wpAnyH_take (i := 2) (v := ?_) rfl (by kernel_rfl) (by kernel_rfl) (by kernel_rfl) (fun _ _ _ h => h) (Or.inl ⟨by rfl, ?_⟩) hHeld ?_
          rotate_left
          · intro w hSw; have f0 := hSw.1; have f1 := hSw.2; clear hSw; go_simp; try rfl
          simp only [List.getElem_toArray, List.getElem_cons_zero, List.getElem_cons_succ, Act.put, List.setIfInBounds_toArray, List.set_cons_zero, List.set_cons_succ]
          refine wpAnyH_take (i := 3) (v := ?_) rfl (by kernel_rfl) (by kernel_rfl) (by kernel_rfl) (fun _ _ _ h => h) (Or.inl ⟨by rfl, ?_⟩) hHeld ?_
          rotate_left
          · intro w hSw; have f0 := hSw.1; have f1 := hSw.2; clear hSw; go_simp; try rfl
          simp only [List.getElem_toArray, List.getElem_cons_zero, List.getElem_cons_succ, Act.put, List.setIfInBounds_toArray, List.set_cons_zero, List.set_cons_succ]
          refine wpAnyH_take (i := 4) (v := ?_) rfl (by kernel_rfl) (by kernel_rfl) (by kernel_rfl) (fun _ _ _ h => h) (Or.inl ⟨by rfl, ?_⟩) hHeld ?_
          rotate_left
          · intro w hSw; have f0 := hSw.1; have f1 := hSw.2; clear hSw; go_simp; try rfl
          simp only [List.getElem_toArray, List.getElem_cons_zero, List.getElem_cons_succ, Act.put, List.setIfInBounds_toArray, List.set_cons_zero, List.set_cons_succ]
          refine wpAnyH_take (i := 5) (v := ?_) rfl (by kernel_rfl) (by kernel_rfl) (by kernel_rfl) (fun _ _ _ h => h) (Or.inl ⟨by rfl, ?_⟩) hHeld ?_
          rotate_left
          · intro w hSw; have f0 := hSw.1; have f1 := hSw.2; clear hSw; go_simp; try rfl
          simp only [List.getElem_toArray, List.getElem_cons_zero, List.getElem_cons_succ, Act.put, List.setIfInBounds_toArray, List.set_cons_zero, List.set_cons_succ]
          refine wpAnyH_take (i := 6) (v := ?_) rfl (by kernel_rfl) (by kernel_rfl) (by kernel_rfl) (fun _ _ _ h => h) (Or.inl ⟨by rfl, ?_⟩) hHeld ?_
          rotate_left
          · intro w hSw; have f0 := hSw.1; have f1 := hSw.2; clear hSw; go_simp; try rfl
          simp only [List.getElem_toArray, List.getElem_cons_zero, List.getElem_cons_succ, Act.put, List.setIfInBounds_toArray, List.set_cons_zero, List.set_cons_succ]
          refine wpAnyH_take (i := 7) (v := ?_) rfl (by kernel_rfl) (by kernel_rfl) (by kernel_rfl) (fun _ _ _ h => h) (Or.inl ⟨by rfl, ?_⟩) hHeld ?_
          rotate_left
          · intro w hSw; have f0 := hSw.1; have f1 := hSw.2; clear hSw; go_simp; try rfl
          simp only [List.getElem_toArray, List.getElem_cons_zero, List.getElem_cons_succ, Act.put, List.setIfInBounds_toArray, List.set_cons_zero, List.set_cons_succ]
          refine wpAnyH_done (by kernel_rfl) ?_ _
          have hoBr := (ho.drew.drew).alloc (.cells #[str kk, .slice X1 m c1] 51)
          have hbBr := (hb.drew.drew).alloc (hb.drew.drew).size (.cells #[str kk, .slice X1 m c1] 51)
          have hltr := fun k hk => ((ho.drew.drew).lt k hk).1
          have hnBr : ((wr.drew.drew).alloc (.cells #[str kk, .slice X1 m c1] 51)).heap[(wr.drew.drew).heap.size]? = some (.cells #[str kk, .slice X1 m c1] 51 (0, 0)) := heap_alloc_new _ _
          have hsBr : W1.heap.size ≤ ((wr.drew.drew).alloc (.cells #[str kk, .slice X1 m c1] 51)).heap.size := hbBr.size
          go_wp2_with (at_builtin; refine wp_apr (.tmp 38) (.tmp 43) hoBr hsBr hnBr hR (by omega) rfl rfl rfl rfl ?_; intro gr capr Wr hor hgr hatr hlbr; have hbr := hbBr.grown hgr hsBr hltr)
          go_roundw
          case rel => exact ⟨i + 1, false, (acc ++ [⟨kk, vv⟩]), by go_num, by omega, rfl, by first | omega | (simp; omega), HQ, hor, hbr⟩
          case measure => simp [intOf]; omega
        | false =>
          have hbl2 : Op.bytesLess kk kx = false := hls
          have HQ0 := HP.out.trans (congrArg (acc ++ ·) (hhere hls))
          by_cases hk : kk = kx
          · subst hk
            rw [if_pos rfl] at hdone
            have HQ := Lib.hid (show bt.put l ⟨kk, vx⟩ = (acc ++ [⟨kk, vx⟩]) ++ bt.rest l ⟨kk, vx⟩ (i + 1) true by rw [HQ0, hdone]; simp)
            clear hless hhere hdone HP H hls HQ0
            go_wp2_with fail
            refine wp_region_held_drew (S := fun W => W.cell? ⟨b1, o1 + i * 2, none⟩ = some (str kk) ∧ W.cell? ⟨w.heap.size, 0, none⟩ = some (str kk)) (by kernel_rfl) ⟨p2, x2⟩ (fun hHeld => ?_)
            refine wpAnyH_take (i := 0) (v := ?_) rfl (by kernel_rfl) (by kernel_rfl) (by kernel_rfl) (fun _ _ _ h => h) (Or.inl ⟨by rfl, ?_⟩) hHeld ?_
            rotate_left
            · intro w hSw; have f0 := hSw.1; have f1 := hSw.2; clear hSw; go_simp; try rfl
            simp only [List.getElem_toArray, List.getElem_cons_zero, Act.put, List.setIfInBounds_toArray, List.set_cons_zero, List.set_cons_succ]
            refine wpAnyH_take (i := 1) (v := ?_) rfl (by kernel_rfl) (by kernel_rfl) (by kernel_rfl) (fun _ _ _ h => h) (Or.inl ⟨by rfl, ?_⟩) hHeld ?_
            rotate_left
            · intro w hSw; have f0 := hSw.1; have f1 := hSw.2; clear hSw; go_simp; try rfl
            simp only [List.getElem_toArray, List.getElem_cons_zero, List.getElem_cons_succ, Act.put, List.setIfInBounds_toArray, List.set_cons_zero, List.set_cons_succ]
            refine wpAnyH_take (i := 2) (v := ?_) rfl (by kernel_rfl) (by kernel_rfl) (by kernel_rfl) (fun _ _ _ h => h) (Or.inl ⟨by rfl, ?_⟩) hHeld ?_
            rotate_left
            · intro w hSw; have f0 := hSw.1; have f1 := hSw.2; clear hSw; go_simp; try rfl
            simp only [List.getElem_toArray, List.getElem_cons_zero, List.getElem_cons_succ, Act.put, List.setIfInBounds_toArray, List.set_cons_zero, List.set_cons_succ]
            refine wpAnyH_take (i := 3) (v := ?_) rfl (by kernel_rfl) (by kernel_rfl) (by kernel_rfl) (fun _ _ _ h => h) (Or.inl ⟨by rfl, ?_⟩) hHeld ?_
            rotate_left
            · intro w hSw; have f0 := hSw.1; have f1 := hSw.2; clear hSw; go_simp; try rfl
            simp only [List.getElem_toArray, List.getElem_cons_zero, List.getElem_cons_succ, Act.put, List.setIfInBounds_toArray, List.set_cons_zero, List.set_cons_succ]
            refine wpAnyH_take (i := 4) (v := ?_) rfl (by kernel_rfl) (by kernel_rfl) (by kernel_rfl) (fun _ _ _ h => h) (Or.inl ⟨by rfl, ?_⟩) hHeld ?_
            rotate_left
            · intro w hSw; have f0 := hSw.1; have f1 := hSw.2; clear hSw; go_simp; try rfl
            simp only [List.getElem_toArray, List.getElem_cons_zero, List.getElem_cons_succ, Act.put, List.setIfInBounds_toArray, List.set_cons_zero, List.set_cons_succ]
            refine wpAnyH_take (i := 5) (v := ?_) rfl (by kernel_rfl) (by kernel_rfl) (by kernel_rfl) (fun _ _ _ h => h) (Or.inl ⟨by rfl, ?_⟩) hHeld ?_
            rotate_left
            · intro w hSw; have f0 := hSw.1; have f1 := hSw.2; clear hSw; go_simp; try rfl
            simp only [List.getElem_toArray, List.getElem_cons_zero, List.getElem_cons_succ, Act.put, List.setIfInBounds_toArray, List.set_cons_zero, List.set_cons_succ]
            refine wpAnyH_take (i := 6) (v := ?_) rfl (by kernel_rfl) (by kernel_rfl) (by kernel_rfl) (fun _ _ _ h => h) (Or.inl ⟨by rfl, ?_⟩) hHeld ?_
            rotate_left
            · intro w hSw; have f0 := hSw.1; have f1 := hSw.2; clear hSw; go_simp; try rfl
            simp only [List.getElem_toArray, List.getElem_cons_zero, List.getElem_cons_succ, Act.put, List.setIfInBounds_toArray, List.set_cons_zero, List.set_cons_succ]
            refine wpAnyH_take (i := 7) (v := ?_) rfl (by kernel_rfl) (by kernel_rfl) (by kernel_rfl) (fun _ _ _ h => h) (Or.inl ⟨by rfl, ?_⟩) hHeld ?_
            rotate_left
            · intro w hSw; have f0 := hSw.1; have f1 := hSw.2; clear hSw; go_simp; try rfl
            simp only [List.getElem_toArray, List.getElem_cons_zero, List.getElem_cons_succ, Act.put, List.setIfInBounds_toArray, List.set_cons_zero, List.set_cons_succ]
            refine wpAnyH_take (i := 8) (v := ?_) rfl (by kernel_rfl) (by kernel_rfl) (by kernel_rfl) (fun _ _ _ h => h) (Or.inl ⟨by rfl, ?_⟩) hHeld ?_
            rotate_left
            · intro w hSw; have f0 := hSw.1; have f1 := hSw.2; clear hSw; go_simp; try rfl
            simp only [List.getElem_toArray, List.getElem_cons_zero, List.getElem_cons_succ, Act.put, List.setIfInBounds_toArray, List.set_cons_zero, List.set_cons_succ]
            refine wpAnyH_take (i := 9) (v := ?_) rfl (by kernel_rfl) (by kernel_rfl) (by kernel_rfl) (fun _ _ _ h => h) (Or.inl ⟨by rfl, ?_⟩) hHeld ?_
            rotate_left
            · intro w hSw; have f0 := hSw.1; have f1 := hSw.2; clear hSw; go_simp; try rfl
            simp only [List.getElem_toArray, List.getElem_cons_zero, List.getElem_cons_succ, Act.put, List.setIfInBounds_toArray, List.set_cons_zero, List.set_cons_succ]
            refine wpAnyH_take (i := 10) (v := ?_) rfl (by kernel_rfl) (by kernel_rfl) (by kernel_rfl) (fun _ _ _ h => h) (Or.inl ⟨by rfl, ?_⟩) hHeld ?_
            rotate_left
            · intro w hSw; have f0 := hSw.1; have f1 := hSw.2; clear hSw; go_simp; try rfl
            simp only [List.getElem_toArray, List.getElem_cons_zero, List.getElem_cons_succ, Act.put, List.setIfInBounds_toArray, List.set_cons_zero, List.set_cons_succ]
            refine wpAnyH_take (i := 11) (v := ?_) rfl (by kernel_rfl) (by kernel_rfl) (by kernel_rfl) (fun _ _ _ h => h) (Or.inl ⟨by rfl, ?_⟩) hHeld ?_
            rotate_left
            · intro w hSw; have f0 := hSw.1; have f1 := hSw.2; clear hSw; go_simp; try rfl
            simp only [List.getElem_toArray, List.getElem_cons_zero, List.getElem_cons_succ, Act.put, List.setIfInBounds_toArray, List.set_cons_zero, List.set_cons_succ]
            refine wpAnyH_done (by kernel_rfl) ?_ _
            have hoBa := (ho.drew).alloc (.cells #[str kk, .slice X mx cx] 51)
            have hbBa := (hb.drew).alloc (hb.drew).size (.cells #[str kk, .slice X mx cx] 51)
            have hlta := fun k hk => ((ho.drew).lt k hk).1
            have hnBa : ((wr.drew).alloc (.cells #[str kk, .slice X mx cx] 51)).heap[(wr.drew).heap.size]? = some (.cells #[str kk, .slice X mx cx] 51 (0, 0)) := heap_alloc_new _ _
            have hsBa : W1.heap.size ≤ ((wr.drew).alloc (.cells #[str kk, .slice X mx cx] 51)).heap.size := hbBa.size
            go_wp2_with (at_builtin; refine wp_apr (.tmp 26) (.tmp 28) hoBa hsBa hnBa hRX (by omega) rfl rfl rfl rfl ?_; intro ga capa Wa hoa hga hata hlba; have hba := hbBa.grown hga hsBa hlta)
            have p3 := (hba.cell (p := ⟨b1, o1 + i * 2, none⟩) hbl).trans p1
            have x4 : Wa.cell? ⟨w.heap.size, 0, none⟩ = some (str kk) := by unfold World.cell?; simp [(hba.block w.heap.size (by omega)).trans nW1]
            refine wp_region_held_drew (S := fun W => W.cell? ⟨b1, o1 + i * 2, none⟩ = some (str kk) ∧ W.cell? ⟨w.heap.size, 0, none⟩ = some (str kk)) (by kernel_rfl) ⟨p3, x4⟩ (fun hHeld => ?_)
            refine wpAnyH_take (i := 0) (v := ?_) rfl (by kernel_rfl) (by kernel_rfl) (by kernel_rfl) (fun _ _ _ h => h) (Or.inl ⟨by rfl, ?_⟩) hHeld ?_
            rotate_left
            · intro w hSw; have f0 := hSw.1; have f1 := hSw.2; clear hSw; go_simp; try rfl
            simp only [List.getElem_toArray, List.getElem_cons_zero, Act.put, List.setIfInBounds_toArray, List.set_cons_zero, List.set_cons_succ]
            refine wpAnyH_take (i := 1) (v := ?_) rfl (by kernel_rfl) (by kernel_rfl) (by kernel_rfl) (fun _ _ _ h => h) (Or.inl ⟨by rfl, ?_⟩) hHeld ?_
            rotate_left
            · intro w hSw; have f0 := hSw.1; have f1 := hSw.2; clear hSw; go_simp; try rfl
            simp only [List.getElem_toArray, List.getElem_cons_zero, List.getElem_cons_succ, Act.put, List.setIfInBounds_toArray, List.set_cons_zero, List.set_cons_succ]
            refine wpAnyH_take (i := 2) (v := ?_) rfl (by kernel_rfl) (by kernel_rfl) (by kernel_rfl) (fun _ _ _ h => h) (Or.inl ⟨by rfl, ?_⟩) hHeld ?_
            rotate_left
            · intro w hSw; have f0 := hSw.1; have f1 := hSw.2; clear hSw; go_simp; try rfl
            simp only [List.getElem_toArray, List.getElem_cons_zero, List.getElem_cons_succ, Act.put, List.setIfInBounds_toArray, List.set_cons_zero, List.set_cons_succ]
            refine wpAnyH_take (i := 3) (v := ?_) rfl (by kernel_rfl) (by kernel_rfl) (by kernel_rfl) (fun _ _ _ h => h) (Or.inl ⟨by rfl, ?_⟩) hHeld ?_
            rotate_left
            · intro w hSw; have f0 := hSw.1; have f1 := hSw.2; clear hSw; go_simp; try rfl
            simp only [List.getElem_toArray, List.getElem_cons_zero, List.getElem_cons_succ, Act.put, List.setIfInBounds_toArray, List.set_cons_zero, List.set_cons_succ]
            refine wpAnyH_take (i := 4) (v := ?_) rfl (by kernel_rfl) (by kernel_rfl) (by kernel_rfl) (fun _ _ _ h => h) (Or.inl ⟨by rfl, ?_⟩) hHeld ?_
            rotate_left
            · intro w hSw; have f0 := hSw.1; have f1 := hSw.2; clear hSw; go_simp; try rfl
            simp only [List.getElem_toArray, List.getElem_cons_zero, List.getElem_cons_succ, Act.put, List.setIfInBounds_toArray, List.set_cons_zero, List.set_cons_succ]
            refine wpAnyH_take (i := 5) (v := ?_) rfl (by kernel_rfl) (by kernel_rfl) (by kernel_rfl) (fun _ _ _ h => h) (Or.inl ⟨by rfl, ?_⟩) hHeld ?_
            rotate_left
            · intro w hSw; have f0 := hSw.1; have f1 := hSw.2; clear hSw; go_simp; try rfl
            simp only [List.getElem_toArray, List.getElem_cons_zero, List.getElem_cons_succ, Act.put, List.setIfInBounds_toArray, List.set_cons_zero, List.set_cons_succ]
            refine wpAnyH_take (i := 6) (v := ?_) rfl (by kernel_rfl) (by kernel_rfl) (by kernel_rfl) (fun _ _ _ h => h) (Or.inl ⟨by rfl, ?_⟩) hHeld ?_
            rotate_left
            · intro w hSw; have f0 := hSw.1; have f1 := hSw.2; clear hSw; go_simp; try rfl
            simp only [List.getElem_toArray, List.getElem_cons_zero, List.getElem_cons_succ, Act.put, List.setIfInBounds_toArray, List.set_cons_zero, List.set_cons_succ]
            refine wpAnyH_take (i := 7) (v := ?_) rfl (by kernel_rfl) (by kernel_rfl) (by kernel_rfl) (fun _ _ _ h => h) (Or.inl ⟨by rfl, ?_⟩) hHeld ?_
            rotate_left
            · intro w hSw; have f0 := hSw.1; have f1 := hSw.2; clear hSw; go_simp; try rfl
            simp only [List.getElem_toArray, List.getElem_cons_zero, List.getElem_cons_succ, Act.put, List.setIfInBounds_toArray, List.set_cons_zero, List.set_cons_succ]
            refine wpAnyH_done (by kernel_rfl) ?_ _
            go_wp2_with fail
            go_roundw
            case rel => exact ⟨i + 1, true, (acc ++ [⟨kk, vx⟩]), by go_num, by omega, rfl, by first | omega | (simp; omega), HQ, hoa.drew, hba.drew⟩
            case measure => simp [intOf]; omega
          · rw [if_neg hk] at hdone
            have hke : (kk == kx) = false := beq_eq_false_iff_ne.2 hk
            have HQ := Lib.hid (show bt.put l ⟨kx, vx⟩ = (acc ++ [⟨kx, vx⟩] ++ [⟨kk, vv⟩]) ++ bt.rest l ⟨kx, vx⟩ (i + 1) true by rw [HQ0, hdone]; simp)
            clear hless hhere hdone HP H hls hk HQ0
            go_wp2_with fail
            refine wp_region_held_drew (S := fun W => W.cell? ⟨b1, o1 + i * 2, none⟩ = some (str kk) ∧ W.cell? ⟨w.heap.size, 0, none⟩ = some (str kx)) (by kernel_rfl) ⟨p2, x2⟩ (fun hHeld => ?_)
            refine wpAnyH_take (i := 0) (v := ?_) rfl (by kernel_rfl) (by kernel_rfl) (by kernel_rfl) (fun _ _ _ h => h) (Or.inl ⟨by rfl, ?_⟩) hHeld ?_
            rotate_left
            · intro w hSw; have f0 := hSw.1; have f1 := hSw.2; clear hSw; go_simp; try rfl
            simp only [List.getElem_toArray, List.getElem_cons_zero, Act.put, List.setIfInBounds_toArray, List.set_cons_zero, List.set_cons_succ]
            refine wpAnyH_take (i := 1) (v := ?_) rfl (by kernel_rfl) (by kernel_rfl) (by kernel_rfl) (fun _ _ _ h => h) (Or.inl ⟨by rfl, ?_⟩) hHeld ?_
            rotate_left
            · intro w hSw; have f0 := hSw.1; have f1 := hSw.2; clear hSw; go_simp; try rfl
            simp only [List.getElem_toArray, List.getElem_cons_zero, List.getElem_cons_succ, Act.put, List.setIfInBounds_toArray, List.set_cons_zero, List.set_cons_succ]
            refine wpAnyH_take (i := 2) (v := ?_) rfl (by kernel_rfl) (by kernel_rfl) (by kernel_rfl) (fun _ _ _ h => h) (Or.inl ⟨by rfl, ?_⟩) hHeld ?_
            rotate_left
            · intro w hSw; have f0 := hSw.1; have f1 := hSw.2; clear hSw; go_simp; try rfl
            simp only [List.getElem_toArray, List.getElem_cons_zero, List.getElem_cons_succ, Act.put, List.setIfInBounds_toArray, List.set_cons_zero, List.set_cons_succ]
            refine wpAnyH_take (i := 3) (v := ?_) rfl (by kernel_rfl) (by kernel_rfl) (by kernel_rfl) (fun _ _ _ h => h) (Or.inl ⟨by rfl, ?_⟩) hHeld ?_
            rotate_left
            · intro w hSw; have f0 := hSw.1; have f1 := hSw.2; clear hSw; go_simp; try rfl
            simp only [List.getElem_toArray, List.getElem_cons_zero, List.getElem_cons_succ, Act.put, List.setIfInBounds_toArray, List.set_cons_zero, List.set_cons_succ]
            refine wpAnyH_take (i := 4) (v := ?_) rfl (by kernel_rfl) (by kernel_rfl) (by kernel_rfl) (fun _ _ _ h => h) (Or.inl ⟨by rfl, ?_⟩) hHeld ?_
            rotate_left
            · intro w hSw; have f0 := hSw.1; have f1 := hSw.2; clear hSw; go_simp; try rfl
            simp only [List.getElem_toArray, List.getElem_cons_zero, List.getElem_cons_succ, Act.put, List.setIfInBounds_toArray, List.set_cons_zero, List.set_cons_succ]
            refine wpAnyH_take (i := 5) (v := ?_) rfl (by kernel_rfl) (by kernel_rfl) (by kernel_rfl) (fun _ _ _ h => h) (Or.inl ⟨by rfl, ?_⟩) hHeld ?_
            rotate_left
            · intro w hSw; have f0 := hSw.1; have f1 := hSw.2; clear hSw; go_simp; try rfl
            simp only [List.getElem_toArray, List.getElem_cons_zero, List.getElem_cons_succ, Act.put, List.setIfInBounds_toArray, List.set_cons_zero, List.set_cons_succ]
            refine wpAnyH_take (i := 6) (v := ?_) rfl (by kernel_rfl) (by kernel_rfl) (by kernel_rfl) (fun _ _ _ h => h) (Or.inl ⟨by rfl, ?_⟩) hHeld ?_
            rotate_left
            · intro w hSw; have f0 := hSw.1; have f1 := hSw.2; clear hSw; go_simp; try rfl
            simp only [List.getElem_toArray, List.getElem_cons_zero, List.getElem_cons_succ, Act.put, List.setIfInBounds_toArray, List.set_cons_zero, List.set_cons_succ]
            refine wpAnyH_take (i := 7) (v := ?_) rfl (by kernel_rfl) (by kernel_rfl) (by kernel_rfl) (fun _ _ _ h => h) (Or.inl ⟨by rfl, ?_⟩) hHeld ?_
            rotate_left
            · intro w hSw; have f0 := hSw.1; have f1 := hSw.2; clear hSw; go_simp; try rfl
            simp only [List.getElem_toArray, List.getElem_cons_zero, List.getElem_cons_succ, Act.put, List.setIfInBounds_toArray, List.set_cons_zero, List.set_cons_succ]
            refine wpAnyH_take (i := 8) (v := ?_) rfl (by kernel_rfl) (by kernel_rfl) (by kernel_rfl) (fun _ _ _ h => h) (Or.inl ⟨by rfl, ?_⟩) hHeld ?_
            rotate_left
            · intro w hSw; have f0 := hSw.1; have f1 := hSw.2; clear hSw; go_simp; try rfl
            simp only [List.getElem_toArray, List.getElem_cons_zero, List.getElem_cons_succ, Act.put, List.setIfInBounds_toArray, List.set_cons_zero, List.set_cons_succ]
            refine wpAnyH_take (i := 9) (v := ?_) rfl (by kernel_rfl) (by kernel_rfl) (by kernel_rfl) (fun _ _ _ h => h) (Or.inl ⟨by rfl, ?_⟩) hHeld ?_
            rotate_left
            · intro w hSw; have f0 := hSw.1; have f1 := hSw.2; clear hSw; go_simp; try rfl
            simp only [List.getElem_toArray, List.getElem_cons_zero, List.getElem_cons_succ, Act.put, List.setIfInBounds_toArray, List.set_cons_zero, List.set_cons_succ]
            refine wpAnyH_take (i := 10) (v := ?_) rfl (by kernel_rfl) (by kernel_rfl) (by kernel_rfl) (fun _ _ _ h => h) (Or.inl ⟨by rfl, ?_⟩) hHeld ?_
            rotate_left
            · intro w hSw; have f0 := hSw.1; have f1 := hSw.2; clear hSw; go_simp; try rfl
            simp only [List.getElem_toArray, List.getElem_cons_zero, List.getElem_cons_succ, Act.put, List.setIfInBounds_toArray, List.set_cons_zero, List.set_cons_succ]
            refine wpAnyH_take (i := 11) (v := ?_) rfl (by kernel_rfl) (by kernel_rfl) (by kernel_rfl) (fun _ _ _ h => h) (Or.inl ⟨by rfl, ?_⟩) hHeld ?_
            rotate_left
            · intro w hSw; have f0 := hSw.1; have f1 := hSw.2; clear hSw; go_simp; try rfl
            simp only [List.getElem_toArray, List.getElem_cons_zero, List.getElem_cons_succ, Act.put, List.setIfInBounds_toArray, List.set_cons_zero, List.set_cons_succ]
            refine wpAnyH_done (by kernel_rfl) ?_ _
            have hoBa := (ho.drew).alloc (.cells #[str kx, .slice X mx cx] 51)
            have hbBa := (hb.drew).alloc (hb.drew).size (.cells #[str kx, .slice X mx cx] 51)
            have hlta := fun k hk => ((ho.drew).lt k hk).1
            have hnBa : ((wr.drew).alloc (.cells #[str kx, .slice X mx cx] 51)).heap[(wr.drew).heap.size]? = some (.cells #[str kx, .slice X mx cx] 51 (0, 0)) := heap_alloc_new _ _
            have hsBa : W1.heap.size ≤ ((wr.drew).alloc (.cells #[str kx, .slice X mx cx] 51)).heap.size := hbBa.size
            go_wp2_with (at_builtin; refine wp_apr (.tmp 26) (.tmp 28) hoBa hsBa hnBa hRX (by omega) rfl rfl rfl rfl ?_; intro ga capa Wa hoa hga hata hlba; have hba := hbBa.grown hga hsBa hlta)
            have p3 := (hba.cell (p := ⟨b1, o1 + i * 2, none⟩) hbl).trans p1
            have q3 := (hba.cell (p := ⟨b1, o1 + i * 2 + 1, none⟩) hbl).trans q1
            have x4 : Wa.cell? ⟨w.heap.size, 0, none⟩ = some (str kx) := by unfold World.cell?; simp [(hba.block w.heap.size (by omega)).trans nW1]
            refine wp_region_held_drew (S := fun W => W.cell? ⟨b1, o1 + i * 2, none⟩ = some (str kk) ∧ W.cell? ⟨w.heap.size, 0, none⟩ = some (str kx)) (by kernel_rfl) ⟨p3, x4⟩ (fun hHeld => ?_)
            refine wpAnyH_take (i := 0) (v := ?_) rfl (by kernel_rfl) (by kernel_rfl) (by kernel_rfl) (fun _ _ _ h => h) (Or.inl ⟨by rfl, ?_⟩) hHeld ?_
            rotate_left
            · intro w hSw; have f0 := hSw.1; have f1 := hSw.2; clear hSw; go_simp; try rfl
            simp only [List.getElem_toArray, List.getElem_cons_zero, Act.put, List.setIfInBounds_toArray, List.set_cons_zero, List.set_cons_succ]
            refine wpAnyH_take (i := 1) (v := ?_) rfl (by kernel_rfl) (by kernel_rfl) (by kernel_rfl) (fun _ _ _ h => h) (Or.inl ⟨by rfl, ?_⟩) hHeld ?_
            rotate_left
            · intro w hSw; have f0 := hSw.1; have f1 := hSw.2; clear hSw; go_simp; try rfl
            simp only [List.getElem_toArray, List.getElem_cons_zero, List.getElem_cons_succ, Act.put, List.setIfInBounds_toArray, List.set_cons_zero, List.set_cons_succ]
            refine wpAnyH_take (i := 2) (v := ?_) rfl (by kernel_rfl) (by kernel_rfl) (by kernel_rfl) (fun _ _ _ h => h) (Or.inl ⟨by rfl, ?_⟩) hHeld ?_
            rotate_left
            · intro w hSw; have f0 := hSw.1; have f1 := hSw.2; clear hSw; go_simp; try rfl
            simp only [List.getElem_toArray, List.getElem_cons_zero, List.getElem_cons_succ, Act.put, List.setIfInBounds_toArray, List.set_cons_zero, List.set_cons_succ]
            refine wpAnyH_take (i := 3) (v := ?_) rfl (by kernel_rfl) (by kernel_rfl) (by kernel_rfl) (fun _ _ _ h => h) (Or.inl ⟨by rfl, ?_⟩) hHeld ?_
            rotate_left
            · intro w hSw; have f0 := hSw.1; have f1 := hSw.2; clear hSw; go_simp; try rfl
            simp only [List.getElem_toArray, List.getElem_cons_zero, List.getElem_cons_succ, Act.put, List.setIfInBounds_toArray, List.set_cons_zero, List.set_cons_succ]
            refine wpAnyH_take (i := 4) (v := ?_) rfl (by kernel_rfl) (by kernel_rfl) (by kernel_rfl) (fun _ _ _ h => h) (Or.inl ⟨by rfl, ?_⟩) hHeld ?_
            rotate_left
            · intro w hSw; have f0 := hSw.1; have f1 := hSw.2; clear hSw; go_simp; try rfl
            simp only [List.getElem_toArray, List.getElem_cons_zero, List.getElem_cons_succ, Act.put, List.setIfInBounds_toArray, List.set_cons_zero, List.set_cons_succ]
            refine wpAnyH_take (i := 5) (v := ?_) rfl (by kernel_rfl) (by kernel_rfl) (by kernel_rfl) (fun _ _ _ h => h) (Or.inl ⟨by rfl, ?_⟩) hHeld ?_
            rotate_left
            · intro w hSw; have f0 := hSw.1; have f1 := hSw.2; clear hSw; go_simp; try rfl
            simp only [List.getElem_toArray, List.getElem_cons_zero, List.getElem_cons_succ, Act.put, List.setIfInBounds_toArray, List.set_cons_zero, List.set_cons_succ]
            refine wpAnyH_take (i := 6) (v := ?_) rfl (by kernel_rfl) (by kernel_rfl) (by kernel_rfl) (fun _ _ _ h => h) (Or.inl ⟨by rfl, ?_⟩) hHeld ?_
            rotate_left
            · intro w hSw; have f0 := hSw.1; have f1 := hSw.2; clear hSw; go_simp; try rfl
            simp only [List.getElem_toArray, List.getElem_cons_zero, List.getElem_cons_succ, Act.put, List.setIfInBounds_toArray, List.set_cons_zero, List.set_cons_succ]
            refine wpAnyH_take (i := 7) (v := ?_) rfl (by kernel_rfl) (by kernel_rfl) (by kernel_rfl) (fun _ _ _ h => h) (Or.inl ⟨by rfl, ?_⟩) hHeld ?_
            rotate_left
            · intro w hSw; have f0 := hSw.1; have f1 := hSw.2; clear hSw; go_simp; try rfl
            simp only [List.getElem_toArray, List.getElem_cons_zero, List.getElem_cons_succ, Act.put, List.setIfInBounds_toArray, List.set_cons_zero, List.set_cons_succ]
            refine wpAnyH_done (by kernel_rfl) ?_ _
            have hoBr := (hoa.drew).alloc (.cells #[str kk, .slice X1 m c1] 51)
            have hbBr := (hba.drew).alloc (hba.drew).size (.cells #[str kk, .slice X1 m c1] 51)
            have hltr := fun k hk => ((hoa.drew).lt k hk).1
            have hnBr : ((Wa.drew).alloc (.cells #[str kk, .slice X1 m c1] 51)).heap[(Wa.drew).heap.size]? = some (.cells #[str kk, .slice X1 m c1] 51 (0, 0)) := heap_alloc_new _ _
            have hsBr : W1.heap.size ≤ ((Wa.drew).alloc (.cells #[str kk, .slice X1 m c1] 51)).heap.size := hbBr.size
            go_wp2_with (at_builtin; refine wp_apr (.tmp 38) (.tmp 43) hoBr hsBr hnBr hR (by simp; omega) rfl rfl rfl rfl ?_; intro gr capr Wr hor hgr hatr hlbr; have hbr := hbBr.grown hgr hsBr hltr)
            simp only [List.length_append, List.length_singleton] at hor
            go_roundw
            case rel => exact ⟨i + 1, true, (acc ++ [⟨kx, vx⟩] ++ [⟨kk, vv⟩]), by go_num, by omega, rfl, by first | omega | (simp; omega), HQ, hor, hbr⟩
            case measure => simp [intOf]; omega
    · have hie : i = n := by omega
      have hnil : l.drop i = [] := List.drop_of_length_le (by omega)
      have bW : ∀ {W : World}, Below W1.heap.size W1 W → Below w.heap.size w W := fun h => bW1.trans (h.mono (by omega))
      have H1 : bt.rest l ⟨kx, vx⟩ i true = [] := by unfold bt.rest; rw [if_pos rfl, hnil]; rfl
      have H2 : bt.rest l ⟨kx, vx⟩ i false = [⟨kx, vx⟩] := by unfold bt.rest; rw [if_neg (by decide), hnil]; rfl
      cases dn with
      | true =>
        have hres : acc = bt.put l ⟨kx, vx⟩ := by rw [HP.out, H1, List.append_nil]
        have HBW := Lib.hid (bW hb)
        have HTS := Lib.hid (ho.ts hb hZ1.out)
        rw [hres] at HTS
        clear H1 H2 HP hacc ho hb hres bW bW1
        go_wp2_with fail
        go_ret
        obtain ⟨A', c', e1, ht, hto⟩ := HTS.out
        exact ⟨⟨A', c', e1 ▸ rfl, ht, hto⟩, HBW.out⟩
      | false =>
        simp only [Bool.toNat_false] at hacc
        have hres : acc ++ [⟨kx, vx⟩] = bt.put l ⟨kx, vx⟩ := by rw [HP.out, H2]
        clear H1 H2 HP
        have hoBa := (ho).alloc (.cells #[str kx, .slice X mx cx] 51)
        have hbBa := (hb).alloc (hb).size (.cells #[str kx, .slice X mx cx] 51)
        have hlta := fun k hk => ((ho).lt k hk).1
        have hnBa : ((wr).alloc (.cells #[str kx, .slice X mx cx] 51)).heap[(wr).heap.size]? = some (.cells #[str kx, .slice X mx cx] 51 (0, 0)) := heap_alloc_new _ _
        have hsBa : W1.heap.size ≤ ((wr).alloc (.cells #[str kx, .slice X mx cx] 51)).heap.size := hbBa.size
        go_wp2_with (at_builtin; refine wp_apr (.tmp 47) (.tmp 49) hoBa hsBa hnBa hRX (by omega) rfl rfl rfl rfl ?_; intro ga capa Wa hoa hga hata hlba; have hba := hbBa.grown hga hsBa hlta)
        go_ret
        obtain ⟨A', c', e1, ht, hto⟩ := hoa.ts hba hZ1.out
        rw [hres] at e1 ht hto
        exact ⟨⟨A', c', e1 ▸ rfl, ht, hto⟩, bW hba⟩
end Go.Proofs.Ytlchfadfbepapaa
