/-
  THE PROGRAM's seal: contracts of part, sum, numberIn, layNumber.
-/
import Derived.Test.YtiiigbhkbpdciaaDoorSealR3
import Derived.Test.YtiiigbhkbpdciaaDoorCrc
import Derived.Test.YtiiigbhkbpdciaaDoorRef00
import Derived.Laws.CopyOwn
namespace Go.Proofs.YtiiigbhkbpdciaaDoor
open Go.RowKit

theorem bs_mid_row {e : TypeId} {w : World} {g : Nat} {bl : List UInt8} (h : RowB e w g bl) {at_ k : Nat} (hk : at_ + k ≤ bl.length) (hs : k ≤ 281474976710656) : BS w (some ⟨g, at_, none⟩) k k ((bl.drop at_).take k) :=
  ⟨by rw [List.length_take, List.length_drop]; omega, Nat.le_refl _, by omega, hs, fun _ => ⟨g, at_, rfl, h.lt, fun i hi => by
    rw [List.length_take, List.length_drop] at hi
    rw [h.cell (i := at_ + i) (by omega), List.getElem_take, List.getElem_drop]⟩⟩
theorem chg_setRow (w : World) (g : Nat) (cs : Array Value) : Chg w (w.setRow g cs) [g] :=
  ⟨rfl, rfl, rfl, by simp [World.setRow], fun k _ hn => setRow_other w g k cs (fun e => hn (by rw [List.mem_singleton]; exact e))⟩
theorem splice_map (bl l : List UInt8) (off : Nat) : splice (bl.map bv) off (l.map bv) = (splice bl off l).map bv := by
  simp [splice]
/-- BYTES ARE COPIED INTO A BLOCK OF BYTES: as many as there is room for -/
theorem wpList_copy_bytes {P : Program} {w : World} {ops : Array Oper} {rest : List Oper} {o : Oper} {a : Act} {Q : Exit → Act → World → Prop} (hgd : o.guard = none) (d s : Operand) (dT sT : TypeId)
    (ho : o.op = .call { callee := .builtin .copy, args := #[d, s], argTypes := #[dT, sT] }) (elem : TypeId) (hu : P.underlying dT = some (.slice elem)) (hsz : (P.info? elem).map (·.size) = some 1)
    {E : TypeId} {g off dLen dCap sLen sCap : Nat} {sp : Option Addr} {bl l : List UInt8} (hr : RowB E w g bl) (hd : a.eval d = .slice (some ⟨g, off, none⟩) dLen dCap) (hs : a.eval s = .slice sp sLen sCap) (hb : BS w sp sLen sCap l)
    (hfit : off + dLen ≤ bl.length)
    (h : ∀ w', RowB E w' g (splice bl off (l.take dLen)) → Chg w w' [g] → wpList P ops Q rest (a.put o.dst (goInt (l.take dLen).length)) w') :
    wpList P ops Q (o :: rest) a w := by
  have hl := hb.len
  have hm : (l.take dLen).length = Nat.min sLen dLen := by rw [List.length_take, hl]; exact Nat.min_comm _ _
  have hle : Nat.min sLen dLen ≤ dLen := Nat.min_le_right _ _
  by_cases h0 : Nat.min sLen dLen = 0
  · have hn : l.take dLen = [] := List.eq_nil_of_length_eq_zero (hm.trans h0)
    refine wpList_copy_nothing hgd d s dT sT ho elem hu hsz _ sp dLen dCap sLen sCap hd hs h0 ?_
    have := h w (by rw [hn]; simpa [splice] using hr) (Chg.refl _ _)
    rwa [hn] at this
  · have hpos : 0 < sLen := by
      rcases Nat.eq_zero_or_pos sLen with h1 | h1
      · exact absurd (by rw [h1]; exact Nat.zero_min _) h0
      · exact h1
    obtain ⟨b, o2, rfl, _, hc⟩ := hb.has hpos
    have hlen : ((l.take dLen).map bv).length = (l.take dLen).length := List.length_map ..
    refine wpList_copy_own hgd d s dT sT ho elem hu hsz g off dLen dCap ⟨b, o2, none⟩ sLen sCap hd hs _ _ hr ((l.take dLen).map bv) (by rw [hlen, hm]) ?_ ?_ (bvs_one _) ?_
    · intro j v hv
      rw [List.getElem?_map] at hv
      obtain ⟨y, hy, rfl⟩ := Option.map_eq_some_iff.1 hv
      have hj : j < l.length := by
        have := (List.getElem?_eq_some_iff.1 hy).1
        rw [List.length_take] at this
        omega
      have hy2 : l[j]? = some y := by
        rw [List.getElem?_take] at hy
        split at hy
        · exact hy
        · cases hy
      obtain ⟨_, rfl⟩ := List.getElem?_eq_some_iff.1 hy2
      rw [Addr.add_lit]
      exact hc j hj
    · rw [hlen, hm, List.size_toArray, List.length_map]
      omega
    · have h1 := setRow_heap w g _ ((((bl.map bv).toArray.toList.take off ++ ((l.take dLen).map bv ++ (bl.map bv).toArray.toList.drop (off + ((l.take dLen).map bv).length)))).toArray) E _ hr
      rw [hlen]
      refine h _ ?_ (chg_setRow _ _ _)
      rw [hlen] at h1
      refine h1.trans ?_
      simp only [splice, List.map_append, List.map_take, List.map_drop]

theorem blk_array : Tryd.prog.underlying 27 = some (.array (Tryd.prog.arrayLen 27) (Tryd.prog.elem 27)) := by kernel_rfl
theorem blk_len : Tryd.prog.arrayLen 27 = 128 := by kernel_rfl
theorem blk_elem : Tryd.prog.elem 27 = 5 := by kernel_rfl
theorem run_cut_blk (W : World) (g at_ k : Nat) (hk : 0 < k) (hat : at_ + k ≤ 128) :
    (Instr.sliceAt 27 (.pointer (some ⟨g, 0, none⟩)) (some (.int .i64 at_)) (some (.int .i64 ((at_ : Int) + (k : Int)))) (some (.int .i64 ((at_ : Int) + (k : Int))))).run Tryd.prog W = .ok (.slice (some ⟨g, at_, none⟩) k k) W := by
  obtain ⟨i0, hi, hz0, hz1, hz2⟩ := info_parts info_u8
  rw [run_sliceAt_array_lhm W 27 _ blk_array .i64 .i64 .i64 at_ (at_ + k) (at_ + k) (by omega) (by omega) (Int.le_refl _) (by rw [blk_len]; omega), blk_elem]
  have e1 : ((at_ : Int) + (k : Int)).toNat = at_ + k := by omega
  have e2 : (at_ : Int).toNat = at_ := by omega
  have e3 : at_ + k ≠ at_ := by omega
  simp only [sizeOf, typeInfo, Sem.run_bind, slicedAt, e1, e2, if_neg e3, Addr.add_lit, Nat.zero_add, Nat.add_sub_cancel_left]
  simp [hi, hz1, Result.andThen]

/-- part: the block's own bytes -/
theorem part_any (g at_ k : Nat) (w : World) (hk : 0 < k) (hat : at_ + k ≤ 128) :
    Calls Tryd.prog 28 #[.pointer (some ⟨g, 0, none⟩), .int .i64 at_, .int .i64 k] w fun e w' => e = .returned (.slice (some ⟨g, at_, none⟩) k k) ∧ w = w' := by
  have hc := run_cut_blk w g at_ k hk hat
  have h1 : ¬ at_ + k = at_ := by omega
  go_enter Tryd.func28, Tryd.ntmps28
  go_wp2
  go_ret
  exact ⟨rfl, rfl⟩

/-- numberIn: the number that stands at a place -/
theorem numberIn_any (E : TypeId) (g at_ k : Nat) (b : dk.Blk) (hb : b.length = 128) (w : World) (hr : RowB E w g b) (hz : isSz k = true) (hat : at_ + k ≤ 128) :
    Calls Tryd.prog 34 #[.pointer (some ⟨g, 0, none⟩), .int .i64 at_, .int .i64 k] w fun e w' => e = .returned (.int .u64 (leVal ((b.drop at_).take k))) ∧ w = w' := by
  have hk : 0 < k ∧ k ≤ 8 := by rcases isSz_cases hz with h | h | h | h <;> omega
  have hp := part_any g at_ k w hk.1 hat
  have hg := get_yes _ k k ((b.drop at_).take k) 0 k w (bs_mid_row hr (at_ := at_) (k := k) (by omega) (by omega)) hz (by omega)
  rw [List.drop_zero, List.take_take, Nat.min_self] at hg
  generalize leVal ((b.drop at_).take k) = V at *
  have HP := Lib.hid hp
  have HG := Lib.hid hg
  clear hp hg
  go_enter Tryd.func34, Tryd.ntmps34
  go_wp2_with fail
  refine HP.out.mono ?_
  rintro e w1 ⟨rfl, rfl⟩
  go_wp2_with fail
  refine HG.out.mono ?_
  rintro e w1 ⟨rfl, rfl⟩
  go_wp2_with fail
  go_ret
  exact ⟨rfl, rfl⟩

/-- sum: of the number and the body -/
theorem sum_any (E : TypeId) (g : Nat) (b : dk.Blk) (hb : b.length = 128) (w : World) (hr : RowB E w g b) (ht : Tab w) :
    Calls Tryd.prog 29 #[.pointer (some ⟨g, 0, none⟩)] w fun e w' => e = .returned (wv (crc.of (b.take 116))) ∧ w = w' := by
  have hp := part_any g 0 116 w (by omega) (by omega)
  have ho := of_any _ 116 116 _ w (bs_mid_row hr (at_ := 0) (k := 116) (by omega) (by omega)) ht
  rw [List.drop_zero] at ho
  generalize crc.of (b.take 116) = V at *
  have HP := Lib.hid hp
  have HO := Lib.hid ho
  clear hp ho
  go_enter Tryd.func29, Tryd.ntmps29
  go_wp2_with fail
  refine HP.out.mono ?_
  rintro e w1 ⟨rfl, rfl⟩
  go_wp2_with fail
  refine HO.out.mono ?_
  rintro e w1 ⟨rfl, rfl⟩
  go_wp2_with fail
  go_ret
  exact ⟨rfl, rfl⟩

/-- layNumber: a number's bytes are laid -/
theorem layNumber_any (E : TypeId) (g at_ k n : Nat) (b : dk.Blk) (hb : b.length = 128) (w : World) (hr : RowB E w g b) (hz : isSz k = true) (hat : at_ + k ≤ 128) (hn : putOk n k = true) :
    Calls Tryd.prog 27 #[.pointer (some ⟨g, 0, none⟩), .int .i64 at_, .int .i64 k, .int .u64 n] w fun e w' => e = .returned (.tuple #[]) ∧ RowB E w' g (splice b at_ (leBytes n k)) ∧ Chg w w' [g] := by
  have hk : 0 < k ∧ k ≤ 8 := by rcases isSz_cases hz with h | h | h | h <;> omega
  have hput := put_yes n k w hn
  have hll := leBytes_length n k
  have hlt : (leBytes n k).take k = leBytes n k := List.take_of_length_le (by rw [hll]; exact Nat.le_refl _)
  have HT := Lib.hid hlt
  have HLL := Lib.hid hll
  have HP := Lib.hid hput
  clear hput hlt hll
  go_enter Tryd.func27, Tryd.ntmps27
  go_wp2_with fail
  refine HP.out.mono ?_
  rintro e w1 ⟨v, rfl, ho, hb1⟩
  obtain ⟨A1, c1, rfl, hB⟩ := ho.form
  rw [HLL.out] at hB ho ⊢
  have hr1 := hr.below hb1 hr.lt
  go_wp2_with fail
  refine (part_any g at_ k _ hk.1 hat).mono ?_
  rintro e w2 ⟨rfl, rfl⟩
  go_wp2_with (refine wpList_copy_bytes rfl (.tmp 19) (.tmp 20) 34 34 rfl 5 Tryd.underlying34 (by kernel_rfl) hr1 rfl rfl hB (by omega) ?_; intro w3 hr3 hc3; rw [HT.out] at hr3)
  go_end0
  exact ⟨rfl, hr3, (Chg.of_below hb1 [g]).trans hc3 (Sub.refl _ _)⟩
end Go.Proofs.YtiiigbhkbpdciaaDoor
