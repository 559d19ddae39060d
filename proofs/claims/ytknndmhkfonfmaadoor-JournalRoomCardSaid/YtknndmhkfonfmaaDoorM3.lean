/-
  PURE: WHEREVER THE POWER IS CUT, the whole: a head is laid; blocks and a head are laid; Append, Replace. No program is named here.
-/
import Derived.Test.YtknndmhkfonfmaaDoorM2
import Derived.Test.YtknndmhkfonfmaaDoorM1
import Derived.Deep.AppendLies
import Derived.Deep.RegionHeldLaw
import Derived.Great.BuildSlice
import Derived.Laws.CopyOwn
import Derived.Shelf.Abstract
import Derived.StillTailTactics
import Derived.Test.YtknndmhkfonfmaaDoorRows
namespace Go.Proofs.YtknndmhkfonfmaaDoor
namespace jn
/-- in the light, with all sure: what is read is what stands there -/
theorem rd_sure {s : St} (hb : s.black = false) (hL : s.L = []) {k : Nat} (hk : k < s.S.length) : rd s (k : Int) = s.S.getD k dk.zero := by
  have ha : dk.asks s k = 0 := by
    unfold dk.asks
    rw [if_neg (by rw [hb]; simp), if_neg (by omega)]
  rw [rd, dk.read, if_pos ha, hL, Int.toNat_natCast]
  rfl
def bytesS (S : List Blk) (at_ k : Nat) : List UInt8 := ((List.range k).map fun i => S.getD (at_ + i) dk.zero).flatten
theorem bytes_sure {s : St} (hb : s.black = false) (hL : s.L = []) {at_ k : Nat} (hk : at_ + k ≤ s.S.length) : bytes s at_ k = bytesS s.S at_ k := by
  unfold bytes bytesS
  congr 1
  apply List.map_congr_left
  intro i hi
  exact rd_sure hb hL (by have := List.mem_range.1 hi; omega)
theorem bytesS_agree {S S' : List Blk} {lo hi at_ k : Nat} (ha : Agree lo hi S S') (hd : at_ + k ≤ lo ∨ hi ≤ at_) : bytesS S' at_ k = bytesS S at_ k := by
  unfold bytesS
  congr 1
  apply List.map_congr_left
  intro i hi
  have := List.mem_range.1 hi
  exact ha.get _ (by omega)
theorem bytesS_length {S : List Blk} (h : ∀ b ∈ S, b.length = 128) (at_ : Nat) : ∀ k, (bytesS S at_ k).length = k * 128
  | 0 => rfl
  | k + 1 => by
    have e : bytesS S at_ (k + 1) = bytesS S at_ k ++ S.getD (at_ + k) dk.zero := by simp [bytesS, List.range_succ]
    rw [e, List.length_append, bytesS_length h at_ k, dk.getD_len h]
    omega
theorem bytesS_more (S : List Blk) (at_ k m : Nat) : bytesS S at_ (k + m) = bytesS S at_ k ++ bytesS S (at_ + k) m := by
  unfold bytesS
  rw [List.range_add, List.map_append, List.flatten_append, List.map_map]
  congr 2
  apply List.map_congr_left
  intro i _
  simp only [Function.comp]
  rw [Nat.add_assoc]
theorem bytesS_blocks {S : List Blk} {at_ : Nat} {l : List Blk} (h : ∀ i, i < l.length → S.getD (at_ + i) dk.zero = l.getD i dk.zero) : bytesS S at_ l.length = l.flatten := by
  unfold bytesS
  congr 1
  apply List.ext_getElem?
  intro i
  by_cases hi : i < l.length
  · rw [List.getElem?_map, List.getElem?_range hi, List.getElem?_eq_getElem hi]
    simp only [Option.map_some, Option.some.injEq]
    rw [h i hi, List.getD_eq_getElem?_getD, List.getElem?_eq_getElem hi]
    rfl
  · rw [List.getElem?_eq_none (by simp; omega), List.getElem?_eq_none (by omega)]
/-- A JOURNAL IN THE LIGHT, ALL OF IT SURE -/
structure Good (s : St) (c N : Nat) (h : hd.H) (was : List (List UInt8)) : Prop where
  ok : s.Ok
  light : s.black = false
  sure : s.L = []
  two : Two s.S c N h
  fits : h.blocks ≤ half s
  reads : parse h.batches (bytesS s.S (first s h.bank) h.blocks) = some (was, [])
theorem first_ge (s : St) (bank : UInt8) : 2 ≤ first s bank := by unfold first; omega
theorem first_le {s : St} (h : s.Ok) {bank : UInt8} (hb : bank.toNat ≤ 1) : first s bank + half s ≤ s.S.length := by
  have h1 := h.some
  have : bank.toNat * half s ≤ 1 * half s := Nat.mul_le_mul_right _ hb
  unfold first half at *
  omega
theorem Good.newest {s : St} {c N : Nat} {h : hd.H} {was : List (List UInt8)} (g : Good s c N h was) : newest s = (N, h, 0) := by
  have h1 := g.ok.some
  have e0 : rd s 0 = s.S.getD 0 dk.zero := rd_sure g.light g.sure (k := 0) (by omega)
  have e1 : rd s 1 = s.S.getD 1 dk.zero := rd_sure g.light g.sure (k := 1) (by omega)
  rw [jn.newest, e0, e1]
  exact g.two.newest
theorem Good.batches {s : St} {c N : Nat} {h : hd.H} {was : List (List UInt8)} (g : Good s c N h was) : batches s h = (was, true) := by
  have hm := (hd.may_ok g.two.may).1
  have h1 := first_le g.ok hm
  have h2 := g.fits
  unfold jn.batches
  rw [if_neg (by omega), bytes_sure g.light g.sure (by omega), g.reads]
  rfl
theorem Good.opens {s : St} {c N : Nat} {h : hd.H} {was : List (List UInt8)} (g : Good s c N h was) (hN : N ≤ 2305843009213693952) : opens s = 0 := by
  unfold jn.opens
  rw [g.newest]
  simp only
  rw [g.batches, if_neg (by rw [g.light]; simp), if_neg (by simp; omega)]
  rfl
/-- blocks that do not count turn -/
theorem Good.agree {s s' : St} {c N : Nat} {h : hd.H} {was : List (List UInt8)} (g : Good s c N h was) (ok : s'.Ok) (hb : s'.black = false) (hL : s'.L = []) {lo hi : Nat} (ha : Agree lo hi s.S s'.S) (h2 : 2 ≤ lo)
    (hfar : first s h.bank + h.blocks ≤ lo ∨ hi ≤ first s h.bank) : Good s' c N h was := by
  have hh : half s' = half s := by unfold half; rw [ha.len]
  have hf : first s' h.bank = first s h.bank := by unfold first; rw [hh]
  exact ⟨ok, hb, hL, g.two.agree ha h2, by rw [hh]; exact g.fits, by rw [hf, bytesS_agree ha hfar]; exact g.reads⟩
theorem Ok.writes : ∀ (l : List Blk) {s : St} (at_ : Nat), s.Ok → (∀ b ∈ l, b.length = 128) → (writes s at_ l).2.Ok
  | [], _, _, h, _ => h
  | b :: r, s, at_, h, hl => by
    have hw := dk.Ok.write (n := (at_ : Int)) h (hl b (List.mem_cons_self ..))
    simp only [jn.writes]
    split
    · exact Ok.writes r _ hw (fun x hx => hl x (List.mem_cons_of_mem _ hx))
    · exact hw
theorem Ok.layH {t : St} (h : t.Ok) (k : hd.H) : (layH t k).2.Ok := by
  have hw := dk.Ok.write (n := sl.next (rd t 0) (rd t 1)) h (hd.put_len ((jn.newest t).1 + 1) k)
  unfold jn.layH
  split
  · exact dk.Ok.flush hw
  · exact hw
theorem Ok.lay {s : St} (h : s.Ok) (at_ : Nat) {l : List Blk} (hl : ∀ b ∈ l, b.length = 128) (k : hd.H) : (lay s at_ l k).2.Ok := by
  have h1 := Ok.writes l at_ h hl
  unfold jn.lay
  split
  · split
    · exact Ok.layH (dk.Ok.flush h1) k
    · exact dk.Ok.flush h1
  · exact h1
/-- A HEAD IS LAID: it is there; or the power is cut, and of it a beginning at most is there -/
theorem layH_cases {t : St} (ok : t.Ok) (hb : t.black = false) (hL : t.L = []) {c N : Nat} {h h' : hd.H} (two : Two t.S c N h) (hn : hd.num (N + 1) = true) (hm : hd.may h' = true) :
    ((layH t h').1 = 0 ∧ (layH t h').2.black = false ∧ (layH t h').2.L = [] ∧ (layH t h').2.S = t.S.set (1 - c) (sl.sealB (N + 1) (hd.bodyOf h')) ∧ (layH t h').2.many = t.many + 2) ∨
    ((layH t h').1 = 9 ∧ (layH t h').2.black = true ∧ (layH t h').2.many ≤ t.many + 2 ∧ ∀ p, (dk.crash (layH t h').2 p).S = t.S ∨ ∃ k, (dk.crash (layH t h').2 p).S = t.S.set (1 - c) (dk.torn (t.S.getD (1 - c) dk.zero) (sl.sealB (N + 1) (hd.bodyOf h')) k)) := by
  have hc := two.c2
  have h64 := ok.some
  have e0 : rd t 0 = t.S.getD 0 dk.zero := rd_sure hb hL (k := 0) (by omega)
  have e1 : rd t 1 = t.S.getD 1 dk.zero := rd_sure hb hL (k := 1) (by omega)
  have en : jn.newest t = (N, h, 0) := by rw [jn.newest, e0, e1]; exact two.newest
  have ex : sl.next (rd t 0) (rd t 1) = ((1 - c : Nat) : Int) := by rw [e0, e1]; exact two.next
  unfold jn.layH
  rw [en, ex, hd.put_yes hn hm]
  simp only
  generalize sl.sealB (N + 1) (hd.bodyOf h') = Y
  rcases write_cases hb (n := 1 - c) (by omega) Y with ⟨w1, w2, w3, w4, w5⟩ | ⟨w1, w2, w3, w4, w5⟩
  · rw [if_pos w1]
    rw [hL, List.nil_append] at w4
    rcases flush_cases w2 with ⟨f1, f2, f3, f4, f5⟩ | ⟨f1, f2, f3, f4, f5⟩
    · refine .inl ⟨f1, f2, f4, ?_, by rw [f5, w5]; omega⟩
      rw [f3, w3, w4]
      simp only [dk.lay, Int.toNat_natCast]
    · refine .inr ⟨f1, f2, by rw [f5, w5]; omega, fun p => .inr ⟨p.headD 0, ?_⟩⟩
      simp only [dk.crash]
      rw [f3, f4, w3, w4]
      simp only [dk.tear, Int.toNat_natCast]
  · rw [if_neg (by rw [w1]; decide)]
    refine .inr ⟨w1, w2, by omega, fun p => .inl ?_⟩
    simp only [dk.crash]
    rw [w3, w4, hL]
    rfl
/-- BLOCKS AND A HEAD ARE LAID -/
theorem lay_cases {s : St} {c N : Nat} {h : hd.H} {was : List (List UInt8)} (g : Good s c N h was) {at_ : Nat} {l : List Blk} (hl : ∀ b ∈ l, b.length = 128) {h' : hd.H} (h2 : 2 ≤ at_) (hat : at_ + l.length ≤ s.S.length)
    (hfar : first s h.bank + h.blocks ≤ at_ ∨ at_ + l.length ≤ first s h.bank) (hn : hd.num (N + 1) = true) (hm : hd.may h' = true) (hfit : h'.blocks ≤ half s) {now : List (List UInt8)}
    (hnow : ∀ S1, Agree at_ (at_ + l.length) s.S S1 → (∀ i, i < l.length → S1.getD (at_ + i) dk.zero = l.getD i dk.zero) → (∀ b ∈ S1, b.length = 128) → parse h'.batches (bytesS S1 (first s h'.bank) h'.blocks) = some (now, [])) :
    ((lay s at_ l h').1 = 0 ∧ Good (lay s at_ l h').2 (1 - c) (N + 1) h' now ∧ (lay s at_ l h').2.S.length = s.S.length ∧ (lay s at_ l h').2.many = s.many + l.length + 3) ∨
    ((lay s at_ l h').1 = 9 ∧ (lay s at_ l h').2.black = true ∧ (lay s at_ l h').2.Ok ∧ (lay s at_ l h').2.S.length = s.S.length ∧ (lay s at_ l h').2.many ≤ s.many + l.length + 3 ∧
      ∀ p, Good (dk.crash (lay s at_ l h').2 p) c N h was ∨ Good (dk.crash (lay s at_ l h').2 p) (1 - c) (N + 1) h' now) := by
  have hok := Ok.lay g.ok at_ hl h'
  have hokw := Ok.writes l at_ g.ok hl
  have h64 := g.ok.some
  have hb1 := (hd.may_ok hm).1
  have hf1 := first_le g.ok hb1
  have hg1 := first_ge s h'.bank
  unfold jn.lay at hok ⊢
  rcases writes_cases l s at_ g.light hat hl with ⟨w1, w2, w3, w4, w5⟩ | ⟨w1, w2, w3, ⟨M, w4, w5, _⟩, w6⟩
  · rw [if_pos w1] at hok ⊢
    rw [g.sure, List.nil_append] at w4
    have hz := zipAt_in l at_ hl
    rcases flush_cases w2 with ⟨f1, f2, f3, f4, f5⟩ | ⟨f1, f2, f3, f4, f5⟩
    · rw [if_pos f1] at hok ⊢
      have hokf := dk.Ok.flush hokw
      rw [w3, w4] at f3
      have ha : Agree at_ (at_ + l.length) s.S (dk.flush (writes s at_ l).2).2.S := by rw [f3]; exact agree_lay _ _ hz
      have hgood1 := g.agree hokf f2 f4 ha h2 hfar
      have hput : ∀ i, i < l.length → (dk.flush (writes s at_ l).2).2.S.getD (at_ + i) dk.zero = l.getD i dk.zero := fun i hi => by rw [f3]; exact lay_zip l at_ s.S hat i hi
      have hm1 : (dk.flush (writes s at_ l).2).2.many = s.many + l.length + 1 := by rw [f5, w5]
      generalize (dk.flush (writes s at_ l).2).2 = t at *
      have hhalf : half t = half s := by unfold half; rw [ha.len]
      have hfirst : ∀ b, first t b = first s b := fun b => by unfold first; rw [hhalf]
      have hread := hnow t.S ha hput hokf.lenS
      -- a head in the other place leaves the blocks
      have hset : ∀ X (u : St), u.S = t.S.set (1 - c) X → u.Ok → u.black = false → u.L = [] → (Two u.S c N h → Good u c N h was) ∧ (Two u.S (1 - c) (N + 1) h' → Good u (1 - c) (N + 1) h' now) := fun X u hu ho hb hL => by
        have ha2 : Agree 0 2 t.S u.S := by rw [hu]; exact agree_set _ (Nat.zero_le _) (by omega) _
        have hh : half u = half s := by unfold half; rw [ha2.len, ha.len]
        have hf : ∀ b, first u b = first s b := fun b => by unfold first; rw [hh]
        refine ⟨fun two => ⟨ho, hb, hL, two, by rw [hh]; exact g.fits, ?_⟩, fun two => ⟨ho, hb, hL, two, by rw [hh]; exact hfit, ?_⟩⟩
        · rw [hf, bytesS_agree ha2 (.inr (first_ge s _)), ← hfirst]
          exact hgood1.reads
        · rw [hf, bytesS_agree ha2 (.inr hg1)]
          exact hread
      rcases layH_cases hokf f2 f4 hgood1.two hn hm with ⟨a1, a2, a3, a4, a5⟩ | ⟨a1, a2, a3, a4⟩
      · refine .inl ⟨a1, ?_, by rw [a4, List.length_set, ha.len], by rw [a5, hm1]; omega⟩
        refine (hset _ _ a4 hok a2 a3).2 ?_
        rw [a4]
        exact hgood1.two.laid (by rw [ha.len]; omega) hn hm
      · have hSl : (layH t h').2.S.length = s.S.length := by
          have h3 := a4 []
          have h4 : (dk.crash (layH t h').2 []).S.length = (layH t h').2.S.length := by simp only [dk.crash]; exact dk.tear_length _ _ _
          rcases h3 with e | ⟨k, e⟩
          · rw [← h4, e, ha.len]
          · rw [← h4, e, List.length_set, ha.len]
        refine .inr ⟨a1, a2, hok, hSl, by omega, fun p => ?_⟩
        have hokc := dk.Ok.crash hok p
        rcases a4 p with e | ⟨k, e⟩
        · refine .inl (hgood1.agree (lo := 2) (hi := 2) hokc rfl rfl ⟨by rw [e], fun k _ => by rw [e]⟩ (Nat.le_refl _) (.inr (first_ge _ _)))
        · rcases hgood1.two.begun hokf.lenS (by rw [ha.len]; omega) hn hm k with two | two
          · exact .inl ((hset _ _ e hokc rfl rfl).1 (by rw [e]; exact two))
          · exact .inr ((hset _ _ e hokc rfl rfl).2 (by rw [e]; exact two))
    · rw [if_neg (by rw [f1]; decide)] at hok ⊢
      refine .inr ⟨f1, f2, hok, by rw [f3, w3], by rw [f5, w5]; omega, fun p => .inl ?_⟩
      refine g.agree (lo := at_) (hi := at_ + l.length) (dk.Ok.crash hok p) rfl rfl ?_ h2 hfar
      simp only [dk.crash]
      rw [f3, f4, w3, w4]
      exact agree_tear _ _ p hz
  · rw [if_neg (by rw [w1]; decide)] at hok ⊢
    refine .inr ⟨w1, w2, hok, by rw [w3], by omega, fun p => .inl ?_⟩
    refine g.agree (lo := at_) (hi := at_ + l.length) (dk.Ok.crash hok p) rfl rfl ?_ h2 hfar
    simp only [dk.crash]
    rw [w3, w4, g.sure, List.nil_append]
    exact agree_tear _ _ p w5
theorem may_of {h : hd.H} (h1 : h.bank.toNat ≤ 1) (h2 : h.blocks ≤ 4096) (h3 : h.batches ≤ h.blocks) : hd.may h = true := by simp [hd.may, h1, h2, h3]
theorem count_pos (n : Nat) : 1 ≤ count (n + 4) := by unfold count; omega
theorem half_le {s : St} (h : s.Ok) : half s ≤ 2047 := by have := h.most; unfold half; omega
theorem bank_cases {x : UInt8} (h : x.toNat ≤ 1) : x = 0 ∨ x = 1 := by
  have hcs : x.toNat = 0 ∨ x.toNat = 1 := by omega
  rcases hcs with e | e
  · exact .inl (UInt8.toNat_inj.1 e)
  · exact .inr (UInt8.toNat_inj.1 e)
/-- what there is room for is behind the others, or the power is cut -/
theorem append_cases {s : St} {c N : Nat} {h : hd.H} {was : List (List UInt8)} (g : Good s c N h was) (hn : hd.num (N + 1) = true) (b : List UInt8) (hb : b.length ≤ 1048576) (hroom : h.blocks + (blocks b).length ≤ half s) :
    append s h b = lay s (first s h.bank + h.blocks) (blocks b) (appendH h b) ∧
    (((append s h b).1 = 0 ∧ Good (append s h b).2 (1 - c) (N + 1) (appendH h b) (was ++ [b]) ∧ (append s h b).2.S.length = s.S.length ∧ (append s h b).2.many = s.many + (blocks b).length + 3) ∨
    ((append s h b).1 = 9 ∧ (append s h b).2.black = true ∧ (append s h b).2.Ok ∧ (append s h b).2.S.length = s.S.length ∧ (append s h b).2.many ≤ s.many + (blocks b).length + 3 ∧
      ∀ p, Good (dk.crash (append s h b).2 p) c N h was ∨ Good (dk.crash (append s h b).2 p) (1 - c) (N + 1) (appendH h b) (was ++ [b]))) := by
  have he : append s h b = lay s (first s h.bank + h.blocks) (blocks b) (appendH h b) := by
    unfold jn.append
    rw [if_neg (by omega), if_neg (by rw [g.light]; simp), if_neg (by omega)]
  refine ⟨he, ?_⟩
  rw [he]
  have hm := hd.may_ok g.two.may
  have hf := first_le g.ok hm.1
  have hh := half_le g.ok
  have hp := count_pos b.length
  rw [← blocks_length] at hp
  refine lay_cases g (blocks_len b) (by have := first_ge s h.bank; omega) (by omega) (.inl (Nat.le_refl _)) hn ?_ hroom ?_
  · exact may_of hm.1 (show h.blocks + (blocks b).length ≤ 4096 by omega) (show h.batches + 1 ≤ h.blocks + (blocks b).length by omega)
  · intro S1 ha hput hlen
    show parse (h.batches + 1) (bytesS S1 (first s h.bank) (h.blocks + (blocks b).length)) = _
    rw [bytesS_more, bytesS_agree ha (.inl (Nat.le_refl _)), bytesS_blocks hput, blocks_flatten]
    exact parse_more g.reads (by rw [bytesS_length g.ok.lenS]; omega) b hb
theorem replace_cases {s : St} {c N : Nat} {h : hd.H} {was : List (List UInt8)} (g : Good s c N h was) (hn : hd.num (N + 1) = true) (b : List UInt8) (hb : b.length ≤ 1048576) (hroom : (blocks b).length ≤ half s) :
    replace s h b = lay s (first s (1 - h.bank)) (blocks b) (replaceH h b) ∧
    (((replace s h b).1 = 0 ∧ Good (replace s h b).2 (1 - c) (N + 1) (replaceH h b) [b] ∧ (replace s h b).2.S.length = s.S.length ∧ (replace s h b).2.many = s.many + (blocks b).length + 3) ∨
    ((replace s h b).1 = 9 ∧ (replace s h b).2.black = true ∧ (replace s h b).2.Ok ∧ (replace s h b).2.S.length = s.S.length ∧ (replace s h b).2.many ≤ s.many + (blocks b).length + 3 ∧
      ∀ p, Good (dk.crash (replace s h b).2 p) c N h was ∨ Good (dk.crash (replace s h b).2 p) (1 - c) (N + 1) (replaceH h b) [b])) := by
  have he : replace s h b = lay s (first s (1 - h.bank)) (blocks b) (replaceH h b) := by
    unfold jn.replace
    rw [if_neg (by omega), if_neg (by rw [g.light]; simp), if_neg (by omega)]
  refine ⟨he, ?_⟩
  rw [he]
  have hm := hd.may_ok g.two.may
  have hh := half_le g.ok
  have hp := count_pos b.length
  rw [← blocks_length] at hp
  have hbk : (1 - h.bank).toNat ≤ 1 ∧ (first s h.bank + half s ≤ first s (1 - h.bank) ∨ first s (1 - h.bank) + half s ≤ first s h.bank) := by
    rcases bank_cases hm.1 with e | e <;> rw [e]
    · refine ⟨by decide, .inl ?_⟩
      show 2 + 0 * half s + half s ≤ 2 + 1 * half s
      omega
    · refine ⟨by decide, .inr ?_⟩
      show 2 + 0 * half s + half s ≤ 2 + 1 * half s
      omega
  have hf := first_le g.ok hbk.1
  have hfits := g.fits
  refine lay_cases g (blocks_len b) (first_ge _ _) (by omega) (by rcases hbk.2 with e | e; exact .inl (by omega); exact .inr (by omega)) hn ?_ hroom ?_
  · exact may_of hbk.1 (show (blocks b).length ≤ 4096 by omega) (show 1 ≤ (blocks b).length by omega)
  · intro S1 ha hput hlen
    show parse 1 (bytesS S1 (first s (1 - h.bank)) (blocks b).length) = _
    rw [bytesS_blocks hput, blocks_flatten]
    exact parse_only b hb
end jn
end Go.Proofs.YtknndmhkfonfmaaDoor

/-
  contracts of cardexref04.Disk's methods that write no blocks: Blocks, Dark, Steps, Loose, asks, step, Arm, Sure, Read.
-/
namespace Go.Proofs.YtknndmhkfonfmaaDoor
open Go.RowKit

variable {w : World} {p g c : Nat} {r : List Value} {v : Value} {s : dk.St}

namespace dk
theorem M.own_len {T E P : TypeId} {w : World} {p g c : Nat} {r : List Value} {v : Value} {s : dk.St} (h : M T E P w p g c r v s) : ∃ A cap, v = .slice A s.L.length cap ∧ s.L.length ≤ cap ∧ cap ≤ 9223372036854775807 := by
  rcases h.loose.2 with ⟨rfl, h0⟩ | ⟨k, cap, _, rfl, _, _, h1, h2, _⟩
  · exact ⟨none, 0, by rw [h0], by omega, by omega⟩
  · exact ⟨_, cap, rfl, h1, by rw [maxLen_eq] at h2; exact h2⟩
theorem M.cut {T E P : TypeId} {w : World} {p g c : Nat} {r : List Value} {v : Value} {s : dk.St} (h : M T E P w p g c r v s) (n : Int) (hn : 0 ≤ n ∧ n ≤ 9223372036854775807) : M T E P (w.setCell ⟨p, 2, none⟩ (.int .i64 n)) p g c r v { s with cut := n } := by
  have hs : Same w (w.setCell ⟨p, 2, none⟩ (.int .i64 n)) (g :: v.ownBlock.toList) := fun k hk => Below.heap_setCell w _ _ k (by
    simp only [List.mem_cons, Option.mem_toList] at hk
    rcases hk with rfl | hk
    · exact fun e => h.ne1 e.symm
    · exact fun e => h.ne2 (by rw [hk, e]))
  exact ⟨(block_set h.obj _).trans rfl, (hs g (by simp)).trans h.row, h.cap, h.max, own_keep h.loose (fun k hk => hs k (by simp [hk])), ⟨h.ok.lenS, h.ok.some, h.ok.most, h.ok.lenL, h.ok.inL⟩, h.ne1, h.ne2, h.ne3, hn, h.manyR⟩
theorem M.black {T E P : TypeId} {w : World} {p g c : Nat} {r : List Value} {v : Value} {s : dk.St} (h : M T E P w p g c r v s) (n : Bool) : M T E P (w.setCell ⟨p, 3, none⟩ (.bool n)) p g c r v { s with black := n } := by
  have hs : Same w (w.setCell ⟨p, 3, none⟩ (.bool n)) (g :: v.ownBlock.toList) := fun k hk => Below.heap_setCell w _ _ k (by
    simp only [List.mem_cons, Option.mem_toList] at hk
    rcases hk with rfl | hk
    · exact fun e => h.ne1 e.symm
    · exact fun e => h.ne2 (by rw [hk, e]))
  exact ⟨(block_set h.obj _).trans rfl, (hs g (by simp)).trans h.row, h.cap, h.max, own_keep h.loose (fun k hk => hs k (by simp [hk])), ⟨h.ok.lenS, h.ok.some, h.ok.most, h.ok.lenL, h.ok.inL⟩, h.ne1, h.ne2, h.ne3, h.cutR, h.manyR⟩
theorem M.many {T E P : TypeId} {w : World} {p g c : Nat} {r : List Value} {v : Value} {s : dk.St} (h : M T E P w p g c r v s) (n : Int) (hn : 0 ≤ n ∧ n ≤ 4611686018427387904) : M T E P (w.setCell ⟨p, 4, none⟩ (.int .i64 n)) p g c r v { s with many := n } := by
  have hs : Same w (w.setCell ⟨p, 4, none⟩ (.int .i64 n)) (g :: v.ownBlock.toList) := fun k hk => Below.heap_setCell w _ _ k (by
    simp only [List.mem_cons, Option.mem_toList] at hk
    rcases hk with rfl | hk
    · exact fun e => h.ne1 e.symm
    · exact fun e => h.ne2 (by rw [hk, e]))
  exact ⟨(block_set h.obj _).trans rfl, (hs g (by simp)).trans h.row, h.cap, h.max, own_keep h.loose (fun k hk => hs k (by simp [hk])), ⟨h.ok.lenS, h.ok.some, h.ok.most, h.ok.lenL, h.ok.inL⟩, h.ne1, h.ne2, h.ne3, h.cutR, hn⟩
end dk


end Go.Proofs.YtknndmhkfonfmaaDoor

/-
  contract of cardexref04.New.
-/
namespace Go.Proofs.YtknndmhkfonfmaaDoor
open Go.RowKit
variable {w : World}

theorem cells_zero : dk.cells dk.zero = List.replicate 128 (bv 0) := by
  unfold dk.cells dk.zero
  rw [List.map_replicate]
theorem made_same (m k : Nat) (x : Value) (hm : 0 < m) : madeCells (List.replicate m x).toArray k = (List.replicate k x).toArray := by
  apply Array.ext_getElem?
  intro i
  by_cases hi : i < k
  · have hlt : i % m < m := Nat.mod_lt _ hm
    simp [madeCells, hi, hlt]
  · simp [madeCells, hi]
theorem made_blocks (n : Nat) : madeCells (dk.val dk.zero).cells (n * 128) = (dk.cellsS (List.replicate n dk.zero)).toArray := by
  have e : dk.cellsS (List.replicate n dk.zero) = List.replicate (n * 128) (bv 0) := by
    unfold dk.cellsS
    rw [List.map_replicate, cells_zero, List.flatten_replicate_replicate]
  rw [e]
  have hv : (dk.val dk.zero).cells = (List.replicate 128 (bv 0)).toArray := by rw [← cells_zero]; rfl
  rw [hv]
  exact made_same 128 _ _ (by omega)
def fresh (n : Nat) : dk.St := ⟨List.replicate n dk.zero, [], 0, false, 0⟩
theorem fresh_ok {n : Nat} (h : 64 ≤ n) (h2 : n ≤ 4096) : (fresh n).Ok :=
  ⟨fun b hb => by rw [(List.mem_replicate.1 hb).2]; exact zero_len, by simpa [fresh] using h, by simpa [fresh] using h2, fun x hx => by simp [fresh] at hx, fun x hx => by simp [fresh] at hx⟩

theorem info_blk3 : (Tryd.prog.info? 62).map (fun i => (i.zero, i.size, i.bytes)) = some (some (dk.val dk.zero), 128, 128) := by kernel_rfl
theorem info_parts4 {e : TypeId} {z : Value} {sz bt : Nat} (h : (Tryd.prog.info? e).map (fun i => (i.zero, i.size, i.bytes)) = some (some z, sz, bt)) : ∃ i, Tryd.prog.info? e = some i ∧ i.zero = some z ∧ i.size = sz ∧ i.bytes = bt := by
  cases hq : Tryd.prog.info? e with
  | none => simp [hq] at h
  | some i =>
    simp only [hq, Option.map_some, Option.some.injEq, Prod.mk.injEq] at h
    exact ⟨i, rfl, h.1, h.2.1, h.2.2⟩

end Go.Proofs.YtknndmhkfonfmaaDoor

/-
  PURE: a journal where no cut is to come: nothing fails; a journal that is made; what is refused for room.
-/
namespace Go.Proofs.YtknndmhkfonfmaaDoor
namespace jn
/-- in the light, and no cut is to come -/
structure Calm (s : St) : Prop where
  light : s.black = false
  cut : s.cut = 0
theorem step_calm {s : St} (h : Calm s) : (dk.step s).1 = 0 ∧ Calm (dk.step s).2 := by
  have e : dk.step s = (0, { s with cut := 0, many := s.many + 1 }) := by
    unfold dk.step
    rw [h.cut, if_neg (by decide), if_neg (by decide)]
  rw [e]
  exact ⟨rfl, h.light, rfl⟩
theorem write_calm {s : St} (h : Calm s) (n : Int) (b : Blk) : (dk.write s n b).1 ≠ 9 ∧ Calm (dk.write s n b).2 := by
  have hs := step_calm h
  unfold dk.write
  split
  · rw [if_pos hs.1]
    exact ⟨show (0 : Int) ≠ 9 by decide, hs.2.light, hs.2.cut⟩
  · next hq =>
    refine ⟨?_, h⟩
    unfold dk.asks at hq ⊢
    rw [if_neg (by rw [h.light]; decide)] at hq ⊢
    split
    · exact show (2 : Int) ≠ 9 by decide
    · next h2 => rw [if_neg h2] at hq; exact absurd rfl hq
theorem flush_calm {s : St} (h : Calm s) : (dk.flush s).1 ≠ 9 ∧ Calm (dk.flush s).2 := by
  have hs := step_calm h
  unfold dk.flush
  rw [if_neg (by rw [h.light]; decide), if_pos hs.1]
  exact ⟨show (0 : Int) ≠ 9 by decide, hs.2.light, hs.2.cut⟩
theorem writes_calm : ∀ (l : List Blk) {s : St} (at_ : Nat), Calm s → (writes s at_ l).1 ≠ 9 ∧ Calm (writes s at_ l).2
  | [], _, _, h => ⟨by simp [jn.writes], h⟩
  | b :: r, s, at_, h => by
    have hw := write_calm h (at_ : Int) b
    simp only [jn.writes]
    split
    · exact writes_calm r (at_ + 1) hw.2
    · exact hw
theorem layH_calm {t : St} (h : Calm t) (k : hd.H) : (layH t k).1 ≠ 9 ∧ Calm (layH t k).2 := by
  have hw := write_calm h (sl.next (rd t 0) (rd t 1)) (hd.put ((jn.newest t).1 + 1) k).1
  unfold jn.layH
  split
  · exact flush_calm hw.2
  · exact hw
theorem lay_calm {s : St} (h : Calm s) (at_ : Nat) (l : List Blk) (k : hd.H) : (lay s at_ l k).1 ≠ 9 ∧ Calm (lay s at_ l k).2 := by
  have h1 := writes_calm l at_ h
  have h2 := flush_calm h1.2
  unfold jn.lay
  split
  · split
    · exact layH_calm h2.2 k
    · exact h2
  · exact h1
/-- what there is room for is laid behind the others -/
theorem append_calm {s : St} {c N : Nat} {h : hd.H} {was : List (List UInt8)} (g : Good s c N h was) (hc : s.cut = 0) (hn : hd.num (N + 1) = true) (b : List UInt8) (hb : b.length ≤ 1048576) (hroom : h.blocks + (blocks b).length ≤ half s) :
    (append s h b).1 = 0 ∧ Good (append s h b).2 (1 - c) (N + 1) (appendH h b) (was ++ [b]) ∧ (append s h b).2.S.length = s.S.length ∧ (append s h b).2.many = s.many + (blocks b).length + 3 ∧ (append s h b).2.cut = 0 := by
  obtain ⟨e, h1 | h1⟩ := append_cases g hn b hb hroom
  · have h2 := lay_calm ⟨g.light, hc⟩ (first s h.bank + h.blocks) (blocks b) (appendH h b)
    rw [← e] at h2
    exact ⟨h1.1, h1.2.1, h1.2.2.1, h1.2.2.2, h2.2.cut⟩
  · have h2 := lay_calm ⟨g.light, hc⟩ (first s h.bank + h.blocks) (blocks b) (appendH h b)
    rw [← e] at h2
    exact absurd h1.1 h2.1
/-- what there is no room for is refused -/
theorem append_full {s : St} {c N : Nat} {h : hd.H} {was : List (List UInt8)} (g : Good s c N h was) (b : List UInt8) (hb : b.length ≤ 1048576) (hroom : half s < h.blocks + (blocks b).length) : append s h b = (10, s) := by
  unfold jn.append
  rw [if_neg (by omega), if_neg (by rw [g.light]; simp), if_pos hroom]
theorem replace_calm {s : St} {c N : Nat} {h : hd.H} {was : List (List UInt8)} (g : Good s c N h was) (hc : s.cut = 0) (hn : hd.num (N + 1) = true) (b : List UInt8) (hb : b.length ≤ 1048576) (hroom : (blocks b).length ≤ half s) :
    (replace s h b).1 = 0 ∧ Good (replace s h b).2 (1 - c) (N + 1) (replaceH h b) [b] ∧ (replace s h b).2.S.length = s.S.length ∧ (replace s h b).2.many = s.many + (blocks b).length + 3 ∧ (replace s h b).2.cut = 0 := by
  obtain ⟨e, h1 | h1⟩ := replace_cases g hn b hb hroom
  · have h2 := lay_calm ⟨g.light, hc⟩ (first s (1 - h.bank)) (blocks b) (replaceH h b)
    rw [← e] at h2
    exact ⟨h1.1, h1.2.1, h1.2.2.1, h1.2.2.2, h2.2.cut⟩
  · have h2 := lay_calm ⟨g.light, hc⟩ (first s (1 - h.bank)) (blocks b) (replaceH h b)
    rw [← e] at h2
    exact absurd h1.1 h2.1
theorem replace_full {s : St} {c N : Nat} {h : hd.H} {was : List (List UInt8)} (g : Good s c N h was) (b : List UInt8) (hb : b.length ≤ 1048576) (hroom : half s < (blocks b).length) : replace s h b = (10, s) := by
  unfold jn.replace
  rw [if_neg (by omega), if_neg (by rw [g.light]; simp), if_pos hroom]
theorem newest_zero : hd.newest dk.zero dk.zero = (0, hd.zero, 7) := hd.newest_none (by decide +kernel) (by decide +kernel)
theorem next_zero : sl.next dk.zero dk.zero = 0 := by decide +kernel
/-- a journal that is made -/
theorem make_good {s : St} (ok : s.Ok) (hL : s.L = []) (hq : Calm s) :
    (make s).1 = 0 ∧ Good (make s).2 0 1 hd.zero [] ∧ (make s).2.S.length = s.S.length ∧ (make s).2.many = s.many + 5 ∧ (make s).2.cut = 0 := by
  have h64 := ok.some
  have he : make s = lay s 0 [dk.zero, dk.zero] hd.zero := by
    unfold jn.make
    rw [if_neg (by rw [hq.light]; simp)]
  have hzz : ∀ b ∈ [dk.zero, dk.zero], b.length = 128 := fun b hb => by
    simp at hb
    rw [hb]
    exact List.length_replicate
  have hok : (make s).2.Ok := by rw [he]; exact Ok.lay ok 0 hzz hd.zero
  have hcalm := lay_calm hq 0 [dk.zero, dk.zero] hd.zero
  rw [← he] at hcalm
  have hwc := writes_calm [dk.zero, dk.zero] 0 hq
  have hw : (writes s 0 [dk.zero, dk.zero]).1 = 0 ∧ (writes s 0 [dk.zero, dk.zero]).2.black = false ∧ (writes s 0 [dk.zero, dk.zero]).2.S = s.S ∧ (writes s 0 [dk.zero, dk.zero]).2.L = [(0, dk.zero), (1, dk.zero)] ∧ (writes s 0 [dk.zero, dk.zero]).2.many = s.many + 2 := by
    rcases writes_cases [dk.zero, dk.zero] s 0 hq.light (by simp; omega) hzz with ⟨w1, w2, w3, w4, w5⟩ | ⟨w1, _⟩
    · exact ⟨w1, w2, w3, by rw [w4, hL]; rfl, by rw [w5]; rfl⟩
    · exact absurd w1 hwc.1
  have hfc := flush_calm hwc.2
  have hf : (dk.flush (writes s 0 [dk.zero, dk.zero]).2).1 = 0 ∧ (dk.flush (writes s 0 [dk.zero, dk.zero]).2).2.S = (s.S.set 0 dk.zero).set 1 dk.zero ∧ (dk.flush (writes s 0 [dk.zero, dk.zero]).2).2.L = [] ∧ (dk.flush (writes s 0 [dk.zero, dk.zero]).2).2.many = s.many + 3 := by
    rcases flush_cases hw.2.1 with ⟨f1, f2, f3, f4, f5⟩ | ⟨f1, _⟩
    · exact ⟨f1, by rw [f3, hw.2.2.1, hw.2.2.2.1]; rfl, f4, by rw [f5, hw.2.2.2.2]; omega⟩
    · exact absurd f1 hfc.1
  have hl : make s = layH (dk.flush (writes s 0 [dk.zero, dk.zero]).2).2 hd.zero := by
    rw [he]
    unfold jn.lay
    rw [if_pos hw.1, if_pos hf.1]
  obtain ⟨-, f3, f4, f5⟩ := hf
  have hcf := hfc.2
  rw [hl] at hok hcalm ⊢
  generalize (dk.flush (writes s 0 [dk.zero, dk.zero]).2).2 = t at *
  have ht64 : t.S.length = s.S.length := by rw [f3]; simp
  have g0 : t.S.getD 0 dk.zero = dk.zero := by
    rw [f3, getD_set_ne (by decide), getD_set_eq (by omega)]
  have g1 : t.S.getD 1 dk.zero = dk.zero := by
    rw [f3, getD_set_eq (by simp; omega)]
  have e0 : rd t 0 = dk.zero := (rd_sure hcf.light f4 (k := 0) (by omega)).trans g0
  have e1 : rd t 1 = dk.zero := (rd_sure hcf.light f4 (k := 1) (by omega)).trans g1
  have en : jn.newest t = (0, hd.zero, 7) := by rw [jn.newest, e0, e1]; exact newest_zero
  have ep : hd.put ((jn.newest t).1 + 1) hd.zero = (sl.sealB 1 (hd.bodyOf hd.zero), 0) := by rw [en]; exact hd.put_yes (n := 1) (by decide) (by decide)
  have ex : sl.next (rd t 0) (rd t 1) = ((0 : Nat) : Int) := by rw [e0, e1]; exact next_zero
  unfold jn.layH at hok hcalm ⊢
  rw [ep, ex] at hok hcalm ⊢
  simp only at hok hcalm ⊢
  have hwc2 := write_calm hcf ((0 : Nat) : Int) (sl.sealB 1 (hd.bodyOf hd.zero))
  rcases write_cases hcf.light (n := 0) (by omega) (sl.sealB 1 (hd.bodyOf hd.zero)) with ⟨w1, w2, w3, w4, w5⟩ | ⟨w1, _⟩
  · rw [if_pos w1] at hok hcalm ⊢
    rw [f4, List.nil_append] at w4
    have hfc2 := flush_calm hwc2.2
    rcases flush_cases w2 with ⟨a1, a2, a3, a4, a5⟩ | ⟨a1, _⟩
    · have hS : (dk.flush (dk.write t ((0 : Nat) : Int) (sl.sealB 1 (hd.bodyOf hd.zero))).2).2.S = t.S.set 0 (sl.sealB 1 (hd.bodyOf hd.zero)) := by rw [a3, w3, w4]; rfl
      refine ⟨a1, ⟨hok, a2, a4, ?_, Nat.zero_le _, rfl⟩, by rw [hS, List.length_set, ht64], by rw [a5, w5, f5]; omega, hcalm.2.cut⟩
      have h2 : (dk.flush (dk.write t ((0 : Nat) : Int) (sl.sealB 1 (hd.bodyOf hd.zero))).2).2.S.getD 1 dk.zero = dk.zero := by rw [hS, getD_set_ne (by decide), g1]
      have h0 : (dk.flush (dk.write t ((0 : Nat) : Int) (sl.sealB 1 (hd.bodyOf hd.zero))).2).2.S.getD 0 dk.zero = sl.sealB 1 (hd.bodyOf hd.zero) := by rw [hS, getD_set_eq (by omega)]
      exact ⟨by omega, by decide, by decide, h0, by show sl.Away (List.getD _ 1 dk.zero) _; rw [h2]; exact sl.away_zero (by omega), by show sl.worth (List.getD _ 1 dk.zero) < 1; rw [h2]; decide +kernel⟩
    · exact absurd a1 hfc2.1
  · exact absurd w1 hwc2.1
end jn
end Go.Proofs.YtknndmhkfonfmaaDoor

/-
  PURE: a journal goes by its newest head, whatever the other block is (spoilt disks): what is laid is the newest; Make, Append, Replace, Open. No program is named here.
-/
namespace Go.Proofs.YtknndmhkfonfmaaDoor
namespace jn
theorem newest_ge (x y : Blk) : (hd.get x).1 ≤ (hd.newest x y).1 ∧ (hd.get y).1 ≤ (hd.newest x y).1 := by
  unfold hd.newest
  split
  · rename_i h
    rw [(hd.get_err h.1).1, (hd.get_err h.2).1]
    exact ⟨Nat.le_refl _, Nat.le_refl _⟩
  · split
    · exact ⟨by show _ ≤ (hd.get y).1; omega, Nat.le_refl _⟩
    · exact ⟨Nat.le_refl _, by show _ ≤ (hd.get x).1; omega⟩
theorem newest_put {x y : Blk} {M : Nat} {h : hd.H} (hM : (hd.newest x y).1 < M) (hn : hd.num M = true) (hm : hd.may h = true) :
    hd.newest (hd.put M h).1 y = (M, h, 0) ∧ hd.newest x (hd.put M h).1 = (M, h, 0) := by
  have hg := hd.get_put (hd.may_Ok hm) hn hm
  have hx := newest_ge x y
  constructor
  · unfold hd.newest
    simp only [hg]
    rw [if_neg (by simp), if_neg (by omega)]
  · unfold hd.newest
    simp only [hg]
    rw [if_neg (by simp), if_pos (by omega)]
theorem next_two (x y : Blk) : sl.next x y = ((0 : Nat) : Int) ∨ sl.next x y = ((1 : Nat) : Int) := by
  unfold sl.next
  repeat (first | split | exact .inl rfl | exact .inr rfl)
/-- A JOURNAL IN THE LIGHT, ALL OF IT SURE, BY ITS NEWEST HEAD -/
structure Fit (s : St) (N : Nat) (h : hd.H) : Prop where
  ok : s.Ok
  light : s.black = false
  sure : s.L = []
  new : newest s = (N, h, 0)
  fits : h.blocks ≤ half s
theorem Good.fit {s : St} {c N : Nat} {h : hd.H} {was : List (List UInt8)} (g : Good s c N h was) : Fit s N h := ⟨g.ok, g.light, g.sure, g.newest, g.fits⟩
theorem Fit.may {s : St} {N : Nat} {h : hd.H} (f : Fit s N h) : hd.may h = true := by
  have hg : ∀ x : Blk, hd.may (hd.get x).2.1 = true := fun x => by
    by_cases h : (hd.get x).2.2 = 0
    · exact (hd.get_num h).2.2
    · rw [(hd.get_err h).2]; rfl
  have hall : hd.may (newest s).2.1 = true := by
    unfold jn.newest hd.newest
    split
    · rfl
    · split
      · exact hg _
      · exact hg _
  rw [f.new] at hall
  exact hall
/-- what came of a call: the disk is as large, of not many more steps -/
structure Near (s s' : St) : Prop where
  ok : s'.Ok
  len : s'.S.length = s.S.length
  many : s'.many ≤ s.many + 4200
theorem layH_new {t : St} (ok : t.Ok) (hb : t.black = false) (hL : t.L = []) {N : Nat} (hN : (newest t).1 = N) {h' : hd.H} (hn : hd.num (N + 1) = true) (hm : hd.may h' = true) :
    ((layH t h').1 = 0 ∧ (layH t h').2.black = false ∧ (layH t h').2.L = [] ∧ newest (layH t h').2 = (N + 1, h', 0) ∧ (layH t h').2.S.length = t.S.length ∧ (layH t h').2.many = t.many + 2) ∨
    ((layH t h').1 = 9 ∧ (layH t h').2.black = true ∧ (layH t h').2.S.length = t.S.length ∧ (layH t h').2.many ≤ t.many + 2) := by
  have h64 := ok.some
  have e0 : rd t 0 = t.S.getD 0 dk.zero := rd_sure hb hL (k := 0) (by omega)
  have e1 : rd t 1 = t.S.getD 1 dk.zero := rd_sure hb hL (k := 1) (by omega)
  have hx := next_two (rd t 0) (rd t 1)
  have hset : ∀ k, (k = 0 ∨ k = 1) → ∀ u : St, u.S = t.S.set k (hd.put (N + 1) h').1 → u.black = false → u.L = [] → newest u = (N + 1, h', 0) := fun k hk u hu hub huL => by
    have hl : u.S.length = t.S.length := by rw [hu, List.length_set]
    have u0 : rd u 0 = u.S.getD 0 dk.zero := rd_sure hub huL (k := 0) (by omega)
    have u1 : rd u 1 = u.S.getD 1 dk.zero := rd_sure hub huL (k := 1) (by omega)
    have hp := newest_put (x := rd t 0) (y := rd t 1) (M := N + 1) (h := h') (by rw [← hN]; exact Nat.lt_succ_self _) hn hm
    rw [e0, e1] at hp
    unfold jn.newest
    rw [u0, u1, hu]
    rcases hk with rfl | rfl
    · rw [getD_set_eq (by omega), getD_set_ne (by decide)]
      exact hp.1
    · rw [getD_set_ne (by decide), getD_set_eq (by omega)]
      exact hp.2
  unfold jn.layH
  rw [hN]
  generalize (hd.put (N + 1) h').1 = Y at *
  obtain ⟨k, hk, hkx⟩ : ∃ k : Nat, (k = 0 ∨ k = 1) ∧ sl.next (rd t 0) (rd t 1) = (k : Int) := by
    rcases hx with e | e
    · exact ⟨0, .inl rfl, e⟩
    · exact ⟨1, .inr rfl, e⟩
  rw [hkx]
  rcases write_cases hb (n := k) (by omega) Y with ⟨w1, w2, w3, w4, w5⟩ | ⟨w1, w2, w3, w4, w5⟩
  · rw [if_pos w1]
    rw [hL, List.nil_append] at w4
    rcases flush_cases w2 with ⟨f1, f2, f3, f4, f5⟩ | ⟨f1, f2, f3, f4, f5⟩
    · have hS : (dk.flush (dk.write t (k : Int) Y).2).2.S = t.S.set k Y := by
        rw [f3, w3, w4]
        simp only [dk.lay, Int.toNat_natCast]
      exact .inl ⟨f1, f2, f4, hset k hk _ hS f2 f4, by rw [hS, List.length_set], by omega⟩
    · exact .inr ⟨f1, f2, by rw [f3, w3], by rw [f5, w5]; omega⟩
  · rw [if_neg (by rw [w1]; decide)]
    exact .inr ⟨w1, w2, by rw [w3], by omega⟩
theorem lay_new {s : St} (ok : s.Ok) (hb : s.black = false) (hL : s.L = []) {at_ : Nat} {l : List Blk} (hl : ∀ b ∈ l, b.length = 128) (hat : at_ + l.length ≤ s.S.length) {N : Nat}
    (hN : (hd.newest ((dk.lay s.S (zipAt at_ l)).getD 0 dk.zero) ((dk.lay s.S (zipAt at_ l)).getD 1 dk.zero)).1 = N) {h' : hd.H} (hn : hd.num (N + 1) = true) (hm : hd.may h' = true) (hfit : h'.blocks ≤ half s) :
    (lay s at_ l h').2.Ok ∧ (lay s at_ l h').2.S.length = s.S.length ∧ (lay s at_ l h').2.many ≤ s.many + l.length + 3 ∧
    (((lay s at_ l h').1 = 0 ∧ Fit (lay s at_ l h').2 (N + 1) h') ∨ ((lay s at_ l h').1 = 9 ∧ (lay s at_ l h').2.black = true)) := by
  have hok := Ok.lay ok at_ hl h'
  have hokw := Ok.writes l at_ ok hl
  have h64 := ok.some
  refine ⟨hok, ?_⟩
  unfold jn.lay at hok ⊢
  rcases writes_cases l s at_ hb hat hl with ⟨w1, w2, w3, w4, w5⟩ | ⟨w1, w2, w3, ⟨M, w4, w5, _⟩, w6⟩
  · rw [if_pos w1] at hok ⊢
    rw [hL, List.nil_append] at w4
    rcases flush_cases w2 with ⟨f1, f2, f3, f4, f5⟩ | ⟨f1, f2, f3, f4, f5⟩
    · rw [if_pos f1] at hok ⊢
      have hokf := dk.Ok.flush hokw
      rw [w3, w4] at f3
      have hlen : (dk.flush (writes s at_ l).2).2.S.length = s.S.length := by rw [f3]; exact (agree_lay _ _ (zipAt_in l at_ hl)).len
      rw [w5] at f5
      generalize (dk.flush (writes s at_ l).2).2 = t at *
      have e0 : rd t 0 = t.S.getD 0 dk.zero := rd_sure f2 f4 (k := 0) (by omega)
      have e1 : rd t 1 = t.S.getD 1 dk.zero := rd_sure f2 f4 (k := 1) (by omega)
      have hNt : (newest t).1 = N := by
        unfold jn.newest
        rw [e0, e1, f3]
        exact hN
      rcases layH_new hokf f2 f4 hNt hn hm with ⟨a1, a2, a3, a4, a5, a6⟩ | ⟨a1, a2, a3, a4⟩
      · refine ⟨by omega, by omega, .inl ⟨a1, hok, a2, a3, a4, ?_⟩⟩
        unfold half
        rw [a5, hlen]
        exact hfit
      · exact ⟨by omega, by omega, .inr ⟨a1, a2⟩⟩
    · rw [if_neg (by rw [f1]; decide)] at hok ⊢
      exact ⟨by rw [f3, w3], by rw [f5, w5]; omega, .inr ⟨f1, f2⟩⟩
  · rw [if_neg (by rw [w1]; decide)] at hok ⊢
    exact ⟨by rw [w3], by omega, .inr ⟨w1, w2⟩⟩
/-- what is laid behind the heads leaves them -/
theorem Fit.behind {s : St} {N : Nat} {h : hd.H} (f : Fit s N h) {at_ : Nat} {l : List Blk} (hl : ∀ b ∈ l, b.length = 128) (h2 : 2 ≤ at_) :
    (hd.newest ((dk.lay s.S (zipAt at_ l)).getD 0 dk.zero) ((dk.lay s.S (zipAt at_ l)).getD 1 dk.zero)).1 = N := by
  have ha := agree_lay _ s.S (zipAt_in l at_ hl)
  rw [ha.get 0 (.inl (by omega)), ha.get 1 (.inl (by omega))]
  have h64 := f.ok.some
  have e0 : rd s 0 = s.S.getD 0 dk.zero := rd_sure f.light f.sure (k := 0) (by omega)
  have e1 : rd s 1 = s.S.getD 1 dk.zero := rd_sure f.light f.sure (k := 1) (by omega)
  have hn := f.new
  unfold jn.newest at hn
  rw [e0, e1] at hn
  rw [hn]
theorem first_most {s : St} (h : s.Ok) {bank : UInt8} (hb : bank.toNat ≤ 1) : 2 ≤ first s bank ∧ first s bank + half s ≤ s.S.length := ⟨first_ge s bank, first_le h hb⟩
/-- WHAT APPEND COMES TO -/
theorem append_fit {s : St} {N : Nat} {h : hd.H} (f : Fit s N h) (hn : hd.num (N + 1) = true) (b : List UInt8) :
    Near s (append s h b).2 ∧ (((append s h b).2 = s ∧ ((append s h b).1 = 3 ∨ (append s h b).1 = 10)) ∨ ((append s h b).1 = 0 ∧ Fit (append s h b).2 (N + 1) (appendH h b)) ∨ ((append s h b).1 = 9 ∧ (append s h b).2.black = true)) := by
  have hhalf := half_le f.ok
  have hm := hd.may_ok f.may
  have hp := count_pos b.length
  rw [← blocks_length] at hp
  unfold jn.append
  split
  · exact ⟨⟨f.ok, rfl, show s.many ≤ s.many + 4200 by omega⟩, .inl ⟨rfl, .inl rfl⟩⟩
  · rw [if_neg (by rw [f.light]; simp)]
    split
    · exact ⟨⟨f.ok, rfl, show s.many ≤ s.many + 4200 by omega⟩, .inl ⟨rfl, .inr rfl⟩⟩
    · rename_i hroom
      obtain ⟨g1, g2⟩ := first_most f.ok hm.1
      have hr := lay_new f.ok f.light f.sure (at_ := first s h.bank + h.blocks) (l := blocks b) (blocks_len b) (by omega) (f.behind (blocks_len b) (by omega)) hn
        (may_of (h := appendH h b) hm.1 (show h.blocks + (blocks b).length ≤ 4096 by omega) (show h.batches + 1 ≤ h.blocks + (blocks b).length by omega)) (show h.blocks + (blocks b).length ≤ half s by omega)
      obtain ⟨r1, r2, r3, r4⟩ := hr
      refine ⟨⟨r1, r2, by omega⟩, .inr ?_⟩
      exact r4
/-- WHAT REPLACE COMES TO -/
theorem replace_fit {s : St} {N : Nat} {h : hd.H} (f : Fit s N h) (hn : hd.num (N + 1) = true) (b : List UInt8) :
    Near s (replace s h b).2 ∧ (((replace s h b).2 = s ∧ ((replace s h b).1 = 3 ∨ (replace s h b).1 = 10)) ∨ ((replace s h b).1 = 0 ∧ Fit (replace s h b).2 (N + 1) (replaceH h b)) ∨ ((replace s h b).1 = 9 ∧ (replace s h b).2.black = true)) := by
  have hhalf := half_le f.ok
  have hm := hd.may_ok f.may
  have hp := count_pos b.length
  rw [← blocks_length] at hp
  have hbk : (1 - h.bank).toNat ≤ 1 := by rcases bank_cases hm.1 with e | e <;> rw [e] <;> decide
  unfold jn.replace
  split
  · exact ⟨⟨f.ok, rfl, show s.many ≤ s.many + 4200 by omega⟩, .inl ⟨rfl, .inl rfl⟩⟩
  · rw [if_neg (by rw [f.light]; simp)]
    split
    · exact ⟨⟨f.ok, rfl, show s.many ≤ s.many + 4200 by omega⟩, .inl ⟨rfl, .inr rfl⟩⟩
    · rename_i hroom
      obtain ⟨g1, g2⟩ := first_most f.ok hbk
      have hr := lay_new f.ok f.light f.sure (at_ := first s (1 - h.bank)) (l := blocks b) (blocks_len b) (by omega) (f.behind (blocks_len b) (by omega)) hn
        (may_of (h := replaceH h b) hbk (show (blocks b).length ≤ 4096 by omega) (show 1 ≤ (blocks b).length by omega)) (show (blocks b).length ≤ half s by omega)
      obtain ⟨r1, r2, r3, r4⟩ := hr
      exact ⟨⟨r1, r2, by omega⟩, .inr r4⟩
/-- WHAT MAKE COMES TO -/
theorem make_fit {s : St} (ok : s.Ok) (hL : s.L = []) (hb : s.black = false) :
    Near s (make s).2 ∧ (((make s).1 = 0 ∧ Fit (make s).2 1 hd.zero) ∨ ((make s).1 = 9 ∧ (make s).2.black = true)) := by
  have h64 := ok.some
  have hzz : ∀ b ∈ [dk.zero, dk.zero], b.length = 128 := fun b hb => by
    simp at hb
    rw [hb]
    exact List.length_replicate
  have he : make s = lay s 0 [dk.zero, dk.zero] hd.zero := by
    unfold jn.make
    rw [if_neg (by rw [hb]; simp)]
  rw [he]
  obtain ⟨r1, r2, r3, r4⟩ := lay_new ok hb hL (at_ := 0) (l := [dk.zero, dk.zero]) hzz (by simp; omega) (N := 0) (by
    have g0 : (dk.lay s.S (zipAt 0 [dk.zero, dk.zero])).getD 0 dk.zero = dk.zero := lay_zip [dk.zero, dk.zero] 0 s.S (by simp; omega) 0 (by simp)
    have g1 : (dk.lay s.S (zipAt 0 [dk.zero, dk.zero])).getD 1 dk.zero = dk.zero := lay_zip [dk.zero, dk.zero] 0 s.S (by simp; omega) 1 (by simp)
    rw [g0, g1, newest_zero]) (h' := hd.zero) (by decide) (by decide) (Nat.zero_le _)
  exact ⟨⟨r1, r2, by simp at r3; omega⟩, r4⟩
/-- what is opened goes by its newest head -/
theorem opens_fit {s : St} (ok : s.Ok) (hL : s.L = []) (h : opens s = 0) : ∃ N k, Fit s N k ∧ N ≤ 2305843009213693952 := by
  unfold jn.opens at h
  split at h
  · cases h
  · rename_i hb
    split at h
    · cases h
    · rename_i hc
      split at h
      · rename_i hbt
        have hfits : (newest s).2.1.blocks ≤ half s := by
          unfold jn.batches at hbt
          split at hbt
          · cases hbt
          · omega
        have he : (newest s).2.2 = 0 ∧ (newest s).1 ≤ 2305843009213693952 := by omega
        exact ⟨(newest s).1, (newest s).2.1, ⟨ok, by simpa using hb, hL, by rw [← he.1], hfits⟩, he.2⟩
      · cases h
theorem opens_light {s : St} (h : opens s = 0) : s.black = false := by
  unfold jn.opens at h
  split at h
  · cases h
  · rename_i hb
    simpa using hb
theorem write_few (s : St) (n : Int) (b : Blk) : (dk.write s n b).2.many ≤ s.many + 1 ∧ (dk.write s n b).2.L.length ≤ s.L.length + 1 := by
  have hs : (dk.step s).2.many ≤ s.many + 1 ∧ (dk.step s).2.L = s.L := by
    unfold dk.step
    split
    · exact ⟨by show s.many ≤ _; omega, rfl⟩
    · exact ⟨Int.le_refl _, rfl⟩
  unfold dk.write
  split
  · split
    · exact ⟨hs.1, by simp⟩
    · exact ⟨hs.1, by show (dk.step s).2.L.length ≤ _; rw [hs.2]; omega⟩
  · exact ⟨by show s.many ≤ _; omega, by show s.L.length ≤ _; omega⟩
theorem flush_few (s : St) : (dk.flush s).2.many ≤ s.many + 1 ∧ (dk.flush s).2.L.length ≤ s.L.length := by
  have hs : (dk.step s).2.many ≤ s.many + 1 ∧ (dk.step s).2.L = s.L := by
    unfold dk.step
    split
    · exact ⟨by show s.many ≤ _; omega, rfl⟩
    · exact ⟨Int.le_refl _, rfl⟩
  unfold dk.flush
  split
  · exact ⟨by show s.many ≤ _; omega, Nat.le_refl _⟩
  · split
    · exact ⟨hs.1, by simp⟩
    · exact ⟨hs.1, by show (dk.step s).2.L.length ≤ _; rw [hs.2]; omega⟩
theorem writes_snoc : ∀ (l : List Blk) (s : St) (at_ : Nat) (b : Blk), (writes s at_ l).1 = 0 → writes s at_ (l ++ [b]) = dk.write (writes s at_ l).2 ((at_ + l.length : Nat) : Int) b
  | [], s, at_, b, _ => by
    simp only [List.nil_append, jn.writes, List.length_nil, Nat.add_zero]
    split
    · rename_i h
      rw [← h]
    · rfl
  | x :: r, s, at_, b, h => by
    simp only [List.cons_append, jn.writes] at h ⊢
    split
    · rename_i h0
      rw [if_pos h0] at h
      rw [writes_snoc r _ _ b h, show at_ + 1 + r.length = at_ + (x :: r).length from by simp only [List.length_cons]; omega]
    · rename_i h0
      rw [if_neg h0] at h
      exact absurd h h0
theorem writes_stop : ∀ (l : List Blk) (r : List Blk) (s : St) (at_ : Nat), ¬ (writes s at_ l).1 = 0 → writes s at_ (l ++ r) = writes s at_ l
  | [], r, s, at_, h => absurd rfl h
  | x :: l, r, s, at_, h => by
    simp only [List.cons_append, jn.writes] at h ⊢
    split
    · rename_i h0
      rw [if_pos h0] at h
      exact writes_stop l r _ _ h
    · rfl
theorem writes_few : ∀ (l : List Blk) (s : St) (at_ : Nat), (writes s at_ l).2.many ≤ s.many + l.length ∧ (writes s at_ l).2.L.length ≤ s.L.length + l.length
  | [], s, _ => by simp [jn.writes]
  | x :: r, s, at_ => by
    have h1 := write_few s at_ x
    simp only [jn.writes, List.length_cons]
    split
    · have h2 := writes_few r (dk.write s at_ x).2 (at_ + 1)
      omega
    · omega
end jn
end Go.Proofs.YtknndmhkfonfmaaDoor

/-
  contracts of cardexref04.Disk's methods that write blocks: Write, Flush, Rot, Torn, Crash; New.
-/
namespace Go.Proofs.YtknndmhkfonfmaaDoor
open Go.RowKit
variable {w : World} {p g c : Nat} {r : List Value} {v : Value} {s : dk.St}



theorem info_parts3 {e : TypeId} {z : Value} {sz bt : Nat} (h : (Tryd.prog.info? e).map (fun i => (i.zero, i.size, i.bytes)) = some (some z, sz, bt)) : ∃ i, Tryd.prog.info? e = some i ∧ i.zero = some z ∧ i.size = sz ∧ i.bytes = bt := by
  cases hq : Tryd.prog.info? e with
  | none => simp [hq] at h
  | some i =>
    simp only [hq, Option.map_some, Option.some.injEq, Prod.mk.injEq] at h
    exact ⟨i, rfl, h.1, h.2.1, h.2.2⟩


end Go.Proofs.YtknndmhkfonfmaaDoor

/-
  contract of cardexref04.Torn: the first bytes of a new block, the others of an old one.
-/
namespace Go.Proofs.YtknndmhkfonfmaaDoor
open Go.RowKit
variable {w : World}

theorem torn_step (old now : dk.Blk) (ho : old.length = 128) (hn : now.length = 128) (j : Nat) (hj : j < 128) (x : UInt8) (hx : now[j]? = some x) : (dk.torn old now (j : Int)).set j x = dk.torn old now ((j + 1 : Nat) : Int) := by
  unfold dk.torn
  rw [Int.toNat_natCast, Int.toNat_natCast, List.set_append_right _ _ (by simp; omega), show j - (List.take j now).length = 0 from by simp; omega, List.drop_eq_getElem_cons (by omega), List.set_cons_zero, List.take_succ_eq_append_getElem (by omega)]
  have : now[j]'(by omega) = x := by
    rw [List.getElem?_eq_getElem (by omega)] at hx
    exact Option.some.inj hx
  rw [this]
  simp

end Go.Proofs.YtknndmhkfonfmaaDoor

/-
  contracts of cardexref04.Disk's methods that write blocks: Flush, Rot, Torn, Crash; New.
-/
namespace Go.Proofs.YtknndmhkfonfmaaDoor
open Go.RowKit
variable {w : World} {p g c : Nat} {r : List Value} {v : Value} {s : dk.St}


end Go.Proofs.YtknndmhkfonfmaaDoor

/-
  contract of cardexref04.Disk's Crash.
-/
namespace Go.Proofs.YtknndmhkfonfmaaDoor
open Go.RowKit
variable {w : World} {p g c : Nat} {r : List Value} {v : Value} {s : dk.St}

end Go.Proofs.YtknndmhkfonfmaaDoor

/-
  THE DOCUMENT's DISK AS A LAW SEES IT: a pointer, its blocks of memory (F), what it is (s).
-/
namespace Go.Proofs.YtknndmhkfonfmaaDoor
open Go.RowKit
variable {w w' : World} {F : List Nat} {d : Value} {s : dk.St}

/-- few steps, few writes that are not sure -/
def dk.St.Few (s : dk.St) : Prop := s.many < 1048576 ∧ s.L.length < 1048576
end Go.Proofs.YtknndmhkfonfmaaDoor

/-
  contracts of the program's own disk, over any disk in memory: none, has, lit, usable, step, Blocks, Dark, Steps, Loose, Arm, Sure, Rot, New.
-/
namespace Go.Proofs.YtknndmhkfonfmaaDoor
open Go.RowKit

/-- the program's disk -/
abbrev PM := dk.M 48 62 64
variable {w : World} {p g c : Nat} {r : List Value} {v : Value} {s : dk.St}

/-- what is asked ahead of a block, dark or not -/
def dk.has (s : dk.St) (n : Int) : Int := if n < 0 ∨ (s.S.length : Int) ≤ n then 2 else 0
def dk.lit (s : dk.St) : Int := if s.black then 9 else 0

theorem pblocks_any (h : PM w p g c r v s) : Calls Tryd.prog 44 #[.pointer (some ⟨p, 0, none⟩)] w fun e w' => e = .returned (.int .i64 s.S.length) ∧ w = w' := by
  have c0 := h.c0
  go_enter Tryd.func44, Tryd.ntmps44
  go_wp2
  go_ret
  exact ⟨rfl, rfl⟩
theorem pdark_any (h : PM w p g c r v s) : Calls Tryd.prog 12 #[.pointer (some ⟨p, 0, none⟩)] w fun e w' => e = .returned (.bool s.black) ∧ w = w' := by
  have c3 := h.c3
  go_enter Tryd.func12, Tryd.ntmps12
  go_wp2
  go_ret
  exact ⟨rfl, rfl⟩
theorem pnone_any (h : PM w p g c r v s) : Calls Tryd.prog 26 #[.pointer (some ⟨p, 0, none⟩)] w fun e w' => e = .returned (.bool false) ∧ w = w' := by
  have c0 := h.c0
  have hm := h.ok.some
  have hm2 := h.ok.most
  have hne : ((s.S.length : Int) == 0) = false := by rw [beq_eq_false_iff_ne]; omega
  go_enter Tryd.func26, Tryd.ntmps26
  go_wp2
  go_ret
  exact ⟨rfl, rfl⟩
theorem phas_any (n : Int) (h : PM w p g c r v s) : Calls Tryd.prog 69 #[.pointer (some ⟨p, 0, none⟩), .int .i64 n] w fun e w' => e = .returned (.int .i64 (dk.has s n)) ∧ w = w' := by
  have c0 := h.c0
  have hm := h.ok.most
  have HN := Lib.hid (pnone_any h)
  have hcs : n < 0 ∨ (¬ n < 0 ∧ (s.S.length : Int) ≤ n) ∨ (¬ n < 0 ∧ ¬ (s.S.length : Int) ≤ n) := by omega
  rcases hcs with h0 | ⟨h0, h1⟩ | ⟨h0, h1⟩
  all_goals
    go_enter Tryd.func69, Tryd.ntmps69
    go_wp2_with fail
    refine HN.out.mono ?_
    rintro e w1 ⟨rfl, rfl⟩
    go_wp2_with fail
    go_ret
    exact ⟨ret_int (by simp [dk.has, *]), rfl⟩
theorem plit_any (h : PM w p g c r v s) : Calls Tryd.prog 23 #[.pointer (some ⟨p, 0, none⟩)] w fun e w' => e = .returned (.int .i64 (dk.lit s)) ∧ w = w' := by
  have c3 := h.c3
  have HN := Lib.hid (pnone_any h)
  cases hb : s.black
  all_goals
    rw [hb] at c3
    go_enter Tryd.func23, Tryd.ntmps23
    go_wp2_with fail
    refine HN.out.mono ?_
    rintro e w1 ⟨rfl, rfl⟩
    go_wp2_with fail
    go_ret
    exact ⟨ret_int (by simp [dk.lit, hb]), rfl⟩
theorem pusable_any (n : Int) (h : PM w p g c r v s) : Calls Tryd.prog 54 #[.pointer (some ⟨p, 0, none⟩), .int .i64 n] w fun e w' => e = .returned (.int .i64 (dk.asks s n)) ∧ w = w' := by
  have HL := Lib.hid (plit_any h)
  have HH := Lib.hid (phas_any n h)
  cases hb : s.black with
  | true =>
    have hl : dk.lit s = 9 := by simp [dk.lit, hb]
    rw [hl] at HL
    clear hl
    go_enter Tryd.func54, Tryd.ntmps54
    go_wp2_with fail
    refine HL.out.mono ?_
    rintro e w1 ⟨rfl, rfl⟩
    go_wp2_with fail
    go_ret
    exact ⟨ret_int (by simp [dk.asks, hb]), rfl⟩
  | false =>
    have hl : dk.lit s = 0 := by simp [dk.lit, hb]
    have ha : dk.has s n = dk.asks s n := by simp [dk.has, dk.asks, hb]
    rw [hl] at HL
    rw [ha] at HH
    clear hl ha
    go_enter Tryd.func54, Tryd.ntmps54
    go_wp2_with fail
    refine HL.out.mono ?_
    rintro e w1 ⟨rfl, rfl⟩
    go_wp2_with fail
    refine HH.out.mono ?_
    rintro e w1 ⟨rfl, rfl⟩
    go_wp2_with fail
    go_ret
    exact ⟨rfl, rfl⟩
theorem pstep_any (h : PM w p g c r v s) (hm : s.many < 4611686018427387904) : Calls Tryd.prog 55 #[.pointer (some ⟨p, 0, none⟩)] w fun e w' => e = .returned (.int .i64 (dk.step s).1) ∧ PM w' p g c r v (dk.step s).2 ∧ Chg w w' [p] := by
  have c2 := h.c2
  have f2 := h.fz 2
  have f3 := h.fz 3
  have f4 := h.fz 4
  have c3 := h.c3
  have c4 := h.c4
  obtain ⟨h0, h1⟩ := h.cutR
  obtain ⟨m0, m1⟩ := h.manyR
  by_cases hc : s.cut = 1
  · have hr : dk.step s = (9, { s with black := true }) := if_pos hc
    have hn := h.black true
    rw [hc] at c2
    rw [hr]
    clear hr hc
    go_enter Tryd.func55, Tryd.ntmps55
    go_wp2
    go_ret
    exact ⟨rfl, hn, Chg.setCell _ _ _ _⟩
  · by_cases hc2 : 1 < s.cut
    · have hr : dk.step s = (0, { s with cut := s.cut - 1, many := s.many + 1 }) := by rw [dk.step, if_neg hc, if_pos hc2]
      have hn1 := h.cut (s.cut - 1) (by omega)
      have hn := hn1.many (s.many + 1) (by omega)
      have d4 := hn1.c4
      have e4 := hn1.fz 4
      simp only at d4
      rw [hr]
      have hb : (s.cut == 1) = false := by simpa using hc
      have hb0 : (s.cut == 0) = false := by simp; omega
      clear hr hc
      go_enter Tryd.func55, Tryd.ntmps55
      go_wp2
      go_ret
      exact ⟨rfl, hn, (Chg.setCell _ _ _ _).trans (Chg.setCell _ _ _ _) (Sub.refl _ _)⟩
    · have hr : dk.step s = (0, { s with many := s.many + 1 }) := by rw [dk.step, if_neg hc, if_neg hc2]
      have hn := h.many (s.many + 1) (by omega)
      have hz : s.cut = 0 := by omega
      rw [hr]
      rw [hz] at c2
      clear hr hc hc2
      go_enter Tryd.func55, Tryd.ntmps55
      go_wp2
      go_ret
      exact ⟨rfl, hn, Chg.setCell _ _ _ _⟩
theorem parm_any (n : Int) (hn : n ≤ 9223372036854775807) (h : PM w p g c r v s) : Calls Tryd.prog 8 #[.pointer (some ⟨p, 0, none⟩), .int .i64 n] w fun e w' => e = .returned (.int .i64 (dk.arm s n).1) ∧ PM w' p g c r v (dk.arm s n).2 ∧ Chg w w' [p] := by
  have c2 := h.c2
  have f2 := h.fz 2
  have HL := Lib.hid (plit_any h)
  cases hb : s.black with
  | true =>
    have hr : dk.arm s n = (9, s) := by simp [dk.arm, hb]
    have hl : dk.lit s = 9 := by simp [dk.lit, hb]
    rw [hl] at HL
    rw [hr]
    clear hr hl
    go_enter Tryd.func8, Tryd.ntmps8
    go_wp2_with fail
    refine HL.out.mono ?_
    rintro e w1 ⟨rfl, rfl⟩
    go_wp2_with fail
    go_ret
    exact ⟨rfl, h, Chg.refl _ _⟩
  | false =>
    have hl : dk.lit s = 0 := by simp [dk.lit, hb]
    rw [hl] at HL
    clear hl
    by_cases h0 : n < 0
    · have hr : dk.arm s n = (2, s) := by simp [dk.arm, hb, h0]
      rw [hr]
      clear hr
      go_enter Tryd.func8, Tryd.ntmps8
      go_wp2_with fail
      refine HL.out.mono ?_
      rintro e w1 ⟨rfl, rfl⟩
      go_wp2_with fail
      go_ret
      exact ⟨rfl, h, Chg.refl _ _⟩
    · have hr : dk.arm s n = (0, { s with cut := n }) := by unfold dk.arm; rw [if_neg (by simp [hb]), if_neg h0]
      have hN := h.cut n (by omega)
      rw [hr]
      clear hb
      clear hr
      go_enter Tryd.func8, Tryd.ntmps8
      go_wp2_with fail
      refine HL.out.mono ?_
      rintro e w1 ⟨rfl, rfl⟩
      go_wp2_with fail
      go_ret
      exact ⟨rfl, hN, Chg.setCell _ _ _ _⟩
set_option maxRecDepth 100000 in
theorem pnew_yes (n : Nat) (h : 64 ≤ n) (h2 : n ≤ 4096) : Calls Tryd.prog 6 #[.int .i64 n] w fun e w' => ∃ p g, e = .returned (.tuple #[.pointer (some ⟨p, 0, none⟩), .int .i64 0]) ∧
    PM w' p g n [] (.slice none 0 0) (fresh n) ∧ Chg w w' [] ∧ w.heap.size ≤ p ∧ w.heap.size ≤ g := by
  obtain ⟨i0, hi0, hz0, hs0, hb0⟩ := info_parts4 info_blk3
  have hmk := fun W => run_make (P := Tryd.prog) W 45 62 i0 _ Tryd.underlying45 hi0 hz0 .i64 .i64 (n : Int) (n : Int) (by omega) (by omega) (by rw [hb0]; omega) (by omega)
  rw [hs0, Int.toNat_natCast] at hmk
  simp only [made_blocks] at hmk
  obtain ⟨C, hC⟩ : ∃ C, (dk.cellsS (List.replicate n dk.zero)).toArray = C := ⟨_, rfl⟩
  rw [hC] at hmk
  have HC := Lib.hid hC
  clear hC
  go_enter Tryd.func6, Tryd.ntmps6
  go_wp2_with fail
  go_ret2
  have e0 := heap_alloc_new w (.cells C 62)
  have e1 := heap_alloc_new (w.alloc (.cells C 62)) (.cells #[.slice (some ⟨w.heap.size, 0, none⟩) n n, .slice none 0 0, .int .i64 0, .bool false, .int .i64 0] 48)
  rw [show (w.alloc (.cells C 62)).heap.size = w.heap.size + 1 from by simp] at e1
  refine ⟨w.heap.size + 1, w.heap.size, rfl, ⟨?_, ?_, ?_, by omega, World.ownsRow_nil _ _ _ _, fresh_ok h h2, by omega, by simp [Value.ownBlock], by simp [Value.ownBlock], by simp [fresh], by simp [fresh]⟩, (Chg.alloc w _ []).trans (Chg.alloc _ _ []) (Sub.refl _ _), by omega, Nat.le_refl _⟩
  · rw [e1]
    simp [fresh]
  · rw [Below.heap_alloc _ _ _ (by simp), e0, ← HC.out]
    simp [fresh]
  · simp [fresh]
theorem pnew_no (n : Int) (h : n < 64 ∨ 4096 < n) : Calls Tryd.prog 6 #[.int .i64 n] w fun e w' => e = .returned (.tuple #[.pointer none, .int .i64 2]) ∧ w = w' := by
  have hcs : n < 64 ∨ (¬ n < 64 ∧ 4096 < n) := by omega
  rcases hcs with h0 | ⟨h0, h1⟩
  all_goals
    go_enter Tryd.func6, Tryd.ntmps6
    go_wp2_with fail
    go_ret2
    exact ⟨rfl, rfl⟩
end Go.Proofs.YtknndmhkfonfmaaDoor

/-
  contract of the program's Read: what was written last is found from behind.
-/
namespace Go.Proofs.YtknndmhkfonfmaaDoor
open Go.RowKit
variable {w : World} {p g c : Nat} {r : List Value} {v : Value} {s : dk.St}

set_option maxHeartbeats 4000000 in
set_option maxRecDepth 100000 in
theorem pread_any (n : Int) (h : PM w p g c r v s) : Calls Tryd.prog 42 #[.pointer (some ⟨p, 0, none⟩), .int .i64 n] w fun e w' => e = .returned (.tuple #[dk.val (dk.read s n).1, .int .i64 (dk.read s n).2]) ∧ Below w.heap.size w w' := by
  have h1 := h.alloc (.cells (dk.cells dk.zero).toArray 62)
  obtain ⟨hz, -⟩ := zero_of_info zero_blk
  have hrow := heap_alloc_new w (.cells (dk.cells dk.zero).toArray 62)
  have hb1 : Below w.heap.size w (w.alloc (.cells (dk.cells dk.zero).toArray 62)) := (Below.refl _ _).alloc (Nat.le_refl _) _
  have ha := pusable_any n h1
  obtain ⟨q, hq⟩ : ∃ q, dk.asks s n = q := ⟨_, rfl⟩
  rw [hq] at ha
  have HA := Lib.hid ha
  by_cases h0 : q = 0
  · subst h0
    obtain ⟨hbl, hn0, hn1⟩ := dk.asks_in hq
    obtain ⟨i, rfl⟩ : ∃ i : Nat, n = i := ⟨n.toNat, by omega⟩
    have hi : i < s.S.length := by omega
    have hm := h.ok.most
    have hb0 := h.ok.lenS _ (List.getElem_mem hi)
    have hread : dk.read s i = (dk.look s.S[i] i s.L, 0) := by
      rw [dk.read, if_pos hq, Int.toNat_natCast, List.getD_eq_getElem?_getD, List.getElem?_eq_getElem hi]
      rfl
    have HR := Lib.hid hread
    have HB := Lib.hid (fun (W : World) (hW : PM W p g c r v s) => hW.block hi)
    generalize s.S[i] = b0 at *
    have HLn := Lib.hid (fun j (hj : j < s.L.length) => h.ok.lenL _ (List.getElem_mem hj))
    obtain ⟨A0, cap0, hv0, hcap0, hmax0⟩ := h1.own_len
    have d1 := h1.c1
    rw [hv0] at d1
    clear ha hq hbl hread hn0 hn1
    go_enter Tryd.func42, Tryd.ntmps42
    go_wp2_with fail
    refine HA.out.mono ?_
    rintro e w1 ⟨rfl, rfl⟩
    go_wp2_with fail
    clear d1
    go_loopw [7] (fun t wr => ∃ j : Nat, j ≤ s.L.length ∧ t = .int .i64 ((j : Int) - 1) ∧ dk.look b0 i (s.L.take j) = dk.look b0 i s.L ∧ wr.heap[w.heap.size]? = some (.cells (dk.cells dk.zero).toArray 62 (0, 0)) ∧ Below w.heap.size w wr) (fun t _ => (intOf t + 1).toNat)
    case atStart => exact ⟨s.L.length, Nat.le_refl _, by go_num, by rw [List.take_length], hrow, hb1⟩
    case round =>
      clear hrow hb1 h1
      obtain ⟨j, hj, rfl, hlk, hW, hb⟩ := hrel
      have hM := h.below hb
      cases j with
      | zero =>
        have hrange := HB.out _ hM
        have d0 := hM.c0
        have hres : dk.look b0 i s.L = b0 := by rw [← hlk]; rfl
        rw [hres] at HR
        clear hlk hres
        go_wp2_with (first | refine wp_ld (.tmp 48) b0 hrange hb0 rfl rfl rfl ?_ | (refine wp_st0 (.tmp 4) (.tmp 49) b0 hW zero_len hb0 rfl rfl rfl rfl ?_; intro W2 hW2 hc2))
        refine bodyPost_ret (results_cell_tmp rfl rfl (blk_load (blk_range hW2) hb0)) rfl ⟨?_, (Chg.of_below hb [w.heap.size]).trans hc2 (Sub.refl _ _) |>.below (Nat.le_refl _) (fun k hk => by simp at hk; omega)⟩
        rw [HR.out]
        rfl
      | succ j =>
        have hlt : j < s.L.length := by omega
        have d1 := hM.c1
        obtain ⟨k, cap, hv, hcap, hmax, dN, dB⟩ := hM.put_ hlt
        have hbl := HLn.out j hlt
        have hst : dk.look b0 i (s.L.take (j + 1)) = if s.L[j].1 = (i : Int) then s.L[j].2 else dk.look b0 i (s.L.take j) := by
          rw [List.take_succ_eq_append_getElem hlt, dk.look_snoc]
        rw [hv] at d1
        have hM2 := hM.ok.inL _ (List.getElem_mem hlt)
        generalize hx : s.L[j] = x at *
        obtain ⟨xn, xb⟩ := x
        simp only at hst dN dB hbl hM2
        rw [hlk] at hst
        obtain ⟨hx0, hx1⟩ := hM2
        have hjj : ((j + 1 : Nat) : Int) - 1 = j := by omega
        simp only [hjj]
        clear hx hM hlk hjj
        by_cases he : xn = (i : Int)
        · subst he
          rw [if_pos rfl] at hst
          rw [hst] at HR
          clear hst
          go_wp2_with (first | refine wp_ld (.tmp 41) xb dB hbl rfl rfl rfl ?_ | (refine wp_st0 (.tmp 4) (.tmp 42) xb hW zero_len hbl rfl rfl rfl rfl ?_; intro W2 hW2 hc2))
          refine bodyPost_ret (results_cell_tmp rfl rfl (blk_load (blk_range hW2) hbl)) rfl ⟨?_, (Chg.of_below hb [w.heap.size]).trans hc2 (Sub.refl _ _) |>.below (Nat.le_refl _) (fun k hk => by simp at hk; omega)⟩
          rw [HR.out]
          rfl
        · have hne : (xn == (i : Int)) = false := by simpa using he
          rw [if_neg he] at hst
          have HST := Lib.hid hst
          clear hst
          go_wp2
          go_roundw
          case rel => exact ⟨j, by omega, by go_num, HST.out.symm, hW, hb⟩
          case measure => simp [intOf]
  · have hr : dk.read s n = (dk.zero, q) := by
      rw [dk.read, hq, if_neg h0]
    have HR := Lib.hid hr
    have hqb : (q == 0) = false := by simpa using h0
    clear hr hq ha
    go_enter Tryd.func42, Tryd.ntmps42
    go_wp2_with fail
    refine HA.out.mono ?_
    rintro e w1 ⟨rfl, rfl⟩
    go_wp2_with (refine wp_st0 (.tmp 4) (.tmp 13) dk.zero hrow zero_len zero_len rfl rfl rfl rfl ?_; intro W hW hc)
    refine bodyPost_ret (results_cell_tmp rfl rfl (blk_load (blk_range hW) zero_len)) rfl ⟨?_, new_chg hc⟩
    rw [HR.out]
    rfl
end Go.Proofs.YtknndmhkfonfmaaDoor

/-
  contract of the program's Write.
-/
namespace Go.Proofs.YtknndmhkfonfmaaDoor
open Go.RowKit
variable {w : World} {p g c : Nat} {r : List Value} {v : Value} {s : dk.St}

theorem info_pw : (Tryd.prog.info? 64).map (fun i => (i.zero, i.size, i.bytes)) = some (some (.agg (dk.put (0, dk.zero)).toArray), 129, 136) := by kernel_rfl

theorem pw_zero : ∀ w, (zeroValue 64).run Tryd.prog w = .ok (.agg (dk.put (0, dk.zero)).toArray) w := fun w => by
  cases hq : Tryd.prog.info? 64 with
  | none => have := info_pw; simp [hq] at this
  | some i =>
    have := info_pw
    simp only [hq, Option.map_some, Option.some.injEq, Prod.mk.injEq] at this
    simp [zeroValue, typeInfo, hq, this.1]

/-- one write is appended, at a step of a region that draws -/
theorem step_pw {ops : Array Oper} {o : Oper} {a : Act} {W : World} {K : Act → World → Prop} {Q : Exit → Act → World → Prop} {E0 : Prop} (x y : Operand) {v : Value} {n : Nat} {xs : List Value} {B : Nat} {PB : Array Value}
    (hown : W.ownsRow 0 64 129 v n xs) (hB : W.heap[B]? = some (.cells PB 64 (0, 0))) (hps : PB.size = 129) (hone : ∀ u ∈ PB.toList, u.oneCell' = true) (hn : n ≤ 1048576) (hgd : o.guard = none)
    (ho : o.op = .call { callee := .builtin .append, args := #[x, y], argTypes := #[46, 46] }) (hx : a.eval x = v) (hy : a.eval y = .slice (some ⟨B, 0, none⟩) 1 1)
    (h : ∀ g cap W', W'.ownsRow 0 64 129 (.slice (some ⟨g, 0, none⟩) (n + 1) cap) (n + 1) (xs ++ PB.toList) → W.grownBy W' v.ownBlock → (v.ownBlock = some g ∨ g = W.heap.size) → g < W'.heap.size → K (a.put o.dst (.slice (some ⟨g, 0, none⟩) (n + 1) cap)) W') :
    if Region.wanted o (yielded ops a.tmps) = true then Oper.wp Tryd.prog o a W K Q else E0 := by
  obtain ⟨i0, hi0, hz0, hs0, hb0⟩ := info_parts3 info_pw
  exact step_append_lies W hgd x y 46 ho 0 64 i0 _ 129 136 Tryd.underlying46 hi0 hz0 hs0 hb0 (dk.put_size (0, dk.zero) zero_len) (by omega) v n xs hx hown ⟨B, 0, none⟩ 1 1 PB.toList hy (by simp [hps]) (World.news_of_block hB) hone (by omega) (by rw [maxLen_eq]; omega) (by omega) (Nat.zero_le _) _ rfl h

set_option maxHeartbeats 4000000 in
set_option maxRecDepth 100000 in
theorem pwrite_any (n : Int) (b : dk.Blk) (hb : b.length = 128) (h : PM w p g c r v s) (hm : s.many < 4611686018427387904) (hl : s.L.length ≤ 1048576) : Calls Tryd.prog 37 #[.pointer (some ⟨p, 0, none⟩), .int .i64 n, dk.val b] w fun e w' =>
    ∃ v', e = .returned (.int .i64 (dk.write s n b).1) ∧ PM w' p g c r v' (dk.write s n b).2 ∧ Chg w w' (dk.fp p g v) ∧ Sub w (dk.fp p g v') (dk.fp p g v) := by
  have h1 := h.alloc (.cells (dk.cells b).toArray 62)
  have hrow := heap_alloc_new w (.cells (dk.cells b).toArray 62)
  have ha := pusable_any n h1
  obtain ⟨q, hq⟩ : ∃ q, dk.asks s n = q := ⟨_, rfl⟩
  rw [hq] at ha
  have HA := Lib.hid ha
  by_cases h0 : q = 0
  · subst h0
    have hs := Lib.hid (pstep_any h1 hm)
    by_cases hc : s.cut = 1
    · have hst1 : (dk.step s).1 = 9 := by rw [dk.step, if_pos hc]
      have hwr : dk.write s n b = (9, (dk.step s).2) := by rw [dk.write, if_pos hq, if_neg (by rw [hst1]; omega)]
      have HW := Lib.hid hwr
      rw [hst1] at hs
      clear ha hq hst1 hwr
      go_enter Tryd.func37, Tryd.ntmps37
      go_wp2_with fail
      refine HA.out.mono ?_
      rintro e w1 ⟨rfl, rfl⟩
      go_wp2_with fail
      refine hs.out.mono ?_
      rintro e w2 ⟨rfl, hM, hC⟩
      go_wp2_with fail
      go_ret
      exact ⟨v, ret_int (by rw [HW.out]), by rw [HW.out]; exact hM, ((Chg.alloc w _ [p]).trans hC (Sub.refl _ _)).mono (fun k hk => .inl (by simp [dk.fp] at hk ⊢; simp [hk])), Sub.refl _ _⟩
    · have hst1 : (dk.step s).1 = 0 := by rw [dk.step, if_neg hc]
      rw [hst1] at hs
      clear ha
      go_enter Tryd.func37, Tryd.ntmps37
      go_wp2_with fail
      refine HA.out.mono ?_
      rintro e w1 ⟨rfl, rfl⟩
      go_wp2_with fail
      refine hs.out.mono ?_
      rintro e w2 ⟨rfl, hM, hC⟩
      go_wp2_with fail
      have hP : w2.heap[w.heap.size]? = some (.cells (dk.cells b).toArray 62 (0, 0)) := by
        rw [hC.block _ (by simp) (by have := h.there p (by simp [dk.fp]); simp; omega)]
        exact hrow
      have rg := blk_range hP
      have c1 := hM.c1
      have f1 := hM.fz 1
      have uB := Tryd.underlying62
      have iB := info_blk' hb
      have hne : p ≠ w.heap.size := by have := h.there p (by simp [dk.fp]); omega
      obtain ⟨Z, hZ⟩ : ∃ Z : Array Value, Z = (dk.put (0, dk.zero)).toArray := ⟨_, rfl⟩
      obtain ⟨PB, hPB⟩ : ∃ Z : Array Value, Z = (dk.put (n, b)).toArray := ⟨_, rfl⟩
      have zp := pw_zero
      have zs : Z.size = 129 := by rw [hZ]; exact dk.put_size _ zero_len
      have zn : ¬ Z = #[] := fun e => by rw [e] at zs; simp at zs
      have zf : List.foldl (fun (c : Array Value) (x : Value × Nat) => c.setIfInBounds (1 + x.snd) x.fst) (Z.setIfInBounds 0 (.int .i64 n)) (dk.cells b).zipIdx = PB := by rw [hZ, hPB]; exact dk.build_put n b hb
      rw [← hZ] at zp
      have ps : PB.size = 129 := by rw [hPB]; exact dk.put_size _ hb
      have HPB := Lib.hid hPB
      clear hrow HA hs h1 hZ hPB
      have hPBrow := heap_alloc_new w2.drew (.cells PB 64)
      have hMa := hM.drew.alloc (.cells PB 64)
      have hown := hMa.loose
      have hone : ∀ u ∈ PB.toList, u.oneCell' = true := by
        rw [HPB.out]
        intro u hu
        rw [List.toList_toArray] at hu
        rcases List.mem_cons.1 hu with rfl | hu
        · rfl
        · exact bvs_one b u hu
      have c1a := hMa.c1
      have f1a := hMa.fz 1
      have hpsz : p < (w2.drew.alloc (.cells PB 64)).heap.size := hMa.there p (by simp [dk.fp])
      have hne2 : some p ≠ v.ownBlock := fun e => hM.ne2 e.symm
      have hvw : some w.heap.size ≠ v.ownBlock := fun e => by have := h.there w.heap.size (by simp [dk.fp, ← e]); omega
      have rga := World.rangeAt_alloc (show w2.drew.rangeAt w.heap.size 0 (dk.cells b) from rg) (.cells PB 64)
      rw [dk.step_L] at hown
      refine wp_region_held_drew (S := fun w' => w'.rangeAt w.heap.size 0 (dk.cells b)) (by kernel_rfl) (by simpa using rg) (fun hHeld => ?_)
      refine wpAnyH_take (i := 0) (v := ?_) rfl (by kernel_rfl) (by kernel_rfl) (by kernel_rfl) (fun _ _ _ h => h) (Or.inl ⟨by rfl, ?_⟩) hHeld ?_
      rotate_left
      · intro w _; go_simp; try rfl
      simp only [List.getElem_toArray, List.getElem_cons_zero, Act.put, List.setIfInBounds_toArray, List.set_cons_zero, List.set_cons_succ]
      refine wpAnyH_take (i := 1) (v := ?_) rfl (by kernel_rfl) (by kernel_rfl) (by kernel_rfl) (fun _ _ _ h => h) (Or.inl ⟨by rfl, ?_⟩) hHeld ?_
      rotate_left
      · intro w _; go_simp; try rfl
      simp only [List.getElem_toArray, List.getElem_cons_zero, List.getElem_cons_succ, Act.put, List.setIfInBounds_toArray, List.set_cons_zero, List.set_cons_succ]
      refine wpAnyH_take (i := 2) (v := ?_) rfl (by kernel_rfl) (by kernel_rfl) (by kernel_rfl) (fun _ _ _ h => h) (Or.inl ⟨by rfl, ?_⟩) hHeld ?_
      rotate_left
      · intro w _; go_simp; try rfl
      simp only [List.getElem_toArray, List.getElem_cons_zero, List.getElem_cons_succ, Act.put, List.setIfInBounds_toArray, List.set_cons_zero, List.set_cons_succ]
      refine wpAnyH_take (i := 3) (v := ?_) rfl (by kernel_rfl) (by kernel_rfl) (by kernel_rfl) (fun _ _ _ h => h) (Or.inl ⟨by rfl, ?_⟩) hHeld ?_
      rotate_left
      · intro w _; go_simp; try rfl
      simp only [List.getElem_toArray, List.getElem_cons_zero, List.getElem_cons_succ, Act.put, List.setIfInBounds_toArray, List.set_cons_zero, List.set_cons_succ]
      refine wpAnyH_take (i := 5) (v := ?_) rfl (by kernel_rfl) (by kernel_rfl) (by kernel_rfl) (fun _ _ _ h => h) (Or.inl ⟨by rfl, ?_⟩) hHeld ?_
      rotate_left
      · intro w _; go_simp; try rfl
      simp only [List.getElem_toArray, List.getElem_cons_zero, List.getElem_cons_succ, Act.put, List.setIfInBounds_toArray, List.set_cons_zero, List.set_cons_succ]
      refine wpAnyH_take (i := 6) (v := dk.val b) rfl (by kernel_rfl) (by kernel_rfl) (by kernel_rfl) (fun _ _ _ h => h) (yieldsIf_load_mid (by rfl) 62 (.tmp 5) rfl w.heap.size 0 rfl (dk.cells b) _ (fun w h => h) uB rfl iB) hHeld ?_
      simp only [List.getElem_toArray, List.getElem_cons_zero, List.getElem_cons_succ, Act.put, List.setIfInBounds_toArray, List.set_cons_zero, List.set_cons_succ]
      refine wpAnyH_take (i := 7) (v := ?_) rfl (by kernel_rfl) (by kernel_rfl) (by kernel_rfl) (fun _ _ _ h => h) (Or.inl ⟨by rfl, ?_⟩) hHeld ?_
      rotate_left
      · intro w _; go_simp; try rfl
      simp only [List.getElem_toArray, List.getElem_cons_zero, List.getElem_cons_succ, Act.put, List.setIfInBounds_toArray, List.set_cons_zero, List.set_cons_succ]
      have hS2 := World.rangeAt_alloc hHeld (.cells PB 64)
      obtain ⟨i0, hi0, hz0, hs0, hb0⟩ := info_parts3 info_pw
      have hfill := dk.fill_one 129 ((Array.range 129).map fun i => (dk.put (0, dk.zero)).toArray[i % 129]!) PB ps (by simp)
      refine wpAnyH_ready (rs := [4, 8]) (by kernel_rfl) (by simp) ?_
      refine AllReadyH.cons rfl (fun K hK => ?o1) (AllReadyH.cons rfl (fun K hK => ?o2) AllReadyH.nil)
      case' o1 =>
        rw [if_pos (by rfl)]
        go_simp
        refine hK.out _ _ hHeld (fun hHeld => ?_)
        clear hK K
        refine wpAnyH_ready (rs := [8]) (by kernel_rfl) (by simp) ?_
        refine AllReadyH.cons rfl (fun K hK => ?_) AllReadyH.nil
        rw [if_pos (by rfl)]
        refine wp_buildSlice 46 64 1 _ rfl PB i0 _ Tryd.underlying46 hi0 hz0 (by rw [hs0]; omega) (by rw [hs0]; omega) ?hf ?h
        case' hf => (rw [hs0]; simp only [List.map_toArray, List.map_cons, List.map_nil]; refine dk.fill_one 129 _ PB ps ?_; rw [Array.size_map, Array.size_range])
        simp only [List.getElem_toArray, List.getElem_cons_zero, List.getElem_cons_succ, Act.put, List.setIfInBounds_toArray, List.set_cons_zero, List.set_cons_succ]
        refine hK.out _ _ hS2 (fun hHeld => ?_)
        clear hK K
      case' o2 =>
        rw [if_pos (by rfl)]
        refine wp_buildSlice 46 64 1 _ rfl PB i0 _ Tryd.underlying46 hi0 hz0 (by rw [hs0]; omega) (by rw [hs0]; omega) ?hf2 ?h2
        case' hf2 => (rw [hs0]; simp only [List.map_toArray, List.map_cons, List.map_nil]; refine dk.fill_one 129 _ PB ps ?_; rw [Array.size_map, Array.size_range])
        simp only [List.getElem_toArray, List.getElem_cons_zero, List.getElem_cons_succ, Act.put, List.setIfInBounds_toArray, List.set_cons_zero, List.set_cons_succ]
        refine hK.out _ _ hS2 (fun hHeld => ?_)
        clear hK K
        refine wpAnyH_ready (rs := [4]) (by kernel_rfl) (by simp) ?_
        refine AllReadyH.cons rfl (fun K hK => ?_) AllReadyH.nil
        rw [if_pos (by rfl)]
        have c1c : (w2.alloc (.cells PB 64)).cell? ⟨p, 1, none⟩ = some v := c1a
        go_simp
        change K _ (w2.drew.alloc (.cells PB 64))
        refine hK.out _ _ hS2 (fun hHeld => ?_)
        clear hK K
      all_goals
        refine wpAnyH_ready (rs := [9]) (by kernel_rfl) (by simp) ?_
        refine AllReadyH.cons rfl (fun K hK => ?_) AllReadyH.nil
        refine step_pw (.tmp 24) (.tmp 28) hown hPBrow ps hone hl rfl rfl rfl rfl ?_
        intro gg cap w3 hown3 hg3 hat3 hlt3
        have c13 := (hg3.cell_far ⟨p, 1, none⟩ hpsz hne2).trans c1a
        have f13 := (hg3.frozen_far ⟨p, 1, none⟩ hpsz hne2).trans f1a
        simp only [List.getElem_toArray, List.getElem_cons_zero, List.getElem_cons_succ, Act.put, List.setIfInBounds_toArray, List.set_cons_zero, List.set_cons_succ]
        refine hK.out _ _ (dk.range_grown hS2 hg3 hvw) (fun hHeld => ?_)
        clear hK K
        refine wpAnyH_take (i := 10) (v := ?_) rfl (by kernel_rfl) (by kernel_rfl) (by kernel_rfl) (fun _ _ _ h => h) (Or.inl ⟨by rfl, ?_⟩) hHeld ?_
        rotate_left
        · intro w _; go_simp; try rfl
        simp only [List.getElem_toArray, List.getElem_cons_zero, List.getElem_cons_succ, Act.put, List.setIfInBounds_toArray, List.set_cons_zero, List.set_cons_succ]
        refine wpAnyH_take (i := 11) (v := ?_) rfl (by kernel_rfl) (by kernel_rfl) (by kernel_rfl) (fun _ _ _ h => h) (Or.inl ⟨by rfl, ?_⟩) hHeld ?_
        rotate_left
        · intro w _; go_simp; try rfl
        simp only [List.getElem_toArray, List.getElem_cons_zero, List.getElem_cons_succ, Act.put, List.setIfInBounds_toArray, List.set_cons_zero, List.set_cons_succ]
        refine wpAnyH_ready (rs := [12]) (by kernel_rfl) (by simp) ?_
        refine AllReadyH.cons rfl (fun K hK => ?_) AllReadyH.nil
        rw [if_pos (by rfl)]
        go_simp
        refine hK.out _ _ (dk.range_setCell hHeld _ _ hne) (fun hHeld => ?_)
        clear hK K
        refine wpAnyH_done (by kernel_rfl) ?_ _
        go_wp2_with fail
        go_ret
        have hxs : ((n, b) : Int × dk.Blk).2.length = 128 := hb
        obtain ⟨_, hn0, hn1⟩ := dk.asks_in hq
        rw [HPB.out, List.toList_toArray] at hown3
        have hap := dk.M.appended (x := (n, b)) (show PM _ p g c r v (dk.step s).2 from hMa) hg3 (by rw [dk.step_L]; exact hown3) hat3 hb (by rw [dk.step_S]; exact ⟨hn0, hn1⟩)
        rw [dk.step_L] at hap
        have hwr : dk.write s n b = (0, { (dk.step s).2 with L := s.L ++ [(n, b)] }) := by rw [dk.write, if_pos hq, if_pos hst1]
        have hCw : Chg w (w2.drew.alloc (.cells PB 64)) (dk.fp p g v) :=
          (((Chg.alloc w _ [p]).trans hC (Sub.refl _ _)).mono (fun k hk => .inl (by simp [dk.fp] at hk ⊢; simp [hk]))).trans ((Chg.drew _ (dk.fp p g v)).trans (Chg.alloc _ _ (dk.fp p g v)) (Sub.refl _ _)) (Sub.refl _ _)
        exact ⟨_, ret_int (by rw [hwr]), by rw [hwr]; exact hap.1, hCw.trans hap.2.1 (Sub.refl _ _), hap.2.2.trans (Sub.refl _ _) hCw.size⟩
  · have hwr : dk.write s n b = (q, s) := by rw [dk.write, hq, if_neg h0]
    have HW := Lib.hid hwr
    have hqb : (q == 0) = false := by simpa using h0
    clear ha hq hwr
    go_enter Tryd.func37, Tryd.ntmps37
    go_wp2_with fail
    refine HA.out.mono ?_
    rintro e w1 ⟨rfl, rfl⟩
    go_wp2_with fail
    go_ret
    exact ⟨v, ret_int (by rw [HW.out]), by rw [HW.out]; exact h1, Chg.alloc _ _ _, Sub.refl _ _⟩
end Go.Proofs.YtknndmhkfonfmaaDoor

/-
  contract of the program's Flush.
-/
namespace Go.Proofs.YtknndmhkfonfmaaDoor
open Go.RowKit
variable {w : World} {p g c : Nat} {r : List Value} {v : Value} {s : dk.St}

/-- a write that is not sure, as a value -/
abbrev dk.pval (x : Int × dk.Blk) : Value := .agg (dk.put x).toArray
theorem dk.put_len {x : Int × dk.Blk} (h : x.2.length = 128) : (dk.put x).length = 129 := by rw [List.length_cons, List.length_map, h]
theorem info_pw' {x : Int × dk.Blk} (h : x.2.length = 128) : (Tryd.prog.info? 64).map (·.size) = some (dk.put x).length := by
  rw [dk.put_len h]
  obtain ⟨i, hi, _, hs, _⟩ := info_parts3 info_pw
  rw [hi, Option.map_some, hs]
theorem put_one (x : Int × dk.Blk) : (dk.put x).toArray.all (·.oneCell') = true := all_oneCell_toArray (fun u hu => by
  rcases List.mem_cons.1 hu with rfl | hu
  · rfl
  · exact bvs_one x.2 u hu)
theorem put_range {w : World} {k o : Nat} {x : Int × dk.Blk} (h1 : w.cell? ⟨k, o, none⟩ = some (.int .i64 x.1)) (h2 : w.rangeAt k (o + 1) (dk.cells x.2)) : w.rangeAt k o (dk.put x) := fun j u hj => by
  cases j with
  | zero =>
    simp only [dk.put, List.getElem?_cons_zero, Option.some.injEq] at hj
    rw [← hj]
    exact h1
  | succ j =>
    rw [show o + (j + 1) = o + 1 + j from by omega]
    exact h2 j u (by simpa [dk.put] using hj)
section
variable {ops : Array Oper} {rest : List Oper} {o : Oper} {a : Act} {w : World} {Q : Exit → Act → World → Prop}
/-- a write that is not sure is loaded -/
theorem wp_ldp (x : Operand) (y : Int × dk.Blk) {g off : Nat} (hr : w.rangeAt g off (dk.put y)) (hy : y.2.length = 128) (hgd : o.guard = none) (ho : o.op = .load 64 x) (hx : a.eval x = .pointer (some ⟨g, off, none⟩))
    (h : wpList Tryd.prog ops Q rest (a.put o.dst (dk.pval y)) w) : wpList Tryd.prog ops Q (o :: rest) a w :=
  wpList_load_mid hgd _ x ho g off hx _ _ hr Tryd.underlying64 rfl (info_pw' hy) h
/-- it is stored into a block of its own -/
theorem wp_stp (x y : Operand) (z : Int × dk.Blk) {g : Nat} {old : Array Value} {E : TypeId} (hrow : w.heap[g]? = some (.cells old E (0, 0))) (hold : old.size = 129) (hz : z.2.length = 128) (hgd : o.guard = none)
    (ho : o.op = .store 64 x y) (hx : a.eval x = .pointer (some ⟨g, 0, none⟩)) (hy : a.eval y = dk.pval z)
    (h : ∀ W, W.heap[g]? = some (.cells (dk.put z).toArray E (0, 0)) → Chg w W [g] → wpList Tryd.prog ops Q rest (a.put o.dst undef) W) : wpList Tryd.prog ops Q (o :: rest) a w := by
  have hl : (dk.put z).length = 129 := dk.put_len hz
  have hrow' : w.heap[g]? = some (.cells old.toList.toArray E (0, 0)) := by rw [Array.toArray_toList]; exact hrow
  have h2 := block_sets (dk.put z) 0 old.toList w hrow' (by simp only [Array.length_toList]; omega)
  rw [hl, List.take_zero, List.nil_append, List.drop_of_length_le (by simp only [Array.length_toList]; omega), List.append_nil] at h2
  refine wpList_store_mid hgd _ x y ho g 0 (dk.put z).toArray hx hy ?_ (by simpa using info_pw' hz) (put_one z) ?_
  · have := there_of hrow' 0 129 (by simp only [Array.length_toList]; omega)
    rw [List.size_toArray, hl]
    exact this
  · exact h _ h2 (Chg.setCells g _ _ _)
end

set_option maxHeartbeats 4000000 in
set_option maxRecDepth 100000 in
theorem pflush_any (h : PM w p g c r v s) (hm : s.many < 4611686018427387904) : Calls Tryd.prog 38 #[.pointer (some ⟨p, 0, none⟩)] w fun e w' =>
    ∃ v', e = .returned (.int .i64 (dk.flush s).1) ∧ PM w' p g c r v' (dk.flush s).2 ∧ Chg w w' (dk.fp p g v) ∧ Sub w (dk.fp p g v') (dk.fp p g v) := by
  have HL := Lib.hid (plit_any h)
  have hs := pstep_any h hm
  cases hb : s.black with
  | true =>
    have hr : dk.flush s = (9, s) := by rw [dk.flush, if_pos hb]
    have hl : dk.lit s = 9 := by simp [dk.lit, hb]
    rw [hl] at HL
    have HR := Lib.hid hr
    clear hr hs hl
    go_enter Tryd.func38, Tryd.ntmps38
    go_wp2_with fail
    refine HL.out.mono ?_
    rintro e w1 ⟨rfl, rfl⟩
    go_wp2_with fail
    go_ret
    exact ⟨v, ret_int (by rw [HR.out]), by rw [HR.out]; exact h, Chg.refl _ _, Sub.refl _ _⟩
  | false =>
    have hl : dk.lit s = 0 := by simp [dk.lit, hb]
    rw [hl] at HL
    clear hl
    by_cases hc : s.cut = 1
    · have hst1 : (dk.step s).1 = 9 := by rw [dk.step, if_pos hc]
      have hr : dk.flush s = (9, (dk.step s).2) := by rw [dk.flush, if_neg (by simp [hb]), if_neg (by rw [hst1]; omega)]
      rw [hst1] at hs
      have HS := Lib.hid hs
      have HR := Lib.hid hr
      clear hr hs hst1 hc
      go_enter Tryd.func38, Tryd.ntmps38
      go_wp2_with fail
      refine HL.out.mono ?_
      rintro e w1 ⟨rfl, rfl⟩
      go_wp2_with fail
      refine HS.out.mono ?_
      rintro e w2 ⟨rfl, hM, hC⟩
      go_wp2_with fail
      go_ret
      exact ⟨v, ret_int (by rw [HR.out]), by rw [HR.out]; exact hM, hC.mono dk.sub_p, Sub.refl _ _⟩
    · have hst1 : (dk.step s).1 = 0 := by rw [dk.step, if_neg hc]
      have hr : dk.flush s = (0, { (dk.step s).2 with S := dk.lay s.S s.L, L := [] }) := by rw [dk.flush, if_neg (by simp [hb]), if_pos hst1]
      rw [hst1] at hs
      have HS := Lib.hid hs
      have HR := Lib.hid hr
      have hSS := dk.step_S s
      have hLL := dk.step_L s
      have hOL : ∃ A cap, v = .slice A s.L.length cap ∧ s.L.length ≤ cap ∧ cap ≤ 9223372036854775807 ∧ (s.L.length = 0 ∨ ∃ k, A = some ⟨k, 0, none⟩) := by
        by_cases h0 : 0 < s.L.length
        · obtain ⟨k, cap, hv, h1, h2, _⟩ := h.put_ h0
          exact ⟨_, cap, hv, h1, h2, .inr ⟨k, rfl⟩⟩
        · obtain ⟨A, cap, hv, h1, h2⟩ := h.own_len
          exact ⟨A, cap, hv, h1, h2, .inl (by omega)⟩
      rw [← hLL] at hOL
      generalize (dk.step s).2 = s1 at *
      rw [← hSS, ← hLL] at HR
      clear hr hs hst1 hc hSS hLL
      obtain ⟨A, cap, hvA, hcap, hmax, hkA⟩ := hOL
      rcases hkA with hz | ⟨k, rfl⟩
      · rw [hz] at hvA
        have hLn : s1.L = [] := List.eq_nil_of_length_eq_zero hz
        have hlay : dk.lay s1.S s1.L = s1.S := by rw [hLn]; rfl
        rw [hlay] at HR
        clear hlay hLn hz hcap
        go_enter Tryd.func38, Tryd.ntmps38
        go_wp2_with fail
        refine HL.out.mono ?_
        rintro e w1 ⟨rfl, rfl⟩
        go_wp2_with fail
        refine HS.out.mono ?_
        rintro e w2 ⟨rfl, hM0, hC0⟩
        have d1 := hM0.c1
        rw [hvA] at d1
        go_wp2_with fail
        clear d1
        go_loopw [22] (fun t wr => t = .int .i64 0 ∧ PM wr p g c r v s1 ∧ Chg w wr (dk.fp p g v)) (fun _ _ => 0)
        case atStart => exact ⟨rfl, hM0, hC0.mono dk.sub_p⟩
        case round =>
          clear hM0 hC0 h HS HL
          obtain ⟨rfl, hM, hC⟩ := hrel
          have d1 := hM.c1
          have f1 := hM.fz 1
          have hcl := hM.clear_
          rw [hvA] at d1
          go_wp2_with fail
          go_ret
          exact ⟨_, ret_int (by rw [HR.out]), by rw [HR.out]; exact hcl, hC.trans (Chg.setCell _ _ _ _) dk.sub_p, dk.sub_nil⟩
      · go_enter Tryd.func38, Tryd.ntmps38
        go_wp2_with fail
        refine HL.out.mono ?_
        rintro e w1 ⟨rfl, rfl⟩
        go_wp2_with fail
        refine HS.out.mono ?_
        rintro e w2 ⟨rfl, hM0, hC0⟩
        have d1 := hM0.c1
        rw [hvA] at d1
        go_wp2_with fail
        clear d1
        go_loopw [22] (fun t wr => ∃ j : Nat, j ≤ s1.L.length ∧ t = .int .i64 j ∧ PM wr p g c r v { s1 with S := dk.lay s1.S (s1.L.take j) } ∧ Chg w wr (dk.fp p g v)) (fun t _ => s1.L.length - (intOf t).toNat)
        case atStart => exact ⟨0, by omega, rfl, hM0, hC0.mono dk.sub_p⟩
        case round =>
          have hlen := hM0.ok.lenL
          have hin := hM0.ok.inL
          clear hM0 hC0 h HS HL
          obtain ⟨j, hj, rfl, hM, hC⟩ := hrel
          by_cases hlt : j < s1.L.length
          · obtain ⟨k', cap', hv, hcap', hmax', dN, dB⟩ := hM.put_ hlt
            obtain ⟨rfl, rfl⟩ : k = k' ∧ cap = cap' := by
              have := hvA.symm.trans hv
              simpa using this
            have hbl := hlen _ (List.getElem_mem hlt)
            obtain ⟨hi0, hi1⟩ := hin _ (List.getElem_mem hlt)
            have hst : dk.lay s1.S (s1.L.take (j + 1)) = (dk.lay s1.S (s1.L.take j)).set s1.L[j].1.toNat s1.L[j].2 := by
              rw [List.take_succ_eq_append_getElem hlt, dk.lay_snoc]
            simp only at dN dB
            generalize s1.L[j] = x at *
            have dP := put_range dN dB
            obtain ⟨xn, xb⟩ := x
            simp only at hst dN dB hbl hi0 hi1
            obtain ⟨i, rfl⟩ : ∃ i : Nat, xn = i := ⟨xn.toNat, by omega⟩
            rw [Int.toNat_natCast] at hst
            have HST := Lib.hid hst
            have hiS : i < (dk.lay s1.S (s1.L.take j)).length := by rw [dk.lay_length]; omega
            have hrl := hM.rowLen hiS
            have hmost := hM.ok.most
            simp only [dk.lay_length] at hmost
            simp only at hrl
            obtain ⟨Z, hZ⟩ : ∃ Z : Array Value, Z = (dk.put (0, dk.zero)).toArray := ⟨_, rfl⟩
            have zp := pw_zero
            have zs : Z.size = 129 := by rw [hZ]; exact dk.put_size _ zero_len
            rw [← hZ] at zp
            have hMa := hM.alloc (.cells Z 64)
            have hnew := heap_alloc_new wr (.cells Z 64)
            clear hst hlen hin hZ dN dB hv
            go_wp2_with (first | refine wp_ldp (.tmp 24) ((i : Int), xb) dP hbl rfl rfl rfl ?_ | (refine wp_stp (.tmp 6) (.tmp 25) ((i : Int), xb) hnew zs hbl rfl rfl rfl rfl ?_; intro W hW hCW))
            have hMW := hMa.keep (hCW.same (F := [wr.heap.size]) (G := dk.fp p g v) (fun a ha hm => by have := hM.there a hm; simp only [List.mem_singleton] at ha; omega) hMa.there)
            have hCC : Chg wr W (dk.fp p g v) := (Chg.alloc wr _ (dk.fp p g v)).trans hCW (fun a ha => .inr (by simp only [List.mem_singleton] at ha; omega))
            have e0 : W.cell? ⟨wr.heap.size, 0, none⟩ = some (.int .i64 (i : Int)) := by rw [cell_of_row _ _ 0 _ _ _ hW]; rfl
            have e1 : W.rangeAt wr.heap.size 1 (dk.cells xb) := range_of hW 1 _ (fun a u ha => by rw [Nat.add_comm]; exact ha)
            have d0 := hMW.c0
            have hrow := hMW.row
            simp only [dk.lay_length] at d0
            simp only at hrow
            clear hnew hMa hW hCW hM
            refine wp_region_still_tail 9 (by kernel_rfl) (by kernel_rfl) ?_
            simp only [List.take_succ_cons, List.take_zero, List.drop_succ_cons, List.drop_zero]
            iterate 7 still_step
            refine still_ld (.tmp 32) xb (show W.drew.rangeAt wr.heap.size 1 (dk.cells xb) from e1) hbl rfl rfl (by rfl) ?_
            simp only [Act.put, List.setIfInBounds_toArray, List.set_cons_zero, List.set_cons_succ]
            still_step
            refine wpStill_nil ?_
            refine wp_st (.tmp 34) (.tmp 33) xb (show W.drew.heap[g]? = _ from hrow) hrl hbl rfl rfl rfl rfl ?_
            intro W2 hW2 hCW2
            have hMW2 := hMW.drew.stored hiS hbl hW2 hCW2
            simp only at hMW2
            clear e0 e1 d0 hrow hrl hW2
            go_wp2_with fail
            go_roundw
            case rel => exact ⟨j + 1, by omega, by go_num, by rw [HST.out]; exact hMW2, ((hC.trans hCC (Sub.refl _ _)).trans (Chg.drew _ (dk.fp p g v)) (Sub.refl _ _)).trans hCW2 dk.sub_g⟩
            case measure => simp [intOf]; omega
          · have d1 := hM.c1
            have f1 := hM.fz 1
            have hcl := hM.clear_
            rw [hvA] at d1
            simp only [List.take_of_length_le (show s1.L.length ≤ j from by omega)] at hcl
            go_wp2_with fail
            go_ret
            exact ⟨_, ret_int (by rw [HR.out]), by rw [HR.out]; exact hcl, hC.trans (Chg.setCell _ _ _ _) dk.sub_p, dk.sub_nil⟩
end Go.Proofs.YtknndmhkfonfmaaDoor

/-
  contract of the program's Crash.
-/
namespace Go.Proofs.YtknndmhkfonfmaaDoor
open Go.RowKit
variable {w : World} {p g c : Nat} {r : List Value} {v : Value} {s : dk.St}

/-- what is kept of a write -/
def dk.kept (q : Int) : Nat := min q.toNat 128
theorem dk.torn_row (R : List Value) (o : Nat) (ob xb : dk.Blk) (q : Int) (ho : ob.length = 128) (hx : xb.length = 128) (hR : ∀ j, j < 128 → R[o + j]? = (dk.cells ob)[j]?) :
    R.take o ++ (dk.cells (xb.take (dk.kept q)) ++ R.drop (o + dk.kept q)) = R.take o ++ dk.cells (dk.torn ob xb q) ++ R.drop (o + 128) := by
  have hl : (dk.cells ob).length = 128 := by rw [List.length_map, ho]
  have e : R.drop o = dk.cells ob ++ R.drop (o + 128) := by
    apply List.ext_getElem?
    intro j
    rw [List.getElem?_drop]
    by_cases hj : j < 128
    · rw [List.getElem?_append_left (by omega), hR j hj]
    · rw [List.getElem?_append_right (by omega), List.getElem?_drop]
      congr 1
      omega
  have hk : dk.kept q ≤ 128 := by unfold dk.kept; omega
  rw [List.append_assoc]
  congr 1
  rw [← List.drop_drop, e, List.drop_append_of_le_length (by omega), ← List.append_assoc]
  congr 1
  unfold dk.torn dk.kept
  rw [show dk.cells (xb.take q.toNat ++ ob.drop q.toNat) = dk.cells (xb.take q.toNat) ++ dk.cells (ob.drop q.toNat) from List.map_append, ← List.map_drop]
  by_cases hq : q.toNat ≤ 128
  · rw [Nat.min_eq_left hq]
  · rw [Nat.min_eq_right (by omega), List.take_of_length_le (by omega), List.drop_of_length_le (by omega), List.take_of_length_le (by omega), List.drop_of_length_le (by omega)]

theorem Chg.setRow (w : World) (g : Nat) (cs : Array Value) : Chg w (w.setRow g cs) [g] :=
  ⟨rfl, rfl, rfl, by simp [World.setRow], fun k _ hn => setRow_other w g k cs (fun e => hn (by rw [List.mem_singleton]; exact e))⟩
theorem Chg.cell {w w' : World} {F : List Nat} (h : Chg w w' F) {a : Addr} (hp : a.block < w.heap.size) (hn : a.block ∉ F) : w'.cell? a = w.cell? a := by
  simp only [World.cell?, h.block _ hp hn]
set_option maxHeartbeats 4000000 in
set_option maxRecDepth 100000 in
theorem pcrash_any (A : Option Addr) (n cp : Nat) (l : List Int) (hl : IS w A n cp l) (hA : 0 < n → ∀ b o, A = some ⟨b, o, none⟩ → b ∉ dk.fp p g v) (h : PM w p g c r v s) : Calls Tryd.prog 13 #[.pointer (some ⟨p, 0, none⟩), .slice A n cp] w fun e w' =>
    ∃ v', e = .returned (.int .i64 0) ∧ PM w' p g c r v' (dk.crash s l) ∧ Chg w w' (dk.fp p g v) ∧ Sub w (dk.fp p g v') (dk.fp p g v) := by
  have HN := Lib.hid (pnone_any h)
  have hOL : ∃ A cap, v = .slice A s.L.length cap ∧ s.L.length ≤ cap ∧ cap ≤ 9223372036854775807 ∧ (s.L.length = 0 ∨ ∃ k, A = some ⟨k, 0, none⟩) := by
    by_cases h0 : 0 < s.L.length
    · obtain ⟨k, cap, hv, h1, h2, _⟩ := h.put_ h0
      exact ⟨_, cap, hv, h1, h2, .inr ⟨k, rfl⟩⟩
    · obtain ⟨A, cap, hv, h1, h2⟩ := h.own_len
      exact ⟨A, cap, hv, h1, h2, .inl (by omega)⟩
  obtain ⟨AA, cap, hvA, hcap, hmax, hkA⟩ := hOL
  rcases hkA with hz | ⟨k, rfl⟩
  · rw [hz] at hvA
    subst hvA
    have hLn : s.L = [] := List.eq_nil_of_length_eq_zero hz
    have hcr : dk.crash s l = { s with L := [], black := false, cut := 0 } := by unfold dk.crash; rw [hLn]; rfl
    rw [hcr]
    clear hcr hLn hz hcap
    have d1 := h.c1
    go_enter Tryd.func13, Tryd.ntmps13
    go_wp2_with fail
    refine HN.out.mono ?_
    rintro e w1 ⟨rfl, rfl⟩
    go_wp2_with fail
    clear d1
    go_loopw [15] (fun t wr => t = .int .i64 0 ∧ PM wr p g c r (.slice AA 0 cap) s ∧ Chg w wr (dk.fp p g (.slice AA 0 cap))) (fun _ _ => 0)
    case atStart => exact ⟨rfl, h, Chg.refl _ _⟩
    case round =>
      clear h HN
      obtain ⟨rfl, hM, hC⟩ := hrel
      have d1 := hM.c1
      have f1 := hM.fz 1
      have hc1 := hM.clear_
      have g3 := hc1.c3
      have f3 := hc1.fz 3
      have g2 := hc1.c2
      have f2 := hc1.fz 2
      have hc2 := hc1.cut 0 (by omega)
      have g3' := hc2.c3
      have f3' := hc2.fz 3
      have hc3 := hc2.black false
      go_wp2_with fail
      go_ret
      exact ⟨rfl, _, hc3, ((hC.trans (Chg.setCell _ _ _ _) dk.sub_p).trans (Chg.setCell _ _ _ _) dk.sub_p).trans (Chg.setCell _ _ _ _) dk.sub_p, dk.sub_nil⟩
  · subst hvA
    have d1 := h.c1
    go_enter Tryd.func13, Tryd.ntmps13
    go_wp2_with fail
    refine HN.out.mono ?_
    rintro e w1 ⟨rfl, rfl⟩
    go_wp2_with fail
    clear d1
    go_loopw [15] (fun t wr => ∃ j : Nat, j ≤ s.L.length ∧ t = .int .i64 j ∧ PM wr p g c r (.slice (some ⟨k, 0, none⟩) s.L.length cap) { s with S := dk.tear s.S (s.L.take j) l } ∧ Chg w wr (dk.fp p g (.slice (some ⟨k, 0, none⟩) s.L.length cap))) (fun t _ => s.L.length - (intOf t).toNat)
    case atStart => exact ⟨0, by omega, rfl, h, Chg.refl _ _⟩
    case round =>
      have hlen := h.ok.lenL
      have hin := h.ok.inL
      obtain ⟨j, hj, rfl, hM, hC⟩ := hrel
      have hI := hl.chg hC hA
      have hIl := hI.len
      have hIc := hI.cap
      have hIm := hI.max
      clear hl h HN
      by_cases hlt : j < s.L.length
      · obtain ⟨k', cap', hv, hcap', hmax', dN, dB⟩ := hM.put_ hlt
        obtain ⟨rfl, rfl⟩ : k = k' ∧ cap = cap' := by
          simpa using hv
        have hbl := hlen _ (List.getElem_mem hlt)
        obtain ⟨hi0, hi1⟩ := hin _ (List.getElem_mem hlt)
        obtain ⟨q, hq⟩ : ∃ q, l.getD j 0 = q := ⟨_, rfl⟩
        have hst : dk.tear s.S (s.L.take (j + 1)) l = (dk.tear s.S (s.L.take j) l).set s.L[j].1.toNat (dk.torn ((dk.tear s.S (s.L.take j) l).getD s.L[j].1.toNat dk.zero) s.L[j].2 q) := by
          rw [List.take_succ_eq_append_getElem hlt, dk.tear_snoc, List.length_take, Nat.min_eq_left (by omega), hq]
        simp only at dN dB
        generalize s.L[j] = x at *
        have dP := put_range dN dB
        obtain ⟨xn, xb⟩ := x
        simp only at hst dN dB hbl hi0 hi1
        obtain ⟨i, rfl⟩ : ∃ i : Nat, xn = i := ⟨xn.toNat, by omega⟩
        rw [Int.toNat_natCast] at hst
        have hiS : i < (dk.tear s.S (s.L.take j) l).length := by rw [dk.tear_length]; omega
        have hold : (dk.tear s.S (s.L.take j) l).getD i dk.zero = (dk.tear s.S (s.L.take j) l)[i] := by
          rw [List.getD_eq_getElem?_getD, List.getElem?_eq_getElem hiS]
          rfl
        rw [hold] at hst
        have hobl := hM.ok.lenS _ (List.getElem_mem hiS)
        have dO := hM.block (i := i) hiS
        simp only at hobl dO
        generalize (dk.tear s.S (s.L.take j) l)[i] = ob at *
        have hrl := hM.rowLen hiS
        have hmost := hM.ok.most
        simp only [dk.tear_length] at hmost
        simp only at hrl
        have hcase : (∃ pb po, A = some ⟨pb, po, none⟩ ∧ j < n ∧ pb < wr.heap.size ∧ wr.cell? ⟨pb, po + j, none⟩ = some (.int .i64 q)) ∨ (¬ j < n ∧ q = 0) := by
          by_cases hjp : j < n
          · obtain ⟨pb, po, rfl, hpb, hpc⟩ := hI.has (by omega)
            have hpj := hpc j (by omega)
            have hqj : l[j]'(by omega) = q := by rw [← hq, List.getD_eq_getElem?_getD, List.getElem?_eq_getElem (by omega)]; rfl
            rw [hqj] at hpj
            exact .inl ⟨pb, po, rfl, hjp, hpb, hpj⟩
          · exact .inr ⟨hjp, by rw [← hq, List.getD_eq_getElem?_getD, List.getElem?_eq_none (by omega)]; rfl⟩
        obtain ⟨Z, hZ⟩ : ∃ Z : Array Value, Z = (dk.put (0, dk.zero)).toArray := ⟨_, rfl⟩
        have zp := pw_zero
        have zs : Z.size = 129 := by rw [hZ]; exact dk.put_size _ zero_len
        rw [← hZ] at zp
        have hMa := hM.alloc (.cells Z 64)
        have hnew := heap_alloc_new wr (.cells Z 64)
        have hR : ∀ a, a < 128 → (dk.cellsS (dk.tear s.S (s.L.take j) l) ++ r)[i * 128 + a]? = (dk.cells ob)[a]? := fun a ha => by
          have ha' : a < (dk.cells ob).length := by rw [List.length_map, hobl]; exact ha
          have h1 := dO a _ (List.getElem?_eq_getElem ha')
          rw [cell_of_row _ _ _ _ _ _ hM.row] at h1
          rw [List.getElem?_eq_getElem ha', ← h1]
          simp
        have hR2 := dk.torn_row _ (i * 128) ob xb q hobl hbl hR
        have htb := dk.torn_length q hobl hbl
        have hkl : dk.kept q ≤ 128 := by unfold dk.kept; omega
        generalize dk.torn ob xb q = tb at *
        have HST := Lib.hid hst
        obtain ⟨kq, hkq⟩ : ∃ kq, dk.kept q = kq := ⟨_, rfl⟩
        rw [hkq] at hR2 hkl
        have HR2 := Lib.hid hR2
        unfold dk.kept at hkq
        clear hR2 hst hlen hin hZ dN dB hv hq hI hold hR
        have hpb' : ∀ pb : Nat, pb < wr.heap.size → pb < (wr.alloc (.cells Z 64)).heap.size := fun pb h => by simp; omega
        have hcase2 : (∃ pb po, A = some ⟨pb, po, none⟩ ∧ j < n ∧ pb < wr.heap.size ∧ wr.cell? ⟨pb, po + j, none⟩ = some (.int .i64 q) ∧ q < 0 ∧ kq = 0) ∨
            (∃ pb po m, A = some ⟨pb, po, none⟩ ∧ j < n ∧ pb < wr.heap.size ∧ wr.cell? ⟨pb, po + j, none⟩ = some (.int .i64 q) ∧ q = ((m : Nat) : Int) ∧ m ≤ 128 ∧ kq = m) ∨
            (∃ pb po, A = some ⟨pb, po, none⟩ ∧ j < n ∧ pb < wr.heap.size ∧ wr.cell? ⟨pb, po + j, none⟩ = some (.int .i64 q) ∧ 128 < q ∧ kq = 128) ∨
            (¬ j < n ∧ kq = 0) := by
          rcases hcase with ⟨pb, po, h1, h2, h3, h4⟩ | ⟨h1, rfl⟩
          · by_cases hq0 : q < 0
            · exact .inl ⟨pb, po, h1, h2, h3, h4, hq0, by omega⟩
            · by_cases hq1 : q ≤ 128
              · exact .inr (.inl ⟨pb, po, q.toNat, h1, h2, h3, h4, by omega, by omega, by omega⟩)
              · exact .inr (.inr (.inl ⟨pb, po, h1, h2, h3, h4, by omega, by omega⟩))
          · exact .inr (.inr (.inr ⟨h1, by rw [← hkq]; rfl⟩))
        clear hcase hkq
        rcases hcase2 with ⟨pb, po, rfl, hjp, hpb, hpj, hq0, hkt⟩ | ⟨pb, po, m, rfl, hjp, hpb, hpj, rfl, hm, hkt⟩ | ⟨pb, po, rfl, hjp, hpb, hpj, hq0, hkt⟩ | ⟨hjp, hkt⟩
        all_goals
          try (have hm0 : ¬ (m : Int) < 0 := by omega)
          try (have hm1 : (m : Int) ≤ 128 := by omega)
          try (have hm2 : ¬ q < 0 := by omega)
          try (have hm3 : ¬ q ≤ 128 := by omega)
          try (have hpa := ((Chg.alloc wr (.cells Z 64) []).cell (a := ⟨pb, po + j, none⟩) hpb (by simp)).trans hpj)
          try (have hpb2 := hpb' pb hpb)
          try (have hne : pb ≠ wr.heap.size := by omega)
          go_wp2_with (first | refine wp_ldp (.tmp 18) ((i : Int), xb) dP hbl rfl rfl rfl ?_ | (refine wp_stp (.tmp 6) (.tmp 19) ((i : Int), xb) hnew zs hbl rfl rfl rfl rfl ?_; intro W hW hCW; try (have hpW := (hCW.cell (a := ⟨pb, po + j, none⟩) hpb2 (by simpa using hne)).trans hpa)))
          try (clear hpW)
          have hMW := hMa.keep (hCW.same (F := [wr.heap.size]) (G := dk.fp p g _) (fun a ha hm => by have := hM.there a hm; simp only [List.mem_singleton] at ha; omega) hMa.there)
          have hCC : Chg wr W (dk.fp p g (.slice (some ⟨k, 0, none⟩) s.L.length cap)) := (Chg.alloc wr _ (dk.fp p g _)).trans hCW (fun a ha => .inr (by simp only [List.mem_singleton] at ha; omega))
          have e0 : W.cell? ⟨wr.heap.size, 0, none⟩ = some (.int .i64 (i : Int)) := by rw [cell_of_row _ _ 0 _ _ _ hW]; rfl
          have e1 : W.rangeAt wr.heap.size 1 (dk.cells xb) := range_of hW 1 _ (fun a u ha => by rw [Nat.add_comm]; exact ha)
          have d0 := hMW.c0
          have hrow := hMW.row
          simp only [dk.tear_length] at d0
          simp only at hrow
          clear hnew hMa hW hCW
          go_still_tail 11, (by kernel_rfl)
          change wpList _ _ _ _ _ W.drew
          refine wpList_copy_own rfl (.tmp 38) (.tmp 40) 23 23 rfl 5 Tryd.underlying23 (by kernel_rfl) g (i * 128) _ 128 ⟨wr.heap.size, 1, none⟩ 128 128 rfl rfl _ _ (show W.drew.heap[g]? = _ from hrow) (dk.cells (xb.take kq)) ?_ ?_ ?_ ?_ ?_
          · (rw [List.length_map, List.length_take, hbl, hkt]) <;> first | rfl | exact Nat.min_comm _ _
          · intro a u ha
            have hadd : (⟨wr.heap.size, 1, none⟩ : Addr).add a = ⟨wr.heap.size, 1 + a, none⟩ := by unfold Addr.add; split <;> simp_all
            rw [hadd]
            refine e1 a u ?_
            rw [List.getElem?_map] at ha ⊢
            rw [List.getElem?_take] at ha
            split at ha
            · exact ha
            · simp at ha
          · simp only [List.size_toArray, List.length_map, List.length_take]
            omega
          · exact bvs_one _
          · have hset := setRow_heap W.drew g _ (((dk.cellsS (dk.tear s.S (s.L.take j) l) ++ r).toArray.toList.take (i * 128) ++ (dk.cells (xb.take kq) ++ (dk.cellsS (dk.tear s.S (s.L.take j) l) ++ r).toArray.toList.drop (i * 128 + (dk.cells (xb.take kq)).length))).toArray) _ _ (show W.drew.heap[g]? = _ from hrow)
            have hlk : (dk.cells (xb.take kq)).length = kq := by rw [List.length_map, List.length_take]; omega
            have hchg := Chg.setRow W.drew g (((dk.cellsS (dk.tear s.S (s.L.take j) l) ++ r).toArray.toList.take (i * 128) ++ (dk.cells (xb.take kq) ++ (dk.cellsS (dk.tear s.S (s.L.take j) l) ++ r).toArray.toList.drop (i * 128 + (dk.cells (xb.take kq)).length))).toArray)
            generalize W.drew.setRow g (((dk.cellsS (dk.tear s.S (s.L.take j) l) ++ r).toArray.toList.take (i * 128) ++ (dk.cells (xb.take kq) ++ (dk.cellsS (dk.tear s.S (s.L.take j) l) ++ r).toArray.toList.drop (i * 128 + (dk.cells (xb.take kq)).length))).toArray) = W2 at *
            rw [hlk, List.toList_toArray, HR2.out] at hset
            have hMW2 := hMW.drew.stored hiS htb hset hchg
            simp only at hMW2
            clear e0 e1 d0 hrow hrl hset
            go_wp2_with fail
            go_roundw
            case rel => exact ⟨j + 1, by omega, by go_num, by rw [HST.out]; exact hMW2, ((hC.trans hCC (Sub.refl _ _)).trans (Chg.drew _ (dk.fp p g _)) (Sub.refl _ _)).trans hchg dk.sub_g⟩
            case measure => simp [intOf]; omega
      · have d1 := hM.c1
        have f1 := hM.fz 1
        simp only [List.take_of_length_le (show s.L.length ≤ j from by omega)] at hM
        have hc1 := hM.clear_
        have g3 := hc1.c3
        have f3 := hc1.fz 3
        have g2 := hc1.c2
        have f2 := hc1.fz 2
        have hc2 := hc1.cut 0 (by omega)
        have g3' := hc2.c3
        have f3' := hc2.fz 3
        have hc3 := hc2.black false
        go_wp2_with fail
        go_ret
        exact ⟨rfl, _, hc3, ((hC.trans (Chg.setCell _ _ _ _) dk.sub_p).trans (Chg.setCell _ _ _ _) dk.sub_p).trans (Chg.setCell _ _ _ _) dk.sub_p, dk.sub_nil⟩
end Go.Proofs.YtknndmhkfonfmaaDoor

/-
  contract of the program's Copy.
-/
namespace Go.Proofs.YtknndmhkfonfmaaDoor
open Go.RowKit
variable {w : World} {p g c : Nat} {r : List Value} {v : Value} {s : dk.St}

theorem below_grown {w w' : World} {o : Obj} (h : (w.alloc o).grownBy w' (some w.heap.size)) : Below w.heap.size w w' :=
  ⟨h.os, h.tape, h.output, Nat.le_trans (by simp) h.size, fun k hk => (h.block k (by simp; omega) (fun e => by simp only [Option.some.injEq] at e; omega)).trans (Below.heap_alloc w o k hk)⟩
theorem addr_add (g j : Nat) : (⟨g, 0, none⟩ : Addr).add j = ⟨g, j, none⟩ := by unfold Addr.add; split <;> simp_all
theorem own_weak {w : World} {b b' : Nat} {e : TypeId} {size n : Nat} {v : Value} {xs : List Value} (h : w.ownsRow b e size v n xs) (hb : b' ≤ b) : w.ownsRow b' e size v n xs :=
  ⟨h.1, h.2.imp id fun ⟨k, cap, cur, hv, h1, rest⟩ => ⟨k, cap, cur, hv, Nat.le_trans hb h1, rest⟩⟩



end Go.Proofs.YtknndmhkfonfmaaDoor

/-
  THE PROGRAM's DISK AS A LAW SEES IT: a pointer, its blocks of memory (F), what it is (s).
-/
namespace Go.Proofs.YtknndmhkfonfmaaDoor
open Go.RowKit
variable {w w' : World} {F : List Nat} {d : Value} {s : dk.St}
def CD (w : World) (F : List Nat) (d : Value) (s : dk.St) : Prop := ∃ p g c r v, d = .pointer (some ⟨p, 0, none⟩) ∧ F = dk.fp p g v ∧ dk.M 48 62 64 w p g c r v s
theorem CD.there (h : CD w F d s) : Ther w F := by obtain ⟨p, g, c, r, v, rfl, rfl, hM⟩ := h; exact hM.there
theorem CD.keep (h : CD w F d s) (hs : Same w w' F) : CD w' F d s := by obtain ⟨p, g, c, r, v, rfl, rfl, hM⟩ := h; exact ⟨p, g, c, r, v, rfl, rfl, hM.keep hs⟩
theorem CD.below (h : CD w F d s) (hb : Below w.heap.size w w') : CD w' F d s := h.keep fun k hk => hb.block k (h.there k hk)
theorem CD.ok (h : CD w F d s) : s.Ok := by obtain ⟨p, g, c, r, v, rfl, rfl, hM⟩ := h; exact hM.ok
theorem CD.form (h : CD w F d s) : ∃ p, d = .pointer (some ⟨p, 0, none⟩) := by obtain ⟨p, g, c, r, v, rfl, rfl, hM⟩ := h; exact ⟨p, rfl⟩
theorem cd_blocks (h : CD w F d s) : Calls Tryd.prog 44 #[d] w fun e w' => e = .returned (.int .i64 s.S.length) ∧ w = w' := by
  obtain ⟨p, g, c, r, v, rfl, rfl, hM⟩ := h
  exact pblocks_any hM
theorem cd_dark (h : CD w F d s) : Calls Tryd.prog 12 #[d] w fun e w' => e = .returned (.bool s.black) ∧ w = w' := by
  obtain ⟨p, g, c, r, v, rfl, rfl, hM⟩ := h
  exact pdark_any hM
theorem cd_read (n : Int) (h : CD w F d s) : Calls Tryd.prog 42 #[d, .int .i64 n] w fun e w' => e = .returned (.tuple #[dk.val (dk.read s n).1, .int .i64 (dk.read s n).2]) ∧ Below w.heap.size w w' := by
  obtain ⟨p, g, c, r, v, rfl, rfl, hM⟩ := h
  exact pread_any n hM
theorem cd_arm (n : Int) (hn : n ≤ 9223372036854775807) (h : CD w F d s) : Calls Tryd.prog 8 #[d, .int .i64 n] w fun e w' => ∃ F', e = .returned (.int .i64 (dk.arm s n).1) ∧ CD w' F' d (dk.arm s n).2 ∧ Chg w w' F ∧ Sub w F' F := by
  obtain ⟨p, g, c, r, v, rfl, rfl, hM⟩ := h
  exact (parm_any n hn hM).mono fun e w' ⟨h1, h2, h3⟩ => ⟨_, h1, ⟨p, g, c, r, v, rfl, rfl, h2⟩, h3.mono dk.sub_p, Sub.refl _ _⟩
theorem cd_write (n : Int) (b : dk.Blk) (hb : b.length = 128) (h : CD w F d s) (hf : s.Few) : Calls Tryd.prog 37 #[d, .int .i64 n, dk.val b] w fun e w' => ∃ F', e = .returned (.int .i64 (dk.write s n b).1) ∧ CD w' F' d (dk.write s n b).2 ∧ Chg w w' F ∧ Sub w F' F := by
  obtain ⟨p, g, c, r, v, rfl, rfl, hM⟩ := h
  exact (pwrite_any n b hb hM (by have := hf.1; omega) (by have := hf.2; omega)).mono fun e w' ⟨v', h1, h2, h3, h4⟩ => ⟨_, h1, ⟨p, g, c, r, v', rfl, rfl, h2⟩, h3, h4⟩
theorem cd_flush (h : CD w F d s) (hf : s.Few) : Calls Tryd.prog 38 #[d] w fun e w' => ∃ F', e = .returned (.int .i64 (dk.flush s).1) ∧ CD w' F' d (dk.flush s).2 ∧ Chg w w' F ∧ Sub w F' F := by
  obtain ⟨p, g, c, r, v, rfl, rfl, hM⟩ := h
  exact (pflush_any hM (by have := hf.1; omega)).mono fun e w' ⟨v', h1, h2, h3, h4⟩ => ⟨_, h1, ⟨p, g, c, r, v', rfl, rfl, h2⟩, h3, h4⟩
theorem cd_crash (A : Option Addr) (n cp : Nat) (l : List Int) (hl : IS w A n cp l) (hA : 0 < n → ∀ b o, A = some ⟨b, o, none⟩ → b ∉ F) (h : CD w F d s) : Calls Tryd.prog 13 #[d, .slice A n cp] w fun e w' => ∃ F', e = .returned (.int .i64 0) ∧ CD w' F' d (dk.crash s l) ∧ Chg w w' F ∧ Sub w F' F := by
  obtain ⟨p, g, c, r, v, rfl, rfl, hM⟩ := h
  exact (pcrash_any A n cp l hl hA hM).mono fun e w' ⟨v', h1, h2, h3, h4⟩ => ⟨_, h1, ⟨p, g, c, r, v', rfl, rfl, h2⟩, h3, h4⟩
theorem cd_new (n : Nat) (h : 64 ≤ n) (h2 : n ≤ 4096) : Calls Tryd.prog 6 #[.int .i64 n] w fun e w' => ∃ F d, e = .returned (.tuple #[d, .int .i64 0]) ∧ CD w' F d (fresh n) ∧ Below w.heap.size w w' ∧ (∀ k ∈ F, w.heap.size ≤ k) := by
  refine (pnew_yes n h h2).mono fun e w' ⟨p, g, h1, h2, h3, h4, h5⟩ => ⟨_, _, h1, ⟨p, g, _, _, _, rfl, rfl, h2⟩, h3.below (Nat.le_refl _) (by simp), fun k hk => ?_⟩
  have : k = p ∨ k = g := by simpa [dk.fp, Value.ownBlock] using hk
  rcases this with rfl | rfl <;> assumption
theorem cd_no (n : Int) (h : n < 64 ∨ 4096 < n) : Calls Tryd.prog 6 #[.int .i64 n] w fun e w' => e = .returned (.tuple #[.pointer none, .int .i64 2]) ∧ w = w' := pnew_no n h
end Go.Proofs.YtknndmhkfonfmaaDoor

/-
  THE PROGRAM's journal: how great a bank is, where it begins, where a block ends, bytes none of which is set.
-/
namespace Go.Proofs.YtknndmhkfonfmaaDoor
open Go.RowKit Go.Shelf
variable {w w' : World} {F : List Nat} {d : Value} {s : dk.St}

theorem half_intP {s : dk.St} (h : s.Ok) : ((s.S.length : Int) - 2).tdiv 2 = (jn.half s : Int) := by
  have := h.some
  rw [Int.tdiv_eq_ediv_of_nonneg (by omega), jn.half]
  omega
theorem rd_lenP {s : dk.St} (h : s.Ok) (n : Int) : (jn.rd s n).length = 128 := by
  unfold jn.rd dk.read
  split
  · exact dk.look_len _ h.lenL _ _ (dk.getD_len h.lenS _)
  · exact List.length_replicate
set_option maxRecDepth 100000 in
theorem cj_size (h : CD w F d s) : Calls Tryd.prog 29 #[d] w fun e w' => e = .returned (.int .i64 (jn.half s)) ∧ w = w' := by
  have hh := half_intP h.ok
  have hok := h.ok
  have h64 := hok.some
  have hmost := hok.most
  have HB := Lib.hid (cd_blocks h)
  have hi : ((s.S.length : Int) - 2) / 2 = (jn.half s : Int) := by rw [← hh, Int.tdiv_eq_ediv_of_nonneg (by omega)]
  generalize s.S.length = n at *
  clear hok
  go_enter Tryd.func29, Tryd.ntmps29
  go_wp2_with fail
  refine HB.out.mono ?_
  rintro e w1 ⟨rfl, rfl⟩
  go_wp2_with fail
  go_ret
  exact ⟨ret_int (by first | rfl | exact hi | exact hh), rfl⟩
set_option maxRecDepth 100000 in
theorem cj_at (x : UInt8) (h : CD w F d s) : Calls Tryd.prog 41 #[d, bv x] w fun e w' => e = .returned (.int .i64 (jn.first s x)) ∧ w = w' := by
  have hh := jn.half_le h.ok
  have HB := Lib.hid (cj_size h)
  have hx := x.toNat_lt
  have hp : x.toNat * jn.half s ≤ 255 * 2047 := Nat.mul_le_mul (by omega) hh
  have hf : (2 : Int) + (x.toNat : Int) * (jn.half s : Int) = (jn.first s x : Int) := by rw [jn.first, Int.natCast_add, Int.natCast_mul]; rfl
  have hpi : (0 : Int) ≤ (x.toNat : Int) * (jn.half s : Int) ∧ (x.toNat : Int) * (jn.half s : Int) ≤ 521985 := by
    rw [← Int.natCast_mul]
    omega
  obtain ⟨hp0, hp1⟩ := hpi
  generalize jn.half s = m at *
  generalize (jn.first s x : Int) = y at *
  clear hp h
  generalize hz : (x.toNat : Int) * (m : Int) = z at *
  go_enter Tryd.func41, Tryd.ntmps41
  go_wp2_with fail
  refine HB.out.mono ?_
  rintro e w1 ⟨rfl, rfl⟩
  go_wp2_with fail
  go_ret
  exact ⟨ret_int (by first | exact hf | (rw [hz]; exact hf) | omega), rfl⟩
/-- where the block ends in which the n-th byte's fore-runner stands -/
theorem cj_end (n : Nat) (hn : n ≤ 281474976710656) (w : World) : Calls Tryd.prog 46 #[.int .i64 n] w fun e w' => e = .returned (.int .i64 ((n + jn.pad n : Nat) : Int)) ∧ w = w' := by
  have hp : n + jn.pad n = (n + 127) / 128 * 128 := jn.pad_fill n
  have hq : (((n : Int) + 128 - 1).tdiv 128) * 128 = ((n + jn.pad n : Nat) : Int) := by
    rw [hp, Int.tdiv_eq_ediv_of_nonneg (by omega)]
    omega
  have hq2 : (((n : Int) + 128 - 1) / 128) * 128 = ((n + jn.pad n : Nat) : Int) := by
    rw [hp]
    omega
  have h1 : (n + 127) / 128 ≤ 2199023255553 := by omega
  generalize n + jn.pad n = m at *
  clear hp
  go_enter Tryd.func46, Tryd.ntmps46
  go_wp2_with fail
  go_ret
  exact ⟨ret_int (by first | rfl | exact hq | exact hq2), rfl⟩
theorem cj_set (x : UInt8) (w : World) : Calls Tryd.prog 48 #[bv x] w fun e w' => e = .returned (.bool (x != 0)) ∧ w = w' := by
  have hx : ((x.toNat : Int) == 0) = (x == 0) := by
    by_cases h : x = 0
    · subst h; rfl
    · have h1 : ¬ (x.toNat : Int) = 0 := fun e => h (UInt8.toNat_inj.1 (by simpa using e))
      rw [beq_eq_false_iff_ne.2 h, beq_eq_false_iff_ne.2 h1]
  go_enter Tryd.func48, Tryd.ntmps48
  go_wp2_with fail
  go_ret
  refine ⟨?_, rfl⟩
  simp only [bne, hx]
  rfl
set_option maxHeartbeats 1000000 in
set_option maxRecDepth 100000 in
/-- where the first byte stands that is no 0 -/
theorem cj_index (A : Option Addr) (n c : Nat) (l : List UInt8) (w : World) (h : BS w A n c l) :
    Calls Tryd.prog 63 #[.slice A n c, .func (.func 48) #[] #[]] w fun e w' => ∃ r : Int, e = .returned (.int .i64 r) ∧ w = w' ∧ (0 ≤ r ↔ ∃ x ∈ l, x ≠ 0) := by
  have hl := h.len
  have hcap := h.cap
  have hmax := h.max
  have hen := enters_of Tryd.func48 (by kernel_rfl) rfl
  go_enter Tryd.func63, Tryd.ntmps63
  go_wp2_with fail
  go_loopw [8] (fun t wr => ∃ i : Nat, t = .int .i64 i ∧ i ≤ n ∧ (∀ x ∈ l.take i, x = 0) ∧ wr = w) (fun t _ => n - (intOf t).toNat)
  case atStart => exact ⟨0, rfl, by omega, (by simp), rfl⟩
  case round =>
    obtain ⟨i, rfl, hi, hz, rfl⟩ := hrel
    by_cases hlt : i < n
    · obtain ⟨b, o, rfl, hb, hc⟩ := h.has (by omega)
      have hci := hc i (by omega)
      have HS := Lib.hid (cj_set (l[i]'(by omega)) wr)
      have hmem : l[i]'(by omega) ∈ l := List.getElem_mem _
      have htk : l.take (i + 1) = l.take i ++ [l[i]'(by omega)] := by rw [List.take_add_one, List.getElem?_eq_getElem (by omega)]; rfl
      have HTK := Lib.hid htk
      clear hc htk
      generalize l[i]'(by omega) = x at *
      go_wp2_with fail
      refine HS.out.mono ?_
      rintro e w2 ⟨rfl, rfl⟩
      by_cases hx : x = 0
      · have hb : (x != 0) = false := by simp [hx]
        rw [hb]
        clear hb
        go_wp2_with fail
        go_roundw
        case rel =>
          refine ⟨i + 1, by go_num, by omega, ?_, (by first | rfl | trivial)⟩
          rw [HTK.out]
          intro y hy
          rcases List.mem_append.1 hy with hy | hy
          · exact hz y hy
          · simp at hy; rw [hy]; exact hx
        case measure => simp [intOf]; omega
      · have hb : (x != 0) = true := by simp [hx]
        rw [hb]
        clear hb
        have HX := Lib.hid hx
        clear hx
        go_wp2_with fail
        go_ret
        exact ⟨i, rfl, (by first | rfl | trivial), fun _ => ⟨x, hmem, HX.out⟩, fun _ => by omega⟩
    · obtain rfl : i = n := by omega
      go_wp2_with fail
      go_ret
      refine ⟨-1, rfl, (by first | rfl | trivial), fun h => by omega, ?_⟩
      rintro ⟨x, hx, h0⟩
      exact absurd (hz x (by rw [List.take_of_length_le (by omega)]; exact hx)) h0
set_option maxHeartbeats 1000000 in
set_option maxRecDepth 100000 in
theorem cj_any (A : Option Addr) (n c : Nat) (l : List UInt8) (w : World) (h : BS w A n c l) :
    Calls Tryd.prog 47 #[.slice A n c, .func (.func 48) #[] #[]] w fun e w' => e = .returned (.bool (l.any (· != 0))) ∧ w = w' := by
  have HI := Lib.hid (cj_index A n c l w h)
  clear h
  go_enter Tryd.func47, Tryd.ntmps47
  go_wp2_with fail
  refine HI.out.mono ?_
  rintro e w2 ⟨r, rfl, rfl, hr⟩
  have hq : decide (0 ≤ r) = l.any (· != 0) := by
    rw [Bool.eq_iff_iff, decide_eq_true_iff, hr]
    simp
  have HQ := Lib.hid hq
  clear hr hq
  go_wp2_with fail
  go_ret
  refine ⟨?_, rfl⟩
  rw [← HQ.out]
  try simp
end Go.Proofs.YtknndmhkfonfmaaDoor

/-
  ROWS OF BLOCKS of the call's own: read, appended to, made.
-/
namespace Go.Proofs.YtknndmhkfonfmaaDoor
open Go.RowKit

theorem own_lt {w : World} {base n size : Nat} {e : TypeId} {v : Value} {xs : List Value} (h : w.ownsRow base e size v n xs) : ∀ k, v.ownBlock = some k → k < w.heap.size := fun k hk => by
  rcases h.2 with ⟨rfl, _⟩ | ⟨g, _, _, rfl, _, hg, _⟩
  · simp [Value.ownBlock] at hk
  · simp only [Value.ownBlock, Option.some.injEq] at hk
    rw [← hk]
    exact (Array.getElem?_eq_some_iff.1 hg).1
theorem own_keepB {w w' : World} {base size n : Nat} {e : TypeId} {v : Value} {xs : List Value} (h : w.ownsRow base e size v n xs) (hs : ∀ k, v.ownBlock = some k → w'.heap[k]? = w.heap[k]?) : w'.ownsRow base e size v n xs :=
  ⟨h.1, h.2.imp id fun ⟨g, cap, cur, hv, hb, hg, h1⟩ => ⟨g, cap, cur, hv, hb, (hs g (by rw [hv]; rfl)).trans hg, h1⟩⟩
theorem own_blk {w : World} {base g n c : Nat} {e : TypeId} {S : List dk.Blk} (h : w.ownsRow base e 128 (.slice (some ⟨g, 0, none⟩) n c) n (dk.cellsS S)) (hn : n = S.length) (hS : ∀ b ∈ S, b.length = 128) {i : Nat} (hi : i < S.length) : w.rangeAt g (i * 128) (dk.cells S[i]) := fun j u hj => by
  have hj' : j < 128 := by
    have := (List.getElem?_eq_some_iff.1 hj).1
    rwa [List.length_map, hS _ (List.getElem_mem hi)] at this
  have h1 := flat_get 128 (S.map dk.cells) (fun x hx => by
    obtain ⟨b, hb, rfl⟩ := List.mem_map.1 hx
    rw [List.length_map]
    exact hS b hb) i (by simpa using hi) j hj'
  rw [List.getElem_map, hj] at h1
  have h2 : i * 128 + j < n * 128 := by
    have : (i + 1) * 128 ≤ n * 128 := Nat.mul_le_mul_right _ (by omega)
    omega
  rw [h.cellAt _ h2]
  exact h1
theorem fill_blk (b : dk.Blk) (hb : b.length = 128) (cs : Array Value) (hc : cs.size = 128) : Instr.fill (fun i => some (i * 128, 128)) cs [(0, dk.val b)] = some (dk.cells b).toArray :=
  dk.fill_one 128 cs (dk.cells b).toArray (by simpa using hb) hc
theorem info_parts5 {e : TypeId} {z : Value} {sz bt : Nat} (h : (Tryd.prog.info? e).map (fun i => (i.zero, i.size, i.bytes)) = some (some z, sz, bt)) : ∃ i, Tryd.prog.info? e = some i ∧ i.zero = some z ∧ i.size = sz ∧ i.bytes = bt := by
  cases hq : Tryd.prog.info? e with
  | none => simp [hq] at h
  | some i =>
    simp only [hq, Option.map_some, Option.some.injEq, Prod.mk.injEq] at h
    exact ⟨i, rfl, h.1, h.2.1, h.2.2⟩
theorem info_blk3' : (Tryd.prog.info? 62).map (fun i => (i.zero, i.size, i.bytes)) = some (some (dk.val dk.zero), 128, 128) := by kernel_rfl

section
variable {ops : Array Oper} {rest : List Oper} {o : Oper} {a : Act} {w : World} {Q : Exit → Act → World → Prop}
/-- one block, as a row of one -/
theorem wp_bs1 (x : Operand) (b : dk.Blk) (hb : b.length = 128) (hg : o.guard = none) (ho : o.op = .buildSlice 45 1 #[(0, x)]) (hx : a.eval x = dk.val b)
    (h : wpList Tryd.prog ops Q rest (a.put o.dst (.slice (some ⟨w.heap.size, 0, none⟩) 1 1)) (w.alloc (.cells (dk.cells b).toArray 62))) : wpList Tryd.prog ops Q (o :: rest) a w := by
  obtain ⟨i0, hi0, hz0, hs0, _⟩ := info_parts5 info_blk3'
  refine wpList_buildSlice hg 45 62 1 _ ho (dk.cells b).toArray i0 _ Tryd.underlying45 hi0 hz0 (by rw [hs0]; omega) (by rw [hs0]; omega) ?_ h
  rw [hs0]
  simp only [List.map_toArray, List.map_cons, List.map_nil, hx]
  exact fill_blk b hb _ (by rw [Array.size_map, Array.size_range])
/-- one block is appended -/
theorem wp_apb (x y : Operand) {v : Value} {n : Nat} {S : List dk.Blk} {B : Nat} {b : dk.Blk} {base : Nat} (hown : w.ownsRow base 62 128 v n (dk.cellsS S)) (hbase : base ≤ w.heap.size) (hB : w.heap[B]? = some (.cells (dk.cells b).toArray 62 (0, 0))) (hb : b.length = 128) (hn : n ≤ 1048576) (hgd : o.guard = none)
    (ho : o.op = .call { callee := .builtin .append, args := #[x, y], argTypes := #[45, 45] }) (hx : a.eval x = v) (hy : a.eval y = .slice (some ⟨B, 0, none⟩) 1 1)
    (h : ∀ g cap W', W'.ownsRow base 62 128 (.slice (some ⟨g, 0, none⟩) (n + 1) cap) (n + 1) (dk.cellsS (S ++ [b])) → w.grownBy W' v.ownBlock → (v.ownBlock = some g ∨ g = w.heap.size) → g < W'.heap.size → wpList Tryd.prog ops Q rest (a.put o.dst (.slice (some ⟨g, 0, none⟩) (n + 1) cap)) W') : wpList Tryd.prog ops Q (o :: rest) a w := by
  obtain ⟨i0, hi0, hz0, hs0, hb0⟩ := info_parts5 info_blk3'
  refine wpList_append_lies w hgd x y 45 ho base 62 i0 _ 128 128 Tryd.underlying45 hi0 hz0 hs0 hb0 (by simp [Value.cells, zero_len]) (by omega) v n _ hx hown ⟨B, 0, none⟩ 1 1 (dk.cells b) hy (by rw [List.length_map, hb]) ?_ (bvs_one b) (by omega) (by rw [maxLen_eq]; omega) (by omega) hbase _ rfl ?_
  · have := World.news_of_block hB
    simpa using this
  · intro g cap W' h1 h2 h3 h4
    refine h g cap W' ?_ h2 h3 h4
    have e : dk.cellsS (S ++ [b]) = dk.cellsS S ++ dk.cells b := by simp [dk.cellsS]
    rw [e]
    exact h1
end
end Go.Proofs.YtknndmhkfonfmaaDoor

/-
  THE PROGRAM's journal: so many blocks, read one behind the other.
-/
namespace Go.Proofs.YtknndmhkfonfmaaDoor
open Go.RowKit Go.Shelf
variable {w w' : World} {F : List Nat} {d : Value} {s : dk.St}

/-- a row of blocks, known whole -/
def RowBl (w : World) (g : Nat) (l : List dk.Blk) : Prop := w.heap[g]? = some (.cells (dk.cellsS l).toArray 62 (0, 0))
namespace RowBl
variable {g : Nat} {l : List dk.Blk}
theorem lt (h : RowBl w g l) : g < w.heap.size := (Array.getElem?_eq_some_iff.1 h).1
theorem below {B : Nat} (h : RowBl w g l) (hb : Below B w w') (hg : g < B) : RowBl w' g l := (hb.block g hg).trans h
theorem chg {F : List Nat} (h : RowBl w g l) (hc : Chg w w' F) (hg : g ∉ F) : RowBl w' g l := (hc.block g h.lt hg).trans h
theorem range (h : RowBl w g l) (hl : ∀ b ∈ l, b.length = 128) {i : Nat} (hi : i < l.length) : w.rangeAt g (i * 128) (dk.cells l[i]) :=
  range_of h _ _ fun j v hv => by
    have hj : j < 128 := by
      have := (List.getElem?_eq_some_iff.1 hv).1
      rwa [List.length_map, hl _ (List.getElem_mem hi)] at this
    have h1 := flat_get 128 (l.map dk.cells) (fun x hx => by
      obtain ⟨b, hb, rfl⟩ := List.mem_map.1 hx
      rw [List.length_map]
      exact hl b hb) i (by simpa using hi) j hj
    rw [List.getElem_map, hv] at h1
    exact h1
theorem cells_length (hl : ∀ b ∈ l, b.length = 128) : (dk.cellsS l).length = l.length * 128 := by
  induction l with
  | nil => rfl
  | cons x r ih =>
    have := ih fun b hb => hl b (List.mem_cons_of_mem _ hb)
    simp only [dk.cellsS, List.map_cons, List.flatten_cons, List.length_append, List.length_map, List.length_cons] at this ⊢
    rw [this, hl x (List.mem_cons_self ..)]
    omega
/-- one of its blocks is another one -/
theorem set_ {W : World} (hl : ∀ b ∈ l, b.length = 128) {i : Nat} (hi : i < l.length) {b : dk.Blk} (hb : b.length = 128)
    (h : W.heap[g]? = some (.cells ((dk.cellsS l).take (i * 128) ++ dk.cells b ++ (dk.cellsS l).drop (i * 128 + 128)).toArray 62 (0, 0))) : RowBl W g (l.set i b) := by
  have e := flat_set 128 (l.map dk.cells) (fun x hx => by
    obtain ⟨b, hb, rfl⟩ := List.mem_map.1 hx
    rw [List.length_map]
    exact hl b hb) i (by simpa using hi) (dk.cells b) (by rw [List.length_map]; exact hb)
  rw [RowBl, h]
  unfold dk.cellsS
  rw [e, ← List.map_set]
end RowBl
namespace jn
/-- the blocks of a disk from a place on -/
def rds (s : St) (a k : Nat) : List Blk := (List.range k).map fun i => rd s ((a + i : Nat) : Int)
def rdsTo (s : St) (a k i : Nat) : List Blk := rds s a i ++ List.replicate (k - i) dk.zero
theorem rds_length (s : St) (a k : Nat) : (rds s a k).length = k := by simp [rds]
theorem rdsTo_length (s : St) (a : Nat) {k i : Nat} (h : i ≤ k) : (rdsTo s a k i).length = k := by rw [rdsTo, List.length_append, rds_length, List.length_replicate]; omega
theorem rdsTo_zero (s : St) (a k : Nat) : rdsTo s a k 0 = List.replicate k dk.zero := rfl
theorem rdsTo_all (s : St) (a k : Nat) : rdsTo s a k k = rds s a k := by simp [rdsTo]
theorem rds_snoc (s : St) (a i : Nat) : rds s a (i + 1) = rds s a i ++ [rd s ((a + i : Nat) : Int)] := by simp [rds, List.range_succ]
theorem rdsTo_set (s : St) (a : Nat) {k i : Nat} (h : i < k) : (rdsTo s a k i).set i (rd s ((a + i : Nat) : Int)) = rdsTo s a k (i + 1) := by
  unfold rdsTo
  rw [List.set_append_right _ _ (by rw [rds_length]; omega), rds_length, Nat.sub_self, show k - i = (k - (i + 1)) + 1 from by omega, List.replicate_succ, List.set_cons_zero, rds_snoc]
  simp
theorem rds_len {s : St} (h : s.Ok) (a k : Nat) : ∀ b ∈ rds s a k, b.length = 128 := by
  intro b hb
  obtain ⟨i, _, rfl⟩ := List.mem_map.1 hb
  exact rd_lenP h _
theorem rdsTo_len {s : St} (h : s.Ok) (a k i : Nat) : ∀ b ∈ rdsTo s a k i, b.length = 128 := by
  intro b hb
  rcases List.mem_append.1 hb with hb | hb
  · exact rds_len h a i b hb
  · rw [(List.mem_replicate.1 hb).2]; rfl
end jn
set_option maxHeartbeats 4000000 in
set_option maxRecDepth 100000 in
/-- so many blocks are there, in the light; or none is asked for -/
theorem cj_read (a k : Nat) (ha : a ≤ 4096) (hk : a + k ≤ s.S.length) (h : CD w F d s) (hl : s.black = false ∨ k = 0) :
    Calls Tryd.prog 27 #[d, .int .i64 a, .int .i64 k] w fun e w' => e = .returned (.tuple #[.slice (some ⟨w.heap.size, 0, none⟩) k k, .int .i64 0]) ∧ RowBl w' w.heap.size (jn.rds s a k) ∧ Below w.heap.size w w' := by
  obtain ⟨hz, -⟩ := zero_of_info zero_blk
  have hok := h.ok
  have hmost := hok.most
  obtain ⟨i0, hi0, hz0, hs0, hb0⟩ := info_parts5 info_blk3'
  have hmk := fun W => run_make (P := Tryd.prog) W 45 62 i0 _ Tryd.underlying45 hi0 hz0 .i64 .i64 (k : Int) (k : Int) (by omega) (by omega) (by rw [hb0]; omega) (by omega)
  rw [hs0, Int.toNat_natCast] at hmk
  simp only [made_blocks] at hmk
  have hr := heap_alloc_new w (.cells (dk.cellsS (List.replicate k dk.zero)).toArray 62)
  have hb : Below w.heap.size w (w.alloc (.cells (dk.cellsS (List.replicate k dk.zero)).toArray 62)) := (Below.refl _ _).alloc (Nat.le_refl _) _
  rw [← jn.rdsTo_zero s a k] at hmk hr hb
  have HST := Lib.hid (fun i => @jn.rdsTo_set s a k i)
  have HLN := Lib.hid (fun i => @jn.rdsTo_length s a k i)
  have HL := Lib.hid (jn.rdsTo_len hok a k)
  have HALL := Lib.hid (jn.rdsTo_all s a k)
  have HRL := Lib.hid (fun i => rd_lenP hok ((a + i : Nat) : Int))
  have HR := Lib.hid (fun W i (hb : Below w.heap.size w W) => cd_read ((a + i : Nat) : Int) (h.below hb))
  have herr : ∀ i, i < k → (dk.read s ((a + i : Nat) : Int)).2 = 0 := by
    intro i hi
    have hbl : s.black = false := hl.resolve_right (by omega)
    have hq : dk.asks s ((a + i : Nat) : Int) = 0 := by
      unfold dk.asks
      rw [if_neg (by rw [hbl]; simp), if_neg (by omega)]
    unfold dk.read
    rw [if_pos hq]
  have HERR := Lib.hid herr
  have hrd : ∀ i, (dk.read s ((a + i : Nat) : Int)).1 = jn.rd s ((a + i : Nat) : Int) := fun i => rfl
  have HRD := Lib.hid hrd
  clear herr hrd
  generalize jn.rdsTo s a k = T at *
  have hT0 : (T 0).length = k := HLN.out 0 (by omega)
  obtain ⟨C, hC⟩ : ∃ C, (dk.cellsS (T 0)).toArray = C := ⟨_, rfl⟩
  have hrow : RowBl (w.alloc (.cells C 62)) w.heap.size (T 0) := by rw [RowBl, hC]; rw [hC] at hr; exact hr
  rw [hC] at hmk hb
  clear hC hr h hok hl
  go_enter Tryd.func27, Tryd.ntmps27
  go_wp2_with fail
  go_loopw [16] (fun t wr => ∃ i : Nat, t = .int .i64 i ∧ i ≤ k ∧ RowBl wr w.heap.size (T i) ∧ Below w.heap.size w wr) (fun t _ => k - (intOf t).toNat)
  case atStart => exact ⟨0, rfl, by omega, hrow, hb⟩
  case round =>
    clear hrow hb
    obtain ⟨i, rfl, hi, hrow, hb⟩ := hrel
    by_cases hlt : i < k
    · have hR := HR.out wr i hb
      rw [HRD.out i, HERR.out i hlt] at hR
      have HR' := Lib.hid hR
      have hbl := HRL.out i
      have hst := HST.out i hlt
      have hln := HLN.out i hi
      have hlen := HL.out i
      generalize jn.rd s ((a + i : Nat) : Int) = b at *
      have HS := Lib.hid hst
      have hai : (a : Int) + (i : Int) = ((a + i : Nat) : Int) := by omega
      have HAI := Lib.hid hai
      clear hR hst hai
      go_wp2_with fail
      first | rw [HAI.out] | skip
      refine HR'.out.mono ?_
      rintro e w2 ⟨rfl, b2⟩
      have hb2 := hb.trans (b2.mono hb.size)
      have hrow2 := hrow.below b2 hrow.lt
      have n2 := heap_alloc_new w2 (.cells (dk.cells dk.zero).toArray 62)
      obtain ⟨X, hX⟩ : ∃ X, w2.heap.size = X := ⟨_, rfl⟩
      have hrow3 : RowBl (w2.alloc (.cells (dk.cells dk.zero).toArray 62)) w.heap.size (T i) := (Below.heap_alloc _ _ _ hrow2.lt).trans hrow2
      have hne : w.heap.size ≠ X := fun e => by have := hrow2.lt; omega
      have hb3 := hb2.alloc hb2.size (.cells (dk.cells dk.zero).toArray 62)
      have hclen := RowBl.cells_length hlen
      rw [hX] at n2
      have hwX : w.heap.size ≤ X := by have := hb2.size; omega
      have hin : i * 128 + 128 ≤ (dk.cellsS (T i)).length := by rw [hclen, hln]; omega
      clear hrow hb b2 hb2 hrow2 hclen
      go_wp2_with (first
        | (refine wp_st0 (.tmp 10) (.tmp 25) b n2 zero_len hbl rfl rfl rfl rfl ?_; intro w3 W3 c3; have hrow4 := hrow3.chg c3 (by simp; exact hne); have hb4 := hb3.trans (c3.below (B := w.heap.size) hb3.size (fun k hk => by simp at hk; omega)); have g3 := blk_range W3; clear n2 hb3 hrow3)
        | refine wp_ld (.tmp 10) b g3 hbl rfl rfl rfl ?_
        | (refine wp_st (.tmp 33) (.tmp 32) b (show w3.heap[w.heap.size]? = _ from hrow4) hin hbl rfl rfl rfl rfl ?_; intro w5 W5 c5))
      have hrow5 := RowBl.set_ hlen (by omega) hbl W5
      rw [HS.out] at hrow5
      have hb5 := hb4.trans (c5.below (B := w.heap.size) hb4.size (fun k hk => by simp at hk; omega))
      clear hrow4 hb4 g3 W3 W5 c3 c5 hne hwX hX hlen hin
      go_wp2_with fail
      go_roundw
      case rel => exact ⟨i + 1, by go_num, by omega, hrow5, hb5⟩
      case measure => simp [intOf]; omega
    · obtain rfl : i = k := by omega
      go_wp2_with fail
      go_ret2
      rw [HALL.out] at hrow
      exact ⟨rfl, hrow, hb⟩
set_option maxHeartbeats 4000000 in
set_option maxRecDepth 100000 in
/-- the first of them is refused -/
theorem cj_read_no (d : Value) (a k : Nat) (ha : a ≤ 4096) (hk : 0 < k) (hk2 : k ≤ 4096) (r : Int) (hr : ¬ r = 0)
    (HD : ∀ W, Below w.heap.size w W → Calls Tryd.prog 42 #[d, .int .i64 a] W fun e w' => ∃ b : dk.Blk, b.length = 128 ∧ e = .returned (.tuple #[dk.val b, .int .i64 r]) ∧ Below W.heap.size W w') :
    Calls Tryd.prog 27 #[d, .int .i64 a, .int .i64 k] w fun e w' => e = .returned (.tuple #[.slice none 0 0, .int .i64 r]) ∧ Below w.heap.size w w' := by
  obtain ⟨hz, -⟩ := zero_of_info zero_blk
  obtain ⟨i0, hi0, hz0, hs0, hb0⟩ := info_parts5 info_blk3'
  have hmk := fun W => run_make (P := Tryd.prog) W 45 62 i0 _ Tryd.underlying45 hi0 hz0 .i64 .i64 (k : Int) (k : Int) (by omega) (by omega) (by rw [hb0]; omega) (by omega)
  rw [hs0, Int.toNat_natCast] at hmk
  simp only [made_blocks] at hmk
  have hb : Below w.heap.size w (w.alloc (.cells (dk.cellsS (List.replicate k dk.zero)).toArray 62)) := (Below.refl _ _).alloc (Nat.le_refl _) _
  have HR := Lib.hid (HD _ hb)
  obtain ⟨W1, hW1⟩ : ∃ W1, w.alloc (.cells (dk.cellsS (List.replicate k dk.zero)).toArray 62) = W1 := ⟨_, rfl⟩
  rw [hW1] at HR hb
  have hne : (r != 0) = true := by simpa using hr
  obtain ⟨C, hC⟩ : ∃ C, (dk.cellsS (List.replicate k dk.zero)).toArray = C := ⟨_, rfl⟩
  rw [hC] at hmk hW1
  have HRR := Lib.hid hr
  clear hC hr HD
  go_enter Tryd.func27, Tryd.ntmps27
  go_wp2_with fail
  clear hW1 hmk
  go_loopw [16] (fun t wr => t = .int .i64 0 ∧ wr = W1) (fun t _ => 0)
  case atStart => exact ⟨rfl, rfl⟩
  case round =>
    obtain ⟨rfl, rfl⟩ := hrel
    go_wp2_with fail
    refine HR.out.mono ?_
    rintro e w2 ⟨b, hbl, rfl, b2⟩
    have hb2 := hb.trans (b2.mono hb.size)
    have n2 := heap_alloc_new w2 (.cells (dk.cells dk.zero).toArray 62)
    have hb3 := hb2.alloc hb2.size (.cells (dk.cells dk.zero).toArray 62)
    have hsz := hb2.size
    obtain ⟨X, hX⟩ : ∃ X, w2.heap.size = X := ⟨_, rfl⟩
    rw [hX] at n2
    clear hb b2 hb2 HR
    go_wp2_with (refine wp_st0 (.tmp 10) (.tmp 25) b n2 zero_len hbl rfl rfl rfl rfl ?_; intro w3 W3 c3; have hb4 := hb3.trans (c3.below (B := w.heap.size) hb3.size (fun k hk => by simp at hk; omega)); clear n2 hb3)
    go_ret2
    exact ⟨rfl, hb4⟩
end Go.Proofs.YtknndmhkfonfmaaDoor

/-
  contracts of cardexref07: bank, first, read, newest.
-/
namespace Go.Proofs.YtknndmhkfonfmaaDoor
open Go.RowKit

theorem half_int {s : dk.St} (h : s.Ok) : ((s.S.length : Int) - 2).tdiv 2 = (jn.half s : Int) := by
  have := h.some
  rw [Int.tdiv_eq_ediv_of_nonneg (by omega), jn.half]
  omega
theorem rd_len {s : dk.St} (h : s.Ok) (n : Int) : (jn.rd s n).length = 128 := by
  unfold jn.rd dk.read
  split
  · exact dk.look_len _ h.lenL _ _ (dk.getD_len h.lenS _)
  · exact List.length_replicate
end Go.Proofs.YtknndmhkfonfmaaDoor

/-
  WHAT THE SECOND FORM's BOUND GIVES: a byte slice among the arguments has at most so many letters.
-/
namespace Go.Proofs.YtknndmhkfonfmaaDoor.bulks

theorem pos {H : Type} (d : DataW H) : 1 ≤ Rows.uptoBulk d := by
  cases d with
  | lit l => cases l <;> simp [Rows.uptoBulk]
  | _ => simp [Rows.uptoBulk]
theorem many {H : Type} : ∀ l : List (DataW H), l.length ≤ Rows.uptoBulkAll l
  | [] => by simp
  | d :: r => by
    have h1 := pos d
    have h2 := many r
    simp only [Rows.uptoBulkAll, List.length_cons]
    omega
theorem one_of {H : Type} : ∀ (l : List (DataW H)) (j : Nat) (d : DataW H), l[j]? = some d → Rows.uptoBulk d ≤ Rows.uptoBulkAll l
  | [], _, _, h => by simp at h
  | x :: r, 0, d, h => by
    simp only [List.getElem?_cons_zero, Option.some.injEq] at h
    subst h
    simp only [Rows.uptoBulkAll]
    omega
  | x :: r, j + 1, d, h => by
    simp only [List.getElem?_cons_succ] at h
    have := one_of r j d h
    simp only [Rows.uptoBulkAll]
    omega
theorem bound {H : Type} {l : List (DataW H)} (hk : Rows.uptoSmall H l = true) : Rows.uptoBulkAll l ≤ 1048576 := of_decide_eq_true hk
theorem bytes_le {H : Type} {l : List (DataW H)} (hk : Rows.uptoSmall H l = true) {j : Nat} {d : DataW H} {A : Option Addr} {n : Nat} (hd : l[j]? = some d)
    (hs : A = none ∧ n = 0 ∨ ∃ elems spare, d = .slice elems spare ∧ elems.length = n) : n ≤ 1048576 := by
  rcases hs with ⟨_, rfl⟩ | ⟨elems, spare, rfl, rfl⟩
  · omega
  · have h1 := one_of l j _ hd
    have h2 := bound hk
    have h3 := many elems
    simp only [Rows.uptoBulk] at h1
    omega
theorem string_le {H : Type} {l : List (DataW H)} (hk : Rows.uptoSmall H l = true) {j : Nat} {x : List UInt8} (hd : l[j]? = some (.lit (.string x))) : x.length ≤ 1048576 := by
  have h1 := one_of l j _ hd
  have h2 := bound hk
  simp only [Rows.uptoBulk] at h1
  omega

end Go.Proofs.YtknndmhkfonfmaaDoor.bulks
