/-
  PURE: a journal where no cut is to come: nothing fails; a journal that is made; what is refused for room.
-/
import Derived.Test.YthddcaoolaipiaaGreatDoorM2
import Derived.Test.YthddcaoolaipiaaGreatDoorM1
import Derived.Laws.CopyOwn
import Derived.Deep.AppendLies
import Derived.Deep.RegionHeldLaw
import Derived.Great.BuildSlice
namespace Go.Proofs.YthddcaoolaipiaaGreatDoor
namespace jn
/-- in the light, and no cut is to come -/
structure Calm (s : St) : Prop where
  light : s.black = false
  cut : s.cut = 0
theorem step_calm {s : St} (h : Calm s) : (dk.step s).1 = 0 ∧ Calm (dk.step s).2 := by
  have e : dk.step s = (0, { s with cut := 0, many := s.many + 1 }) := by
    unfold dk.step
    rw [h.cut, if_neg (by decide), if_neg (by decide)]
  rw [e]
  exact ⟨rfl, h.light, rfl⟩
theorem write_calm {s : St} (h : Calm s) (n : Int) (b : Blk) : (dk.write s n b).1 ≠ 9 ∧ Calm (dk.write s n b).2 := by
  have hs := step_calm h
  unfold dk.write
  split
  · rw [if_pos hs.1]
    exact ⟨show (0 : Int) ≠ 9 by decide, hs.2.light, hs.2.cut⟩
  · next hq =>
    refine ⟨?_, h⟩
    unfold dk.asks at hq ⊢
    rw [if_neg (by rw [h.light]; decide)] at hq ⊢
    split
    · exact show (2 : Int) ≠ 9 by decide
    · next h2 => rw [if_neg h2] at hq; exact absurd rfl hq
theorem flush_calm {s : St} (h : Calm s) : (dk.flush s).1 ≠ 9 ∧ Calm (dk.flush s).2 := by
  have hs := step_calm h
  unfold dk.flush
  rw [if_neg (by rw [h.light]; decide), if_pos hs.1]
  exact ⟨show (0 : Int) ≠ 9 by decide, hs.2.light, hs.2.cut⟩
theorem writes_calm : ∀ (l : List Blk) {s : St} (at_ : Nat), Calm s → (writes s at_ l).1 ≠ 9 ∧ Calm (writes s at_ l).2
  | [], _, _, h => ⟨by simp [jn.writes], h⟩
  | b :: r, s, at_, h => by
    have hw := write_calm h (at_ : Int) b
    simp only [jn.writes]
    split
    · exact writes_calm r (at_ + 1) hw.2
    · exact hw
theorem layH_calm {t : St} (h : Calm t) (k : hd.H) : (layH t k).1 ≠ 9 ∧ Calm (layH t k).2 := by
  have hw := write_calm h (sl.next (rd t 0) (rd t 1)) (hd.put ((jn.newest t).1 + 1) k).1
  unfold jn.layH
  split
  · exact flush_calm hw.2
  · exact hw
theorem lay_calm {s : St} (h : Calm s) (at_ : Nat) (l : List Blk) (k : hd.H) : (lay s at_ l k).1 ≠ 9 ∧ Calm (lay s at_ l k).2 := by
  have h1 := writes_calm l at_ h
  have h2 := flush_calm h1.2
  unfold jn.lay
  split
  · split
    · exact layH_calm h2.2 k
    · exact h2
  · exact h1
/-- what there is room for is laid behind the others -/
theorem append_calm {s : St} {c N : Nat} {h : hd.H} {was : List (List UInt8)} (g : Good s c N h was) (hc : s.cut = 0) (hn : hd.num (N + 1) = true) (b : List UInt8) (hb : b.length ≤ 1048576) (hroom : h.blocks + (blocks b).length ≤ half s) :
    (append s h b).1 = 0 ∧ Good (append s h b).2 (1 - c) (N + 1) (appendH h b) (was ++ [b]) ∧ (append s h b).2.S.length = s.S.length ∧ (append s h b).2.many = s.many + (blocks b).length + 3 ∧ (append s h b).2.cut = 0 := by
  obtain ⟨e, h1 | h1⟩ := append_cases g hn b hb hroom
  · have h2 := lay_calm ⟨g.light, hc⟩ (first s h.bank + h.blocks) (blocks b) (appendH h b)
    rw [← e] at h2
    exact ⟨h1.1, h1.2.1, h1.2.2.1, h1.2.2.2, h2.2.cut⟩
  · have h2 := lay_calm ⟨g.light, hc⟩ (first s h.bank + h.blocks) (blocks b) (appendH h b)
    rw [← e] at h2
    exact absurd h1.1 h2.1
/-- what there is no room for is refused -/
theorem append_full {s : St} {c N : Nat} {h : hd.H} {was : List (List UInt8)} (g : Good s c N h was) (b : List UInt8) (hb : b.length ≤ 1048576) (hroom : half s < h.blocks + (blocks b).length) : append s h b = (10, s) := by
  unfold jn.append
  rw [if_neg (by omega), if_neg (by rw [g.light]; simp), if_pos hroom]
theorem replace_calm {s : St} {c N : Nat} {h : hd.H} {was : List (List UInt8)} (g : Good s c N h was) (hc : s.cut = 0) (hn : hd.num (N + 1) = true) (b : List UInt8) (hb : b.length ≤ 1048576) (hroom : (blocks b).length ≤ half s) :
    (replace s h b).1 = 0 ∧ Good (replace s h b).2 (1 - c) (N + 1) (replaceH h b) [b] ∧ (replace s h b).2.S.length = s.S.length ∧ (replace s h b).2.many = s.many + (blocks b).length + 3 ∧ (replace s h b).2.cut = 0 := by
  obtain ⟨e, h1 | h1⟩ := replace_cases g hn b hb hroom
  · have h2 := lay_calm ⟨g.light, hc⟩ (first s (1 - h.bank)) (blocks b) (replaceH h b)
    rw [← e] at h2
    exact ⟨h1.1, h1.2.1, h1.2.2.1, h1.2.2.2, h2.2.cut⟩
  · have h2 := lay_calm ⟨g.light, hc⟩ (first s (1 - h.bank)) (blocks b) (replaceH h b)
    rw [← e] at h2
    exact absurd h1.1 h2.1
theorem replace_full {s : St} {c N : Nat} {h : hd.H} {was : List (List UInt8)} (g : Good s c N h was) (b : List UInt8) (hb : b.length ≤ 1048576) (hroom : half s < (blocks b).length) : replace s h b = (10, s) := by
  unfold jn.replace
  rw [if_neg (by omega), if_neg (by rw [g.light]; simp), if_pos hroom]
theorem newest_zero : hd.newest dk.zero dk.zero = (0, hd.zero, 7) := hd.newest_none (by decide +kernel) (by decide +kernel)
theorem next_zero : sl.next dk.zero dk.zero = 0 := by decide +kernel
/-- a journal that is made -/
theorem make_good {s : St} (ok : s.Ok) (hL : s.L = []) (hq : Calm s) :
    (make s).1 = 0 ∧ Good (make s).2 0 1 hd.zero [] ∧ (make s).2.S.length = s.S.length ∧ (make s).2.many = s.many + 5 ∧ (make s).2.cut = 0 := by
  have h64 := ok.some
  have he : make s = lay s 0 [dk.zero, dk.zero] hd.zero := by
    unfold jn.make
    rw [if_neg (by rw [hq.light]; simp)]
  have hzz : ∀ b ∈ [dk.zero, dk.zero], b.length = 128 := fun b hb => by
    simp at hb
    rw [hb]
    exact List.length_replicate
  have hok : (make s).2.Ok := by rw [he]; exact Ok.lay ok 0 hzz hd.zero
  have hcalm := lay_calm hq 0 [dk.zero, dk.zero] hd.zero
  rw [← he] at hcalm
  have hwc := writes_calm [dk.zero, dk.zero] 0 hq
  have hw : (writes s 0 [dk.zero, dk.zero]).1 = 0 ∧ (writes s 0 [dk.zero, dk.zero]).2.black = false ∧ (writes s 0 [dk.zero, dk.zero]).2.S = s.S ∧ (writes s 0 [dk.zero, dk.zero]).2.L = [(0, dk.zero), (1, dk.zero)] ∧ (writes s 0 [dk.zero, dk.zero]).2.many = s.many + 2 := by
    rcases writes_cases [dk.zero, dk.zero] s 0 hq.light (by simp; omega) hzz with ⟨w1, w2, w3, w4, w5⟩ | ⟨w1, _⟩
    · exact ⟨w1, w2, w3, by rw [w4, hL]; rfl, by rw [w5]; rfl⟩
    · exact absurd w1 hwc.1
  have hfc := flush_calm hwc.2
  have hf : (dk.flush (writes s 0 [dk.zero, dk.zero]).2).1 = 0 ∧ (dk.flush (writes s 0 [dk.zero, dk.zero]).2).2.S = (s.S.set 0 dk.zero).set 1 dk.zero ∧ (dk.flush (writes s 0 [dk.zero, dk.zero]).2).2.L = [] ∧ (dk.flush (writes s 0 [dk.zero, dk.zero]).2).2.many = s.many + 3 := by
    rcases flush_cases hw.2.1 with ⟨f1, f2, f3, f4, f5⟩ | ⟨f1, _⟩
    · exact ⟨f1, by rw [f3, hw.2.2.1, hw.2.2.2.1]; rfl, f4, by rw [f5, hw.2.2.2.2]; omega⟩
    · exact absurd f1 hfc.1
  have hl : make s = layH (dk.flush (writes s 0 [dk.zero, dk.zero]).2).2 hd.zero := by
    rw [he]
    unfold jn.lay
    rw [if_pos hw.1, if_pos hf.1]
  obtain ⟨-, f3, f4, f5⟩ := hf
  have hcf := hfc.2
  rw [hl] at hok hcalm ⊢
  generalize (dk.flush (writes s 0 [dk.zero, dk.zero]).2).2 = t at *
  have ht64 : t.S.length = s.S.length := by rw [f3]; simp
  have g0 : t.S.getD 0 dk.zero = dk.zero := by
    rw [f3, getD_set_ne (by decide), getD_set_eq (by omega)]
  have g1 : t.S.getD 1 dk.zero = dk.zero := by
    rw [f3, getD_set_eq (by simp; omega)]
  have e0 : rd t 0 = dk.zero := (rd_sure hcf.light f4 (k := 0) (by omega)).trans g0
  have e1 : rd t 1 = dk.zero := (rd_sure hcf.light f4 (k := 1) (by omega)).trans g1
  have en : jn.newest t = (0, hd.zero, 7) := by rw [jn.newest, e0, e1]; exact newest_zero
  have ep : hd.put ((jn.newest t).1 + 1) hd.zero = (sl.sealB 1 (hd.bodyOf hd.zero), 0) := by rw [en]; exact hd.put_yes (n := 1) (by decide) (by decide)
  have ex : sl.next (rd t 0) (rd t 1) = ((0 : Nat) : Int) := by rw [e0, e1]; exact next_zero
  unfold jn.layH at hok hcalm ⊢
  rw [ep, ex] at hok hcalm ⊢
  simp only at hok hcalm ⊢
  have hwc2 := write_calm hcf ((0 : Nat) : Int) (sl.sealB 1 (hd.bodyOf hd.zero))
  rcases write_cases hcf.light (n := 0) (by omega) (sl.sealB 1 (hd.bodyOf hd.zero)) with ⟨w1, w2, w3, w4, w5⟩ | ⟨w1, _⟩
  · rw [if_pos w1] at hok hcalm ⊢
    rw [f4, List.nil_append] at w4
    have hfc2 := flush_calm hwc2.2
    rcases flush_cases w2 with ⟨a1, a2, a3, a4, a5⟩ | ⟨a1, _⟩
    · have hS : (dk.flush (dk.write t ((0 : Nat) : Int) (sl.sealB 1 (hd.bodyOf hd.zero))).2).2.S = t.S.set 0 (sl.sealB 1 (hd.bodyOf hd.zero)) := by rw [a3, w3, w4]; rfl
      refine ⟨a1, ⟨hok, a2, a4, ?_, Nat.zero_le _, rfl⟩, by rw [hS, List.length_set, ht64], by rw [a5, w5, f5]; omega, hcalm.2.cut⟩
      have h2 : (dk.flush (dk.write t ((0 : Nat) : Int) (sl.sealB 1 (hd.bodyOf hd.zero))).2).2.S.getD 1 dk.zero = dk.zero := by rw [hS, getD_set_ne (by decide), g1]
      have h0 : (dk.flush (dk.write t ((0 : Nat) : Int) (sl.sealB 1 (hd.bodyOf hd.zero))).2).2.S.getD 0 dk.zero = sl.sealB 1 (hd.bodyOf hd.zero) := by rw [hS, getD_set_eq (by omega)]
      exact ⟨by omega, by decide, by decide, h0, by show sl.Away (List.getD _ 1 dk.zero) _; rw [h2]; exact sl.away_zero (by omega), by show sl.worth (List.getD _ 1 dk.zero) < 1; rw [h2]; decide +kernel⟩
    · exact absurd a1 hfc2.1
  · exact absurd w1 hwc2.1
end jn
end Go.Proofs.YthddcaoolaipiaaGreatDoor

/-
  PURE: a journal goes by its newest head, whatever the other block is (spoilt disks): what is laid is the newest; Make, Append, Replace, Open. No program is named here.
-/
namespace Go.Proofs.YthddcaoolaipiaaGreatDoor
namespace jn
theorem newest_ge (x y : Blk) : (hd.get x).1 ≤ (hd.newest x y).1 ∧ (hd.get y).1 ≤ (hd.newest x y).1 := by
  unfold hd.newest
  split
  · rename_i h
    rw [(hd.get_err h.1).1, (hd.get_err h.2).1]
    exact ⟨Nat.le_refl _, Nat.le_refl _⟩
  · split
    · exact ⟨by show _ ≤ (hd.get y).1; omega, Nat.le_refl _⟩
    · exact ⟨Nat.le_refl _, by show _ ≤ (hd.get x).1; omega⟩
theorem newest_put {x y : Blk} {M : Nat} {h : hd.H} (hM : (hd.newest x y).1 < M) (hn : hd.num M = true) (hm : hd.may h = true) :
    hd.newest (hd.put M h).1 y = (M, h, 0) ∧ hd.newest x (hd.put M h).1 = (M, h, 0) := by
  have hg := hd.get_put (hd.may_Ok hm) hn hm
  have hx := newest_ge x y
  constructor
  · unfold hd.newest
    simp only [hg]
    rw [if_neg (by simp), if_neg (by omega)]
  · unfold hd.newest
    simp only [hg]
    rw [if_neg (by simp), if_pos (by omega)]
theorem next_two (x y : Blk) : sl.next x y = ((0 : Nat) : Int) ∨ sl.next x y = ((1 : Nat) : Int) := by
  unfold sl.next
  repeat (first | split | exact .inl rfl | exact .inr rfl)
/-- A JOURNAL IN THE LIGHT, ALL OF IT SURE, BY ITS NEWEST HEAD -/
structure Fit (s : St) (N : Nat) (h : hd.H) : Prop where
  ok : s.Ok
  light : s.black = false
  sure : s.L = []
  new : newest s = (N, h, 0)
  fits : h.blocks ≤ half s
theorem Good.fit {s : St} {c N : Nat} {h : hd.H} {was : List (List UInt8)} (g : Good s c N h was) : Fit s N h := ⟨g.ok, g.light, g.sure, g.newest, g.fits⟩
theorem Fit.may {s : St} {N : Nat} {h : hd.H} (f : Fit s N h) : hd.may h = true := by
  have hg : ∀ x : Blk, hd.may (hd.get x).2.1 = true := fun x => by
    by_cases h : (hd.get x).2.2 = 0
    · exact (hd.get_num h).2.2
    · rw [(hd.get_err h).2]; rfl
  have hall : hd.may (newest s).2.1 = true := by
    unfold jn.newest hd.newest
    split
    · rfl
    · split
      · exact hg _
      · exact hg _
  rw [f.new] at hall
  exact hall
/-- what came of a call: the disk is as large, of not many more steps -/
structure Near (s s' : St) : Prop where
  ok : s'.Ok
  len : s'.S.length = s.S.length
  many : s'.many ≤ s.many + 4200
theorem layH_new {t : St} (ok : t.Ok) (hb : t.black = false) (hL : t.L = []) {N : Nat} (hN : (newest t).1 = N) {h' : hd.H} (hn : hd.num (N + 1) = true) (hm : hd.may h' = true) :
    ((layH t h').1 = 0 ∧ (layH t h').2.black = false ∧ (layH t h').2.L = [] ∧ newest (layH t h').2 = (N + 1, h', 0) ∧ (layH t h').2.S.length = t.S.length ∧ (layH t h').2.many = t.many + 2) ∨
    ((layH t h').1 = 9 ∧ (layH t h').2.black = true ∧ (layH t h').2.S.length = t.S.length ∧ (layH t h').2.many ≤ t.many + 2) := by
  have h64 := ok.some
  have e0 : rd t 0 = t.S.getD 0 dk.zero := rd_sure hb hL (k := 0) (by omega)
  have e1 : rd t 1 = t.S.getD 1 dk.zero := rd_sure hb hL (k := 1) (by omega)
  have hx := next_two (rd t 0) (rd t 1)
  have hset : ∀ k, (k = 0 ∨ k = 1) → ∀ u : St, u.S = t.S.set k (hd.put (N + 1) h').1 → u.black = false → u.L = [] → newest u = (N + 1, h', 0) := fun k hk u hu hub huL => by
    have hl : u.S.length = t.S.length := by rw [hu, List.length_set]
    have u0 : rd u 0 = u.S.getD 0 dk.zero := rd_sure hub huL (k := 0) (by omega)
    have u1 : rd u 1 = u.S.getD 1 dk.zero := rd_sure hub huL (k := 1) (by omega)
    have hp := newest_put (x := rd t 0) (y := rd t 1) (M := N + 1) (h := h') (by rw [← hN]; exact Nat.lt_succ_self _) hn hm
    rw [e0, e1] at hp
    unfold jn.newest
    rw [u0, u1, hu]
    rcases hk with rfl | rfl
    · rw [getD_set_eq (by omega), getD_set_ne (by decide)]
      exact hp.1
    · rw [getD_set_ne (by decide), getD_set_eq (by omega)]
      exact hp.2
  unfold jn.layH
  rw [hN]
  generalize (hd.put (N + 1) h').1 = Y at *
  obtain ⟨k, hk, hkx⟩ : ∃ k : Nat, (k = 0 ∨ k = 1) ∧ sl.next (rd t 0) (rd t 1) = (k : Int) := by
    rcases hx with e | e
    · exact ⟨0, .inl rfl, e⟩
    · exact ⟨1, .inr rfl, e⟩
  rw [hkx]
  rcases write_cases hb (n := k) (by omega) Y with ⟨w1, w2, w3, w4, w5⟩ | ⟨w1, w2, w3, w4, w5⟩
  · rw [if_pos w1]
    rw [hL, List.nil_append] at w4
    rcases flush_cases w2 with ⟨f1, f2, f3, f4, f5⟩ | ⟨f1, f2, f3, f4, f5⟩
    · have hS : (dk.flush (dk.write t (k : Int) Y).2).2.S = t.S.set k Y := by
        rw [f3, w3, w4]
        simp only [dk.lay, Int.toNat_natCast]
      exact .inl ⟨f1, f2, f4, hset k hk _ hS f2 f4, by rw [hS, List.length_set], by omega⟩
    · exact .inr ⟨f1, f2, by rw [f3, w3], by rw [f5, w5]; omega⟩
  · rw [if_neg (by rw [w1]; decide)]
    exact .inr ⟨w1, w2, by rw [w3], by omega⟩
theorem lay_new {s : St} (ok : s.Ok) (hb : s.black = false) (hL : s.L = []) {at_ : Nat} {l : List Blk} (hl : ∀ b ∈ l, b.length = 128) (hat : at_ + l.length ≤ s.S.length) {N : Nat}
    (hN : (hd.newest ((dk.lay s.S (zipAt at_ l)).getD 0 dk.zero) ((dk.lay s.S (zipAt at_ l)).getD 1 dk.zero)).1 = N) {h' : hd.H} (hn : hd.num (N + 1) = true) (hm : hd.may h' = true) (hfit : h'.blocks ≤ half s) :
    (lay s at_ l h').2.Ok ∧ (lay s at_ l h').2.S.length = s.S.length ∧ (lay s at_ l h').2.many ≤ s.many + l.length + 3 ∧
    (((lay s at_ l h').1 = 0 ∧ Fit (lay s at_ l h').2 (N + 1) h') ∨ ((lay s at_ l h').1 = 9 ∧ (lay s at_ l h').2.black = true)) := by
  have hok := Ok.lay ok at_ hl h'
  have hokw := Ok.writes l at_ ok hl
  have h64 := ok.some
  refine ⟨hok, ?_⟩
  unfold jn.lay at hok ⊢
  rcases writes_cases l s at_ hb hat hl with ⟨w1, w2, w3, w4, w5⟩ | ⟨w1, w2, w3, ⟨M, w4, w5, _⟩, w6⟩
  · rw [if_pos w1] at hok ⊢
    rw [hL, List.nil_append] at w4
    rcases flush_cases w2 with ⟨f1, f2, f3, f4, f5⟩ | ⟨f1, f2, f3, f4, f5⟩
    · rw [if_pos f1] at hok ⊢
      have hokf := dk.Ok.flush hokw
      rw [w3, w4] at f3
      have hlen : (dk.flush (writes s at_ l).2).2.S.length = s.S.length := by rw [f3]; exact (agree_lay _ _ (zipAt_in l at_ hl)).len
      rw [w5] at f5
      generalize (dk.flush (writes s at_ l).2).2 = t at *
      have e0 : rd t 0 = t.S.getD 0 dk.zero := rd_sure f2 f4 (k := 0) (by omega)
      have e1 : rd t 1 = t.S.getD 1 dk.zero := rd_sure f2 f4 (k := 1) (by omega)
      have hNt : (newest t).1 = N := by
        unfold jn.newest
        rw [e0, e1, f3]
        exact hN
      rcases layH_new hokf f2 f4 hNt hn hm with ⟨a1, a2, a3, a4, a5, a6⟩ | ⟨a1, a2, a3, a4⟩
      · refine ⟨by omega, by omega, .inl ⟨a1, hok, a2, a3, a4, ?_⟩⟩
        unfold half
        rw [a5, hlen]
        exact hfit
      · exact ⟨by omega, by omega, .inr ⟨a1, a2⟩⟩
    · rw [if_neg (by rw [f1]; decide)] at hok ⊢
      exact ⟨by rw [f3, w3], by rw [f5, w5]; omega, .inr ⟨f1, f2⟩⟩
  · rw [if_neg (by rw [w1]; decide)] at hok ⊢
    exact ⟨by rw [w3], by omega, .inr ⟨w1, w2⟩⟩
/-- what is laid behind the heads leaves them -/
theorem Fit.behind {s : St} {N : Nat} {h : hd.H} (f : Fit s N h) {at_ : Nat} {l : List Blk} (hl : ∀ b ∈ l, b.length = 128) (h2 : 2 ≤ at_) :
    (hd.newest ((dk.lay s.S (zipAt at_ l)).getD 0 dk.zero) ((dk.lay s.S (zipAt at_ l)).getD 1 dk.zero)).1 = N := by
  have ha := agree_lay _ s.S (zipAt_in l at_ hl)
  rw [ha.get 0 (.inl (by omega)), ha.get 1 (.inl (by omega))]
  have h64 := f.ok.some
  have e0 : rd s 0 = s.S.getD 0 dk.zero := rd_sure f.light f.sure (k := 0) (by omega)
  have e1 : rd s 1 = s.S.getD 1 dk.zero := rd_sure f.light f.sure (k := 1) (by omega)
  have hn := f.new
  unfold jn.newest at hn
  rw [e0, e1] at hn
  rw [hn]
theorem first_most {s : St} (h : s.Ok) {bank : UInt8} (hb : bank.toNat ≤ 1) : 2 ≤ first s bank ∧ first s bank + half s ≤ s.S.length := ⟨first_ge s bank, first_le h hb⟩
/-- WHAT APPEND COMES TO -/
theorem append_fit {s : St} {N : Nat} {h : hd.H} (f : Fit s N h) (hn : hd.num (N + 1) = true) (b : List UInt8) :
    Near s (append s h b).2 ∧ (((append s h b).2 = s ∧ ((append s h b).1 = 3 ∨ (append s h b).1 = 10)) ∨ ((append s h b).1 = 0 ∧ Fit (append s h b).2 (N + 1) (appendH h b)) ∨ ((append s h b).1 = 9 ∧ (append s h b).2.black = true)) := by
  have hhalf := half_le f.ok
  have hm := hd.may_ok f.may
  have hp := count_pos b.length
  rw [← blocks_length] at hp
  unfold jn.append
  split
  · exact ⟨⟨f.ok, rfl, show s.many ≤ s.many + 4200 by omega⟩, .inl ⟨rfl, .inl rfl⟩⟩
  · rw [if_neg (by rw [f.light]; simp)]
    split
    · exact ⟨⟨f.ok, rfl, show s.many ≤ s.many + 4200 by omega⟩, .inl ⟨rfl, .inr rfl⟩⟩
    · rename_i hroom
      obtain ⟨g1, g2⟩ := first_most f.ok hm.1
      have hr := lay_new f.ok f.light f.sure (at_ := first s h.bank + h.blocks) (l := blocks b) (blocks_len b) (by omega) (f.behind (blocks_len b) (by omega)) hn
        (may_of (h := appendH h b) hm.1 (show h.blocks + (blocks b).length ≤ 4096 by omega) (show h.batches + 1 ≤ h.blocks + (blocks b).length by omega)) (show h.blocks + (blocks b).length ≤ half s by omega)
      obtain ⟨r1, r2, r3, r4⟩ := hr
      refine ⟨⟨r1, r2, by omega⟩, .inr ?_⟩
      exact r4
/-- WHAT REPLACE COMES TO -/
theorem replace_fit {s : St} {N : Nat} {h : hd.H} (f : Fit s N h) (hn : hd.num (N + 1) = true) (b : List UInt8) :
    Near s (replace s h b).2 ∧ (((replace s h b).2 = s ∧ ((replace s h b).1 = 3 ∨ (replace s h b).1 = 10)) ∨ ((replace s h b).1 = 0 ∧ Fit (replace s h b).2 (N + 1) (replaceH h b)) ∨ ((replace s h b).1 = 9 ∧ (replace s h b).2.black = true)) := by
  have hhalf := half_le f.ok
  have hm := hd.may_ok f.may
  have hp := count_pos b.length
  rw [← blocks_length] at hp
  have hbk : (1 - h.bank).toNat ≤ 1 := by rcases bank_cases hm.1 with e | e <;> rw [e] <;> decide
  unfold jn.replace
  split
  · exact ⟨⟨f.ok, rfl, show s.many ≤ s.many + 4200 by omega⟩, .inl ⟨rfl, .inl rfl⟩⟩
  · rw [if_neg (by rw [f.light]; simp)]
    split
    · exact ⟨⟨f.ok, rfl, show s.many ≤ s.many + 4200 by omega⟩, .inl ⟨rfl, .inr rfl⟩⟩
    · rename_i hroom
      obtain ⟨g1, g2⟩ := first_most f.ok hbk
      have hr := lay_new f.ok f.light f.sure (at_ := first s (1 - h.bank)) (l := blocks b) (blocks_len b) (by omega) (f.behind (blocks_len b) (by omega)) hn
        (may_of (h := replaceH h b) hbk (show (blocks b).length ≤ 4096 by omega) (show 1 ≤ (blocks b).length by omega)) (show (blocks b).length ≤ half s by omega)
      obtain ⟨r1, r2, r3, r4⟩ := hr
      exact ⟨⟨r1, r2, by omega⟩, .inr r4⟩
/-- WHAT MAKE COMES TO -/
theorem make_fit {s : St} (ok : s.Ok) (hL : s.L = []) (hb : s.black = false) :
    Near s (make s).2 ∧ (((make s).1 = 0 ∧ Fit (make s).2 1 hd.zero) ∨ ((make s).1 = 9 ∧ (make s).2.black = true)) := by
  have h64 := ok.some
  have hzz : ∀ b ∈ [dk.zero, dk.zero], b.length = 128 := fun b hb => by
    simp at hb
    rw [hb]
    exact List.length_replicate
  have he : make s = lay s 0 [dk.zero, dk.zero] hd.zero := by
    unfold jn.make
    rw [if_neg (by rw [hb]; simp)]
  rw [he]
  obtain ⟨r1, r2, r3, r4⟩ := lay_new ok hb hL (at_ := 0) (l := [dk.zero, dk.zero]) hzz (by simp; omega) (N := 0) (by
    have g0 : (dk.lay s.S (zipAt 0 [dk.zero, dk.zero])).getD 0 dk.zero = dk.zero := lay_zip [dk.zero, dk.zero] 0 s.S (by simp; omega) 0 (by simp)
    have g1 : (dk.lay s.S (zipAt 0 [dk.zero, dk.zero])).getD 1 dk.zero = dk.zero := lay_zip [dk.zero, dk.zero] 0 s.S (by simp; omega) 1 (by simp)
    rw [g0, g1, newest_zero]) (h' := hd.zero) (by decide) (by decide) (Nat.zero_le _)
  exact ⟨⟨r1, r2, by simp at r3; omega⟩, r4⟩
/-- what is opened goes by its newest head -/
theorem opens_fit {s : St} (ok : s.Ok) (hL : s.L = []) (h : opens s = 0) : ∃ N k, Fit s N k ∧ N ≤ 2305843009213693952 := by
  unfold jn.opens at h
  split at h
  · cases h
  · rename_i hb
    split at h
    · cases h
    · rename_i hc
      split at h
      · rename_i hbt
        have hfits : (newest s).2.1.blocks ≤ half s := by
          unfold jn.batches at hbt
          split at hbt
          · cases hbt
          · omega
        have he : (newest s).2.2 = 0 ∧ (newest s).1 ≤ 2305843009213693952 := by omega
        exact ⟨(newest s).1, (newest s).2.1, ⟨ok, by simpa using hb, hL, by rw [← he.1], hfits⟩, he.2⟩
      · cases h
theorem opens_light {s : St} (h : opens s = 0) : s.black = false := by
  unfold jn.opens at h
  split at h
  · cases h
  · rename_i hb
    simpa using hb
theorem write_few (s : St) (n : Int) (b : Blk) : (dk.write s n b).2.many ≤ s.many + 1 ∧ (dk.write s n b).2.L.length ≤ s.L.length + 1 := by
  have hs : (dk.step s).2.many ≤ s.many + 1 ∧ (dk.step s).2.L = s.L := by
    unfold dk.step
    split
    · exact ⟨by show s.many ≤ _; omega, rfl⟩
    · exact ⟨Int.le_refl _, rfl⟩
  unfold dk.write
  split
  · split
    · exact ⟨hs.1, by simp⟩
    · exact ⟨hs.1, by show (dk.step s).2.L.length ≤ _; rw [hs.2]; omega⟩
  · exact ⟨by show s.many ≤ _; omega, by show s.L.length ≤ _; omega⟩
theorem flush_few (s : St) : (dk.flush s).2.many ≤ s.many + 1 ∧ (dk.flush s).2.L.length ≤ s.L.length := by
  have hs : (dk.step s).2.many ≤ s.many + 1 ∧ (dk.step s).2.L = s.L := by
    unfold dk.step
    split
    · exact ⟨by show s.many ≤ _; omega, rfl⟩
    · exact ⟨Int.le_refl _, rfl⟩
  unfold dk.flush
  split
  · exact ⟨by show s.many ≤ _; omega, Nat.le_refl _⟩
  · split
    · exact ⟨hs.1, by simp⟩
    · exact ⟨hs.1, by show (dk.step s).2.L.length ≤ _; rw [hs.2]; omega⟩
theorem writes_snoc : ∀ (l : List Blk) (s : St) (at_ : Nat) (b : Blk), (writes s at_ l).1 = 0 → writes s at_ (l ++ [b]) = dk.write (writes s at_ l).2 ((at_ + l.length : Nat) : Int) b
  | [], s, at_, b, _ => by
    simp only [List.nil_append, jn.writes, List.length_nil, Nat.add_zero]
    split
    · rename_i h
      rw [← h]
    · rfl
  | x :: r, s, at_, b, h => by
    simp only [List.cons_append, jn.writes] at h ⊢
    split
    · rename_i h0
      rw [if_pos h0] at h
      rw [writes_snoc r _ _ b h, show at_ + 1 + r.length = at_ + (x :: r).length from by simp only [List.length_cons]; omega]
    · rename_i h0
      rw [if_neg h0] at h
      exact absurd h h0
theorem writes_stop : ∀ (l : List Blk) (r : List Blk) (s : St) (at_ : Nat), ¬ (writes s at_ l).1 = 0 → writes s at_ (l ++ r) = writes s at_ l
  | [], r, s, at_, h => absurd rfl h
  | x :: l, r, s, at_, h => by
    simp only [List.cons_append, jn.writes] at h ⊢
    split
    · rename_i h0
      rw [if_pos h0] at h
      exact writes_stop l r _ _ h
    · rfl
theorem writes_few : ∀ (l : List Blk) (s : St) (at_ : Nat), (writes s at_ l).2.many ≤ s.many + l.length ∧ (writes s at_ l).2.L.length ≤ s.L.length + l.length
  | [], s, _ => by simp [jn.writes]
  | x :: r, s, at_ => by
    have h1 := write_few s at_ x
    simp only [jn.writes, List.length_cons]
    split
    · have h2 := writes_few r (dk.write s at_ x).2 (at_ + 1)
      omega
    · omega
end jn
end Go.Proofs.YthddcaoolaipiaaGreatDoor

/-
  THE PROGRAM's seal: contracts of part, sum, numberIn, layNumber.
-/
namespace Go.Proofs.YthddcaoolaipiaaGreatDoor
open Go.RowKit

theorem bs_mid_row {e : TypeId} {w : World} {g : Nat} {bl : List UInt8} (h : RowB e w g bl) {at_ k : Nat} (hk : at_ + k ≤ bl.length) (hs : k ≤ 281474976710656) : BS w (some ⟨g, at_, none⟩) k k ((bl.drop at_).take k) :=
  ⟨by rw [List.length_take, List.length_drop]; omega, Nat.le_refl _, by omega, hs, fun _ => ⟨g, at_, rfl, h.lt, fun i hi => by
    rw [List.length_take, List.length_drop] at hi
    rw [h.cell (i := at_ + i) (by omega), List.getElem_take, List.getElem_drop]⟩⟩
theorem chg_setRow (w : World) (g : Nat) (cs : Array Value) : Chg w (w.setRow g cs) [g] :=
  ⟨rfl, rfl, rfl, by simp [World.setRow], fun k _ hn => setRow_other w g k cs (fun e => hn (by rw [List.mem_singleton]; exact e))⟩
theorem splice_map (bl l : List UInt8) (off : Nat) : splice (bl.map bv) off (l.map bv) = (splice bl off l).map bv := by
  simp [splice]
/-- BYTES ARE COPIED INTO A BLOCK OF BYTES: as many as there is room for -/
theorem wpList_copy_bytes {P : Program} {w : World} {ops : Array Oper} {rest : List Oper} {o : Oper} {a : Act} {Q : Exit → Act → World → Prop} (hgd : o.guard = none) (d s : Operand) (dT sT : TypeId)
    (ho : o.op = .call { callee := .builtin .copy, args := #[d, s], argTypes := #[dT, sT] }) (elem : TypeId) (hu : P.underlying dT = some (.slice elem)) (hsz : (P.info? elem).map (·.size) = some 1)
    {E : TypeId} {g off dLen dCap sLen sCap : Nat} {sp : Option Addr} {bl l : List UInt8} (hr : RowB E w g bl) (hd : a.eval d = .slice (some ⟨g, off, none⟩) dLen dCap) (hs : a.eval s = .slice sp sLen sCap) (hb : BS w sp sLen sCap l)
    (hfit : off + dLen ≤ bl.length)
    (h : ∀ w', RowB E w' g (splice bl off (l.take dLen)) → Chg w w' [g] → wpList P ops Q rest (a.put o.dst (goInt (l.take dLen).length)) w') :
    wpList P ops Q (o :: rest) a w := by
  have hl := hb.len
  have hm : (l.take dLen).length = Nat.min sLen dLen := by rw [List.length_take, hl]; exact Nat.min_comm _ _
  have hle : Nat.min sLen dLen ≤ dLen := Nat.min_le_right _ _
  by_cases h0 : Nat.min sLen dLen = 0
  · have hn : l.take dLen = [] := List.eq_nil_of_length_eq_zero (hm.trans h0)
    refine wpList_copy_nothing hgd d s dT sT ho elem hu hsz _ sp dLen dCap sLen sCap hd hs h0 ?_
    have := h w (by rw [hn]; simpa [splice] using hr) (Chg.refl _ _)
    rwa [hn] at this
  · have hpos : 0 < sLen := by
      rcases Nat.eq_zero_or_pos sLen with h1 | h1
      · exact absurd (by rw [h1]; exact Nat.zero_min _) h0
      · exact h1
    obtain ⟨b, o2, rfl, _, hc⟩ := hb.has hpos
    have hlen : ((l.take dLen).map bv).length = (l.take dLen).length := List.length_map ..
    refine wpList_copy_own hgd d s dT sT ho elem hu hsz g off dLen dCap ⟨b, o2, none⟩ sLen sCap hd hs _ _ hr ((l.take dLen).map bv) (by rw [hlen, hm]) ?_ ?_ (bvs_one _) ?_
    · intro j v hv
      rw [List.getElem?_map] at hv
      obtain ⟨y, hy, rfl⟩ := Option.map_eq_some_iff.1 hv
      have hj : j < l.length := by
        have := (List.getElem?_eq_some_iff.1 hy).1
        rw [List.length_take] at this
        omega
      have hy2 : l[j]? = some y := by
        rw [List.getElem?_take] at hy
        split at hy
        · exact hy
        · cases hy
      obtain ⟨_, rfl⟩ := List.getElem?_eq_some_iff.1 hy2
      rw [Addr.add_lit]
      exact hc j hj
    · rw [hlen, hm, List.size_toArray, List.length_map]
      omega
    · have h1 := setRow_heap w g _ ((((bl.map bv).toArray.toList.take off ++ ((l.take dLen).map bv ++ (bl.map bv).toArray.toList.drop (off + ((l.take dLen).map bv).length)))).toArray) E _ hr
      rw [hlen]
      refine h _ ?_ (chg_setRow _ _ _)
      rw [hlen] at h1
      refine h1.trans ?_
      simp only [splice, List.map_append, List.map_take, List.map_drop]

theorem blk_array : Tryz.prog.underlying 43 = some (.array (Tryz.prog.arrayLen 43) (Tryz.prog.elem 43)) := by kernel_rfl
theorem blk_len : Tryz.prog.arrayLen 43 = 128 := by kernel_rfl
theorem blk_elem : Tryz.prog.elem 43 = 5 := by kernel_rfl
theorem run_cut_blk (W : World) (g at_ k : Nat) (hk : 0 < k) (hat : at_ + k ≤ 128) :
    (Instr.sliceAt 43 (.pointer (some ⟨g, 0, none⟩)) (some (.int .i64 at_)) (some (.int .i64 ((at_ : Int) + (k : Int)))) (some (.int .i64 ((at_ : Int) + (k : Int))))).run Tryz.prog W = .ok (.slice (some ⟨g, at_, none⟩) k k) W := by
  obtain ⟨i0, hi, hz0, hz1, hz2⟩ := info_parts info_u8
  rw [run_sliceAt_array_lhm W 43 _ blk_array .i64 .i64 .i64 at_ (at_ + k) (at_ + k) (by omega) (by omega) (Int.le_refl _) (by rw [blk_len]; omega), blk_elem]
  have e1 : ((at_ : Int) + (k : Int)).toNat = at_ + k := by omega
  have e2 : (at_ : Int).toNat = at_ := by omega
  have e3 : at_ + k ≠ at_ := by omega
  simp only [sizeOf, typeInfo, Sem.run_bind, slicedAt, e1, e2, if_neg e3, Addr.add_lit, Nat.zero_add, Nat.add_sub_cancel_left]
  simp [hi, hz1, Result.andThen]

/-- part: the block's own bytes -/
theorem part_any (g at_ k : Nat) (w : World) (hk : 0 < k) (hat : at_ + k ≤ 128) :
    Calls Tryz.prog 114 #[.pointer (some ⟨g, 0, none⟩), .int .i64 at_, .int .i64 k] w fun e w' => e = .returned (.slice (some ⟨g, at_, none⟩) k k) ∧ w = w' := by
  have hc := run_cut_blk w g at_ k hk hat
  have h1 : ¬ at_ + k = at_ := by omega
  go_enter Tryz.func114, Tryz.ntmps114
  go_wp2
  go_ret
  exact ⟨rfl, rfl⟩

/-- numberIn: the number that stands at a place -/
theorem numberIn_any (E : TypeId) (g at_ k : Nat) (b : dk.Blk) (hb : b.length = 128) (w : World) (hr : RowB E w g b) (hz : isSz k = true) (hat : at_ + k ≤ 128) :
    Calls Tryz.prog 117 #[.pointer (some ⟨g, 0, none⟩), .int .i64 at_, .int .i64 k] w fun e w' => e = .returned (.int .u64 (leVal ((b.drop at_).take k))) ∧ w = w' := by
  have hk : 0 < k ∧ k ≤ 8 := by rcases isSz_cases hz with h | h | h | h <;> omega
  have hp := part_any g at_ k w hk.1 hat
  have hg := get_yes _ k k ((b.drop at_).take k) 0 k w (bs_mid_row hr (at_ := at_) (k := k) (by omega) (by omega)) hz (by omega)
  rw [List.drop_zero, List.take_take, Nat.min_self] at hg
  generalize leVal ((b.drop at_).take k) = V at *
  have HP := Lib.hid hp
  have HG := Lib.hid hg
  clear hp hg
  go_enter Tryz.func117, Tryz.ntmps117
  go_wp2_with fail
  refine HP.out.mono ?_
  rintro e w1 ⟨rfl, rfl⟩
  go_wp2_with fail
  refine HG.out.mono ?_
  rintro e w1 ⟨rfl, rfl⟩
  go_wp2_with fail
  go_ret
  exact ⟨rfl, rfl⟩

/-- sum: of the number and the body -/
theorem sum_any (E : TypeId) (g : Nat) (b : dk.Blk) (hb : b.length = 128) (w : World) (hr : RowB E w g b) (ht : Tab w) :
    Calls Tryz.prog 115 #[.pointer (some ⟨g, 0, none⟩)] w fun e w' => e = .returned (wv (crc.of (b.take 116))) ∧ w = w' := by
  have hp := part_any g 0 116 w (by omega) (by omega)
  have ho := of_any _ 116 116 _ w (bs_mid_row hr (at_ := 0) (k := 116) (by omega) (by omega)) ht
  rw [List.drop_zero] at ho
  generalize crc.of (b.take 116) = V at *
  have HP := Lib.hid hp
  have HO := Lib.hid ho
  clear hp ho
  go_enter Tryz.func115, Tryz.ntmps115
  go_wp2_with fail
  refine HP.out.mono ?_
  rintro e w1 ⟨rfl, rfl⟩
  go_wp2_with fail
  refine HO.out.mono ?_
  rintro e w1 ⟨rfl, rfl⟩
  go_wp2_with fail
  go_ret
  exact ⟨rfl, rfl⟩

/-- layNumber: a number's bytes are laid -/
theorem layNumber_any (E : TypeId) (g at_ k n : Nat) (b : dk.Blk) (hb : b.length = 128) (w : World) (hr : RowB E w g b) (hz : isSz k = true) (hat : at_ + k ≤ 128) (hn : putOk n k = true) :
    Calls Tryz.prog 113 #[.pointer (some ⟨g, 0, none⟩), .int .i64 at_, .int .i64 k, .int .u64 n] w fun e w' => e = .returned (.tuple #[]) ∧ RowB E w' g (splice b at_ (leBytes n k)) ∧ Chg w w' [g] := by
  have hk : 0 < k ∧ k ≤ 8 := by rcases isSz_cases hz with h | h | h | h <;> omega
  have hput := put_yes n k w hn
  have hll := leBytes_length n k
  have hlt : (leBytes n k).take k = leBytes n k := List.take_of_length_le (by rw [hll]; exact Nat.le_refl _)
  have HT := Lib.hid hlt
  have HLL := Lib.hid hll
  have HP := Lib.hid hput
  clear hput hlt hll
  go_enter Tryz.func113, Tryz.ntmps113
  go_wp2_with fail
  refine HP.out.mono ?_
  rintro e w1 ⟨v, rfl, ho, hb1⟩
  obtain ⟨A1, c1, rfl, hB⟩ := ho.form
  rw [HLL.out] at hB ho ⊢
  have hr1 := hr.below hb1 hr.lt
  go_wp2_with fail
  refine (part_any g at_ k _ hk.1 hat).mono ?_
  rintro e w2 ⟨rfl, rfl⟩
  go_wp2_with (refine wpList_copy_bytes rfl (.tmp 19) (.tmp 20) 36 36 rfl 5 Tryz.underlying36 (by kernel_rfl) hr1 rfl rfl hB (by omega) ?_; intro w3 hr3 hc3; rw [HT.out] at hr3)
  go_end0
  exact ⟨rfl, hr3, (Chg.of_below hb1 [g]).trans hc3 (Sub.refl _ _)⟩
end Go.Proofs.YthddcaoolaipiaaGreatDoor

/-
  THE PROGRAM's seal: contracts of Put, Get, Newest, Next.
-/
namespace Go.Proofs.YthddcaoolaipiaaGreatDoor
open Go.RowKit

theorem splice_at {α : Type} (p m r x : List α) (hx : x.length = m.length) (k : Nat) (hk : k = p.length) : splice (p ++ (m ++ r)) k x = p ++ (x ++ r) := by
  subst hk
  unfold splice
  rw [List.take_left' rfl, hx, List.drop_append, List.drop_of_length_le (by omega), List.nil_append, Nat.add_sub_cancel_left, List.drop_left' rfl]
theorem splice_length {α : Type} (L : List α) (off : Nat) (cs : List α) (h : off + cs.length ≤ L.length) : (splice L off cs).length = L.length := Go.length_splice L off cs h
namespace sl
theorem rep_split (a b : Nat) : List.replicate (a + b) (0 : UInt8) = List.replicate a 0 ++ List.replicate b 0 := List.replicate_append_replicate.symm
/-- how a block is laid -/
theorem lay1 (n : Nat) : splice dk.zero 0 (leBytes n 8) = leBytes n 8 ++ List.replicate 120 0 := by
  have h := splice_at [] (List.replicate 8 (0 : UInt8)) (List.replicate 120 0) (leBytes n 8) (by rw [leBytes_length, List.length_replicate]) 0 rfl
  rw [← rep_split] at h
  exact h
theorem lay2 (n : Nat) {body : List UInt8} (h : body.length ≤ 108) : splice (leBytes n 8 ++ List.replicate 120 0) 8 body = head n body ++ List.replicate 12 0 := by
  have h1 := splice_at (leBytes n 8) (List.replicate body.length (0 : UInt8)) (List.replicate (120 - body.length) 0) body (by rw [List.length_replicate]) 8 (leBytes_length n 8).symm
  rw [← rep_split, show body.length + (120 - body.length) = 120 from by omega] at h1
  rw [h1, head, show 120 - body.length = (108 - body.length) + 12 from by omega, rep_split, List.append_assoc, List.append_assoc]
theorem lay3 (n : Nat) {body : List UInt8} (h : body.length ≤ 108) (s : Nat) : splice (head n body ++ List.replicate 12 0) 116 (leBytes s 4) = head n body ++ (leBytes s 4 ++ List.replicate 8 0) := by
  have h1 := splice_at (head n body) (List.replicate 4 (0 : UInt8)) (List.replicate 8 0) (leBytes s 4) (by rw [leBytes_length, List.length_replicate]) 116 (head_length n h).symm
  rw [← rep_split] at h1
  exact h1
theorem lay4 (n : Nat) {body : List UInt8} (h : body.length ≤ 108) (s m : Nat) : splice (head n body ++ (leBytes s 4 ++ List.replicate 8 0)) 120 (leBytes m 8) = head n body ++ (leBytes s 4 ++ leBytes m 8) := by
  have h1 := splice_at (head n body ++ leBytes s 4) (List.replicate 8 (0 : UInt8)) [] (leBytes m 8) (by rw [leBytes_length, List.length_replicate]) 120 (by rw [List.length_append, head_length n h, leBytes_length])
  rw [List.append_nil, List.append_nil, List.append_assoc, List.append_assoc] at h1
  exact h1
end sl
theorem u64_not (n : Nat) (hn : n < 18446744073709551616) : bits .xor .u64 IntKind.u64.max (n : Int) = ((18446744073709551615 - n : Nat) : Int) := by
  have e : (IntKind.u64.max : Int) = ((18446744073709551615 : Nat) : Int) := rfl
  rw [e, u64_xor_nat _ _ (by omega) hn]
  congr 1
  have h1 : (BitVec.allOnes 64 ^^^ BitVec.ofNat 64 n).toNat = 18446744073709551615 - n := by
    rw [BitVec.allOnes_xor, BitVec.toNat_not, BitVec.toNat_ofNat, Nat.mod_eq_of_lt (by omega)]
  rw [BitVec.toNat_xor, BitVec.toNat_ofNat, Nat.mod_eq_of_lt (by omega)] at h1
  exact h1

set_option maxHeartbeats 4000000 in
set_option maxRecDepth 100000 in
theorem cs_put (n : Nat) (hn : n < 18446744073709551616) (A : Option Addr) (k c : Nat) (body : List UInt8) (w : World) (h : BS w A k c body) (ht : Tab w) : Calls Tryz.prog 100 #[.int .u64 n, .slice A k c] w fun e w' =>
    e = .returned (.tuple #[dk.val (sl.put n body).1, .int .i64 (sl.put n body).2]) ∧ Below w.heap.size w w' := by
  obtain ⟨hz, -⟩ := zero_of_info zero_blk
  have hk := h.len
  have h1 := heap_alloc_new w (.cells (dk.cells dk.zero).toArray 43)
  have hb1 : Below w.heap.size w (w.alloc (.cells (dk.cells dk.zero).toArray 43)) := (Below.refl _ _).alloc (Nat.le_refl _) _
  by_cases h0 : n = 0
  · have hp : sl.put n body = (dk.zero, 2) := if_pos h0
    have HP := Lib.hid hp
    have h0' : ((n : Int) == 0) = true := by simp [h0]
    clear hp h0
    go_enter Tryz.func100, Tryz.ntmps100
    go_wp2_with (refine wp_st0 (.tmp 4) (.tmp 9) dk.zero h1 zero_len zero_len rfl rfl rfl rfl ?_; intro W hW hc)
    refine bodyPost_ret (results_cell_tmp rfl rfl (blk_load (blk_range hW) zero_len)) rfl ⟨?_, (Chg.of_below hb1 [w.heap.size]).trans hc (Sub.refl _ _) |>.below (Nat.le_refl _) (fun k hk => by simp at hk; omega)⟩
    rw [HP.out]
    rfl
  · have h0' : ((n : Int) == 0) = false := by simp [h0]
    by_cases hlen : 108 < body.length
    · have hp : sl.put n body = (dk.zero, 3) := by rw [sl.put, if_neg h0, if_pos hlen]
      have HP := Lib.hid hp
      have hlen' : (108 : Int) < (k : Int) := by omega
      clear hp
      go_enter Tryz.func100, Tryz.ntmps100
      go_wp2_with (refine wp_st0 (.tmp 4) (.tmp 13) dk.zero h1 zero_len zero_len rfl rfl rfl rfl ?_; intro W hW hc)
      refine bodyPost_ret (results_cell_tmp rfl rfl (blk_load (blk_range hW) zero_len)) rfl ⟨?_, (Chg.of_below hb1 [w.heap.size]).trans hc (Sub.refl _ _) |>.below (Nat.le_refl _) (fun k hk => by simp at hk; omega)⟩
      rw [HP.out]
      rfl
    · have hp : sl.put n body = (sl.sealB n body, 0) := by rw [sl.put, if_neg h0, if_neg hlen]
      have HP := Lib.hid hp
      have hlen' : ¬ (108 : Int) < (k : Int) := by omega
      have hbl : body.length ≤ 108 := by omega
      have h1' := (Below.heap_alloc (w.alloc (.cells (dk.cells dk.zero).toArray 43)) (.cells (dk.cells dk.zero).toArray 43) w.heap.size (by simp)).trans h1
      have h2 := heap_alloc_new (w.alloc (.cells (dk.cells dk.zero).toArray 43)) (.cells (dk.cells dk.zero).toArray 43)
      rw [show (w.alloc (.cells (dk.cells dk.zero).toArray 43)).heap.size = w.heap.size + 1 from by simp] at h2
      have hb2 : Below w.heap.size w ((w.alloc (.cells (dk.cells dk.zero).toArray 43)).alloc (.cells (dk.cells dk.zero).toArray 43)) := hb1.alloc (by simp) _
      have hsz2 : w.heap.size + 1 < ((w.alloc (.cells (dk.cells dk.zero).toArray 43)).alloc (.cells (dk.cells dk.zero).toArray 43)).heap.size := by simp
      obtain ⟨W2, hW2⟩ : ∃ W2, (w.alloc (.cells (dk.cells dk.zero).toArray 43)).alloc (.cells (dk.cells dk.zero).toArray 43) = W2 := ⟨_, rfl⟩
      clear hp hlen h1
      go_enter Tryz.func100, Tryz.ntmps100
      go_wp2_with fail
      rw [hW2] at h1' h2 hb2 hsz2
      have r2 : RowB 43 W2 (w.heap.size + 1) dk.zero := h2
      refine (layNumber_any _ (w.heap.size + 1) 0 8 n dk.zero zero_len W2 r2 (by rfl) (by omega) (put8 n hn)).mono ?_
      rintro e w3 ⟨rfl, r3, c3⟩
      rw [sl.lay1] at r3
      have b3 := (Chg.of_below hb2 [w.heap.size + 1]).trans c3 (Sub.refl _ _) |>.below (Nat.le_refl _) (fun k hk => by simp at hk; omega)
      have z3 := (c3.block w.heap.size (by omega) (by simp)).trans h1'
      clear c3 r2 h2 hW2 hb2 h1' hsz2
      go_wp2_with fail
      refine (part_any (w.heap.size + 1) 8 108 _ (by omega) (by omega)).mono ?_
      rintro e w4 ⟨rfl, rfl⟩
      have hB3 := h.below b3
      have htk : body.take 108 = body := List.take_of_length_le hbl
      have HTK := Lib.hid htk
      have hl3 : 8 + 108 ≤ (leBytes n 8 ++ List.replicate 120 0 : List UInt8).length := by rw [List.length_append, leBytes_length, List.length_replicate]; omega
      clear htk
      go_wp2_with (refine wpList_copy_bytes rfl (.tmp 16) (.tmp 17) 36 36 rfl 5 Tryz.underlying36 (by kernel_rfl) r3 rfl rfl hB3 hl3 ?_; intro w5 r5 c5; rw [HTK.out, sl.lay2 n hbl] at r5)
      have b5 := (Chg.of_below b3 [w.heap.size + 1]).trans c5 (Sub.refl _ _) |>.below (Nat.le_refl _) (fun k hk => by simp at hk; omega)
      have z5 := (c5.block w.heap.size (by have := r3.lt; omega) (by simp)).trans z3
      have hd5 := sl.head_length n hbl
      have hl5 : (sl.head n body ++ List.replicate 12 0 : List UInt8).length = 128 := by rw [List.length_append, hd5, List.length_replicate]
      have ht5 : (sl.head n body ++ List.replicate 12 0 : List UInt8).take 116 = sl.head n body := List.take_left' hd5
      have hsum := sum_any _ (w.heap.size + 1) _ hl5 w5 r5 (ht.below b5)
      rw [ht5] at hsum
      obtain ⟨s, hs⟩ : ∃ s, crc.of (sl.head n body) = s := ⟨_, rfl⟩
      rw [hs] at hsum
      have hslt := s.isLt
      have HSUM := Lib.hid hsum
      have HS := Lib.hid hs
      have hlay := layNumber_any _ (w.heap.size + 1) 116 4 s.toNat _ hl5 w5 r5 (by rfl) (by omega) (put4 s.toNat (by omega))
      rw [sl.lay3 n hbl] at hlay
      have HLAY := Lib.hid hlay
      clear hsum hs hlay ht5 c5 hl3 HTK hB3 z3 r3 b3
      refine HSUM.out.mono ?_
      rintro e w6 ⟨rfl, rfl⟩
      go_wp2_with fail
      refine HLAY.out.mono ?_
      rintro e w7 ⟨rfl, r7, c7⟩
      have b7 := (Chg.of_below b5 [w.heap.size + 1]).trans c7 (Sub.refl _ _) |>.below (Nat.le_refl _) (fun k hk => by simp at hk; omega)
      have z7 := (c7.block w.heap.size (by have := r5.lt; omega) (by simp)).trans z5
      have hl7 : (sl.head n body ++ (leBytes s.toNat 4 ++ List.replicate 8 0) : List UInt8).length = 128 := by rw [List.length_append, hd5, List.length_append, leBytes_length, List.length_replicate]
      have hlay := layNumber_any _ (w.heap.size + 1) 120 8 (18446744073709551615 - n) _ hl7 w7 r7 (by rfl) (by omega) (put8 _ (by omega))
      rw [sl.lay4 n hbl, ← u64_not n hn] at hlay
      have HLAY2 := Lib.hid hlay
      clear hlay HLAY HSUM c7 z5 b5
      go_wp2_with fail
      refine HLAY2.out.mono ?_
      rintro e w8 ⟨rfl, r8, c8⟩
      have b8 := (Chg.of_below b7 [w.heap.size + 1]).trans c8 (Sub.refl _ _) |>.below (Nat.le_refl _) (fun k hk => by simp at hk; omega)
      have z8 := (c8.block w.heap.size (by have := r7.lt; omega) (by simp)).trans z7
      have hfin : sl.head n body ++ (leBytes s.toNat 4 ++ leBytes (18446744073709551615 - n) 8) = sl.sealB n body := by rw [sl.sealB, HS.out, sl.last]
      rw [hfin] at r8
      have hsl := sl.seal_length n hbl
      have hrg := blk_range r8
      clear hfin HLAY2 c8 z7 b7 hl7 r7 hd5
      go_wp2_with (first | refine wp_ld (.tmp 6) (sl.sealB n body) hrg hsl rfl rfl rfl ?_ | (refine wp_st0 (.tmp 4) (.tmp 25) (sl.sealB n body) z8 zero_len hsl rfl rfl rfl rfl ?_; intro W hW hc))
      refine bodyPost_ret (results_cell_tmp rfl rfl (blk_load (blk_range hW) hsl)) rfl ⟨?_, (Chg.of_below b8 [w.heap.size]).trans hc (Sub.refl _ _) |>.below (Nat.le_refl _) (fun k hk => by simp at hk; omega)⟩
      rw [HP.out]
      rfl

set_option maxHeartbeats 4000000 in
set_option maxRecDepth 100000 in
theorem cs_get (b : dk.Blk) (hb : b.length = 128) (w : World) (ht : Tab w) : Calls Tryz.prog 102 #[dk.val b] w fun e w' =>
    ∃ v, e = .returned (.tuple #[.int .u64 (sl.get b).1, v, .int .i64 (sl.get b).2.2]) ∧ OwnB 5 w' w.heap.size v (sl.get b).2.1 ∧ Below w.heap.size w w' := by
  have hr1 : RowB 43 (w.alloc (.cells (dk.cells b).toArray 43)) w.heap.size b := heap_alloc_new w _
  have hb1 : Below w.heap.size w (w.alloc (.cells (dk.cells b).toArray 43)) := (Below.refl _ _).alloc (Nat.le_refl _) _
  obtain ⟨W, hW⟩ : ∃ W, w.alloc (.cells (dk.cells b).toArray 43) = W := ⟨_, rfl⟩
  rw [hW] at hr1 hb1
  obtain ⟨N, hN⟩ : ∃ N, sl.number b = N := ⟨_, rfl⟩
  have hNlt := sl.number_lt b
  rw [hN] at hNlt
  have g1 := numberIn_any _ w.heap.size 0 8 b hb W hr1 (by rfl) (by omega)
  rw [List.drop_zero, show leVal (b.take 8) = N from hN] at g1
  have G1 := Lib.hid g1
  obtain ⟨L, hL⟩ : ∃ L, leVal (b.drop 120) = L := ⟨_, rfl⟩
  have g2 := numberIn_any _ w.heap.size 120 8 b hb W hr1 (by rfl) (by omega)
  rw [List.take_of_length_le (by rw [List.length_drop]; omega), hL] at g2
  have G2 := Lib.hid g2
  have hlast : L = 18446744073709551615 - N ↔ b.drop 120 = sl.last N := by
    rw [← hL, sl.last]
    constructor
    · intro e
      rw [← e]
      exact (leBytes_val _ _ (by rw [List.length_drop]; omega)).symm
    · intro e
      rw [e, leVal_bytes]
      exact Nat.mod_eq_of_lt (by omega)
  have hnot := u64_not N hNlt
  have HW := Lib.hid hW
  clear g1 g2 hW
  go_enter Tryz.func102, Tryz.ntmps102
  go_wp2_with fail
  rw [HW.out]
  refine G1.out.mono ?_
  rintro e w1 ⟨rfl, rfl⟩
  by_cases h0 : N = 0
  · have hget : sl.get b = (0, [], 5) := by unfold sl.get; rw [if_pos (.inl (hN.trans h0))]
    have HG := Lib.hid hget
    have h0' : ((N : Int) == 0) = true := by simp [h0]
    clear hget G1 G2 HW hnot
    go_wp2_with fail
    go_ret3
    exact ⟨_, by rw [HG.out]; rfl, by rw [HG.out]; exact OwnB.nil_ _ _ _, hb1⟩
  · have h0' : ((N : Int) == 0) = false := by simp [h0]
    clear G1 HW
    go_wp2_with fail
    refine G2.out.mono ?_
    rintro e w1 ⟨rfl, rfl⟩
    obtain ⟨M, hM⟩ : ∃ M, 18446744073709551615 - N = M := ⟨_, rfl⟩
    rw [hM] at hlast hnot
    have hnot' : bits .xor .u64 (if IntKind.u64.signed = true then -1 else IntKind.u64.max) (N : Int) = (M : Int) := by rw [if_neg (by decide)]; exact hnot
    by_cases hl : L = M
    · have hne : ((L : Int) != (M : Int)) = false := by simp [hl]
      have hdl := hlast.1 hl
      obtain ⟨V, hV⟩ : ∃ V, leVal ((b.drop 116).take 4) = V := ⟨_, rfl⟩
      have g3 := numberIn_any _ w.heap.size 116 4 b hb W hr1 (by rfl) (by omega)
      rw [hV] at g3
      obtain ⟨s, hs⟩ : ∃ s, crc.of (b.take 116) = s := ⟨_, rfl⟩
      have g4 := sum_any _ w.heap.size b hb W hr1 (ht.below hb1)
      rw [hs] at g4
      have hslt := s.isLt
      have G3 := Lib.hid g3
      have G4 := Lib.hid g4
      have HV := Lib.hid hV
      have HS := Lib.hid hs
      clear g3 g4 hV hs G2 hlast
      by_cases hsum : V = s.toNat
      · have hget : sl.get b = (N, (b.drop 8).take 108, 0) := by
          unfold sl.get
          rw [if_neg (by rw [hN, hdl]; simpa using h0), if_neg (by rw [HV.out, HS.out]; simpa using hsum), hN]
        have HG := Lib.hid hget
        have hne2 : ((V : Int) != (s.toNat : Int)) = false := by simp [hsum]
        have hcl := clone_any _ 108 108 _ W (bs_mid_row hr1 (at_ := 8) (k := 108) (by omega) (by omega)) (by omega)
        have HCL := Lib.hid hcl
        clear hget hsum hcl hl hdl hN hL
        go_wp2_with fail
        refine G3.out.mono ?_
        rintro e w1 ⟨rfl, rfl⟩
        go_wp2_with fail
        refine G4.out.mono ?_
        rintro e w1 ⟨rfl, rfl⟩
        go_wp2_with fail
        refine (part_any w.heap.size 8 108 _ (by omega) (by omega)).mono ?_
        rintro e w1 ⟨rfl, rfl⟩
        go_wp2_with fail
        refine HCL.out.mono ?_
        rintro e w2 ⟨v, rfl, ho, hb2⟩
        go_wp2_with fail
        go_ret3
        exact ⟨_, by rw [HG.out]; rfl, by rw [HG.out]; exact ho.mono hb1.size, hb1.trans (hb2.mono hb1.size)⟩
      · have hget : sl.get b = (0, [], 6) := by
          unfold sl.get
          rw [if_neg (by rw [hN, hdl]; simpa using h0), if_pos (by rw [HV.out, HS.out]; simpa using hsum)]
        have HG := Lib.hid hget
        have hne2 : ((V : Int) != (s.toNat : Int)) = true := by rw [bne_iff_ne]; omega
        clear hget hl hdl hN hL
        go_wp2_with fail
        refine G3.out.mono ?_
        rintro e w1 ⟨rfl, rfl⟩
        go_wp2_with fail
        refine G4.out.mono ?_
        rintro e w1 ⟨rfl, rfl⟩
        go_wp2_with fail
        go_ret3
        exact ⟨_, by rw [HG.out]; rfl, by rw [HG.out]; exact OwnB.nil_ _ _ _, hb1⟩
    · have hget : sl.get b = (0, [], 5) := by
        unfold sl.get
        rw [if_pos (.inr (by rw [hN]; exact fun e => hl (hlast.2 e)))]
      have HG := Lib.hid hget
      have hne : ((L : Int) != (M : Int)) = true := by rw [bne_iff_ne]; omega
      clear hget hlast G2 hN hL
      go_wp2_with fail
      go_ret3
      exact ⟨_, by rw [HG.out]; rfl, by rw [HG.out]; exact OwnB.nil_ _ _ _, hb1⟩
end Go.Proofs.YthddcaoolaipiaaGreatDoor

/-
  THE PROGRAM's head: the table of sizes, May, bodyOf, headIn.
-/
namespace Go.Proofs.YthddcaoolaipiaaGreatDoor
open Go.RowKit

/-- the table of a head's sizes -/
structure Siz (w : World) : Prop where
  lt : 0 < w.heap.size
  c0 : w.cell? ⟨0, 0, none⟩ = some (.int .i64 1)
  c1 : w.cell? ⟨0, 1, none⟩ = some (.int .i64 4)
  c2 : w.cell? ⟨0, 2, none⟩ = some (.int .i64 4)
theorem Siz.below {w w' : World} (h : Siz w) (hb : Below w.heap.size w w') : Siz w' :=
  ⟨Nat.lt_of_lt_of_le h.lt hb.size, (hb.cell h.lt).trans h.c0, (hb.cell h.lt).trans h.c1, (hb.cell h.lt).trans h.c2⟩
theorem Siz.drew {w : World} (h : Siz w) : Siz w.drew := ⟨h.lt, h.c0, h.c1, h.c2⟩
theorem Siz.drewN {w : World} (h : Siz w) (k : Nat) : Siz (w.drewN k) := ⟨h.lt, h.c0, h.c1, h.c2⟩
theorem Siz.alloc {w : World} (h : Siz w) (o : Obj) : Siz (w.alloc o) := h.below ((Below.refl _ _).alloc (Nat.le_refl _) o)
/-- the program's tables, laid -/
structure Tabs (w : World) : Prop where
  tab : Tab w
  siz : Siz w
theorem Tabs.below {w w' : World} (h : Tabs w) (hb : Below w.heap.size w w') : Tabs w' := ⟨h.tab.below hb, h.siz.below hb⟩
theorem Tabs.drew {w : World} (h : Tabs w) : Tabs w.drew := ⟨h.tab.drew, h.siz.drew⟩
theorem Tabs.drewN {w : World} (h : Tabs w) (k : Nat) : Tabs (w.drewN k) := ⟨h.tab.drewN k, h.siz.drewN k⟩
theorem Tabs.alloc {w : World} (h : Tabs w) (o : Obj) : Tabs (w.alloc o) := ⟨h.tab.alloc o, h.siz.alloc o⟩

set_option maxRecDepth 100000 in
set_option maxHeartbeats 1000000 in
theorem ch_may (h : hd.H) (_hok : h.Ok) (w : World) : Calls Tryz.prog 99 #[hd.val h] w fun e w' => e = .returned (.bool (hd.may h)) ∧ Below w.heap.size w w' := by
  have m := HM.new w 53 h
  have hb : Below w.heap.size w (w.alloc (.cells #[bv h.bank, .int .u32 h.blocks, .int .u32 h.batches] 53)) := (Below.refl _ _).alloc (Nat.le_refl _) _
  have q0 := m.c0
  have q1 := m.c1
  have q2 := m.c2
  by_cases h1 : h.bank.toNat ≤ 1
  · by_cases h2 : h.blocks ≤ 4096
    · by_cases h3 : h.batches ≤ h.blocks
      · have hm : hd.may h = true := by simp [hd.may, h1, h2, h3]
        have HM' := Lib.hid hm
        have i1 : (h.bank.toNat : Int) ≤ 1 := by omega
        have i2 : (h.blocks : Int) ≤ 4096 := by omega
        have i3 : (h.batches : Int) ≤ (h.blocks : Int) := by omega
        clear hm
        go_enter Tryz.func99, Tryz.ntmps99
        go_wp2_with fail
        go_ret
        exact ⟨by rw [HM'.out]; rfl, hb⟩
      · have hm : hd.may h = false := by simp [hd.may, h3]
        have HM' := Lib.hid hm
        have i1 : (h.bank.toNat : Int) ≤ 1 := by omega
        have i2 : (h.blocks : Int) ≤ 4096 := by omega
        have i3 : ¬ (h.batches : Int) ≤ (h.blocks : Int) := by omega
        clear hm
        go_enter Tryz.func99, Tryz.ntmps99
        go_wp2_with fail
        go_ret
        exact ⟨by rw [HM'.out]; rfl, hb⟩
    · have hm : hd.may h = false := by simp [hd.may, h2]
      have HM' := Lib.hid hm
      have i1 : (h.bank.toNat : Int) ≤ 1 := by omega
      have i2 : ¬ (h.blocks : Int) ≤ 4096 := by omega
      clear hm
      go_enter Tryz.func99, Tryz.ntmps99
      go_wp2_with fail
      go_ret
      exact ⟨by rw [HM'.out]; rfl, hb⟩
  · have hm : hd.may h = false := by simp [hd.may, h1]
    have HM' := Lib.hid hm
    have i1 : ¬ (h.bank.toNat : Int) ≤ 1 := by omega
    clear hm
    go_enter Tryz.func99, Tryz.ntmps99
    go_wp2_with fail
    go_ret
    exact ⟨by rw [HM'.out]; rfl, hb⟩

namespace hd
/-- the first j numbers of a body -/
def part (h : H) : Nat → List UInt8
  | 0 => []
  | 1 => [h.bank]
  | 2 => [h.bank] ++ leBytes h.blocks 4
  | _ => bodyOf h
def nth (h : H) : Nat → Nat
  | 0 => h.bank.toNat
  | 1 => h.blocks
  | _ => h.batches
def siz : Nat → Nat
  | 0 => 1
  | _ => 4
theorem part_step (h : H) {j : Nat} (hj : j < 3) : part h j ++ leBytes (nth h j) (siz j) = part h (j + 1) := by
  have : j = 0 ∨ j = 1 ∨ j = 2 := by omega
  rcases this with rfl | rfl | rfl
  · simp [part, nth, siz, leBytes]
  · rfl
  · rfl
end hd
set_option maxHeartbeats 4000000 in
set_option maxRecDepth 100000 in
theorem hbody_any (h : hd.H) (hok : h.Ok) (w : World) (ht : Siz w) : Calls Tryz.prog 101 #[hd.val h] w (OwnEnd 5 (hd.bodyOf h) w) := by
  obtain ⟨i0, hi, hz0, hz1, hz2⟩ := info_parts info_u8
  have m := HM.new w 53 h
  have hb : Below w.heap.size w (w.alloc (.cells #[bv h.bank, .int .u32 h.blocks, .int .u32 h.batches] 53)) := (Below.refl _ _).alloc (Nat.le_refl _) _
  have ht1 := ht.below hb
  have q0 := m.c0
  have q1 := m.c1
  have q2 := m.c2
  have hw0 : IntKind.u64.wrap (h.bank.toNat : Int) = (h.bank.toNat : Int) := IntWalk.u64_in _ ⟨by omega, by have := h.bank.toNat_lt; omega⟩
  have hw1 : IntKind.u64.wrap (h.blocks : Int) = (h.blocks : Int) := IntWalk.u64_in _ ⟨by omega, by have := hok.blocks; omega⟩
  have hw2 : IntKind.u64.wrap (h.batches : Int) = (h.batches : Int) := IntWalk.u64_in _ ⟨by omega, by have := hok.batches; omega⟩
  go_enter Tryz.func101, Tryz.ntmps101
  go_wp2_with fail
  go_loopw [3, 18] (fun v t wr => ∃ j : Nat, t = .int .i64 j ∧ j ≤ 3 ∧ OwnB 5 wr w.heap.size v (hd.part h j) ∧ Below w.heap.size w wr) (fun _ t _ => 3 - (intOf t).toNat)
  case atStart => exact ⟨0, rfl, by omega, OwnB.nil_ _ _ _, hb⟩
  case round =>
    obtain ⟨j, rfl, hj, o, hbr⟩ := hrel
    by_cases hlt : j < 3
    · have hidx : ∀ W, (Instr.index 147 (.agg #[.int .u64 (h.bank.toNat : Int), .int .u64 (h.blocks : Int), .int .u64 (h.batches : Int)]) (.int .i64 (j : Int))).run Tryz.prog W = .ok (.int .u64 (hd.nth h j : Int)) W := fun W => by
        have : j = 0 ∨ j = 1 ∨ j = 2 := by omega
        rcases this with rfl | rfl | rfl <;> rfl
      have hcl : ∀ W : World, Siz W → W.cell? ⟨0, j, none⟩ = some (.int .i64 (hd.siz j : Int)) := fun W hW => by
        have : j = 0 ∨ j = 1 ∨ j = 2 := by omega
        rcases this with rfl | rfl | rfl
        · exact hW.c0
        · exact hW.c1
        · exact hW.c2
      have htr := ht.below hbr
      have hcr := hcl wr htr
      have hok1 : putOk (hd.nth h j) (hd.siz j) = true := by
        have : j = 0 ∨ j = 1 ∨ j = 2 := by omega
        have h0 := h.bank.toNat_lt
        have h1 := hok.blocks
        have h2 := hok.batches
        rcases this with rfl | rfl | rfl <;> simp [putOk, isSz, hd.nth, hd.siz] <;> omega
      have hput := put_yes (hd.nth h j) (hd.siz j) wr hok1
      have HPUT := Lib.hid hput
      have hst := hd.part_step h hlt
      have HST := Lib.hid hst
      have hlen : (hd.part h j).length ≤ 9 := by
        have : j = 0 ∨ j = 1 ∨ j = 2 := by omega
        rcases this with rfl | rfl | rfl <;> simp [hd.part, leBytes_length]
      have hs9 : hd.siz j ≤ 4 := by unfold hd.siz; split <;> omega
      generalize hd.nth h j = x at *
      generalize hd.siz j = y at *
      clear hput hst hcl hok1
      obtain ⟨A, c, rfl, hB⟩ := o.form
      go_wp2_with fail
      refine HPUT.out.mono ?_
      rintro e w1 ⟨v1, rfl, o1, b1⟩
      obtain ⟨A1, c1, rfl, hB1⟩ := o1.form
      rw [leBytes_length] at hB1
      have o0 := o.below b1 (Nat.le_refl _)
      have hbr1 := hbr.trans (b1.mono hbr.size)
      clear HPUT b1 hB
      rw [leBytes_length]
      go_wp2_with (at_builtin; refine wpList_append_bytes _ rfl (.tmp 30) (.tmp 31) 36 rfl 5 i0 Tryz.underlying36 hi hz0 hz1 hz2 w.heap.size _ _ rfl o0 A1 y c1 _ rfl hB1 (by omega) hbr1.size ?_; intro v2 w2 o2 hg2 _ _)
      go_roundw
      case rel => exact ⟨j + 1, by go_num, by omega, HST.out ▸ o2, OwnB.step hbr1 o0 hg2 hbr1.size⟩
      case measure => simp [intOf]; omega
    · obtain rfl : j = 3 := by omega
      go_wp2_with fail
      go_ret
      exact ⟨_, rfl, o, hbr⟩
namespace hd
/-- where the number j stands -/
def pos : Nat → Nat
  | 0 => 0
  | 1 => 1
  | 2 => 5
  | _ => 9
def nthIn (l : List UInt8) (j : Nat) : Nat := leVal ((l.drop (pos j)).take (siz j))
def got (l : List UInt8) (j i : Nat) : Nat := if i < j then nthIn l i else 0
theorem got_set (l : List UInt8) {j : Nat} (hj : j < 3) : (#[Value.int .u64 (got l j 0 : Int), .int .u64 (got l j 1 : Int), .int .u64 (got l j 2 : Int)]).setIfInBounds j (.int .u64 (nthIn l j : Int)) = #[.int .u64 (got l (j + 1) 0 : Int), .int .u64 (got l (j + 1) 1 : Int), .int .u64 (got l (j + 1) 2 : Int)] := by
  have : j = 0 ∨ j = 1 ∨ j = 2 := by omega
  rcases this with rfl | rfl | rfl <;> simp [got]
theorem headOf_nth (l : List UInt8) (hl : 9 ≤ l.length) : (headOf l).bank.toNat = nthIn l 0 ∧ (headOf l).blocks = nthIn l 1 ∧ (headOf l).batches = nthIn l 2 := by
  refine ⟨?_, rfl, rfl⟩
  obtain ⟨x, r, rfl⟩ : ∃ x r, l = x :: r := by
    cases l with
    | nil => simp at hl
    | cons x r => exact ⟨x, r, rfl⟩
  simp [headOf, nthIn, pos, siz, leVal]
end hd
theorem size_sizes : (Tryz.prog.info? 148).map (·.size) = some 3 := by kernel_rfl
set_option maxHeartbeats 4000000 in
set_option maxRecDepth 100000 in
theorem hin_any (A : Option Addr) (n c : Nat) (l : List UInt8) (w : World) (hB : BS w A n c l) (hn : 9 ≤ n) (ht : Siz w) : Calls Tryz.prog 103 #[.slice A n c] w fun e w' => e = .returned (hd.val (hd.headOf l)) ∧ Below w.heap.size w w' := by
  have m := HM.new w 53 hd.zero
  have b1 : Below w.heap.size w (w.alloc (.cells #[bv hd.zero.bank, .int .u32 hd.zero.blocks, .int .u32 hd.zero.batches] 53)) := (Below.refl _ _).alloc (Nat.le_refl _) _
  have m2 := m.alloc (.cells #[.int .u64 0, .int .u64 0, .int .u64 0] 147)
  have b2 := b1.alloc b1.size (.cells #[.int .u64 0, .int .u64 0, .int .u64 0] 147)
  have r2 := heap_alloc_new (w.alloc (.cells #[bv hd.zero.bank, .int .u32 hd.zero.blocks, .int .u32 hd.zero.batches] 53)) (.cells #[.int .u64 0, .int .u64 0, .int .u64 0] 147)
  rw [show (w.alloc (.cells #[bv hd.zero.bank, .int .u32 hd.zero.blocks, .int .u32 hd.zero.batches] 53)).heap.size = w.heap.size + 1 from by simp] at r2
  have hl := hB.len
  have ht2 := ht.below b2
  have hrg : ((w.alloc (.cells #[bv hd.zero.bank, .int .u32 hd.zero.blocks, .int .u32 hd.zero.batches] 53)).alloc (.cells #[.int .u64 0, .int .u64 0, .int .u64 0] 147)).rangeAt 0 0 [.int .i64 1, .int .i64 4, .int .i64 4] := fun j v hj => by
    match j with
    | 0 => exact ht2.c0.trans hj
    | 1 => exact ht2.c1.trans hj
    | 2 => exact ht2.c2.trans hj
    | j + 3 => simp at hj
  go_enter Tryz.func103, Tryz.ntmps103
  go_wp2_with (refine wpList_load_mid rfl _ _ rfl 0 0 rfl _ _ hrg Tryz.underlying148 rfl size_sizes ?_)
  clear hrg
  go_loopw [4, 8] (fun a t wr => ∃ j : Nat, t = .int .i64 j ∧ j ≤ 3 ∧ a = .int .i64 (hd.pos j : Int) ∧ HM 53 wr w.heap.size hd.zero ∧ wr.heap[w.heap.size + 1]? = some (.cells #[Value.int .u64 (hd.got l j 0 : Int), .int .u64 (hd.got l j 1 : Int), .int .u64 (hd.got l j 2 : Int)] 147 (0, 0)) ∧ Below w.heap.size w wr) (fun _ t _ => 3 - (intOf t).toNat)
  case atStart => exact ⟨0, rfl, by omega, rfl, m2, r2, b2⟩
  case round =>
    clear m m2 r2 b1 b2 ht2
    obtain ⟨j, rfl, hj, rfl, m, r, hbr⟩ := hrel
    by_cases hlt : j < 3
    · have hidx : ∀ W, (Instr.index 148 (.agg #[.int .i64 1, .int .i64 4, .int .i64 4]) (.int .i64 (j : Int))).run Tryz.prog W = .ok (.int .i64 (hd.siz j : Int)) W := fun W => by
        have : j = 0 ∨ j = 1 ∨ j = 2 := by omega
        rcases this with rfl | rfl | rfl <;> rfl
      have hat : hd.pos j + hd.siz j ≤ n ∧ isSz (hd.siz j) = true ∧ hd.pos j + hd.siz j = hd.pos (j + 1) ∧ hd.pos j ≤ 9 ∧ hd.siz j ≤ 4 := by
        have : j = 0 ∨ j = 1 ∨ j = 2 := by omega
        rcases this with rfl | rfl | rfl <;> simp [hd.pos, hd.siz, isSz] <;> omega
      obtain ⟨hat1, hat2, hat3, hat4, hat5⟩ := hat
      have hget := get_yes A n c l (hd.pos j) (hd.siz j) wr (hB.below hbr) hat2 hat1
      rw [show leVal ((l.drop (hd.pos j)).take (hd.siz j)) = hd.nthIn l j from rfl] at hget
      have HG := Lib.hid hget
      have hset := hd.got_set l hlt
      have hcx : wr.cell? ⟨w.heap.size + 1, j, none⟩ = some (.int .u64 (hd.got l j j : Int)) := by
        rw [cell_of_row _ _ j _ _ _ r]
        have : j = 0 ∨ j = 1 ∨ j = 2 := by omega
        rcases this with rfl | rfl | rfl <;> rfl
      have hfx : wr.frozen? ⟨w.heap.size + 1, j, none⟩ = false := by simp [World.frozen?, r]
      have hblk := block_set (i := j) r (.int .u64 (hd.nthIn l j : Int))
      rw [hset] at hblk
      have HBLK := Lib.hid hblk
      have hch := Chg.setCell wr (w.heap.size + 1) j (.int .u64 (hd.nthIn l j : Int))
      have HCH := Lib.hid hch
      have HAT := Lib.hid hat3
      generalize hd.nthIn l j = x at *
      generalize hd.siz j = y at *
      generalize hd.got l j j = z at *
      clear hget hset hblk hch hat3
      go_wp2_with fail
      refine HG.out.mono ?_
      rintro e w1 ⟨rfl, rfl⟩
      go_wp2_with fail
      go_roundw
      case rel => exact ⟨j + 1, by go_num, by omega, by rw [← HAT.out]; go_num, m.chg HCH.out (by simp), HBLK.out, hbr.trans (HCH.out.below hbr.size (fun k hk => by simp at hk; omega))⟩
      case measure => simp [intOf]; omega
    · obtain rfl : j = 3 := by omega
      obtain ⟨g0, g1, g2⟩ := hd.headOf_nth l (by omega)
      have hOk := hd.headOf_Ok l
      have k0 : wr.cell? ⟨w.heap.size + 1, 0, none⟩ = some (.int .u64 ((hd.headOf l).bank.toNat : Int)) := by rw [cell_of_row _ _ 0 _ _ _ r, g0]; rfl
      have k1 : wr.cell? ⟨w.heap.size + 1, 1, none⟩ = some (.int .u64 ((hd.headOf l).blocks : Int)) := by rw [cell_of_row _ _ 1 _ _ _ r, g1]; rfl
      have k2 : wr.cell? ⟨w.heap.size + 1, 2, none⟩ = some (.int .u64 ((hd.headOf l).batches : Int)) := by rw [cell_of_row _ _ 2 _ _ _ r, g2]; rfl
      have hb0 := (hd.headOf l).bank.toNat_lt
      have hb1 := hOk.blocks
      have hb2 := hOk.batches
      have hw0 : IntKind.u8.wrap ((hd.headOf l).bank.toNat : Int) = ((hd.headOf l).bank.toNat : Int) := IntWalk.u8_in _ ⟨by omega, by omega⟩
      have hw1 : IntKind.u32.wrap ((hd.headOf l).blocks : Int) = ((hd.headOf l).blocks : Int) := IntWalk.u32_in _ ⟨by omega, by omega⟩
      have hw2 : IntKind.u32.wrap ((hd.headOf l).batches : Int) = ((hd.headOf l).batches : Int) := IntWalk.u32_in _ ⟨by omega, by omega⟩
      clear g0 g1 g2 hOk r
      obtain ⟨h, hh⟩ : ∃ h, hd.headOf l = h := ⟨_, rfl⟩
      rw [hh] at k0 k1 k2 hb0 hb1 hb2 hw0 hw1 hw2
      have HH := Lib.hid hh
      clear hh
      go_wp2_with (refine wp_sth (.tmp 2) (.tmp 34) h hd.zero m rfl rfl rfl rfl ?_; intro w7 m7 hc7)
      refine bodyPost_ret (results_cell rfl rfl (head_load m7)) rfl ⟨by rw [HH.out], (Chg.of_below hbr [w.heap.size]).trans hc7 (Sub.refl _ _) |>.below (Nat.le_refl _) (fun k hk => by simp at hk; omega)⟩
end Go.Proofs.YthddcaoolaipiaaGreatDoor

/-
  contracts of cardexref04.Disk's methods that write blocks: Write, Flush, Rot, Torn, Crash; New.
-/
namespace Go.Proofs.YthddcaoolaipiaaGreatDoor
open Go.RowKit
variable {w : World} {p g c : Nat} {r : List Value} {v : Value} {s : dk.St}

theorem info_put : (Tryz.prog.info? 76).map (fun i => (i.zero, i.size, i.bytes)) = some (some (.agg (dk.put (0, dk.zero)).toArray), 129, 136) := by kernel_rfl

theorem put_zero : ∀ w, (zeroValue 76).run Tryz.prog w = .ok (.agg (dk.put (0, dk.zero)).toArray) w := fun w => by
  cases hq : Tryz.prog.info? 76 with
  | none => have := info_put; simp [hq] at this
  | some i =>
    have := info_put
    simp only [hq, Option.map_some, Option.some.injEq, Prod.mk.injEq] at this
    simp [zeroValue, typeInfo, hq, this.1]

theorem info_parts3 {e : TypeId} {z : Value} {sz bt : Nat} (h : (Tryz.prog.info? e).map (fun i => (i.zero, i.size, i.bytes)) = some (some z, sz, bt)) : ∃ i, Tryz.prog.info? e = some i ∧ i.zero = some z ∧ i.size = sz ∧ i.bytes = bt := by
  cases hq : Tryz.prog.info? e with
  | none => simp [hq] at h
  | some i =>
    simp only [hq, Option.map_some, Option.some.injEq, Prod.mk.injEq] at h
    exact ⟨i, rfl, h.1, h.2.1, h.2.2⟩

/-- one write is appended, at a step of a region that draws -/
theorem step_put {ops : Array Oper} {o : Oper} {a : Act} {W : World} {K : Act → World → Prop} {Q : Exit → Act → World → Prop} {E0 : Prop} (x y : Operand) {v : Value} {n : Nat} {xs : List Value} {B : Nat} {PB : Array Value}
    (hown : W.ownsRow 0 76 129 v n xs) (hB : W.heap[B]? = some (.cells PB 76 (0, 0))) (hps : PB.size = 129) (hone : ∀ u ∈ PB.toList, u.oneCell' = true) (hn : n ≤ 1048576) (hgd : o.guard = none)
    (ho : o.op = .call { callee := .builtin .append, args := #[x, y], argTypes := #[62, 62] }) (hx : a.eval x = v) (hy : a.eval y = .slice (some ⟨B, 0, none⟩) 1 1)
    (h : ∀ g cap W', W'.ownsRow 0 76 129 (.slice (some ⟨g, 0, none⟩) (n + 1) cap) (n + 1) (xs ++ PB.toList) → W.grownBy W' v.ownBlock → (v.ownBlock = some g ∨ g = W.heap.size) → g < W'.heap.size → K (a.put o.dst (.slice (some ⟨g, 0, none⟩) (n + 1) cap)) W') :
    if Region.wanted o (yielded ops a.tmps) = true then Oper.wp Tryz.prog o a W K Q else E0 := by
  obtain ⟨i0, hi0, hz0, hs0, hb0⟩ := info_parts3 info_put
  exact step_append_lies W hgd x y 62 ho 0 76 i0 _ 129 136 Tryz.underlying62 hi0 hz0 hs0 hb0 (dk.put_size (0, dk.zero) zero_len) (by omega) v n xs hx hown ⟨B, 0, none⟩ 1 1 PB.toList hy (by simp [hps]) (World.news_of_block hB) hone (by omega) (by rw [maxLen_eq]; omega) (by omega) (Nat.zero_le _) _ rfl h

set_option maxHeartbeats 4000000 in
set_option maxRecDepth 100000 in
theorem rwrite_any (n : Int) (b : dk.Blk) (hb : b.length = 128) (h : RM w p g c r v s) (hm : s.many < 4611686018427387904) (hl : s.L.length ≤ 1048576) : Calls Tryz.prog 21 #[.pointer (some ⟨p, 0, none⟩), .int .i64 n, dk.val b] w fun e w' =>
    ∃ v', e = .returned (.int .i64 (dk.write s n b).1) ∧ RM w' p g c r v' (dk.write s n b).2 ∧ Chg w w' (dk.fp p g v) ∧ Sub w (dk.fp p g v') (dk.fp p g v) := by
  have h1 := h.alloc (.cells (dk.cells b).toArray 43)
  have hrow := heap_alloc_new w (.cells (dk.cells b).toArray 43)
  have ha := rasks_any n h1
  obtain ⟨q, hq⟩ : ∃ q, dk.asks s n = q := ⟨_, rfl⟩
  rw [hq] at ha
  have HA := Lib.hid ha
  by_cases h0 : q = 0
  · subst h0
    have hs := Lib.hid (rstep_any h1 hm)
    by_cases hc : s.cut = 1
    · have hst1 : (dk.step s).1 = 9 := by rw [dk.step, if_pos hc]
      have hwr : dk.write s n b = (9, (dk.step s).2) := by rw [dk.write, if_pos hq, if_neg (by rw [hst1]; omega)]
      have HW := Lib.hid hwr
      rw [hst1] at hs
      clear ha hq hst1 hwr
      go_enter Tryz.func21, Tryz.ntmps21
      go_wp2_with fail
      refine HA.out.mono ?_
      rintro e w1 ⟨rfl, rfl⟩
      go_wp2_with fail
      refine hs.out.mono ?_
      rintro e w2 ⟨rfl, hM, hC⟩
      go_wp2_with fail
      go_ret
      exact ⟨v, ret_int (by rw [HW.out]), by rw [HW.out]; exact hM, ((Chg.alloc w _ [p]).trans hC (Sub.refl _ _)).mono (fun k hk => .inl (by simp [dk.fp] at hk ⊢; simp [hk])), Sub.refl _ _⟩
    · have hst1 : (dk.step s).1 = 0 := by rw [dk.step, if_neg hc]
      rw [hst1] at hs
      clear ha
      go_enter Tryz.func21, Tryz.ntmps21
      go_wp2_with fail
      refine HA.out.mono ?_
      rintro e w1 ⟨rfl, rfl⟩
      go_wp2_with fail
      refine hs.out.mono ?_
      rintro e w2 ⟨rfl, hM, hC⟩
      go_wp2_with fail
      have hP : w2.heap[w.heap.size]? = some (.cells (dk.cells b).toArray 43 (0, 0)) := by
        rw [hC.block _ (by simp) (by have := h.there p (by simp [dk.fp]); simp; omega)]
        exact hrow
      have rg := blk_range hP
      have c1 := hM.c1
      have f1 := hM.fz 1
      have uB := Tryz.underlying43
      have iB := info_blk' hb
      have hne : p ≠ w.heap.size := by have := h.there p (by simp [dk.fp]); omega
      obtain ⟨Z, hZ⟩ : ∃ Z : Array Value, Z = (dk.put (0, dk.zero)).toArray := ⟨_, rfl⟩
      obtain ⟨PB, hPB⟩ : ∃ Z : Array Value, Z = (dk.put (n, b)).toArray := ⟨_, rfl⟩
      have zp := put_zero
      have zs : Z.size = 129 := by rw [hZ]; exact dk.put_size _ zero_len
      have zn : ¬ Z = #[] := fun e => by rw [e] at zs; simp at zs
      have zf : List.foldl (fun (c : Array Value) (x : Value × Nat) => c.setIfInBounds (1 + x.snd) x.fst) (Z.setIfInBounds 0 (.int .i64 n)) (dk.cells b).zipIdx = PB := by rw [hZ, hPB]; exact dk.build_put n b hb
      rw [← hZ] at zp
      have ps : PB.size = 129 := by rw [hPB]; exact dk.put_size _ hb
      have HPB := Lib.hid hPB
      clear hrow HA hs h1 hZ hPB
      have hPBrow := heap_alloc_new w2.drew (.cells PB 76)
      have hMa := hM.drew.alloc (.cells PB 76)
      have hown := hMa.loose
      have hone : ∀ u ∈ PB.toList, u.oneCell' = true := by
        rw [HPB.out]
        intro u hu
        rw [List.toList_toArray] at hu
        rcases List.mem_cons.1 hu with rfl | hu
        · rfl
        · exact bvs_one b u hu
      have c1a := hMa.c1
      have f1a := hMa.fz 1
      have hpsz : p < (w2.drew.alloc (.cells PB 76)).heap.size := hMa.there p (by simp [dk.fp])
      have hne2 : some p ≠ v.ownBlock := fun e => hM.ne2 e.symm
      have hvw : some w.heap.size ≠ v.ownBlock := fun e => by have := h.there w.heap.size (by simp [dk.fp, ← e]); omega
      have rga := World.rangeAt_alloc (show w2.drew.rangeAt w.heap.size 0 (dk.cells b) from rg) (.cells PB 76)
      rw [dk.step_L] at hown
      refine wp_region_held_drew (S := fun w' => w'.rangeAt w.heap.size 0 (dk.cells b)) (by kernel_rfl) (by simpa using rg) (fun hHeld => ?_)
      refine wpAnyH_take (i := 0) (v := ?_) rfl (by kernel_rfl) (by kernel_rfl) (by kernel_rfl) (fun _ _ _ h => h) (Or.inl ⟨by rfl, ?_⟩) hHeld ?_
      rotate_left
      · intro w _; go_simp; try rfl
      simp only [List.getElem_toArray, List.getElem_cons_zero, Act.put, List.setIfInBounds_toArray, List.set_cons_zero, List.set_cons_succ]
      refine wpAnyH_take (i := 1) (v := ?_) rfl (by kernel_rfl) (by kernel_rfl) (by kernel_rfl) (fun _ _ _ h => h) (Or.inl ⟨by rfl, ?_⟩) hHeld ?_
      rotate_left
      · intro w _; go_simp; try rfl
      simp only [List.getElem_toArray, List.getElem_cons_zero, List.getElem_cons_succ, Act.put, List.setIfInBounds_toArray, List.set_cons_zero, List.set_cons_succ]
      refine wpAnyH_take (i := 2) (v := ?_) rfl (by kernel_rfl) (by kernel_rfl) (by kernel_rfl) (fun _ _ _ h => h) (Or.inl ⟨by rfl, ?_⟩) hHeld ?_
      rotate_left
      · intro w _; go_simp; try rfl
      simp only [List.getElem_toArray, List.getElem_cons_zero, List.getElem_cons_succ, Act.put, List.setIfInBounds_toArray, List.set_cons_zero, List.set_cons_succ]
      refine wpAnyH_take (i := 3) (v := ?_) rfl (by kernel_rfl) (by kernel_rfl) (by kernel_rfl) (fun _ _ _ h => h) (Or.inl ⟨by rfl, ?_⟩) hHeld ?_
      rotate_left
      · intro w _; go_simp; try rfl
      simp only [List.getElem_toArray, List.getElem_cons_zero, List.getElem_cons_succ, Act.put, List.setIfInBounds_toArray, List.set_cons_zero, List.set_cons_succ]
      refine wpAnyH_take (i := 5) (v := ?_) rfl (by kernel_rfl) (by kernel_rfl) (by kernel_rfl) (fun _ _ _ h => h) (Or.inl ⟨by rfl, ?_⟩) hHeld ?_
      rotate_left
      · intro w _; go_simp; try rfl
      simp only [List.getElem_toArray, List.getElem_cons_zero, List.getElem_cons_succ, Act.put, List.setIfInBounds_toArray, List.set_cons_zero, List.set_cons_succ]
      refine wpAnyH_take (i := 6) (v := dk.val b) rfl (by kernel_rfl) (by kernel_rfl) (by kernel_rfl) (fun _ _ _ h => h) (yieldsIf_load_mid (by rfl) 43 (.tmp 5) rfl w.heap.size 0 rfl (dk.cells b) _ (fun w h => h) uB rfl iB) hHeld ?_
      simp only [List.getElem_toArray, List.getElem_cons_zero, List.getElem_cons_succ, Act.put, List.setIfInBounds_toArray, List.set_cons_zero, List.set_cons_succ]
      refine wpAnyH_take (i := 7) (v := ?_) rfl (by kernel_rfl) (by kernel_rfl) (by kernel_rfl) (fun _ _ _ h => h) (Or.inl ⟨by rfl, ?_⟩) hHeld ?_
      rotate_left
      · intro w _; go_simp; try rfl
      simp only [List.getElem_toArray, List.getElem_cons_zero, List.getElem_cons_succ, Act.put, List.setIfInBounds_toArray, List.set_cons_zero, List.set_cons_succ]
      have hS2 := World.rangeAt_alloc hHeld (.cells PB 76)
      obtain ⟨i0, hi0, hz0, hs0, hb0⟩ := info_parts3 info_put
      have hfill := dk.fill_one 129 ((Array.range 129).map fun i => (dk.put (0, dk.zero)).toArray[i % 129]!) PB ps (by simp)
      refine wpAnyH_ready (rs := [4, 8]) (by kernel_rfl) (by simp) ?_
      refine AllReadyH.cons rfl (fun K hK => ?o1) (AllReadyH.cons rfl (fun K hK => ?o2) AllReadyH.nil)
      case' o1 =>
        rw [if_pos (by rfl)]
        go_simp
        refine hK.out _ _ hHeld (fun hHeld => ?_)
        clear hK K
        refine wpAnyH_ready (rs := [8]) (by kernel_rfl) (by simp) ?_
        refine AllReadyH.cons rfl (fun K hK => ?_) AllReadyH.nil
        rw [if_pos (by rfl)]
        refine wp_buildSlice 62 76 1 _ rfl PB i0 _ Tryz.underlying62 hi0 hz0 (by rw [hs0]; omega) (by rw [hs0]; omega) ?hf ?h
        case' hf => (rw [hs0]; simp only [List.map_toArray, List.map_cons, List.map_nil]; refine dk.fill_one 129 _ PB ps ?_; rw [Array.size_map, Array.size_range])
        simp only [List.getElem_toArray, List.getElem_cons_zero, List.getElem_cons_succ, Act.put, List.setIfInBounds_toArray, List.set_cons_zero, List.set_cons_succ]
        refine hK.out _ _ hS2 (fun hHeld => ?_)
        clear hK K
      case' o2 =>
        rw [if_pos (by rfl)]
        refine wp_buildSlice 62 76 1 _ rfl PB i0 _ Tryz.underlying62 hi0 hz0 (by rw [hs0]; omega) (by rw [hs0]; omega) ?hf2 ?h2
        case' hf2 => (rw [hs0]; simp only [List.map_toArray, List.map_cons, List.map_nil]; refine dk.fill_one 129 _ PB ps ?_; rw [Array.size_map, Array.size_range])
        simp only [List.getElem_toArray, List.getElem_cons_zero, List.getElem_cons_succ, Act.put, List.setIfInBounds_toArray, List.set_cons_zero, List.set_cons_succ]
        refine hK.out _ _ hS2 (fun hHeld => ?_)
        clear hK K
        refine wpAnyH_ready (rs := [4]) (by kernel_rfl) (by simp) ?_
        refine AllReadyH.cons rfl (fun K hK => ?_) AllReadyH.nil
        rw [if_pos (by rfl)]
        have c1c : (w2.alloc (.cells PB 76)).cell? ⟨p, 1, none⟩ = some v := c1a
        go_simp
        change K _ (w2.drew.alloc (.cells PB 76))
        refine hK.out _ _ hS2 (fun hHeld => ?_)
        clear hK K
      all_goals
        refine wpAnyH_ready (rs := [9]) (by kernel_rfl) (by simp) ?_
        refine AllReadyH.cons rfl (fun K hK => ?_) AllReadyH.nil
        refine step_put (.tmp 24) (.tmp 28) hown hPBrow ps hone hl rfl rfl rfl rfl ?_
        intro gg cap w3 hown3 hg3 hat3 hlt3
        have c13 := (hg3.cell_far ⟨p, 1, none⟩ hpsz hne2).trans c1a
        have f13 := (hg3.frozen_far ⟨p, 1, none⟩ hpsz hne2).trans f1a
        simp only [List.getElem_toArray, List.getElem_cons_zero, List.getElem_cons_succ, Act.put, List.setIfInBounds_toArray, List.set_cons_zero, List.set_cons_succ]
        refine hK.out _ _ (dk.range_grown hS2 hg3 hvw) (fun hHeld => ?_)
        clear hK K
        refine wpAnyH_take (i := 10) (v := ?_) rfl (by kernel_rfl) (by kernel_rfl) (by kernel_rfl) (fun _ _ _ h => h) (Or.inl ⟨by rfl, ?_⟩) hHeld ?_
        rotate_left
        · intro w _; go_simp; try rfl
        simp only [List.getElem_toArray, List.getElem_cons_zero, List.getElem_cons_succ, Act.put, List.setIfInBounds_toArray, List.set_cons_zero, List.set_cons_succ]
        refine wpAnyH_take (i := 11) (v := ?_) rfl (by kernel_rfl) (by kernel_rfl) (by kernel_rfl) (fun _ _ _ h => h) (Or.inl ⟨by rfl, ?_⟩) hHeld ?_
        rotate_left
        · intro w _; go_simp; try rfl
        simp only [List.getElem_toArray, List.getElem_cons_zero, List.getElem_cons_succ, Act.put, List.setIfInBounds_toArray, List.set_cons_zero, List.set_cons_succ]
        refine wpAnyH_ready (rs := [12]) (by kernel_rfl) (by simp) ?_
        refine AllReadyH.cons rfl (fun K hK => ?_) AllReadyH.nil
        rw [if_pos (by rfl)]
        go_simp
        refine hK.out _ _ (dk.range_setCell hHeld _ _ hne) (fun hHeld => ?_)
        clear hK K
        refine wpAnyH_done (by kernel_rfl) ?_ _
        go_wp2_with fail
        go_ret
        have hxs : ((n, b) : Int × dk.Blk).2.length = 128 := hb
        obtain ⟨_, hn0, hn1⟩ := dk.asks_in hq
        rw [HPB.out, List.toList_toArray] at hown3
        have hap := dk.M.appended (x := (n, b)) (show RM _ p g c r v (dk.step s).2 from hMa) hg3 (by rw [dk.step_L]; exact hown3) hat3 hb (by rw [dk.step_S]; exact ⟨hn0, hn1⟩)
        rw [dk.step_L] at hap
        have hwr : dk.write s n b = (0, { (dk.step s).2 with L := s.L ++ [(n, b)] }) := by rw [dk.write, if_pos hq, if_pos hst1]
        have hCw : Chg w (w2.drew.alloc (.cells PB 76)) (dk.fp p g v) :=
          (((Chg.alloc w _ [p]).trans hC (Sub.refl _ _)).mono (fun k hk => .inl (by simp [dk.fp] at hk ⊢; simp [hk]))).trans ((Chg.drew _ (dk.fp p g v)).trans (Chg.alloc _ _ (dk.fp p g v)) (Sub.refl _ _)) (Sub.refl _ _)
        exact ⟨_, ret_int (by rw [hwr]), by rw [hwr]; exact hap.1, hCw.trans hap.2.1 (Sub.refl _ _), hap.2.2.trans (Sub.refl _ _) hCw.size⟩
  · have hwr : dk.write s n b = (q, s) := by rw [dk.write, hq, if_neg h0]
    have HW := Lib.hid hwr
    have hqb : (q == 0) = false := by simpa using h0
    clear ha hq hwr
    go_enter Tryz.func21, Tryz.ntmps21
    go_wp2_with fail
    refine HA.out.mono ?_
    rintro e w1 ⟨rfl, rfl⟩
    go_wp2_with fail
    go_ret
    exact ⟨v, ret_int (by rw [HW.out]), by rw [HW.out]; exact h1, Chg.alloc _ _ _, Sub.refl _ _⟩
end Go.Proofs.YthddcaoolaipiaaGreatDoor

/-
  contract of cardexref04.Torn: the first bytes of a new block, the others of an old one.
-/
namespace Go.Proofs.YthddcaoolaipiaaGreatDoor
open Go.RowKit
variable {w : World}

theorem torn_step (old now : dk.Blk) (ho : old.length = 128) (hn : now.length = 128) (j : Nat) (hj : j < 128) (x : UInt8) (hx : now[j]? = some x) : (dk.torn old now (j : Int)).set j x = dk.torn old now ((j + 1 : Nat) : Int) := by
  unfold dk.torn
  rw [Int.toNat_natCast, Int.toNat_natCast, List.set_append_right _ _ (by simp; omega), show j - (List.take j now).length = 0 from by simp; omega, List.drop_eq_getElem_cons (by omega), List.set_cons_zero, List.take_succ_eq_append_getElem (by omega)]
  have : now[j]'(by omega) = x := by
    rw [List.getElem?_eq_getElem (by omega)] at hx
    exact Option.some.inj hx
  rw [this]
  simp

set_option maxHeartbeats 4000000 in
set_option maxRecDepth 100000 in
theorem rtorn_any (old now : dk.Blk) (n : Int) (ho : old.length = 128) (hn : now.length = 128) : Calls Tryz.prog 33 #[dk.val old, dk.val now, .int .i64 n] w fun e w' => e = .returned (dk.val (dk.torn old now n)) ∧ Below w.heap.size w w' := by
  obtain ⟨hz, -⟩ := zero_of_info zero_blk
  obtain ⟨W0, hW0⟩ : ∃ W0, W0 = ((w.alloc (.cells (dk.cells old).toArray 43)).alloc (.cells (dk.cells now).toArray 43)).alloc (.cells (dk.cells dk.zero).toArray 43) := ⟨_, rfl⟩
  have r0 : RowB 43 W0 w.heap.size old := by
    rw [hW0]
    exact ((show RowB 43 (w.alloc (.cells (dk.cells old).toArray 43)) w.heap.size old from heap_alloc_new w _).alloc _).alloc _
  have r1 : RowB 43 W0 (w.heap.size + 1) now := by
    rw [hW0]
    have := (show RowB 43 ((w.alloc (.cells (dk.cells old).toArray 43)).alloc (.cells (dk.cells now).toArray 43)) (w.alloc (.cells (dk.cells old).toArray 43)).heap.size now from heap_alloc_new _ _).alloc (.cells (dk.cells dk.zero).toArray 43)
    simpa using this
  have r2 : RowB 43 W0 (w.heap.size + 2) dk.zero := by
    rw [hW0]
    have := heap_alloc_new ((w.alloc (.cells (dk.cells old).toArray 43)).alloc (.cells (dk.cells now).toArray 43)) (.cells (dk.cells dk.zero).toArray 43)
    simpa [RowB] using this
  have hb0 : Below w.heap.size w W0 := by
    rw [hW0]
    exact (((Below.refl _ _).alloc (Nat.le_refl _) _).alloc (by simp) _).alloc (by simp; omega) _
  have HW := Lib.hid hW0
  have hN0 : dk.torn old now ((0 : Nat) : Int) = old := by simp [dk.torn]
  clear hW0
  go_enter Tryz.func33, Tryz.ntmps33
  go_wp2_with fail
  rw [← HW.out]
  go_loopw [7] (fun t wr => ∃ j : Nat, t = .int .i64 j ∧ j ≤ 128 ∧ (j ≤ n.toNat) ∧ RowB 43 wr w.heap.size (dk.torn old now (j : Int)) ∧ RowB 43 wr (w.heap.size + 1) now ∧ RowB 43 wr (w.heap.size + 2) dk.zero ∧ Below w.heap.size w wr) (fun t _ => 128 - (intOf t).toNat)
  case atStart => exact ⟨0, rfl, by omega, by omega, by rw [hN0]; exact r0, r1, r2, hb0⟩
  case round =>
    clear r0 r1 r2 hb0 hN0
    obtain ⟨j, rfl, hj, hjn, r0, r1, r2, hb⟩ := hrel
    have htl := dk.torn_length (j : Int) ho hn
    by_cases hin : j < 128 ∧ (j : Int) < n
    · obtain ⟨h1, h2⟩ := hin
      have cN := r1.cell (i := j) (by omega)
      have cO := r0.cell (i := j) (by omega)
      have fO := r0.frozen j
      have hst := torn_step old now ho hn j h1 (now[j]'(by omega)) (List.getElem?_eq_getElem (by omega))
      generalize now[j]'(by omega) = x at *
      generalize (dk.torn old now (j : Int))[j]'(by omega) = y at *
      have HST := Lib.hid hst
      clear hst
      go_wp2
      go_roundw
      case rel =>
        refine ⟨j + 1, by go_num, by omega, by omega, ?_, r1.far (by simp) _, r2.far (by simp) _, hb.setCell (Nat.le_refl _) _⟩
        have := r0.set_ j x
        rw [HST.out] at this
        exact this
      case measure => simp [intOf]; omega
    · have hres : dk.torn old now (j : Int) = dk.torn old now n := by
        unfold dk.torn
        rw [Int.toNat_natCast]
        by_cases h128 : j = 128
        · subst h128
          rw [List.take_of_length_le (by omega), List.take_of_length_le (by omega), List.drop_of_length_le (by omega), List.drop_of_length_le (by omega)]
        · have : j = n.toNat := by omega
          rw [this]
      rw [hres] at r0 htl
      clear hres
      have hrg := blk_range r0
      have hcs : (j = 128) ∨ (j < 128 ∧ ¬ (j : Int) < n) := by omega
      rcases hcs with h1 | ⟨h1, h2⟩
      all_goals
        go_wp2_with (first | refine wp_ld (.tmp 3) _ hrg htl rfl rfl rfl ?_ | (refine wp_st0 (.tmp 6) (.tmp 22) _ r2 zero_len htl rfl rfl rfl rfl ?_; intro W2 hW2 hc2))
        refine bodyPost_ret (results_cell rfl rfl (blk_load (blk_range hW2) htl)) rfl ⟨rfl, (Chg.of_below hb [w.heap.size + 2]).trans hc2 (Sub.refl _ _) |>.below (Nat.le_refl _) (fun k hk => by simp at hk; omega)⟩
end Go.Proofs.YthddcaoolaipiaaGreatDoor

/-
  contracts of cardexref04.Disk's methods that write blocks: Flush, Rot, Torn, Crash; New.
-/
namespace Go.Proofs.YthddcaoolaipiaaGreatDoor
open Go.RowKit
variable {w : World} {p g c : Nat} {r : List Value} {v : Value} {s : dk.St}

set_option maxHeartbeats 4000000 in
set_option maxRecDepth 100000 in
theorem rflush_any (h : RM w p g c r v s) (hm : s.many < 4611686018427387904) : Calls Tryz.prog 76 #[.pointer (some ⟨p, 0, none⟩)] w fun e w' =>
    ∃ v', e = .returned (.int .i64 (dk.flush s).1) ∧ RM w' p g c r v' (dk.flush s).2 ∧ Chg w w' (dk.fp p g v) ∧ Sub w (dk.fp p g v') (dk.fp p g v) := by
  have c3 := h.c3
  have hs := rstep_any h hm
  cases hb : s.black with
  | true =>
    have hr : dk.flush s = (9, s) := by rw [dk.flush, if_pos hb]
    have HR := Lib.hid hr
    rw [hb] at c3
    clear hr hs
    go_enter Tryz.func76, Tryz.ntmps76
    go_wp2_with fail
    go_ret
    exact ⟨v, ret_int (by rw [HR.out]), by rw [HR.out]; exact h, Chg.refl _ _, Sub.refl _ _⟩
  | false =>
    rw [hb] at c3
    by_cases hc : s.cut = 1
    · have hst1 : (dk.step s).1 = 9 := by rw [dk.step, if_pos hc]
      have hr : dk.flush s = (9, (dk.step s).2) := by rw [dk.flush, if_neg (by simp [hb]), if_neg (by rw [hst1]; omega)]
      rw [hst1] at hs
      have HS := Lib.hid hs
      have HR := Lib.hid hr
      clear hr hs hst1 hc
      go_enter Tryz.func76, Tryz.ntmps76
      go_wp2_with fail
      refine HS.out.mono ?_
      rintro e w2 ⟨rfl, hM, hC⟩
      go_wp2_with fail
      go_ret
      exact ⟨v, ret_int (by rw [HR.out]), by rw [HR.out]; exact hM, hC.mono dk.sub_p, Sub.refl _ _⟩
    · have hst1 : (dk.step s).1 = 0 := by rw [dk.step, if_neg hc]
      have hr : dk.flush s = (0, { (dk.step s).2 with S := dk.lay s.S s.L, L := [] }) := by rw [dk.flush, if_neg (by simp [hb]), if_pos hst1]
      rw [hst1] at hs
      have HS := Lib.hid hs
      have HR := Lib.hid hr
      have hSS := dk.step_S s
      have hLL := dk.step_L s
      generalize (dk.step s).2 = s1 at *
      rw [← hSS, ← hLL] at HR
      clear hr hs hst1 hc hSS hLL
      go_enter Tryz.func76, Tryz.ntmps76
      go_wp2_with fail
      refine HS.out.mono ?_
      rintro e w2 ⟨rfl, hM0, hC0⟩
      go_wp2_with fail
      go_loopw [4] (fun t wr => ∃ j : Nat, j ≤ s1.L.length ∧ t = .int .i64 j ∧ RM wr p g c r v { s1 with S := dk.lay s1.S (s1.L.take j) } ∧ Chg w wr (dk.fp p g v)) (fun t _ => s1.L.length - (intOf t).toNat)
      case atStart => exact ⟨0, by omega, rfl, hM0, hC0.mono dk.sub_p⟩
      case round =>
        have hlen := hM0.ok.lenL
        have hin := hM0.ok.inL
        clear hM0 hC0 h c3 HS
        obtain ⟨j, hj, rfl, hM, hC⟩ := hrel
        have d1 := hM.c1
        by_cases hlt : j < s1.L.length
        · obtain ⟨k, cap, hv, hcap, hmax, dN, dB⟩ := hM.put_ hlt
          have d0 := hM.c0
          have hbl := hlen _ (List.getElem_mem hlt)
          obtain ⟨hi0, hi1⟩ := hin _ (List.getElem_mem hlt)
          have hst : dk.lay s1.S (s1.L.take (j + 1)) = (dk.lay s1.S (s1.L.take j)).set s1.L[j].1.toNat s1.L[j].2 := by
            rw [List.take_succ_eq_append_getElem hlt, dk.lay_snoc]
          simp only at dN dB d0 d1
          generalize s1.L[j] = x at *
          obtain ⟨xn, xb⟩ := x
          simp only at hst dN dB hbl hi0 hi1
          obtain ⟨i, rfl⟩ : ∃ i : Nat, xn = i := ⟨xn.toNat, by omega⟩
          rw [Int.toNat_natCast] at hst
          have HST := Lib.hid hst
          have hiS : i < (dk.lay s1.S (s1.L.take j)).length := by rw [dk.lay_length]; omega
          rw [hv] at d1
          have hrl := hM.rowLen hiS
          have hrow := hM.row
          simp only [dk.lay_length] at d0
          simp only at hrl hrow
          have hmost := hM.ok.most
          simp only [dk.lay_length] at hmost
          clear hst hlen hin
          go_wp2_with fail
          refine wp_region_still_tail 21 (by kernel_rfl) (by kernel_rfl) ?_
          simp only [List.take_succ_cons, List.take_zero, List.drop_succ_cons, List.drop_zero]
          iterate 19 still_step
          refine still_ld (.tmp 41) xb (show wr.drew.rangeAt k (j * 129 + 1) (dk.cells xb) from dB) hbl rfl rfl (by rfl) ?_
          simp only [Act.put, List.setIfInBounds_toArray, List.set_cons_zero, List.set_cons_succ]
          still_step
          refine wpStill_nil ?_
          refine wp_st (.tmp 43) (.tmp 42) xb (show wr.drew.heap[g]? = _ from hrow) hrl hbl rfl rfl rfl rfl ?_
          intro W hW hCW
          have hMW := hM.drew.stored hiS hbl hW hCW
          simp only at hMW
          clear dN dB d0 d1 hrow hrl hW
          go_wp2_with fail
          go_roundw
          case rel => exact ⟨j + 1, by omega, by go_num, by rw [HST.out]; exact hMW, (hC.trans (Chg.drew _ (dk.fp p g v)) (Sub.refl _ _)).trans hCW dk.sub_g⟩
          case measure => simp [intOf]; omega
        · obtain ⟨A, cap, hv, _, _⟩ := hM.own_len
          subst hv
          have f1 := hM.fz 1
          have hcl := hM.clear_
          simp only [List.take_of_length_le (show s1.L.length ≤ j from by omega)] at hcl
          go_wp2_with fail
          go_ret
          exact ⟨ret_int (by rw [HR.out]), _, by rw [HR.out]; exact hcl, hC.trans (Chg.setCell _ _ _ _) dk.sub_p, dk.sub_nil⟩

set_option maxHeartbeats 4000000 in
set_option maxRecDepth 100000 in
theorem rrot_any (n at_ : Int) (x : UInt8) (h : RM w p g c r v s) : Calls Tryz.prog 31 #[.pointer (some ⟨p, 0, none⟩), .int .i64 n, .int .i64 at_, bv x] w fun e w' =>
    e = .returned (.int .i64 (dk.rot s n at_ x).1) ∧ RM w' p g c r v (dk.rot s n at_ x).2 ∧ Chg w w' (dk.fp p g v) := by
  have c0 := h.c0
  have hm := h.ok.most
  by_cases hin : n < 0 ∨ (s.S.length : Int) ≤ n ∨ at_ < 0 ∨ 128 ≤ at_
  · have hr : dk.rot s n at_ x = (2, s) := if_pos hin
    have HR := Lib.hid hr
    clear hr
    have hcs : n < 0 ∨ (¬ n < 0 ∧ (s.S.length : Int) ≤ n) ∨ (¬ n < 0 ∧ ¬ (s.S.length : Int) ≤ n ∧ at_ < 0) ∨ (¬ n < 0 ∧ ¬ (s.S.length : Int) ≤ n ∧ ¬ at_ < 0 ∧ 128 ≤ at_) := by omega
    clear hin
    rcases hcs with h0 | ⟨h0, h1⟩ | ⟨h0, h1, h2⟩ | ⟨h0, h1, h2, h3⟩
    all_goals
      go_enter Tryz.func31, Tryz.ntmps31
      go_wp2_with fail
      go_ret
      exact ⟨ret_int (by rw [HR.out]), by rw [HR.out]; exact h, Chg.refl _ _⟩
  · obtain ⟨i, rfl⟩ : ∃ i : Nat, n = i := ⟨n.toNat, by omega⟩
    obtain ⟨k, rfl⟩ : ∃ k : Nat, at_ = k := ⟨at_.toNat, by omega⟩
    have hi : i < s.S.length := by omega
    have hk : k < 128 := by omega
    have hbl := h.ok.lenS _ (List.getElem_mem hi)
    have hr : dk.rot s i k x = (0, { s with S := s.S.set i (s.S[i].set k (s.S[i].getD k 0 ^^^ x)) }) := by
      rw [dk.rot, if_neg hin, Int.toNat_natCast, Int.toNat_natCast, List.getD_eq_getElem?_getD, List.getElem?_eq_getElem hi]
      rfl
    have HR := Lib.hid hr
    have hrange := h.block hi
    have hMB : ∀ y, RM (w.drew.setCell ⟨g, i * 128 + k, none⟩ (bv y)) p g c r v { s with S := s.S.set i (s.S[i].set k y) } := fun y => h.drew.byte hi hk
    generalize s.S[i] = b at *
    have hkb : k < b.length := by omega
    have hcell := hrange k (bv b[k]) (by rw [List.getElem?_map, List.getElem?_eq_getElem hkb]; rfl)
    have hfz : w.frozen? ⟨g, i * 128 + k, none⟩ = false := by simp [World.frozen?, h.row]
    have hCB : ∀ y, Chg w (w.drew.setCell ⟨g, i * 128 + k, none⟩ (bv y)) (dk.fp p g v) := fun y => (Chg.drew w (dk.fp p g v)).trans (Chg.setCell _ _ _ _) dk.sub_g
    have hget : b.getD k 0 = b[k] := by rw [List.getD_eq_getElem?_getD, List.getElem?_eq_getElem hkb]; rfl
    rw [hget] at HR
    generalize b[k] = y at *
    have hx := x.toNat_lt
    have hy := y.toNat_lt
    have h0 : ¬ (i : Int) < 0 := by omega
    have h1 : ¬ (s.S.length : Int) ≤ i := by omega
    have h2 : ¬ (k : Int) < 0 := by omega
    have h3 : ¬ (128 : Int) ≤ k := by omega
    clear hr hin hrange
    go_enter Tryz.func31, Tryz.ntmps31
    go_wp2_with fail
    go_still_tail 19, (by kernel_rfl)
    change wpList _ _ _ _ _ w.drew
    go_wp2_with fail
    go_ret
    rw [xor_bv]
    exact ⟨ret_int (by rw [HR.out]), by rw [HR.out]; exact hMB _, hCB _⟩
end Go.Proofs.YthddcaoolaipiaaGreatDoor

/-
  contract of cardexref04.Disk's Crash.
-/
namespace Go.Proofs.YthddcaoolaipiaaGreatDoor
open Go.RowKit
variable {w : World} {p g c : Nat} {r : List Value} {v : Value} {s : dk.St}

set_option maxHeartbeats 4000000 in
set_option maxRecDepth 100000 in
theorem rcrash_any (A : Option Addr) (n cp : Nat) (l : List Int) (hl : IS w A n cp l) (hA : 0 < n → ∀ b o, A = some ⟨b, o, none⟩ → b ∉ dk.fp p g v) (h : RM w p g c r v s) : Calls Tryz.prog 11 #[.pointer (some ⟨p, 0, none⟩), .slice A n cp] w fun e w' =>
    ∃ v', e = .returned (.int .i64 0) ∧ RM w' p g c r v' (dk.crash s l) ∧ Chg w w' (dk.fp p g v) ∧ Sub w (dk.fp p g v') (dk.fp p g v) := by
  have uB := Tryz.underlying43
  go_enter Tryz.func11, Tryz.ntmps11
  go_wp2_with fail
  go_loopw [5] (fun t wr => ∃ j : Nat, j ≤ s.L.length ∧ t = .int .i64 j ∧ RM wr p g c r v { s with S := dk.tear s.S (s.L.take j) l } ∧ Chg w wr (dk.fp p g v)) (fun t _ => s.L.length - (intOf t).toNat)
  case atStart => exact ⟨0, by omega, rfl, h, Chg.refl _ _⟩
  case round =>
    have hlen := h.ok.lenL
    have hin := h.ok.inL
    obtain ⟨j, hj, rfl, hM, hC⟩ := hrel
    have hI := hl.chg hC hA
    have hIl := hI.len
    have hIc := hI.cap
    have hIm := hI.max
    clear hl
    have d1 := hM.c1
    by_cases hlt : j < s.L.length
    · obtain ⟨k, cap, hv, hcap, hmax, dN, dB⟩ := hM.put_ hlt
      have d0 := hM.c0
      have hbl := hlen _ (List.getElem_mem hlt)
      obtain ⟨hi0, hi1⟩ := hin _ (List.getElem_mem hlt)
      obtain ⟨q, hq⟩ : ∃ q, l.getD j 0 = q := ⟨_, rfl⟩
      have hst : dk.tear s.S (s.L.take (j + 1)) l = (dk.tear s.S (s.L.take j) l).set s.L[j].1.toNat (dk.torn ((dk.tear s.S (s.L.take j) l).getD s.L[j].1.toNat dk.zero) s.L[j].2 q) := by
        rw [List.take_succ_eq_append_getElem hlt, dk.tear_snoc, List.length_take, Nat.min_eq_left (by omega), hq]
      simp only at dN dB d0 d1
      generalize s.L[j] = x at *
      obtain ⟨xn, xb⟩ := x
      simp only at hst dN dB hbl hi0 hi1
      obtain ⟨i, rfl⟩ : ∃ i : Nat, xn = i := ⟨xn.toNat, by omega⟩
      rw [Int.toNat_natCast] at hst
      have hiS : i < (dk.tear s.S (s.L.take j) l).length := by rw [dk.tear_length]; omega
      have hold : (dk.tear s.S (s.L.take j) l).getD i dk.zero = (dk.tear s.S (s.L.take j) l)[i] := by
        rw [List.getD_eq_getElem?_getD, List.getElem?_eq_getElem hiS]
        rfl
      rw [hold] at hst
      have hobl := hM.ok.lenS _ (List.getElem_mem hiS)
      have dO := hM.block (i := i) hiS
      simp only at hobl dO
      generalize (dk.tear s.S (s.L.take j) l)[i] = ob at *
      have HST := Lib.hid hst
      rw [hv] at d1
      have hrl := hM.rowLen hiS
      have hrow := hM.row
      simp only [dk.tear_length] at d0
      simp only at hrl hrow
      have hmost := hM.ok.most
      simp only [dk.tear_length] at hmost
      have htb := dk.torn_length q hobl hbl
      generalize htor : dk.torn ob xb q = tb at *
      have iO := info_blk' hobl
      have iB := info_blk' hbl
      have iT := info_blk' htb
      have hone := bvs_one tb
      have hth := hrow
      have hpg := hM.ne1
      have hkg : k ≠ g := fun e => hM.ne3 (by rw [hv, ← e]; rfl)
      have hps : p < wr.heap.size := hM.there p (by simp [dk.fp])
      have hks : k < wr.heap.size := hM.there k (by rw [hv]; simp [dk.fp, Value.ownBlock])
      have hgs : g < wr.heap.size := hM.there g (by simp [dk.fp])
      clear hst hlen hin hold
      have hcase : (∃ pb po, A = some ⟨pb, po, none⟩ ∧ j < n ∧ wr.cell? ⟨pb, po + j, none⟩ = some (.int .i64 q)) ∨ (¬ j < n ∧ q = 0) := by
        by_cases hjp : j < n
        · obtain ⟨pb, po, rfl, hpb, hpc⟩ := hI.has (by omega)
          have hpj := hpc j (by omega)
          have hqj : l[j]'(by omega) = q := by rw [← hq, List.getD_eq_getElem?_getD, List.getElem?_eq_getElem (by omega)]; rfl
          rw [hqj] at hpj
          exact .inl ⟨pb, po, rfl, hjp, hpj⟩
        · exact .inr ⟨hjp, by rw [← hq, List.getD_eq_getElem?_getD, List.getElem?_eq_none (by omega)]; rfl⟩
      have dO' : wr.drew.rangeAt g (i * 128) (dk.cells ob) := dO
      have HT := Lib.hid (fun W => rtorn_any ob xb q (w := W) hobl hbl)
      clear hq hI
      rcases hcase with ⟨pb, po, rfl, hjp, hpj⟩ | ⟨hjp, rfl⟩
      all_goals
        go_wp2_with fail
        refine wp_region_held_drew (S := fun w' => w'.cell? ⟨p, 0, none⟩ = some (.slice (some ⟨g, 0, none⟩) s.S.length c) ∧ w'.cell? ⟨p, 1, none⟩ = some (.slice (some ⟨k, 0, none⟩) s.L.length cap) ∧ w'.cell? ⟨k, j * 129, none⟩ = some (.int .i64 (i : Int)) ∧ w'.rangeAt k (j * 129 + 1) (dk.cells xb)) (by kernel_rfl) ⟨d0, d1, dN, dB⟩ (fun hHeld => ?_)
        refine wpAnyH_take (i := 0) (v := ?_) rfl (by kernel_rfl) (by kernel_rfl) (by kernel_rfl) (fun _ _ _ h => h) (Or.inl ⟨by rfl, ?_⟩) hHeld ?_
        rotate_left
        · intro w hSw; obtain ⟨t0, t1, t2, t3⟩ := hSw; go_simp; try rfl
        simp only [List.getElem_toArray, List.getElem_cons_zero, Act.put, List.setIfInBounds_toArray, List.set_cons_zero, List.set_cons_succ]
        refine wpAnyH_take (i := 1) (v := ?_) rfl (by kernel_rfl) (by kernel_rfl) (by kernel_rfl) (fun _ _ _ h => h) (Or.inl ⟨by rfl, ?_⟩) hHeld ?_
        rotate_left
        · intro w hSw; obtain ⟨t0, t1, t2, t3⟩ := hSw; go_simp; try rfl
        simp only [List.getElem_toArray, List.getElem_cons_zero, List.getElem_cons_succ, Act.put, List.setIfInBounds_toArray, List.set_cons_zero, List.set_cons_succ]
        refine wpAnyH_take (i := 2) (v := ?_) rfl (by kernel_rfl) (by kernel_rfl) (by kernel_rfl) (fun _ _ _ h => h) (Or.inl ⟨by rfl, ?_⟩) hHeld ?_
        rotate_left
        · intro w hSw; obtain ⟨t0, t1, t2, t3⟩ := hSw; go_simp; try rfl
        simp only [List.getElem_toArray, List.getElem_cons_zero, List.getElem_cons_succ, Act.put, List.setIfInBounds_toArray, List.set_cons_zero, List.set_cons_succ]
        refine wpAnyH_take (i := 3) (v := ?_) rfl (by kernel_rfl) (by kernel_rfl) (by kernel_rfl) (fun _ _ _ h => h) (Or.inl ⟨by rfl, ?_⟩) hHeld ?_
        rotate_left
        · intro w hSw; obtain ⟨t0, t1, t2, t3⟩ := hSw; go_simp; try rfl
        simp only [List.getElem_toArray, List.getElem_cons_zero, List.getElem_cons_succ, Act.put, List.setIfInBounds_toArray, List.set_cons_zero, List.set_cons_succ]
        refine wpAnyH_take (i := 4) (v := ?_) rfl (by kernel_rfl) (by kernel_rfl) (by kernel_rfl) (fun _ _ _ h => h) (Or.inl ⟨by rfl, ?_⟩) hHeld ?_
        rotate_left
        · intro w hSw; obtain ⟨t0, t1, t2, t3⟩ := hSw; go_simp; try rfl
        simp only [List.getElem_toArray, List.getElem_cons_zero, List.getElem_cons_succ, Act.put, List.setIfInBounds_toArray, List.set_cons_zero, List.set_cons_succ]
        refine wpAnyH_take (i := 5) (v := ?_) rfl (by kernel_rfl) (by kernel_rfl) (by kernel_rfl) (fun _ _ _ h => h) (Or.inl ⟨by rfl, ?_⟩) hHeld ?_
        rotate_left
        · intro w hSw; obtain ⟨t0, t1, t2, t3⟩ := hSw; go_simp; try rfl
        simp only [List.getElem_toArray, List.getElem_cons_zero, List.getElem_cons_succ, Act.put, List.setIfInBounds_toArray, List.set_cons_zero, List.set_cons_succ]
        refine wpAnyH_take (i := 6) (v := ?_) rfl (by kernel_rfl) (by kernel_rfl) (by kernel_rfl) (fun _ _ _ h => h) (Or.inl ⟨by rfl, ?_⟩) hHeld ?_
        rotate_left
        · intro w hSw; obtain ⟨t0, t1, t2, t3⟩ := hSw; go_simp; try rfl
        simp only [List.getElem_toArray, List.getElem_cons_zero, List.getElem_cons_succ, Act.put, List.setIfInBounds_toArray, List.set_cons_zero, List.set_cons_succ]
        refine wpAnyH_take (i := 7) (v := ?_) rfl (by kernel_rfl) (by kernel_rfl) (by kernel_rfl) (fun _ _ _ h => h) (Or.inl ⟨by rfl, ?_⟩) hHeld ?_
        rotate_left
        · intro w hSw; obtain ⟨t0, t1, t2, t3⟩ := hSw; go_simp; try rfl
        simp only [List.getElem_toArray, List.getElem_cons_zero, List.getElem_cons_succ, Act.put, List.setIfInBounds_toArray, List.set_cons_zero, List.set_cons_succ]
        refine wpAnyH_take (i := 8) (v := ?_) rfl (by kernel_rfl) (by kernel_rfl) (by kernel_rfl) (fun _ _ _ h => h) (Or.inl ⟨by rfl, ?_⟩) hHeld ?_
        rotate_left
        · intro w hSw; obtain ⟨t0, t1, t2, t3⟩ := hSw; go_simp; try rfl
        simp only [List.getElem_toArray, List.getElem_cons_zero, List.getElem_cons_succ, Act.put, List.setIfInBounds_toArray, List.set_cons_zero, List.set_cons_succ]
        refine wpAnyH_take (i := 9) (v := ?_) rfl (by kernel_rfl) (by kernel_rfl) (by kernel_rfl) (fun _ _ _ h => h) (Or.inl ⟨by rfl, ?_⟩) hHeld ?_
        rotate_left
        · intro w hSw; obtain ⟨t0, t1, t2, t3⟩ := hSw; go_simp; try rfl
        simp only [List.getElem_toArray, List.getElem_cons_zero, List.getElem_cons_succ, Act.put, List.setIfInBounds_toArray, List.set_cons_zero, List.set_cons_succ]
        refine wpAnyH_take (i := 10) (v := ?_) rfl (by kernel_rfl) (by kernel_rfl) (by kernel_rfl) (fun _ _ _ h => h) (Or.inl ⟨by rfl, ?_⟩) hHeld ?_
        rotate_left
        · intro w hSw; obtain ⟨t0, t1, t2, t3⟩ := hSw; go_simp; try rfl
        simp only [List.getElem_toArray, List.getElem_cons_zero, List.getElem_cons_succ, Act.put, List.setIfInBounds_toArray, List.set_cons_zero, List.set_cons_succ]
        refine wpAnyH_take (i := 11) (v := ?_) rfl (by kernel_rfl) (by kernel_rfl) (by kernel_rfl) (fun _ _ _ h => h) (Or.inl ⟨by rfl, ?_⟩) hHeld ?_
        rotate_left
        · intro w hSw; obtain ⟨t0, t1, t2, t3⟩ := hSw; go_simp; try rfl
        simp only [List.getElem_toArray, List.getElem_cons_zero, List.getElem_cons_succ, Act.put, List.setIfInBounds_toArray, List.set_cons_zero, List.set_cons_succ]
        refine wpAnyH_take (i := 12) (v := ?_) rfl (by kernel_rfl) (by kernel_rfl) (by kernel_rfl) (fun _ _ _ h => h) (Or.inl ⟨by rfl, ?_⟩) hHeld ?_
        rotate_left
        · intro w hSw; obtain ⟨t0, t1, t2, t3⟩ := hSw; go_simp; try rfl
        simp only [List.getElem_toArray, List.getElem_cons_zero, List.getElem_cons_succ, Act.put, List.setIfInBounds_toArray, List.set_cons_zero, List.set_cons_succ]
        refine wpAnyH_take (i := 13) (v := ?_) rfl (by kernel_rfl) (by kernel_rfl) (by kernel_rfl) (fun _ _ _ h => h) (Or.inl ⟨by rfl, ?_⟩) hHeld ?_
        rotate_left
        · intro w hSw; obtain ⟨t0, t1, t2, t3⟩ := hSw; go_simp; try rfl
        simp only [List.getElem_toArray, List.getElem_cons_zero, List.getElem_cons_succ, Act.put, List.setIfInBounds_toArray, List.set_cons_zero, List.set_cons_succ]
        refine wpAnyH_take (i := 14) (v := ?_) rfl (by kernel_rfl) (by kernel_rfl) (by kernel_rfl) (fun _ _ _ h => h) (Or.inl ⟨by rfl, ?_⟩) hHeld ?_
        rotate_left
        · intro w hSw; obtain ⟨t0, t1, t2, t3⟩ := hSw; go_simp; try rfl
        simp only [List.getElem_toArray, List.getElem_cons_zero, List.getElem_cons_succ, Act.put, List.setIfInBounds_toArray, List.set_cons_zero, List.set_cons_succ]
        refine wpAnyH_take (i := 15) (v := ?_) rfl (by kernel_rfl) (by kernel_rfl) (by kernel_rfl) (fun _ _ _ h => h) (Or.inl ⟨by rfl, ?_⟩) hHeld ?_
        rotate_left
        · intro w hSw; obtain ⟨t0, t1, t2, t3⟩ := hSw; go_simp; try rfl
        simp only [List.getElem_toArray, List.getElem_cons_zero, List.getElem_cons_succ, Act.put, List.setIfInBounds_toArray, List.set_cons_zero, List.set_cons_succ]
        refine wpAnyH_take (i := 16) (v := ?_) rfl (by kernel_rfl) (by kernel_rfl) (by kernel_rfl) (fun _ _ _ h => h) (Or.inl ⟨by rfl, ?_⟩) hHeld ?_
        rotate_left
        · intro w hSw; obtain ⟨t0, t1, t2, t3⟩ := hSw; go_simp; try rfl
        simp only [List.getElem_toArray, List.getElem_cons_zero, List.getElem_cons_succ, Act.put, List.setIfInBounds_toArray, List.set_cons_zero, List.set_cons_succ]
        refine wpAnyH_take (i := 17) (v := ?_) rfl (by kernel_rfl) (by kernel_rfl) (by kernel_rfl) (fun _ _ _ h => h) (Or.inl ⟨by rfl, ?_⟩) hHeld ?_
        rotate_left
        · intro w hSw; obtain ⟨t0, t1, t2, t3⟩ := hSw; go_simp; try rfl
        simp only [List.getElem_toArray, List.getElem_cons_zero, List.getElem_cons_succ, Act.put, List.setIfInBounds_toArray, List.set_cons_zero, List.set_cons_succ]
        refine wpAnyH_take (i := 18) (v := ?_) rfl (by kernel_rfl) (by kernel_rfl) (by kernel_rfl) (fun _ _ _ h => h) (Or.inl ⟨by rfl, ?_⟩) hHeld ?_
        rotate_left
        · intro w hSw; obtain ⟨t0, t1, t2, t3⟩ := hSw; go_simp; try rfl
        simp only [List.getElem_toArray, List.getElem_cons_zero, List.getElem_cons_succ, Act.put, List.setIfInBounds_toArray, List.set_cons_zero, List.set_cons_succ]
        refine wpAnyH_take (i := 19) (v := ?_) rfl (by kernel_rfl) (by kernel_rfl) (by kernel_rfl) (fun _ _ _ h => h) (Or.inl ⟨by rfl, ?_⟩) hHeld ?_
        rotate_left
        · intro w hSw; obtain ⟨t0, t1, t2, t3⟩ := hSw; go_simp; try rfl
        simp only [List.getElem_toArray, List.getElem_cons_zero, List.getElem_cons_succ, Act.put, List.setIfInBounds_toArray, List.set_cons_zero, List.set_cons_succ]
        refine wpAnyH_take (i := 20) (v := ?_) rfl (by kernel_rfl) (by kernel_rfl) (by kernel_rfl) (fun _ _ _ h => h) (Or.inl ⟨by rfl, ?_⟩) hHeld ?_
        rotate_left
        · intro w hSw; obtain ⟨t0, t1, t2, t3⟩ := hSw; go_simp; try rfl
        simp only [List.getElem_toArray, List.getElem_cons_zero, List.getElem_cons_succ, Act.put, List.setIfInBounds_toArray, List.set_cons_zero, List.set_cons_succ]
        refine wpAnyH_take (i := 21) (v := ?_) rfl (by kernel_rfl) (by kernel_rfl) (by kernel_rfl) (fun _ _ _ h => h) (Or.inl ⟨by rfl, ?_⟩) hHeld ?_
        rotate_left
        · intro w hSw; obtain ⟨t0, t1, t2, t3⟩ := hSw; go_simp; try rfl
        simp only [List.getElem_toArray, List.getElem_cons_zero, List.getElem_cons_succ, Act.put, List.setIfInBounds_toArray, List.set_cons_zero, List.set_cons_succ]
        refine wpAnyH_take (i := 22) (v := ?_) rfl (by kernel_rfl) (by kernel_rfl) (by kernel_rfl) (fun _ _ _ h => h) (Or.inl ⟨by rfl, ?_⟩) hHeld ?_
        rotate_left
        · intro w hSw; obtain ⟨t0, t1, t2, t3⟩ := hSw; go_simp; try rfl
        simp only [List.getElem_toArray, List.getElem_cons_zero, List.getElem_cons_succ, Act.put, List.setIfInBounds_toArray, List.set_cons_zero, List.set_cons_succ]
        refine wpAnyH_take (i := 23) (v := ?_) rfl (by kernel_rfl) (by kernel_rfl) (by kernel_rfl) (fun _ _ _ h => h) (Or.inl ⟨by rfl, ?_⟩) hHeld ?_
        rotate_left
        · intro w hSw; obtain ⟨t0, t1, t2, t3⟩ := hSw; go_simp; try rfl
        simp only [List.getElem_toArray, List.getElem_cons_zero, List.getElem_cons_succ, Act.put, List.setIfInBounds_toArray, List.set_cons_zero, List.set_cons_succ]
        refine wpAnyH_take (i := 24) (v := ?_) rfl (by kernel_rfl) (by kernel_rfl) (by kernel_rfl) (fun _ _ _ h => h) (Or.inl ⟨by rfl, ?_⟩) hHeld ?_
        rotate_left
        · intro w hSw; obtain ⟨t0, t1, t2, t3⟩ := hSw; go_simp; try rfl
        simp only [List.getElem_toArray, List.getElem_cons_zero, List.getElem_cons_succ, Act.put, List.setIfInBounds_toArray, List.set_cons_zero, List.set_cons_succ]
        refine wpAnyH_take (i := 26) (v := ?_) rfl (by kernel_rfl) (by kernel_rfl) (by kernel_rfl) (fun _ _ _ h => h) (Or.inl ⟨by rfl, ?_⟩) hHeld ?_
        rotate_left
        · intro w hSw; obtain ⟨t0, t1, t2, t3⟩ := hSw; go_simp; try rfl
        simp only [List.getElem_toArray, List.getElem_cons_zero, List.getElem_cons_succ, Act.put, List.setIfInBounds_toArray, List.set_cons_zero, List.set_cons_succ]
        refine wpAnyH_take (i := 27) (v := ?_) rfl (by kernel_rfl) (by kernel_rfl) (by kernel_rfl) (fun _ _ _ h => h) (Or.inl ⟨by rfl, ?_⟩) hHeld ?_
        rotate_left
        · intro w hSw; obtain ⟨t0, t1, t2, t3⟩ := hSw; go_simp; try rfl
        simp only [List.getElem_toArray, List.getElem_cons_zero, List.getElem_cons_succ, Act.put, List.setIfInBounds_toArray, List.set_cons_zero, List.set_cons_succ]
        refine wpAnyH_take (i := 28) (v := ?_) rfl (by kernel_rfl) (by kernel_rfl) (by kernel_rfl) (fun _ _ _ h => h) (Or.inl ⟨by rfl, ?_⟩) hHeld ?_
        rotate_left
        · intro w hSw; obtain ⟨t0, t1, t2, t3⟩ := hSw; go_simp; try rfl
        simp only [List.getElem_toArray, List.getElem_cons_zero, List.getElem_cons_succ, Act.put, List.setIfInBounds_toArray, List.set_cons_zero, List.set_cons_succ]
        refine wpAnyH_take (i := 29) (v := ?_) rfl (by kernel_rfl) (by kernel_rfl) (by kernel_rfl) (fun _ _ _ h => h) (Or.inl ⟨by rfl, ?_⟩) hHeld ?_
        rotate_left
        · intro w hSw; obtain ⟨t0, t1, t2, t3⟩ := hSw; go_simp; try rfl
        simp only [List.getElem_toArray, List.getElem_cons_zero, List.getElem_cons_succ, Act.put, List.setIfInBounds_toArray, List.set_cons_zero, List.set_cons_succ]
        refine wpAnyH_take (i := 30) (v := ?_) rfl (by kernel_rfl) (by kernel_rfl) (by kernel_rfl) (fun _ _ _ h => h) (Or.inl ⟨by rfl, ?_⟩) hHeld ?_
        rotate_left
        · intro w hSw; obtain ⟨t0, t1, t2, t3⟩ := hSw; go_simp; try rfl
        simp only [List.getElem_toArray, List.getElem_cons_zero, List.getElem_cons_succ, Act.put, List.setIfInBounds_toArray, List.set_cons_zero, List.set_cons_succ]
        refine wpAnyH_take (i := 31) (v := ?_) rfl (by kernel_rfl) (by kernel_rfl) (by kernel_rfl) (fun _ _ _ h => h) (Or.inl ⟨by rfl, ?_⟩) hHeld ?_
        rotate_left
        · intro w hSw; obtain ⟨t0, t1, t2, t3⟩ := hSw; go_simp; try rfl
        simp only [List.getElem_toArray, List.getElem_cons_zero, List.getElem_cons_succ, Act.put, List.setIfInBounds_toArray, List.set_cons_zero, List.set_cons_succ]
        refine wpAnyH_take (i := 32) (v := ?_) rfl (by kernel_rfl) (by kernel_rfl) (by kernel_rfl) (fun _ _ _ h => h) (Or.inl ⟨by rfl, ?_⟩) hHeld ?_
        rotate_left
        · intro w hSw; obtain ⟨t0, t1, t2, t3⟩ := hSw; go_simp; try rfl
        simp only [List.getElem_toArray, List.getElem_cons_zero, List.getElem_cons_succ, Act.put, List.setIfInBounds_toArray, List.set_cons_zero, List.set_cons_succ]
        refine wpAnyH_take (i := 33) (v := dk.val xb) rfl (by kernel_rfl) (by kernel_rfl) (by kernel_rfl) (fun _ _ _ h => h) (yieldsIf_load_mid (by rfl) 43 (.tmp 56) rfl k (j * 129 + 1) rfl (dk.cells xb) _ (fun w h => h.2.2.2) uB rfl iB) hHeld ?_
        simp only [List.getElem_toArray, List.getElem_cons_zero, List.getElem_cons_succ, Act.put, List.setIfInBounds_toArray, List.set_cons_zero, List.set_cons_succ]
        refine wpAnyH_take (i := 34) (v := ?_) rfl (by kernel_rfl) (by kernel_rfl) (by kernel_rfl) (fun _ _ _ h => h) (Or.inl ⟨by rfl, ?_⟩) hHeld ?_
        rotate_left
        · intro w hSw; obtain ⟨t0, t1, t2, t3⟩ := hSw; go_simp; try rfl
        simp only [List.getElem_toArray, List.getElem_cons_zero, List.getElem_cons_succ, Act.put, List.setIfInBounds_toArray, List.set_cons_zero, List.set_cons_succ]
        refine wpAnyH_ready (rs := [25]) (by kernel_rfl) (by simp) ?_
        refine AllReadyH.cons rfl (fun K hK => ?_) AllReadyH.nil
        rw [if_pos (by rfl)]
        refine wp_load_mid 43 (.tmp 48) rfl g (i * 128) rfl (dk.cells ob) _ dO' uB rfl iO ?_
        simp only [List.getElem_toArray, List.getElem_cons_zero, List.getElem_cons_succ, Act.put, List.setIfInBounds_toArray, List.set_cons_zero, List.set_cons_succ]
        refine hK.out _ _ hHeld (fun hHeld => ?_)
        clear hK K
        refine wpAnyH_ready (rs := [35]) (by kernel_rfl) (by simp) ?_
        refine AllReadyH.cons rfl (fun K hK => ?_) AllReadyH.nil
        rw [if_pos (by rfl)]
        go_simp
        refine (HT.out _).mono ?_
        rintro e w1 ⟨rfl, hb1⟩
        have q0 := (hb1.cell (p := ⟨p, 0, none⟩) hps).trans d0
        have q1 := (hb1.cell (p := ⟨p, 1, none⟩) hps).trans d1
        have qN := (hb1.cell (p := ⟨k, j * 129, none⟩) hks).trans dN
        have qB := dk.range_below (w := wr.drew) dB hb1
        rw [htor]
        have hM1 := hM.drew.below hb1
        have th := there_of hM1.row (i * 128) 128 hrl
        dsimp only
        refine hK.out _ _ ⟨q0, q1, qN, qB⟩ (fun hHeld => ?_)
        clear hK K
        refine wpAnyH_take (i := 36) (v := ?_) rfl (by kernel_rfl) (by kernel_rfl) (by kernel_rfl) (fun _ _ _ h => h) (Or.inl ⟨by rfl, ?_⟩) hHeld ?_
        rotate_left
        · intro w hSw; obtain ⟨t0, t1, t2, t3⟩ := hSw; go_simp; try rfl
        simp only [List.getElem_toArray, List.getElem_cons_zero, List.getElem_cons_succ, Act.put, List.setIfInBounds_toArray, List.set_cons_zero, List.set_cons_succ]
        refine wpAnyH_ready (rs := [37]) (by kernel_rfl) (by simp) ?_
        refine AllReadyH.cons rfl (fun K hK => ?_) AllReadyH.nil
        rw [if_pos (by rfl)]
        refine wp_store_mid 43 (.tmp 60) (.tmp 59) rfl g (i * 128) (dk.cells tb).toArray rfl rfl (by simpa [htb] using th) (by simpa [htb] using info_blk) (cells_one tb) ?_
        simp only [List.getElem_toArray, List.getElem_cons_zero, List.getElem_cons_succ, Act.put]
        refine hK.out _ _ ⟨(dk.cell_sets_far hpg).trans q0, (dk.cell_sets_far hpg).trans q1, (dk.cell_sets_far hkg).trans qN, dk.range_sets_far qB hkg⟩ (fun hHeld => ?_)
        clear hK K
        refine wpAnyH_done (by kernel_rfl) ?_ _
        have hset := block_sets (dk.cells tb) (i * 128) _ w1 hM1.row (by rw [List.length_map, htb]; exact hrl)
        rw [List.length_map, htb] at hset
        have hMS := hM1.stored hiS htb hset (Chg.setCells g _ _ _)
        simp only at hMS
        go_wp2_with fail
        go_roundw
        case rel =>
          refine ⟨j + 1, by omega, by go_num, by rw [HST.out]; exact hMS, ?_⟩
          exact ((hC.trans (Chg.drew _ (dk.fp p g v)) (Sub.refl _ _)).trans (Chg.of_below hb1 (dk.fp p g v)) (Sub.refl _ _)).trans (Chg.setCells g _ _ _) dk.sub_g
        case measure => simp [intOf]; omega
    · obtain ⟨A', cap, hv, _, _⟩ := hM.own_len
      subst hv
      simp only [List.take_of_length_le (show s.L.length ≤ j from by omega)] at hM
      have f1 := hM.fz 1
      have hc1 := hM.clear_
      have g3 := hc1.c3
      have f3 := hc1.fz 3
      have hc2 := hc1.black false
      have g2 := hc2.c2
      have f2 := hc2.fz 2
      have hc3 := hc2.cut 0 (by omega)
      go_wp2_with fail
      go_ret
      exact ⟨rfl, _, hc3, ((hC.trans (Chg.setCell _ _ _ _) dk.sub_p).trans (Chg.setCell _ _ _ _) dk.sub_p).trans (Chg.setCell _ _ _ _) dk.sub_p, dk.sub_nil⟩
end Go.Proofs.YthddcaoolaipiaaGreatDoor

/-
  THE DOCUMENT's DISK AS A LAW SEES IT: a pointer, its blocks of memory (F), what it is (s).
-/
namespace Go.Proofs.YthddcaoolaipiaaGreatDoor
open Go.RowKit
variable {w w' : World} {F : List Nat} {d : Value} {s : dk.St}

/-- few steps, few writes that are not sure -/
def dk.St.Few (s : dk.St) : Prop := s.many < 1048576 ∧ s.L.length < 1048576
def RD (w : World) (F : List Nat) (d : Value) (s : dk.St) : Prop := ∃ p g c r v, d = .pointer (some ⟨p, 0, none⟩) ∧ F = dk.fp p g v ∧ RM w p g c r v s
theorem RD.there (h : RD w F d s) : Ther w F := by obtain ⟨p, g, c, r, v, rfl, rfl, hM⟩ := h; exact hM.there
theorem RD.keep (h : RD w F d s) (hs : Same w w' F) : RD w' F d s := by obtain ⟨p, g, c, r, v, rfl, rfl, hM⟩ := h; exact ⟨p, g, c, r, v, rfl, rfl, hM.keep hs⟩
theorem RD.below (h : RD w F d s) (hb : Below w.heap.size w w') : RD w' F d s := h.keep fun k hk => hb.block k (h.there k hk)
theorem RD.ok (h : RD w F d s) : s.Ok := by obtain ⟨p, g, c, r, v, rfl, rfl, hM⟩ := h; exact hM.ok
theorem RD.form (h : RD w F d s) : ∃ p, d = .pointer (some ⟨p, 0, none⟩) := by obtain ⟨p, g, c, r, v, rfl, rfl, hM⟩ := h; exact ⟨p, rfl⟩

theorem rd_blocks (h : RD w F d s) : Calls Tryz.prog 75 #[d] w fun e w' => e = .returned (.int .i64 s.S.length) ∧ w = w' := by obtain ⟨p, g, c, r, v, rfl, rfl, hM⟩ := h; exact rblocks_any hM
theorem rd_dark (h : RD w F d s) : Calls Tryz.prog 9 #[d] w fun e w' => e = .returned (.bool s.black) ∧ w = w' := by obtain ⟨p, g, c, r, v, rfl, rfl, hM⟩ := h; exact rdark_any hM
theorem rd_steps (h : RD w F d s) : Calls Tryz.prog 17 #[d] w fun e w' => e = .returned (.int .i64 s.many) ∧ w = w' := by obtain ⟨p, g, c, r, v, rfl, rfl, hM⟩ := h; exact rsteps_any hM
theorem rd_sure (n : Int) (h : RD w F d s) : Calls Tryz.prog 15 #[d, .int .i64 n] w fun e w' => e = .returned (.tuple #[dk.val (dk.sure s n).1, .int .i64 (dk.sure s n).2]) ∧ Below w.heap.size w w' := by obtain ⟨p, g, c, r, v, rfl, rfl, hM⟩ := h; exact rsure_any n hM
theorem rd_read (n : Int) (h : RD w F d s) : Calls Tryz.prog 97 #[d, .int .i64 n] w fun e w' => e = .returned (.tuple #[dk.val (dk.read s n).1, .int .i64 (dk.read s n).2]) ∧ Below w.heap.size w w' := by obtain ⟨p, g, c, r, v, rfl, rfl, hM⟩ := h; exact rread_any n hM
theorem rd_arm (n : Int) (hn : n ≤ 9223372036854775807) (h : RD w F d s) : Calls Tryz.prog 29 #[d, .int .i64 n] w fun e w' => ∃ F', e = .returned (.int .i64 (dk.arm s n).1) ∧ RD w' F' d (dk.arm s n).2 ∧ Chg w w' F ∧ Sub w F' F := by
  obtain ⟨p, g, c, r, v, rfl, rfl, hM⟩ := h
  exact (rarm_any n hn hM).mono fun e w' ⟨h1, h2, h3⟩ => ⟨_, h1, ⟨p, g, c, r, v, rfl, rfl, h2⟩, h3.mono dk.sub_p, Sub.refl _ _⟩
theorem rd_write (n : Int) (b : dk.Blk) (hb : b.length = 128) (h : RD w F d s) (hf : s.Few) : Calls Tryz.prog 21 #[d, .int .i64 n, dk.val b] w fun e w' => ∃ F', e = .returned (.int .i64 (dk.write s n b).1) ∧ RD w' F' d (dk.write s n b).2 ∧ Chg w w' F ∧ Sub w F' F := by
  obtain ⟨p, g, c, r, v, rfl, rfl, hM⟩ := h
  exact (rwrite_any n b hb hM (by have := hf.1; omega) (by have := hf.2; omega)).mono fun e w' ⟨v', h1, h2, h3, h4⟩ => ⟨_, h1, ⟨p, g, c, r, v', rfl, rfl, h2⟩, h3, h4⟩
theorem rd_flush (h : RD w F d s) (hf : s.Few) : Calls Tryz.prog 76 #[d] w fun e w' => ∃ F', e = .returned (.int .i64 (dk.flush s).1) ∧ RD w' F' d (dk.flush s).2 ∧ Chg w w' F ∧ Sub w F' F := by
  obtain ⟨p, g, c, r, v, rfl, rfl, hM⟩ := h
  exact (rflush_any hM (by have := hf.1; omega)).mono fun e w' ⟨v', h1, h2, h3, h4⟩ => ⟨_, h1, ⟨p, g, c, r, v', rfl, rfl, h2⟩, h3, h4⟩
theorem rd_rot (n at_ : Int) (x : UInt8) (h : RD w F d s) : Calls Tryz.prog 31 #[d, .int .i64 n, .int .i64 at_, bv x] w fun e w' => ∃ F', e = .returned (.int .i64 (dk.rot s n at_ x).1) ∧ RD w' F' d (dk.rot s n at_ x).2 ∧ Chg w w' F ∧ Sub w F' F := by
  obtain ⟨p, g, c, r, v, rfl, rfl, hM⟩ := h
  exact (rrot_any n at_ x hM).mono fun e w' ⟨h1, h2, h3⟩ => ⟨_, h1, ⟨p, g, c, r, v, rfl, rfl, h2⟩, h3, Sub.refl _ _⟩
theorem rd_crash (A : Option Addr) (n cp : Nat) (l : List Int) (hl : IS w A n cp l) (hA : 0 < n → ∀ b o, A = some ⟨b, o, none⟩ → b ∉ F) (h : RD w F d s) : Calls Tryz.prog 11 #[d, .slice A n cp] w fun e w' => ∃ F', e = .returned (.int .i64 0) ∧ RD w' F' d (dk.crash s l) ∧ Chg w w' F ∧ Sub w F' F := by
  obtain ⟨p, g, c, r, v, rfl, rfl, hM⟩ := h
  exact (rcrash_any A n cp l hl hA hM).mono fun e w' ⟨v', h1, h2, h3, h4⟩ => ⟨_, h1, ⟨p, g, c, r, v', rfl, rfl, h2⟩, h3, h4⟩
theorem rd_new (n : Nat) (h : 64 ≤ n) (h2 : n ≤ 4096) : Calls Tryz.prog 6 #[.int .i64 n] w fun e w' => ∃ F d, e = .returned (.tuple #[d, .int .i64 0]) ∧ RD w' F d (fresh n) ∧ Below w.heap.size w w' ∧ (∀ k ∈ F, w.heap.size ≤ k) := by
  refine (rnew_yes n h h2).mono fun e w' ⟨p, g, h1, h2, h3, h4, h5⟩ => ⟨_, _, h1, ⟨p, g, _, _, _, rfl, rfl, h2⟩, h3.below (Nat.le_refl _) (by simp), fun k hk => ?_⟩
  have : k = p ∨ k = g := by simpa [dk.fp, Value.ownBlock] using hk
  rcases this with rfl | rfl <;> assumption
end Go.Proofs.YthddcaoolaipiaaGreatDoor

/-
  contracts of the program's own disk, over any disk in memory: none, has, lit, usable, step, Blocks, Dark, Steps, Loose, Arm, Sure, Rot, New.
-/
namespace Go.Proofs.YthddcaoolaipiaaGreatDoor
open Go.RowKit

/-- the program's disk -/
abbrev PM := dk.M 61 43 73
variable {w : World} {p g c : Nat} {r : List Value} {v : Value} {s : dk.St}

/-- what is asked ahead of a block, dark or not -/
def dk.has (s : dk.St) (n : Int) : Int := if n < 0 ∨ (s.S.length : Int) ≤ n then 2 else 0
def dk.lit (s : dk.St) : Int := if s.black then 9 else 0

theorem pblocks_any (h : PM w p g c r v s) : Calls Tryz.prog 85 #[.pointer (some ⟨p, 0, none⟩)] w fun e w' => e = .returned (.int .i64 s.S.length) ∧ w = w' := by
  have c0 := h.c0
  go_enter Tryz.func85, Tryz.ntmps85
  go_wp2
  go_ret
  exact ⟨rfl, rfl⟩
theorem pdark_any (h : PM w p g c r v s) : Calls Tryz.prog 8 #[.pointer (some ⟨p, 0, none⟩)] w fun e w' => e = .returned (.bool s.black) ∧ w = w' := by
  have c3 := h.c3
  go_enter Tryz.func8, Tryz.ntmps8
  go_wp2
  go_ret
  exact ⟨rfl, rfl⟩
theorem psteps_any (h : PM w p g c r v s) : Calls Tryz.prog 16 #[.pointer (some ⟨p, 0, none⟩)] w fun e w' => e = .returned (.int .i64 s.many) ∧ w = w' := by
  have c4 := h.c4
  go_enter Tryz.func16, Tryz.ntmps16
  go_wp2
  go_ret
  exact ⟨rfl, rfl⟩
theorem pnone_any (h : PM w p g c r v s) : Calls Tryz.prog 32 #[.pointer (some ⟨p, 0, none⟩)] w fun e w' => e = .returned (.bool false) ∧ w = w' := by
  have c0 := h.c0
  have hm := h.ok.some
  have hm2 := h.ok.most
  have hne : ((s.S.length : Int) == 0) = false := by rw [beq_eq_false_iff_ne]; omega
  go_enter Tryz.func32, Tryz.ntmps32
  go_wp2
  go_ret
  exact ⟨rfl, rfl⟩
theorem phas_any (n : Int) (h : PM w p g c r v s) : Calls Tryz.prog 43 #[.pointer (some ⟨p, 0, none⟩), .int .i64 n] w fun e w' => e = .returned (.int .i64 (dk.has s n)) ∧ w = w' := by
  have c0 := h.c0
  have hm := h.ok.most
  have HN := Lib.hid (pnone_any h)
  have hcs : n < 0 ∨ (¬ n < 0 ∧ (s.S.length : Int) ≤ n) ∨ (¬ n < 0 ∧ ¬ (s.S.length : Int) ≤ n) := by omega
  rcases hcs with h0 | ⟨h0, h1⟩ | ⟨h0, h1⟩
  all_goals
    go_enter Tryz.func43, Tryz.ntmps43
    go_wp2_with fail
    refine HN.out.mono ?_
    rintro e w1 ⟨rfl, rfl⟩
    go_wp2_with fail
    go_ret
    exact ⟨ret_int (by simp [dk.has, *]), rfl⟩
theorem plit_any (h : PM w p g c r v s) : Calls Tryz.prog 59 #[.pointer (some ⟨p, 0, none⟩)] w fun e w' => e = .returned (.int .i64 (dk.lit s)) ∧ w = w' := by
  have c3 := h.c3
  have HN := Lib.hid (pnone_any h)
  cases hb : s.black
  all_goals
    rw [hb] at c3
    go_enter Tryz.func59, Tryz.ntmps59
    go_wp2_with fail
    refine HN.out.mono ?_
    rintro e w1 ⟨rfl, rfl⟩
    go_wp2_with fail
    go_ret
    exact ⟨ret_int (by simp [dk.lit, hb]), rfl⟩
theorem pusable_any (n : Int) (h : PM w p g c r v s) : Calls Tryz.prog 45 #[.pointer (some ⟨p, 0, none⟩), .int .i64 n] w fun e w' => e = .returned (.int .i64 (dk.asks s n)) ∧ w = w' := by
  have HL := Lib.hid (plit_any h)
  have HH := Lib.hid (phas_any n h)
  cases hb : s.black with
  | true =>
    have hl : dk.lit s = 9 := by simp [dk.lit, hb]
    rw [hl] at HL
    clear hl
    go_enter Tryz.func45, Tryz.ntmps45
    go_wp2_with fail
    refine HL.out.mono ?_
    rintro e w1 ⟨rfl, rfl⟩
    go_wp2_with fail
    go_ret
    exact ⟨ret_int (by simp [dk.asks, hb]), rfl⟩
  | false =>
    have hl : dk.lit s = 0 := by simp [dk.lit, hb]
    have ha : dk.has s n = dk.asks s n := by simp [dk.has, dk.asks, hb]
    rw [hl] at HL
    rw [ha] at HH
    clear hl ha
    go_enter Tryz.func45, Tryz.ntmps45
    go_wp2_with fail
    refine HL.out.mono ?_
    rintro e w1 ⟨rfl, rfl⟩
    go_wp2_with fail
    refine HH.out.mono ?_
    rintro e w1 ⟨rfl, rfl⟩
    go_wp2_with fail
    go_ret
    exact ⟨rfl, rfl⟩
theorem pstep_any (h : PM w p g c r v s) (hm : s.many < 4611686018427387904) : Calls Tryz.prog 46 #[.pointer (some ⟨p, 0, none⟩)] w fun e w' => e = .returned (.int .i64 (dk.step s).1) ∧ PM w' p g c r v (dk.step s).2 ∧ Chg w w' [p] := by
  have c2 := h.c2
  have f2 := h.fz 2
  have f3 := h.fz 3
  have f4 := h.fz 4
  have c3 := h.c3
  have c4 := h.c4
  obtain ⟨h0, h1⟩ := h.cutR
  obtain ⟨m0, m1⟩ := h.manyR
  by_cases hc : s.cut = 1
  · have hr : dk.step s = (9, { s with black := true }) := if_pos hc
    have hn := h.black true
    rw [hc] at c2
    rw [hr]
    clear hr hc
    go_enter Tryz.func46, Tryz.ntmps46
    go_wp2
    go_ret
    exact ⟨rfl, hn, Chg.setCell _ _ _ _⟩
  · by_cases hc2 : 1 < s.cut
    · have hr : dk.step s = (0, { s with cut := s.cut - 1, many := s.many + 1 }) := by rw [dk.step, if_neg hc, if_pos hc2]
      have hn1 := h.cut (s.cut - 1) (by omega)
      have hn := hn1.many (s.many + 1) (by omega)
      have d4 := hn1.c4
      have e4 := hn1.fz 4
      simp only at d4
      rw [hr]
      have hb : (s.cut == 1) = false := by simpa using hc
      have hb0 : (s.cut == 0) = false := by simp; omega
      clear hr hc
      go_enter Tryz.func46, Tryz.ntmps46
      go_wp2
      go_ret
      exact ⟨rfl, hn, (Chg.setCell _ _ _ _).trans (Chg.setCell _ _ _ _) (Sub.refl _ _)⟩
    · have hr : dk.step s = (0, { s with many := s.many + 1 }) := by rw [dk.step, if_neg hc, if_neg hc2]
      have hn := h.many (s.many + 1) (by omega)
      have hz : s.cut = 0 := by omega
      rw [hr]
      rw [hz] at c2
      clear hr hc hc2
      go_enter Tryz.func46, Tryz.ntmps46
      go_wp2
      go_ret
      exact ⟨rfl, hn, Chg.setCell _ _ _ _⟩
theorem parm_any (n : Int) (hn : n ≤ 9223372036854775807) (h : PM w p g c r v s) : Calls Tryz.prog 28 #[.pointer (some ⟨p, 0, none⟩), .int .i64 n] w fun e w' => e = .returned (.int .i64 (dk.arm s n).1) ∧ PM w' p g c r v (dk.arm s n).2 ∧ Chg w w' [p] := by
  have c2 := h.c2
  have f2 := h.fz 2
  have HL := Lib.hid (plit_any h)
  cases hb : s.black with
  | true =>
    have hr : dk.arm s n = (9, s) := by simp [dk.arm, hb]
    have hl : dk.lit s = 9 := by simp [dk.lit, hb]
    rw [hl] at HL
    rw [hr]
    clear hr hl
    go_enter Tryz.func28, Tryz.ntmps28
    go_wp2_with fail
    refine HL.out.mono ?_
    rintro e w1 ⟨rfl, rfl⟩
    go_wp2_with fail
    go_ret
    exact ⟨rfl, h, Chg.refl _ _⟩
  | false =>
    have hl : dk.lit s = 0 := by simp [dk.lit, hb]
    rw [hl] at HL
    clear hl
    by_cases h0 : n < 0
    · have hr : dk.arm s n = (2, s) := by simp [dk.arm, hb, h0]
      rw [hr]
      clear hr
      go_enter Tryz.func28, Tryz.ntmps28
      go_wp2_with fail
      refine HL.out.mono ?_
      rintro e w1 ⟨rfl, rfl⟩
      go_wp2_with fail
      go_ret
      exact ⟨rfl, h, Chg.refl _ _⟩
    · have hr : dk.arm s n = (0, { s with cut := n }) := by unfold dk.arm; rw [if_neg (by simp [hb]), if_neg h0]
      have hN := h.cut n (by omega)
      rw [hr]
      clear hb
      clear hr
      go_enter Tryz.func28, Tryz.ntmps28
      go_wp2_with fail
      refine HL.out.mono ?_
      rintro e w1 ⟨rfl, rfl⟩
      go_wp2_with fail
      go_ret
      exact ⟨rfl, hN, Chg.setCell _ _ _ _⟩
set_option maxRecDepth 100000 in
theorem psure_any (n : Int) (h : PM w p g c r v s) : Calls Tryz.prog 14 #[.pointer (some ⟨p, 0, none⟩), .int .i64 n] w fun e w' => e = .returned (.tuple #[dk.val (dk.sure s n).1, .int .i64 (dk.sure s n).2]) ∧ Below w.heap.size w w' := by
  have h' := h.alloc (.cells (dk.cells dk.zero).toArray 43)
  have d0 := h'.c0
  have hm := h.ok.most
  obtain ⟨hz, -⟩ := zero_of_info zero_blk
  have hrow := heap_alloc_new w (.cells (dk.cells dk.zero).toArray 43)
  have HH := Lib.hid (phas_any n h')
  by_cases hin : n < 0 ∨ (s.S.length : Int) ≤ n
  · have hr : dk.sure s n = (dk.zero, 2) := if_pos hin
    have hh : dk.has s n = 2 := if_pos hin
    have HR := Lib.hid hr
    rw [hh] at HH
    clear hr hh hin
    go_enter Tryz.func14, Tryz.ntmps14
    go_wp2_with fail
    refine HH.out.mono ?_
    rintro e w1 ⟨rfl, rfl⟩
    go_wp2_with (refine wp_st0 (.tmp 4) (.tmp 12) dk.zero hrow zero_len zero_len rfl rfl rfl rfl ?_; intro W hW hc)
    refine bodyPost_ret (results_cell_tmp rfl rfl (blk_load (blk_range hW) zero_len)) rfl ⟨?_, new_chg hc⟩
    rw [HR.out]
    rfl
  · obtain ⟨i, rfl⟩ : ∃ i : Nat, n = i := ⟨n.toNat, by omega⟩
    have hi : i < s.S.length := by omega
    have hb := h.ok.lenS _ (List.getElem_mem hi)
    have hh : dk.has s i = 0 := if_neg hin
    have hr : dk.sure s i = (s.S[i], 0) := by
      rw [dk.sure, if_neg hin, Int.toNat_natCast, List.getD_eq_getElem?_getD, List.getElem?_eq_getElem hi]
      rfl
    have hrange := h'.block hi
    generalize s.S[i] = b at *
    have HR := Lib.hid hr
    have h0 : ¬ (i : Int) < 0 := by omega
    rw [hh] at HH
    clear hr hin hh
    go_enter Tryz.func14, Tryz.ntmps14
    go_wp2_with fail
    refine HH.out.mono ?_
    rintro e w1 ⟨rfl, rfl⟩
    go_wp2_with (first | refine wp_ld (.tmp 19) b hrange hb rfl rfl rfl ?_ | (refine wp_st0 (.tmp 4) (.tmp 20) b hrow zero_len hb rfl rfl rfl rfl ?_; intro W hW hc))
    refine bodyPost_ret (results_cell_tmp rfl rfl (blk_load (blk_range hW) hb)) rfl ⟨?_, new_chg hc⟩
    rw [HR.out]
    rfl
set_option maxHeartbeats 4000000 in
set_option maxRecDepth 100000 in
theorem prot_any (n at_ : Int) (x : UInt8) (h : PM w p g c r v s) : Calls Tryz.prog 30 #[.pointer (some ⟨p, 0, none⟩), .int .i64 n, .int .i64 at_, bv x] w fun e w' =>
    e = .returned (.int .i64 (dk.rot s n at_ x).1) ∧ PM w' p g c r v (dk.rot s n at_ x).2 ∧ Chg w w' (dk.fp p g v) := by
  have c0 := h.c0
  have hm := h.ok.most
  have HH := Lib.hid (phas_any n h)
  by_cases hin : n < 0 ∨ (s.S.length : Int) ≤ n
  · have hr : dk.rot s n at_ x = (2, s) := if_pos (by omega)
    have hh : dk.has s n = 2 := if_pos hin
    have HR := Lib.hid hr
    rw [hh] at HH
    clear hr hh hin
    go_enter Tryz.func30, Tryz.ntmps30
    go_wp2_with fail
    refine HH.out.mono ?_
    rintro e w1 ⟨rfl, rfl⟩
    go_wp2_with fail
    go_ret
    exact ⟨ret_int (by rw [HR.out]), by rw [HR.out]; exact h, Chg.refl _ _⟩
  · have hh : dk.has s n = 0 := if_neg hin
    rw [hh] at HH
    clear hh
    by_cases hat : at_ < 0 ∨ 128 ≤ at_
    · have hr : dk.rot s n at_ x = (2, s) := if_pos (by omega)
      have HR := Lib.hid hr
      clear hr hin
      have hcs : at_ < 0 ∨ (¬ at_ < 0 ∧ 128 ≤ at_) := by omega
      clear hat
      rcases hcs with h2 | ⟨h2, h3⟩
      all_goals
        go_enter Tryz.func30, Tryz.ntmps30
        go_wp2_with fail
        refine HH.out.mono ?_
        rintro e w1 ⟨rfl, rfl⟩
        go_wp2_with fail
        go_ret
        exact ⟨ret_int (by rw [HR.out]), by rw [HR.out]; exact h, Chg.refl _ _⟩
    · obtain ⟨i, rfl⟩ : ∃ i : Nat, n = i := ⟨n.toNat, by omega⟩
      obtain ⟨k, rfl⟩ : ∃ k : Nat, at_ = k := ⟨at_.toNat, by omega⟩
      have hi : i < s.S.length := by omega
      have hk : k < 128 := by omega
      have hbl := h.ok.lenS _ (List.getElem_mem hi)
      have hr : dk.rot s i k x = (0, { s with S := s.S.set i (s.S[i].set k (s.S[i].getD k 0 ^^^ x)) }) := by
        rw [dk.rot, if_neg (by omega), Int.toNat_natCast, Int.toNat_natCast, List.getD_eq_getElem?_getD, List.getElem?_eq_getElem hi]
        rfl
      have HR := Lib.hid hr
      have hrange := h.block hi
      have hMB : ∀ y, PM (w.drew.setCell ⟨g, i * 128 + k, none⟩ (bv y)) p g c r v { s with S := s.S.set i (s.S[i].set k y) } := fun y => h.drew.byte hi hk
      generalize s.S[i] = b at *
      have hkb : k < b.length := by omega
      have hcell := hrange k (bv b[k]) (by rw [List.getElem?_map, List.getElem?_eq_getElem hkb]; rfl)
      have hfz : w.frozen? ⟨g, i * 128 + k, none⟩ = false := by simp [World.frozen?, h.row]
      have hCB : ∀ y, Chg w (w.drew.setCell ⟨g, i * 128 + k, none⟩ (bv y)) (dk.fp p g v) := fun y => (Chg.drew w (dk.fp p g v)).trans (Chg.setCell _ _ _ _) dk.sub_g
      have hget : b.getD k 0 = b[k] := by rw [List.getD_eq_getElem?_getD, List.getElem?_eq_getElem hkb]; rfl
      rw [hget] at HR
      generalize b[k] = y at *
      have hx := x.toNat_lt
      have hy := y.toNat_lt
      have h0 : ¬ (i : Int) < 0 := by omega
      have h1 : ¬ (s.S.length : Int) ≤ i := by omega
      have h2 : ¬ (k : Int) < 0 := by omega
      have h3 : ¬ (128 : Int) ≤ k := by omega
      clear hr hin hrange hat
      go_enter Tryz.func30, Tryz.ntmps30
      go_wp2_with fail
      refine HH.out.mono ?_
      rintro e w1 ⟨rfl, rfl⟩
      go_wp2_with fail
      go_still_tail 13, (by kernel_rfl)
      change wpList _ _ _ _ _ w.drew
      go_wp2_with fail
      go_ret
      rw [xor_bv]
      exact ⟨ret_int (by rw [HR.out]), by rw [HR.out]; exact hMB _, hCB _⟩
set_option maxRecDepth 100000 in
theorem pnew_yes (n : Nat) (h : 64 ≤ n) (h2 : n ≤ 4096) : Calls Tryz.prog 5 #[.int .i64 n] w fun e w' => ∃ p g, e = .returned (.tuple #[.pointer (some ⟨p, 0, none⟩), .int .i64 0]) ∧
    PM w' p g n [] (.slice none 0 0) (fresh n) ∧ Chg w w' [] ∧ w.heap.size ≤ p ∧ w.heap.size ≤ g := by
  obtain ⟨i0, hi0, hz0, hs0, hb0⟩ := info_parts4 info_blk3
  have hmk := fun W => run_make (P := Tryz.prog) W 58 43 i0 _ Tryz.underlying58 hi0 hz0 .i64 .i64 (n : Int) (n : Int) (by omega) (by omega) (by rw [hb0]; omega) (by omega)
  rw [hs0, Int.toNat_natCast] at hmk
  simp only [made_blocks] at hmk
  obtain ⟨C, hC⟩ : ∃ C, (dk.cellsS (List.replicate n dk.zero)).toArray = C := ⟨_, rfl⟩
  rw [hC] at hmk
  have HC := Lib.hid hC
  clear hC
  go_enter Tryz.func5, Tryz.ntmps5
  go_wp2_with fail
  go_ret2
  have e0 := heap_alloc_new w (.cells C 43)
  have e1 := heap_alloc_new (w.alloc (.cells C 43)) (.cells #[.slice (some ⟨w.heap.size, 0, none⟩) n n, .slice none 0 0, .int .i64 0, .bool false, .int .i64 0] 61)
  rw [show (w.alloc (.cells C 43)).heap.size = w.heap.size + 1 from by simp] at e1
  refine ⟨w.heap.size + 1, w.heap.size, rfl, ⟨?_, ?_, ?_, by omega, World.ownsRow_nil _ _ _ _, fresh_ok h h2, by omega, by simp [Value.ownBlock], by simp [Value.ownBlock], by simp [fresh], by simp [fresh]⟩, (Chg.alloc w _ []).trans (Chg.alloc _ _ []) (Sub.refl _ _), by omega, Nat.le_refl _⟩
  · rw [e1]
    simp [fresh]
  · rw [Below.heap_alloc _ _ _ (by simp), e0, ← HC.out]
    simp [fresh]
  · simp [fresh]
theorem pnew_no (n : Int) (h : n < 64 ∨ 4096 < n) : Calls Tryz.prog 5 #[.int .i64 n] w fun e w' => e = .returned (.tuple #[.pointer none, .int .i64 2]) ∧ w = w' := by
  have hcs : n < 64 ∨ (¬ n < 64 ∧ 4096 < n) := by omega
  rcases hcs with h0 | ⟨h0, h1⟩
  all_goals
    go_enter Tryz.func5, Tryz.ntmps5
    go_wp2_with fail
    go_ret2
    exact ⟨rfl, rfl⟩
end Go.Proofs.YthddcaoolaipiaaGreatDoor

/-
  contract of the program's Read: what was written last is found from behind.
-/
namespace Go.Proofs.YthddcaoolaipiaaGreatDoor
open Go.RowKit
variable {w : World} {p g c : Nat} {r : List Value} {v : Value} {s : dk.St}

set_option maxHeartbeats 4000000 in
set_option maxRecDepth 100000 in
theorem pread_any (n : Int) (h : PM w p g c r v s) : Calls Tryz.prog 83 #[.pointer (some ⟨p, 0, none⟩), .int .i64 n] w fun e w' => e = .returned (.tuple #[dk.val (dk.read s n).1, .int .i64 (dk.read s n).2]) ∧ Below w.heap.size w w' := by
  have h1 := h.alloc (.cells (dk.cells dk.zero).toArray 43)
  obtain ⟨hz, -⟩ := zero_of_info zero_blk
  have hrow := heap_alloc_new w (.cells (dk.cells dk.zero).toArray 43)
  have hb1 : Below w.heap.size w (w.alloc (.cells (dk.cells dk.zero).toArray 43)) := (Below.refl _ _).alloc (Nat.le_refl _) _
  have ha := pusable_any n h1
  obtain ⟨q, hq⟩ : ∃ q, dk.asks s n = q := ⟨_, rfl⟩
  rw [hq] at ha
  have HA := Lib.hid ha
  by_cases h0 : q = 0
  · subst h0
    obtain ⟨hbl, hn0, hn1⟩ := dk.asks_in hq
    obtain ⟨i, rfl⟩ : ∃ i : Nat, n = i := ⟨n.toNat, by omega⟩
    have hi : i < s.S.length := by omega
    have hm := h.ok.most
    have hb0 := h.ok.lenS _ (List.getElem_mem hi)
    have hread : dk.read s i = (dk.look s.S[i] i s.L, 0) := by
      rw [dk.read, if_pos hq, Int.toNat_natCast, List.getD_eq_getElem?_getD, List.getElem?_eq_getElem hi]
      rfl
    have HR := Lib.hid hread
    have HB := Lib.hid (fun (W : World) (hW : PM W p g c r v s) => hW.block hi)
    generalize s.S[i] = b0 at *
    have HLn := Lib.hid (fun j (hj : j < s.L.length) => h.ok.lenL _ (List.getElem_mem hj))
    obtain ⟨A0, cap0, hv0, hcap0, hmax0⟩ := h1.own_len
    have d1 := h1.c1
    rw [hv0] at d1
    clear ha hq hbl hread hn0 hn1
    go_enter Tryz.func83, Tryz.ntmps83
    go_wp2_with fail
    refine HA.out.mono ?_
    rintro e w1 ⟨rfl, rfl⟩
    go_wp2_with fail
    clear d1
    go_loopw [7] (fun t wr => ∃ j : Nat, j ≤ s.L.length ∧ t = .int .i64 ((j : Int) - 1) ∧ dk.look b0 i (s.L.take j) = dk.look b0 i s.L ∧ wr.heap[w.heap.size]? = some (.cells (dk.cells dk.zero).toArray 43 (0, 0)) ∧ Below w.heap.size w wr) (fun t _ => (intOf t + 1).toNat)
    case atStart => exact ⟨s.L.length, Nat.le_refl _, by go_num, by rw [List.take_length], hrow, hb1⟩
    case round =>
      clear hrow hb1 h1
      obtain ⟨j, hj, rfl, hlk, hW, hb⟩ := hrel
      have hM := h.below hb
      cases j with
      | zero =>
        have hrange := HB.out _ hM
        have d0 := hM.c0
        have hres : dk.look b0 i s.L = b0 := by rw [← hlk]; rfl
        rw [hres] at HR
        clear hlk hres
        go_wp2_with (first | refine wp_ld (.tmp 48) b0 hrange hb0 rfl rfl rfl ?_ | (refine wp_st0 (.tmp 4) (.tmp 49) b0 hW zero_len hb0 rfl rfl rfl rfl ?_; intro W2 hW2 hc2))
        refine bodyPost_ret (results_cell_tmp rfl rfl (blk_load (blk_range hW2) hb0)) rfl ⟨?_, (Chg.of_below hb [w.heap.size]).trans hc2 (Sub.refl _ _) |>.below (Nat.le_refl _) (fun k hk => by simp at hk; omega)⟩
        rw [HR.out]
        rfl
      | succ j =>
        have hlt : j < s.L.length := by omega
        have d1 := hM.c1
        obtain ⟨k, cap, hv, hcap, hmax, dN, dB⟩ := hM.put_ hlt
        have hbl := HLn.out j hlt
        have hst : dk.look b0 i (s.L.take (j + 1)) = if s.L[j].1 = (i : Int) then s.L[j].2 else dk.look b0 i (s.L.take j) := by
          rw [List.take_succ_eq_append_getElem hlt, dk.look_snoc]
        rw [hv] at d1
        have hM2 := hM.ok.inL _ (List.getElem_mem hlt)
        generalize hx : s.L[j] = x at *
        obtain ⟨xn, xb⟩ := x
        simp only at hst dN dB hbl hM2
        rw [hlk] at hst
        obtain ⟨hx0, hx1⟩ := hM2
        have hjj : ((j + 1 : Nat) : Int) - 1 = j := by omega
        simp only [hjj]
        clear hx hM hlk hjj
        by_cases he : xn = (i : Int)
        · subst he
          rw [if_pos rfl] at hst
          rw [hst] at HR
          clear hst
          go_wp2_with (first | refine wp_ld (.tmp 41) xb dB hbl rfl rfl rfl ?_ | (refine wp_st0 (.tmp 4) (.tmp 42) xb hW zero_len hbl rfl rfl rfl rfl ?_; intro W2 hW2 hc2))
          refine bodyPost_ret (results_cell_tmp rfl rfl (blk_load (blk_range hW2) hbl)) rfl ⟨?_, (Chg.of_below hb [w.heap.size]).trans hc2 (Sub.refl _ _) |>.below (Nat.le_refl _) (fun k hk => by simp at hk; omega)⟩
          rw [HR.out]
          rfl
        · have hne : (xn == (i : Int)) = false := by simpa using he
          rw [if_neg he] at hst
          have HST := Lib.hid hst
          clear hst
          go_wp2
          go_roundw
          case rel => exact ⟨j, by omega, by go_num, HST.out.symm, hW, hb⟩
          case measure => simp [intOf]
  · have hr : dk.read s n = (dk.zero, q) := by
      rw [dk.read, hq, if_neg h0]
    have HR := Lib.hid hr
    have hqb : (q == 0) = false := by simpa using h0
    clear hr hq ha
    go_enter Tryz.func83, Tryz.ntmps83
    go_wp2_with fail
    refine HA.out.mono ?_
    rintro e w1 ⟨rfl, rfl⟩
    go_wp2_with (refine wp_st0 (.tmp 4) (.tmp 13) dk.zero hrow zero_len zero_len rfl rfl rfl rfl ?_; intro W hW hc)
    refine bodyPost_ret (results_cell_tmp rfl rfl (blk_load (blk_range hW) zero_len)) rfl ⟨?_, new_chg hc⟩
    rw [HR.out]
    rfl
end Go.Proofs.YthddcaoolaipiaaGreatDoor

/-
  contract of the program's Write.
-/
namespace Go.Proofs.YthddcaoolaipiaaGreatDoor
open Go.RowKit
variable {w : World} {p g c : Nat} {r : List Value} {v : Value} {s : dk.St}

theorem info_pw : (Tryz.prog.info? 73).map (fun i => (i.zero, i.size, i.bytes)) = some (some (.agg (dk.put (0, dk.zero)).toArray), 129, 136) := by kernel_rfl

theorem pw_zero : ∀ w, (zeroValue 73).run Tryz.prog w = .ok (.agg (dk.put (0, dk.zero)).toArray) w := fun w => by
  cases hq : Tryz.prog.info? 73 with
  | none => have := info_pw; simp [hq] at this
  | some i =>
    have := info_pw
    simp only [hq, Option.map_some, Option.some.injEq, Prod.mk.injEq] at this
    simp [zeroValue, typeInfo, hq, this.1]

/-- one write is appended, at a step of a region that draws -/
theorem step_pw {ops : Array Oper} {o : Oper} {a : Act} {W : World} {K : Act → World → Prop} {Q : Exit → Act → World → Prop} {E0 : Prop} (x y : Operand) {v : Value} {n : Nat} {xs : List Value} {B : Nat} {PB : Array Value}
    (hown : W.ownsRow 0 73 129 v n xs) (hB : W.heap[B]? = some (.cells PB 73 (0, 0))) (hps : PB.size = 129) (hone : ∀ u ∈ PB.toList, u.oneCell' = true) (hn : n ≤ 1048576) (hgd : o.guard = none)
    (ho : o.op = .call { callee := .builtin .append, args := #[x, y], argTypes := #[59, 59] }) (hx : a.eval x = v) (hy : a.eval y = .slice (some ⟨B, 0, none⟩) 1 1)
    (h : ∀ g cap W', W'.ownsRow 0 73 129 (.slice (some ⟨g, 0, none⟩) (n + 1) cap) (n + 1) (xs ++ PB.toList) → W.grownBy W' v.ownBlock → (v.ownBlock = some g ∨ g = W.heap.size) → g < W'.heap.size → K (a.put o.dst (.slice (some ⟨g, 0, none⟩) (n + 1) cap)) W') :
    if Region.wanted o (yielded ops a.tmps) = true then Oper.wp Tryz.prog o a W K Q else E0 := by
  obtain ⟨i0, hi0, hz0, hs0, hb0⟩ := info_parts3 info_pw
  exact step_append_lies W hgd x y 59 ho 0 73 i0 _ 129 136 Tryz.underlying59 hi0 hz0 hs0 hb0 (dk.put_size (0, dk.zero) zero_len) (by omega) v n xs hx hown ⟨B, 0, none⟩ 1 1 PB.toList hy (by simp [hps]) (World.news_of_block hB) hone (by omega) (by rw [maxLen_eq]; omega) (by omega) (Nat.zero_le _) _ rfl h

set_option maxHeartbeats 4000000 in
set_option maxRecDepth 100000 in
theorem pwrite_any (n : Int) (b : dk.Blk) (hb : b.length = 128) (h : PM w p g c r v s) (hm : s.many < 4611686018427387904) (hl : s.L.length ≤ 1048576) : Calls Tryz.prog 19 #[.pointer (some ⟨p, 0, none⟩), .int .i64 n, dk.val b] w fun e w' =>
    ∃ v', e = .returned (.int .i64 (dk.write s n b).1) ∧ PM w' p g c r v' (dk.write s n b).2 ∧ Chg w w' (dk.fp p g v) ∧ Sub w (dk.fp p g v') (dk.fp p g v) := by
  have h1 := h.alloc (.cells (dk.cells b).toArray 43)
  have hrow := heap_alloc_new w (.cells (dk.cells b).toArray 43)
  have ha := pusable_any n h1
  obtain ⟨q, hq⟩ : ∃ q, dk.asks s n = q := ⟨_, rfl⟩
  rw [hq] at ha
  have HA := Lib.hid ha
  by_cases h0 : q = 0
  · subst h0
    have hs := Lib.hid (pstep_any h1 hm)
    by_cases hc : s.cut = 1
    · have hst1 : (dk.step s).1 = 9 := by rw [dk.step, if_pos hc]
      have hwr : dk.write s n b = (9, (dk.step s).2) := by rw [dk.write, if_pos hq, if_neg (by rw [hst1]; omega)]
      have HW := Lib.hid hwr
      rw [hst1] at hs
      clear ha hq hst1 hwr
      go_enter Tryz.func19, Tryz.ntmps19
      go_wp2_with fail
      refine HA.out.mono ?_
      rintro e w1 ⟨rfl, rfl⟩
      go_wp2_with fail
      refine hs.out.mono ?_
      rintro e w2 ⟨rfl, hM, hC⟩
      go_wp2_with fail
      go_ret
      exact ⟨v, ret_int (by rw [HW.out]), by rw [HW.out]; exact hM, ((Chg.alloc w _ [p]).trans hC (Sub.refl _ _)).mono (fun k hk => .inl (by simp [dk.fp] at hk ⊢; simp [hk])), Sub.refl _ _⟩
    · have hst1 : (dk.step s).1 = 0 := by rw [dk.step, if_neg hc]
      rw [hst1] at hs
      clear ha
      go_enter Tryz.func19, Tryz.ntmps19
      go_wp2_with fail
      refine HA.out.mono ?_
      rintro e w1 ⟨rfl, rfl⟩
      go_wp2_with fail
      refine hs.out.mono ?_
      rintro e w2 ⟨rfl, hM, hC⟩
      go_wp2_with fail
      have hP : w2.heap[w.heap.size]? = some (.cells (dk.cells b).toArray 43 (0, 0)) := by
        rw [hC.block _ (by simp) (by have := h.there p (by simp [dk.fp]); simp; omega)]
        exact hrow
      have rg := blk_range hP
      have c1 := hM.c1
      have f1 := hM.fz 1
      have uB := Tryz.underlying43
      have iB := info_blk' hb
      have hne : p ≠ w.heap.size := by have := h.there p (by simp [dk.fp]); omega
      obtain ⟨Z, hZ⟩ : ∃ Z : Array Value, Z = (dk.put (0, dk.zero)).toArray := ⟨_, rfl⟩
      obtain ⟨PB, hPB⟩ : ∃ Z : Array Value, Z = (dk.put (n, b)).toArray := ⟨_, rfl⟩
      have zp := pw_zero
      have zs : Z.size = 129 := by rw [hZ]; exact dk.put_size _ zero_len
      have zn : ¬ Z = #[] := fun e => by rw [e] at zs; simp at zs
      have zf : List.foldl (fun (c : Array Value) (x : Value × Nat) => c.setIfInBounds (1 + x.snd) x.fst) (Z.setIfInBounds 0 (.int .i64 n)) (dk.cells b).zipIdx = PB := by rw [hZ, hPB]; exact dk.build_put n b hb
      rw [← hZ] at zp
      have ps : PB.size = 129 := by rw [hPB]; exact dk.put_size _ hb
      have HPB := Lib.hid hPB
      clear hrow HA hs h1 hZ hPB
      have hPBrow := heap_alloc_new w2.drew (.cells PB 73)
      have hMa := hM.drew.alloc (.cells PB 73)
      have hown := hMa.loose
      have hone : ∀ u ∈ PB.toList, u.oneCell' = true := by
        rw [HPB.out]
        intro u hu
        rw [List.toList_toArray] at hu
        rcases List.mem_cons.1 hu with rfl | hu
        · rfl
        · exact bvs_one b u hu
      have c1a := hMa.c1
      have f1a := hMa.fz 1
      have hpsz : p < (w2.drew.alloc (.cells PB 73)).heap.size := hMa.there p (by simp [dk.fp])
      have hne2 : some p ≠ v.ownBlock := fun e => hM.ne2 e.symm
      have hvw : some w.heap.size ≠ v.ownBlock := fun e => by have := h.there w.heap.size (by simp [dk.fp, ← e]); omega
      have rga := World.rangeAt_alloc (show w2.drew.rangeAt w.heap.size 0 (dk.cells b) from rg) (.cells PB 73)
      rw [dk.step_L] at hown
      refine wp_region_held_drew (S := fun w' => w'.rangeAt w.heap.size 0 (dk.cells b)) (by kernel_rfl) (by simpa using rg) (fun hHeld => ?_)
      refine wpAnyH_take (i := 0) (v := ?_) rfl (by kernel_rfl) (by kernel_rfl) (by kernel_rfl) (fun _ _ _ h => h) (Or.inl ⟨by rfl, ?_⟩) hHeld ?_
      rotate_left
      · intro w _; go_simp; try rfl
      simp only [List.getElem_toArray, List.getElem_cons_zero, Act.put, List.setIfInBounds_toArray, List.set_cons_zero, List.set_cons_succ]
      refine wpAnyH_take (i := 1) (v := ?_) rfl (by kernel_rfl) (by kernel_rfl) (by kernel_rfl) (fun _ _ _ h => h) (Or.inl ⟨by rfl, ?_⟩) hHeld ?_
      rotate_left
      · intro w _; go_simp; try rfl
      simp only [List.getElem_toArray, List.getElem_cons_zero, List.getElem_cons_succ, Act.put, List.setIfInBounds_toArray, List.set_cons_zero, List.set_cons_succ]
      refine wpAnyH_take (i := 2) (v := ?_) rfl (by kernel_rfl) (by kernel_rfl) (by kernel_rfl) (fun _ _ _ h => h) (Or.inl ⟨by rfl, ?_⟩) hHeld ?_
      rotate_left
      · intro w _; go_simp; try rfl
      simp only [List.getElem_toArray, List.getElem_cons_zero, List.getElem_cons_succ, Act.put, List.setIfInBounds_toArray, List.set_cons_zero, List.set_cons_succ]
      refine wpAnyH_take (i := 3) (v := ?_) rfl (by kernel_rfl) (by kernel_rfl) (by kernel_rfl) (fun _ _ _ h => h) (Or.inl ⟨by rfl, ?_⟩) hHeld ?_
      rotate_left
      · intro w _; go_simp; try rfl
      simp only [List.getElem_toArray, List.getElem_cons_zero, List.getElem_cons_succ, Act.put, List.setIfInBounds_toArray, List.set_cons_zero, List.set_cons_succ]
      refine wpAnyH_take (i := 5) (v := ?_) rfl (by kernel_rfl) (by kernel_rfl) (by kernel_rfl) (fun _ _ _ h => h) (Or.inl ⟨by rfl, ?_⟩) hHeld ?_
      rotate_left
      · intro w _; go_simp; try rfl
      simp only [List.getElem_toArray, List.getElem_cons_zero, List.getElem_cons_succ, Act.put, List.setIfInBounds_toArray, List.set_cons_zero, List.set_cons_succ]
      refine wpAnyH_take (i := 6) (v := dk.val b) rfl (by kernel_rfl) (by kernel_rfl) (by kernel_rfl) (fun _ _ _ h => h) (yieldsIf_load_mid (by rfl) 43 (.tmp 5) rfl w.heap.size 0 rfl (dk.cells b) _ (fun w h => h) uB rfl iB) hHeld ?_
      simp only [List.getElem_toArray, List.getElem_cons_zero, List.getElem_cons_succ, Act.put, List.setIfInBounds_toArray, List.set_cons_zero, List.set_cons_succ]
      refine wpAnyH_take (i := 7) (v := ?_) rfl (by kernel_rfl) (by kernel_rfl) (by kernel_rfl) (fun _ _ _ h => h) (Or.inl ⟨by rfl, ?_⟩) hHeld ?_
      rotate_left
      · intro w _; go_simp; try rfl
      simp only [List.getElem_toArray, List.getElem_cons_zero, List.getElem_cons_succ, Act.put, List.setIfInBounds_toArray, List.set_cons_zero, List.set_cons_succ]
      have hS2 := World.rangeAt_alloc hHeld (.cells PB 73)
      obtain ⟨i0, hi0, hz0, hs0, hb0⟩ := info_parts3 info_pw
      have hfill := dk.fill_one 129 ((Array.range 129).map fun i => (dk.put (0, dk.zero)).toArray[i % 129]!) PB ps (by simp)
      refine wpAnyH_ready (rs := [4, 8]) (by kernel_rfl) (by simp) ?_
      refine AllReadyH.cons rfl (fun K hK => ?o1) (AllReadyH.cons rfl (fun K hK => ?o2) AllReadyH.nil)
      case' o1 =>
        rw [if_pos (by rfl)]
        go_simp
        refine hK.out _ _ hHeld (fun hHeld => ?_)
        clear hK K
        refine wpAnyH_ready (rs := [8]) (by kernel_rfl) (by simp) ?_
        refine AllReadyH.cons rfl (fun K hK => ?_) AllReadyH.nil
        rw [if_pos (by rfl)]
        refine wp_buildSlice 59 73 1 _ rfl PB i0 _ Tryz.underlying59 hi0 hz0 (by rw [hs0]; omega) (by rw [hs0]; omega) ?hf ?h
        case' hf => (rw [hs0]; simp only [List.map_toArray, List.map_cons, List.map_nil]; refine dk.fill_one 129 _ PB ps ?_; rw [Array.size_map, Array.size_range])
        simp only [List.getElem_toArray, List.getElem_cons_zero, List.getElem_cons_succ, Act.put, List.setIfInBounds_toArray, List.set_cons_zero, List.set_cons_succ]
        refine hK.out _ _ hS2 (fun hHeld => ?_)
        clear hK K
      case' o2 =>
        rw [if_pos (by rfl)]
        refine wp_buildSlice 59 73 1 _ rfl PB i0 _ Tryz.underlying59 hi0 hz0 (by rw [hs0]; omega) (by rw [hs0]; omega) ?hf2 ?h2
        case' hf2 => (rw [hs0]; simp only [List.map_toArray, List.map_cons, List.map_nil]; refine dk.fill_one 129 _ PB ps ?_; rw [Array.size_map, Array.size_range])
        simp only [List.getElem_toArray, List.getElem_cons_zero, List.getElem_cons_succ, Act.put, List.setIfInBounds_toArray, List.set_cons_zero, List.set_cons_succ]
        refine hK.out _ _ hS2 (fun hHeld => ?_)
        clear hK K
        refine wpAnyH_ready (rs := [4]) (by kernel_rfl) (by simp) ?_
        refine AllReadyH.cons rfl (fun K hK => ?_) AllReadyH.nil
        rw [if_pos (by rfl)]
        have c1c : (w2.alloc (.cells PB 73)).cell? ⟨p, 1, none⟩ = some v := c1a
        go_simp
        change K _ (w2.drew.alloc (.cells PB 73))
        refine hK.out _ _ hS2 (fun hHeld => ?_)
        clear hK K
      all_goals
        refine wpAnyH_ready (rs := [9]) (by kernel_rfl) (by simp) ?_
        refine AllReadyH.cons rfl (fun K hK => ?_) AllReadyH.nil
        refine step_pw (.tmp 24) (.tmp 28) hown hPBrow ps hone hl rfl rfl rfl rfl ?_
        intro gg cap w3 hown3 hg3 hat3 hlt3
        have c13 := (hg3.cell_far ⟨p, 1, none⟩ hpsz hne2).trans c1a
        have f13 := (hg3.frozen_far ⟨p, 1, none⟩ hpsz hne2).trans f1a
        simp only [List.getElem_toArray, List.getElem_cons_zero, List.getElem_cons_succ, Act.put, List.setIfInBounds_toArray, List.set_cons_zero, List.set_cons_succ]
        refine hK.out _ _ (dk.range_grown hS2 hg3 hvw) (fun hHeld => ?_)
        clear hK K
        refine wpAnyH_take (i := 10) (v := ?_) rfl (by kernel_rfl) (by kernel_rfl) (by kernel_rfl) (fun _ _ _ h => h) (Or.inl ⟨by rfl, ?_⟩) hHeld ?_
        rotate_left
        · intro w _; go_simp; try rfl
        simp only [List.getElem_toArray, List.getElem_cons_zero, List.getElem_cons_succ, Act.put, List.setIfInBounds_toArray, List.set_cons_zero, List.set_cons_succ]
        refine wpAnyH_take (i := 11) (v := ?_) rfl (by kernel_rfl) (by kernel_rfl) (by kernel_rfl) (fun _ _ _ h => h) (Or.inl ⟨by rfl, ?_⟩) hHeld ?_
        rotate_left
        · intro w _; go_simp; try rfl
        simp only [List.getElem_toArray, List.getElem_cons_zero, List.getElem_cons_succ, Act.put, List.setIfInBounds_toArray, List.set_cons_zero, List.set_cons_succ]
        refine wpAnyH_ready (rs := [12]) (by kernel_rfl) (by simp) ?_
        refine AllReadyH.cons rfl (fun K hK => ?_) AllReadyH.nil
        rw [if_pos (by rfl)]
        go_simp
        refine hK.out _ _ (dk.range_setCell hHeld _ _ hne) (fun hHeld => ?_)
        clear hK K
        refine wpAnyH_done (by kernel_rfl) ?_ _
        go_wp2_with fail
        go_ret
        have hxs : ((n, b) : Int × dk.Blk).2.length = 128 := hb
        obtain ⟨_, hn0, hn1⟩ := dk.asks_in hq
        rw [HPB.out, List.toList_toArray] at hown3
        have hap := dk.M.appended (x := (n, b)) (show PM _ p g c r v (dk.step s).2 from hMa) hg3 (by rw [dk.step_L]; exact hown3) hat3 hb (by rw [dk.step_S]; exact ⟨hn0, hn1⟩)
        rw [dk.step_L] at hap
        have hwr : dk.write s n b = (0, { (dk.step s).2 with L := s.L ++ [(n, b)] }) := by rw [dk.write, if_pos hq, if_pos hst1]
        have hCw : Chg w (w2.drew.alloc (.cells PB 73)) (dk.fp p g v) :=
          (((Chg.alloc w _ [p]).trans hC (Sub.refl _ _)).mono (fun k hk => .inl (by simp [dk.fp] at hk ⊢; simp [hk]))).trans ((Chg.drew _ (dk.fp p g v)).trans (Chg.alloc _ _ (dk.fp p g v)) (Sub.refl _ _)) (Sub.refl _ _)
        exact ⟨_, ret_int (by rw [hwr]), by rw [hwr]; exact hap.1, hCw.trans hap.2.1 (Sub.refl _ _), hap.2.2.trans (Sub.refl _ _) hCw.size⟩
  · have hwr : dk.write s n b = (q, s) := by rw [dk.write, hq, if_neg h0]
    have HW := Lib.hid hwr
    have hqb : (q == 0) = false := by simpa using h0
    clear ha hq hwr
    go_enter Tryz.func19, Tryz.ntmps19
    go_wp2_with fail
    refine HA.out.mono ?_
    rintro e w1 ⟨rfl, rfl⟩
    go_wp2_with fail
    go_ret
    exact ⟨v, ret_int (by rw [HW.out]), by rw [HW.out]; exact h1, Chg.alloc _ _ _, Sub.refl _ _⟩
end Go.Proofs.YthddcaoolaipiaaGreatDoor

/-
  contract of the program's Flush.
-/
namespace Go.Proofs.YthddcaoolaipiaaGreatDoor
open Go.RowKit
variable {w : World} {p g c : Nat} {r : List Value} {v : Value} {s : dk.St}

/-- a write that is not sure, as a value -/
abbrev dk.pval (x : Int × dk.Blk) : Value := .agg (dk.put x).toArray
theorem dk.put_len {x : Int × dk.Blk} (h : x.2.length = 128) : (dk.put x).length = 129 := by rw [List.length_cons, List.length_map, h]
theorem info_pw' {x : Int × dk.Blk} (h : x.2.length = 128) : (Tryz.prog.info? 73).map (·.size) = some (dk.put x).length := by
  rw [dk.put_len h]
  obtain ⟨i, hi, _, hs, _⟩ := info_parts3 info_pw
  rw [hi, Option.map_some, hs]
theorem put_one (x : Int × dk.Blk) : (dk.put x).toArray.all (·.oneCell') = true := all_oneCell_toArray (fun u hu => by
  rcases List.mem_cons.1 hu with rfl | hu
  · rfl
  · exact bvs_one x.2 u hu)
theorem put_range {w : World} {k o : Nat} {x : Int × dk.Blk} (h1 : w.cell? ⟨k, o, none⟩ = some (.int .i64 x.1)) (h2 : w.rangeAt k (o + 1) (dk.cells x.2)) : w.rangeAt k o (dk.put x) := fun j u hj => by
  cases j with
  | zero =>
    simp only [dk.put, List.getElem?_cons_zero, Option.some.injEq] at hj
    rw [← hj]
    exact h1
  | succ j =>
    rw [show o + (j + 1) = o + 1 + j from by omega]
    exact h2 j u (by simpa [dk.put] using hj)
section
variable {ops : Array Oper} {rest : List Oper} {o : Oper} {a : Act} {w : World} {Q : Exit → Act → World → Prop}
/-- a write that is not sure is loaded -/
theorem wp_ldp (x : Operand) (y : Int × dk.Blk) {g off : Nat} (hr : w.rangeAt g off (dk.put y)) (hy : y.2.length = 128) (hgd : o.guard = none) (ho : o.op = .load 73 x) (hx : a.eval x = .pointer (some ⟨g, off, none⟩))
    (h : wpList Tryz.prog ops Q rest (a.put o.dst (dk.pval y)) w) : wpList Tryz.prog ops Q (o :: rest) a w :=
  wpList_load_mid hgd _ x ho g off hx _ _ hr Tryz.underlying73 rfl (info_pw' hy) h
/-- it is stored into a block of its own -/
theorem wp_stp (x y : Operand) (z : Int × dk.Blk) {g : Nat} {old : Array Value} {E : TypeId} (hrow : w.heap[g]? = some (.cells old E (0, 0))) (hold : old.size = 129) (hz : z.2.length = 128) (hgd : o.guard = none)
    (ho : o.op = .store 73 x y) (hx : a.eval x = .pointer (some ⟨g, 0, none⟩)) (hy : a.eval y = dk.pval z)
    (h : ∀ W, W.heap[g]? = some (.cells (dk.put z).toArray E (0, 0)) → Chg w W [g] → wpList Tryz.prog ops Q rest (a.put o.dst undef) W) : wpList Tryz.prog ops Q (o :: rest) a w := by
  have hl : (dk.put z).length = 129 := dk.put_len hz
  have hrow' : w.heap[g]? = some (.cells old.toList.toArray E (0, 0)) := by rw [Array.toArray_toList]; exact hrow
  have h2 := block_sets (dk.put z) 0 old.toList w hrow' (by simp only [Array.length_toList]; omega)
  rw [hl, List.take_zero, List.nil_append, List.drop_of_length_le (by simp only [Array.length_toList]; omega), List.append_nil] at h2
  refine wpList_store_mid hgd _ x y ho g 0 (dk.put z).toArray hx hy ?_ (by simpa using info_pw' hz) (put_one z) ?_
  · have := there_of hrow' 0 129 (by simp only [Array.length_toList]; omega)
    rw [List.size_toArray, hl]
    exact this
  · exact h _ h2 (Chg.setCells g _ _ _)
end

set_option maxHeartbeats 4000000 in
set_option maxRecDepth 100000 in
theorem pflush_any (h : PM w p g c r v s) (hm : s.many < 4611686018427387904) : Calls Tryz.prog 82 #[.pointer (some ⟨p, 0, none⟩)] w fun e w' =>
    ∃ v', e = .returned (.int .i64 (dk.flush s).1) ∧ PM w' p g c r v' (dk.flush s).2 ∧ Chg w w' (dk.fp p g v) ∧ Sub w (dk.fp p g v') (dk.fp p g v) := by
  have HL := Lib.hid (plit_any h)
  have hs := pstep_any h hm
  cases hb : s.black with
  | true =>
    have hr : dk.flush s = (9, s) := by rw [dk.flush, if_pos hb]
    have hl : dk.lit s = 9 := by simp [dk.lit, hb]
    rw [hl] at HL
    have HR := Lib.hid hr
    clear hr hs hl
    go_enter Tryz.func82, Tryz.ntmps82
    go_wp2_with fail
    refine HL.out.mono ?_
    rintro e w1 ⟨rfl, rfl⟩
    go_wp2_with fail
    go_ret
    exact ⟨v, ret_int (by rw [HR.out]), by rw [HR.out]; exact h, Chg.refl _ _, Sub.refl _ _⟩
  | false =>
    have hl : dk.lit s = 0 := by simp [dk.lit, hb]
    rw [hl] at HL
    clear hl
    by_cases hc : s.cut = 1
    · have hst1 : (dk.step s).1 = 9 := by rw [dk.step, if_pos hc]
      have hr : dk.flush s = (9, (dk.step s).2) := by rw [dk.flush, if_neg (by simp [hb]), if_neg (by rw [hst1]; omega)]
      rw [hst1] at hs
      have HS := Lib.hid hs
      have HR := Lib.hid hr
      clear hr hs hst1 hc
      go_enter Tryz.func82, Tryz.ntmps82
      go_wp2_with fail
      refine HL.out.mono ?_
      rintro e w1 ⟨rfl, rfl⟩
      go_wp2_with fail
      refine HS.out.mono ?_
      rintro e w2 ⟨rfl, hM, hC⟩
      go_wp2_with fail
      go_ret
      exact ⟨v, ret_int (by rw [HR.out]), by rw [HR.out]; exact hM, hC.mono dk.sub_p, Sub.refl _ _⟩
    · have hst1 : (dk.step s).1 = 0 := by rw [dk.step, if_neg hc]
      have hr : dk.flush s = (0, { (dk.step s).2 with S := dk.lay s.S s.L, L := [] }) := by rw [dk.flush, if_neg (by simp [hb]), if_pos hst1]
      rw [hst1] at hs
      have HS := Lib.hid hs
      have HR := Lib.hid hr
      have hSS := dk.step_S s
      have hLL := dk.step_L s
      have hOL : ∃ A cap, v = .slice A s.L.length cap ∧ s.L.length ≤ cap ∧ cap ≤ 9223372036854775807 ∧ (s.L.length = 0 ∨ ∃ k, A = some ⟨k, 0, none⟩) := by
        by_cases h0 : 0 < s.L.length
        · obtain ⟨k, cap, hv, h1, h2, _⟩ := h.put_ h0
          exact ⟨_, cap, hv, h1, h2, .inr ⟨k, rfl⟩⟩
        · obtain ⟨A, cap, hv, h1, h2⟩ := h.own_len
          exact ⟨A, cap, hv, h1, h2, .inl (by omega)⟩
      rw [← hLL] at hOL
      generalize (dk.step s).2 = s1 at *
      rw [← hSS, ← hLL] at HR
      clear hr hs hst1 hc hSS hLL
      obtain ⟨A, cap, hvA, hcap, hmax, hkA⟩ := hOL
      rcases hkA with hz | ⟨k, rfl⟩
      · rw [hz] at hvA
        have hLn : s1.L = [] := List.eq_nil_of_length_eq_zero hz
        have hlay : dk.lay s1.S s1.L = s1.S := by rw [hLn]; rfl
        rw [hlay] at HR
        clear hlay hLn hz hcap
        go_enter Tryz.func82, Tryz.ntmps82
        go_wp2_with fail
        refine HL.out.mono ?_
        rintro e w1 ⟨rfl, rfl⟩
        go_wp2_with fail
        refine HS.out.mono ?_
        rintro e w2 ⟨rfl, hM0, hC0⟩
        have d1 := hM0.c1
        rw [hvA] at d1
        go_wp2_with fail
        clear d1
        go_loopw [22] (fun t wr => t = .int .i64 0 ∧ PM wr p g c r v s1 ∧ Chg w wr (dk.fp p g v)) (fun _ _ => 0)
        case atStart => exact ⟨rfl, hM0, hC0.mono dk.sub_p⟩
        case round =>
          clear hM0 hC0 h HS HL
          obtain ⟨rfl, hM, hC⟩ := hrel
          have d1 := hM.c1
          have f1 := hM.fz 1
          have hcl := hM.clear_
          rw [hvA] at d1
          go_wp2_with fail
          go_ret
          exact ⟨_, ret_int (by rw [HR.out]), by rw [HR.out]; exact hcl, hC.trans (Chg.setCell _ _ _ _) dk.sub_p, dk.sub_nil⟩
      · go_enter Tryz.func82, Tryz.ntmps82
        go_wp2_with fail
        refine HL.out.mono ?_
        rintro e w1 ⟨rfl, rfl⟩
        go_wp2_with fail
        refine HS.out.mono ?_
        rintro e w2 ⟨rfl, hM0, hC0⟩
        have d1 := hM0.c1
        rw [hvA] at d1
        go_wp2_with fail
        clear d1
        go_loopw [22] (fun t wr => ∃ j : Nat, j ≤ s1.L.length ∧ t = .int .i64 j ∧ PM wr p g c r v { s1 with S := dk.lay s1.S (s1.L.take j) } ∧ Chg w wr (dk.fp p g v)) (fun t _ => s1.L.length - (intOf t).toNat)
        case atStart => exact ⟨0, by omega, rfl, hM0, hC0.mono dk.sub_p⟩
        case round =>
          have hlen := hM0.ok.lenL
          have hin := hM0.ok.inL
          clear hM0 hC0 h HS HL
          obtain ⟨j, hj, rfl, hM, hC⟩ := hrel
          by_cases hlt : j < s1.L.length
          · obtain ⟨k', cap', hv, hcap', hmax', dN, dB⟩ := hM.put_ hlt
            obtain ⟨rfl, rfl⟩ : k = k' ∧ cap = cap' := by
              have := hvA.symm.trans hv
              simpa using this
            have hbl := hlen _ (List.getElem_mem hlt)
            obtain ⟨hi0, hi1⟩ := hin _ (List.getElem_mem hlt)
            have hst : dk.lay s1.S (s1.L.take (j + 1)) = (dk.lay s1.S (s1.L.take j)).set s1.L[j].1.toNat s1.L[j].2 := by
              rw [List.take_succ_eq_append_getElem hlt, dk.lay_snoc]
            simp only at dN dB
            generalize s1.L[j] = x at *
            have dP := put_range dN dB
            obtain ⟨xn, xb⟩ := x
            simp only at hst dN dB hbl hi0 hi1
            obtain ⟨i, rfl⟩ : ∃ i : Nat, xn = i := ⟨xn.toNat, by omega⟩
            rw [Int.toNat_natCast] at hst
            have HST := Lib.hid hst
            have hiS : i < (dk.lay s1.S (s1.L.take j)).length := by rw [dk.lay_length]; omega
            have hrl := hM.rowLen hiS
            have hmost := hM.ok.most
            simp only [dk.lay_length] at hmost
            simp only at hrl
            obtain ⟨Z, hZ⟩ : ∃ Z : Array Value, Z = (dk.put (0, dk.zero)).toArray := ⟨_, rfl⟩
            have zp := pw_zero
            have zs : Z.size = 129 := by rw [hZ]; exact dk.put_size _ zero_len
            rw [← hZ] at zp
            have hMa := hM.alloc (.cells Z 73)
            have hnew := heap_alloc_new wr (.cells Z 73)
            clear hst hlen hin hZ dN dB hv
            go_wp2_with (first | refine wp_ldp (.tmp 24) ((i : Int), xb) dP hbl rfl rfl rfl ?_ | (refine wp_stp (.tmp 6) (.tmp 25) ((i : Int), xb) hnew zs hbl rfl rfl rfl rfl ?_; intro W hW hCW))
            have hMW := hMa.keep (hCW.same (F := [wr.heap.size]) (G := dk.fp p g v) (fun a ha hm => by have := hM.there a hm; simp only [List.mem_singleton] at ha; omega) hMa.there)
            have hCC : Chg wr W (dk.fp p g v) := (Chg.alloc wr _ (dk.fp p g v)).trans hCW (fun a ha => .inr (by simp only [List.mem_singleton] at ha; omega))
            have e0 : W.cell? ⟨wr.heap.size, 0, none⟩ = some (.int .i64 (i : Int)) := by rw [cell_of_row _ _ 0 _ _ _ hW]; rfl
            have e1 : W.rangeAt wr.heap.size 1 (dk.cells xb) := range_of hW 1 _ (fun a u ha => by rw [Nat.add_comm]; exact ha)
            have d0 := hMW.c0
            have hrow := hMW.row
            simp only [dk.lay_length] at d0
            simp only at hrow
            clear hnew hMa hW hCW hM
            refine wp_region_still_tail 9 (by kernel_rfl) (by kernel_rfl) ?_
            simp only [List.take_succ_cons, List.take_zero, List.drop_succ_cons, List.drop_zero]
            iterate 7 still_step
            refine still_ld (.tmp 32) xb (show W.drew.rangeAt wr.heap.size 1 (dk.cells xb) from e1) hbl rfl rfl (by rfl) ?_
            simp only [Act.put, List.setIfInBounds_toArray, List.set_cons_zero, List.set_cons_succ]
            still_step
            refine wpStill_nil ?_
            refine wp_st (.tmp 34) (.tmp 33) xb (show W.drew.heap[g]? = _ from hrow) hrl hbl rfl rfl rfl rfl ?_
            intro W2 hW2 hCW2
            have hMW2 := hMW.drew.stored hiS hbl hW2 hCW2
            simp only at hMW2
            clear e0 e1 d0 hrow hrl hW2
            go_wp2_with fail
            go_roundw
            case rel => exact ⟨j + 1, by omega, by go_num, by rw [HST.out]; exact hMW2, ((hC.trans hCC (Sub.refl _ _)).trans (Chg.drew _ (dk.fp p g v)) (Sub.refl _ _)).trans hCW2 dk.sub_g⟩
            case measure => simp [intOf]; omega
          · have d1 := hM.c1
            have f1 := hM.fz 1
            have hcl := hM.clear_
            rw [hvA] at d1
            simp only [List.take_of_length_le (show s1.L.length ≤ j from by omega)] at hcl
            go_wp2_with fail
            go_ret
            exact ⟨_, ret_int (by rw [HR.out]), by rw [HR.out]; exact hcl, hC.trans (Chg.setCell _ _ _ _) dk.sub_p, dk.sub_nil⟩
end Go.Proofs.YthddcaoolaipiaaGreatDoor

/-
  contract of the program's Crash.
-/
namespace Go.Proofs.YthddcaoolaipiaaGreatDoor
open Go.RowKit
variable {w : World} {p g c : Nat} {r : List Value} {v : Value} {s : dk.St}

/-- what is kept of a write -/
def dk.kept (q : Int) : Nat := min q.toNat 128
theorem dk.torn_row (R : List Value) (o : Nat) (ob xb : dk.Blk) (q : Int) (ho : ob.length = 128) (hx : xb.length = 128) (hR : ∀ j, j < 128 → R[o + j]? = (dk.cells ob)[j]?) :
    R.take o ++ (dk.cells (xb.take (dk.kept q)) ++ R.drop (o + dk.kept q)) = R.take o ++ dk.cells (dk.torn ob xb q) ++ R.drop (o + 128) := by
  have hl : (dk.cells ob).length = 128 := by rw [List.length_map, ho]
  have e : R.drop o = dk.cells ob ++ R.drop (o + 128) := by
    apply List.ext_getElem?
    intro j
    rw [List.getElem?_drop]
    by_cases hj : j < 128
    · rw [List.getElem?_append_left (by omega), hR j hj]
    · rw [List.getElem?_append_right (by omega), List.getElem?_drop]
      congr 1
      omega
  have hk : dk.kept q ≤ 128 := by unfold dk.kept; omega
  rw [List.append_assoc]
  congr 1
  rw [← List.drop_drop, e, List.drop_append_of_le_length (by omega), ← List.append_assoc]
  congr 1
  unfold dk.torn dk.kept
  rw [show dk.cells (xb.take q.toNat ++ ob.drop q.toNat) = dk.cells (xb.take q.toNat) ++ dk.cells (ob.drop q.toNat) from List.map_append, ← List.map_drop]
  by_cases hq : q.toNat ≤ 128
  · rw [Nat.min_eq_left hq]
  · rw [Nat.min_eq_right (by omega), List.take_of_length_le (by omega), List.drop_of_length_le (by omega), List.take_of_length_le (by omega), List.drop_of_length_le (by omega)]

theorem Chg.setRow (w : World) (g : Nat) (cs : Array Value) : Chg w (w.setRow g cs) [g] :=
  ⟨rfl, rfl, rfl, by simp [World.setRow], fun k _ hn => setRow_other w g k cs (fun e => hn (by rw [List.mem_singleton]; exact e))⟩
theorem Chg.cell {w w' : World} {F : List Nat} (h : Chg w w' F) {a : Addr} (hp : a.block < w.heap.size) (hn : a.block ∉ F) : w'.cell? a = w.cell? a := by
  simp only [World.cell?, h.block _ hp hn]
set_option maxHeartbeats 4000000 in
set_option maxRecDepth 100000 in
theorem pcrash_any (A : Option Addr) (n cp : Nat) (l : List Int) (hl : IS w A n cp l) (hA : 0 < n → ∀ b o, A = some ⟨b, o, none⟩ → b ∉ dk.fp p g v) (h : PM w p g c r v s) : Calls Tryz.prog 10 #[.pointer (some ⟨p, 0, none⟩), .slice A n cp] w fun e w' =>
    ∃ v', e = .returned (.int .i64 0) ∧ PM w' p g c r v' (dk.crash s l) ∧ Chg w w' (dk.fp p g v) ∧ Sub w (dk.fp p g v') (dk.fp p g v) := by
  have HN := Lib.hid (pnone_any h)
  have hOL : ∃ A cap, v = .slice A s.L.length cap ∧ s.L.length ≤ cap ∧ cap ≤ 9223372036854775807 ∧ (s.L.length = 0 ∨ ∃ k, A = some ⟨k, 0, none⟩) := by
    by_cases h0 : 0 < s.L.length
    · obtain ⟨k, cap, hv, h1, h2, _⟩ := h.put_ h0
      exact ⟨_, cap, hv, h1, h2, .inr ⟨k, rfl⟩⟩
    · obtain ⟨A, cap, hv, h1, h2⟩ := h.own_len
      exact ⟨A, cap, hv, h1, h2, .inl (by omega)⟩
  obtain ⟨AA, cap, hvA, hcap, hmax, hkA⟩ := hOL
  rcases hkA with hz | ⟨k, rfl⟩
  · rw [hz] at hvA
    subst hvA
    have hLn : s.L = [] := List.eq_nil_of_length_eq_zero hz
    have hcr : dk.crash s l = { s with L := [], black := false, cut := 0 } := by unfold dk.crash; rw [hLn]; rfl
    rw [hcr]
    clear hcr hLn hz hcap
    have d1 := h.c1
    go_enter Tryz.func10, Tryz.ntmps10
    go_wp2_with fail
    refine HN.out.mono ?_
    rintro e w1 ⟨rfl, rfl⟩
    go_wp2_with fail
    clear d1
    go_loopw [15] (fun t wr => t = .int .i64 0 ∧ PM wr p g c r (.slice AA 0 cap) s ∧ Chg w wr (dk.fp p g (.slice AA 0 cap))) (fun _ _ => 0)
    case atStart => exact ⟨rfl, h, Chg.refl _ _⟩
    case round =>
      clear h HN
      obtain ⟨rfl, hM, hC⟩ := hrel
      have d1 := hM.c1
      have f1 := hM.fz 1
      have hc1 := hM.clear_
      have g3 := hc1.c3
      have f3 := hc1.fz 3
      have g2 := hc1.c2
      have f2 := hc1.fz 2
      have hc2 := hc1.cut 0 (by omega)
      have g3' := hc2.c3
      have f3' := hc2.fz 3
      have hc3 := hc2.black false
      go_wp2_with fail
      go_ret
      exact ⟨rfl, _, hc3, ((hC.trans (Chg.setCell _ _ _ _) dk.sub_p).trans (Chg.setCell _ _ _ _) dk.sub_p).trans (Chg.setCell _ _ _ _) dk.sub_p, dk.sub_nil⟩
  · subst hvA
    have d1 := h.c1
    go_enter Tryz.func10, Tryz.ntmps10
    go_wp2_with fail
    refine HN.out.mono ?_
    rintro e w1 ⟨rfl, rfl⟩
    go_wp2_with fail
    clear d1
    go_loopw [15] (fun t wr => ∃ j : Nat, j ≤ s.L.length ∧ t = .int .i64 j ∧ PM wr p g c r (.slice (some ⟨k, 0, none⟩) s.L.length cap) { s with S := dk.tear s.S (s.L.take j) l } ∧ Chg w wr (dk.fp p g (.slice (some ⟨k, 0, none⟩) s.L.length cap))) (fun t _ => s.L.length - (intOf t).toNat)
    case atStart => exact ⟨0, by omega, rfl, h, Chg.refl _ _⟩
    case round =>
      have hlen := h.ok.lenL
      have hin := h.ok.inL
      obtain ⟨j, hj, rfl, hM, hC⟩ := hrel
      have hI := hl.chg hC hA
      have hIl := hI.len
      have hIc := hI.cap
      have hIm := hI.max
      clear hl h HN
      by_cases hlt : j < s.L.length
      · obtain ⟨k', cap', hv, hcap', hmax', dN, dB⟩ := hM.put_ hlt
        obtain ⟨rfl, rfl⟩ : k = k' ∧ cap = cap' := by
          simpa using hv
        have hbl := hlen _ (List.getElem_mem hlt)
        obtain ⟨hi0, hi1⟩ := hin _ (List.getElem_mem hlt)
        obtain ⟨q, hq⟩ : ∃ q, l.getD j 0 = q := ⟨_, rfl⟩
        have hst : dk.tear s.S (s.L.take (j + 1)) l = (dk.tear s.S (s.L.take j) l).set s.L[j].1.toNat (dk.torn ((dk.tear s.S (s.L.take j) l).getD s.L[j].1.toNat dk.zero) s.L[j].2 q) := by
          rw [List.take_succ_eq_append_getElem hlt, dk.tear_snoc, List.length_take, Nat.min_eq_left (by omega), hq]
        simp only at dN dB
        generalize s.L[j] = x at *
        have dP := put_range dN dB
        obtain ⟨xn, xb⟩ := x
        simp only at hst dN dB hbl hi0 hi1
        obtain ⟨i, rfl⟩ : ∃ i : Nat, xn = i := ⟨xn.toNat, by omega⟩
        rw [Int.toNat_natCast] at hst
        have hiS : i < (dk.tear s.S (s.L.take j) l).length := by rw [dk.tear_length]; omega
        have hold : (dk.tear s.S (s.L.take j) l).getD i dk.zero = (dk.tear s.S (s.L.take j) l)[i] := by
          rw [List.getD_eq_getElem?_getD, List.getElem?_eq_getElem hiS]
          rfl
        rw [hold] at hst
        have hobl := hM.ok.lenS _ (List.getElem_mem hiS)
        have dO := hM.block (i := i) hiS
        simp only at hobl dO
        generalize (dk.tear s.S (s.L.take j) l)[i] = ob at *
        have hrl := hM.rowLen hiS
        have hmost := hM.ok.most
        simp only [dk.tear_length] at hmost
        simp only at hrl
        have hcase : (∃ pb po, A = some ⟨pb, po, none⟩ ∧ j < n ∧ pb < wr.heap.size ∧ wr.cell? ⟨pb, po + j, none⟩ = some (.int .i64 q)) ∨ (¬ j < n ∧ q = 0) := by
          by_cases hjp : j < n
          · obtain ⟨pb, po, rfl, hpb, hpc⟩ := hI.has (by omega)
            have hpj := hpc j (by omega)
            have hqj : l[j]'(by omega) = q := by rw [← hq, List.getD_eq_getElem?_getD, List.getElem?_eq_getElem (by omega)]; rfl
            rw [hqj] at hpj
            exact .inl ⟨pb, po, rfl, hjp, hpb, hpj⟩
          · exact .inr ⟨hjp, by rw [← hq, List.getD_eq_getElem?_getD, List.getElem?_eq_none (by omega)]; rfl⟩
        obtain ⟨Z, hZ⟩ : ∃ Z : Array Value, Z = (dk.put (0, dk.zero)).toArray := ⟨_, rfl⟩
        have zp := pw_zero
        have zs : Z.size = 129 := by rw [hZ]; exact dk.put_size _ zero_len
        rw [← hZ] at zp
        have hMa := hM.alloc (.cells Z 73)
        have hnew := heap_alloc_new wr (.cells Z 73)
        have hR : ∀ a, a < 128 → (dk.cellsS (dk.tear s.S (s.L.take j) l) ++ r)[i * 128 + a]? = (dk.cells ob)[a]? := fun a ha => by
          have ha' : a < (dk.cells ob).length := by rw [List.length_map, hobl]; exact ha
          have h1 := dO a _ (List.getElem?_eq_getElem ha')
          rw [cell_of_row _ _ _ _ _ _ hM.row] at h1
          rw [List.getElem?_eq_getElem ha', ← h1]
          simp
        have hR2 := dk.torn_row _ (i * 128) ob xb q hobl hbl hR
        have htb := dk.torn_length q hobl hbl
        have hkl : dk.kept q ≤ 128 := by unfold dk.kept; omega
        generalize dk.torn ob xb q = tb at *
        have HST := Lib.hid hst
        obtain ⟨kq, hkq⟩ : ∃ kq, dk.kept q = kq := ⟨_, rfl⟩
        rw [hkq] at hR2 hkl
        have HR2 := Lib.hid hR2
        unfold dk.kept at hkq
        clear hR2 hst hlen hin hZ dN dB hv hq hI hold hR
        have hpb' : ∀ pb : Nat, pb < wr.heap.size → pb < (wr.alloc (.cells Z 73)).heap.size := fun pb h => by simp; omega
        have hcase2 : (∃ pb po, A = some ⟨pb, po, none⟩ ∧ j < n ∧ pb < wr.heap.size ∧ wr.cell? ⟨pb, po + j, none⟩ = some (.int .i64 q) ∧ q < 0 ∧ kq = 0) ∨
            (∃ pb po m, A = some ⟨pb, po, none⟩ ∧ j < n ∧ pb < wr.heap.size ∧ wr.cell? ⟨pb, po + j, none⟩ = some (.int .i64 q) ∧ q = ((m : Nat) : Int) ∧ m ≤ 128 ∧ kq = m) ∨
            (∃ pb po, A = some ⟨pb, po, none⟩ ∧ j < n ∧ pb < wr.heap.size ∧ wr.cell? ⟨pb, po + j, none⟩ = some (.int .i64 q) ∧ 128 < q ∧ kq = 128) ∨
            (¬ j < n ∧ kq = 0) := by
          rcases hcase with ⟨pb, po, h1, h2, h3, h4⟩ | ⟨h1, rfl⟩
          · by_cases hq0 : q < 0
            · exact .inl ⟨pb, po, h1, h2, h3, h4, hq0, by omega⟩
            · by_cases hq1 : q ≤ 128
              · exact .inr (.inl ⟨pb, po, q.toNat, h1, h2, h3, h4, by omega, by omega, by omega⟩)
              · exact .inr (.inr (.inl ⟨pb, po, h1, h2, h3, h4, by omega, by omega⟩))
          · exact .inr (.inr (.inr ⟨h1, by rw [← hkq]; rfl⟩))
        clear hcase hkq
        rcases hcase2 with ⟨pb, po, rfl, hjp, hpb, hpj, hq0, hkt⟩ | ⟨pb, po, m, rfl, hjp, hpb, hpj, rfl, hm, hkt⟩ | ⟨pb, po, rfl, hjp, hpb, hpj, hq0, hkt⟩ | ⟨hjp, hkt⟩
        all_goals
          try (have hm0 : ¬ (m : Int) < 0 := by omega)
          try (have hm1 : (m : Int) ≤ 128 := by omega)
          try (have hm2 : ¬ q < 0 := by omega)
          try (have hm3 : ¬ q ≤ 128 := by omega)
          try (have hpa := ((Chg.alloc wr (.cells Z 73) []).cell (a := ⟨pb, po + j, none⟩) hpb (by simp)).trans hpj)
          try (have hpb2 := hpb' pb hpb)
          try (have hne : pb ≠ wr.heap.size := by omega)
          go_wp2_with (first | refine wp_ldp (.tmp 18) ((i : Int), xb) dP hbl rfl rfl rfl ?_ | (refine wp_stp (.tmp 6) (.tmp 19) ((i : Int), xb) hnew zs hbl rfl rfl rfl rfl ?_; intro W hW hCW; try (have hpW := (hCW.cell (a := ⟨pb, po + j, none⟩) hpb2 (by simpa using hne)).trans hpa)))
          try (clear hpW)
          have hMW := hMa.keep (hCW.same (F := [wr.heap.size]) (G := dk.fp p g _) (fun a ha hm => by have := hM.there a hm; simp only [List.mem_singleton] at ha; omega) hMa.there)
          have hCC : Chg wr W (dk.fp p g (.slice (some ⟨k, 0, none⟩) s.L.length cap)) := (Chg.alloc wr _ (dk.fp p g _)).trans hCW (fun a ha => .inr (by simp only [List.mem_singleton] at ha; omega))
          have e0 : W.cell? ⟨wr.heap.size, 0, none⟩ = some (.int .i64 (i : Int)) := by rw [cell_of_row _ _ 0 _ _ _ hW]; rfl
          have e1 : W.rangeAt wr.heap.size 1 (dk.cells xb) := range_of hW 1 _ (fun a u ha => by rw [Nat.add_comm]; exact ha)
          have d0 := hMW.c0
          have hrow := hMW.row
          simp only [dk.tear_length] at d0
          simp only at hrow
          clear hnew hMa hW hCW
          go_still_tail 11, (by kernel_rfl)
          change wpList _ _ _ _ _ W.drew
          refine wpList_copy_own rfl (.tmp 38) (.tmp 40) 36 36 rfl 5 Tryz.underlying36 (by kernel_rfl) g (i * 128) _ 128 ⟨wr.heap.size, 1, none⟩ 128 128 rfl rfl _ _ (show W.drew.heap[g]? = _ from hrow) (dk.cells (xb.take kq)) ?_ ?_ ?_ ?_ ?_
          · (rw [List.length_map, List.length_take, hbl, hkt]) <;> first | rfl | exact Nat.min_comm _ _
          · intro a u ha
            have hadd : (⟨wr.heap.size, 1, none⟩ : Addr).add a = ⟨wr.heap.size, 1 + a, none⟩ := by unfold Addr.add; split <;> simp_all
            rw [hadd]
            refine e1 a u ?_
            rw [List.getElem?_map] at ha ⊢
            rw [List.getElem?_take] at ha
            split at ha
            · exact ha
            · simp at ha
          · simp only [List.size_toArray, List.length_map, List.length_take]
            omega
          · exact bvs_one _
          · have hset := setRow_heap W.drew g _ (((dk.cellsS (dk.tear s.S (s.L.take j) l) ++ r).toArray.toList.take (i * 128) ++ (dk.cells (xb.take kq) ++ (dk.cellsS (dk.tear s.S (s.L.take j) l) ++ r).toArray.toList.drop (i * 128 + (dk.cells (xb.take kq)).length))).toArray) _ _ (show W.drew.heap[g]? = _ from hrow)
            have hlk : (dk.cells (xb.take kq)).length = kq := by rw [List.length_map, List.length_take]; omega
            have hchg := Chg.setRow W.drew g (((dk.cellsS (dk.tear s.S (s.L.take j) l) ++ r).toArray.toList.take (i * 128) ++ (dk.cells (xb.take kq) ++ (dk.cellsS (dk.tear s.S (s.L.take j) l) ++ r).toArray.toList.drop (i * 128 + (dk.cells (xb.take kq)).length))).toArray)
            generalize W.drew.setRow g (((dk.cellsS (dk.tear s.S (s.L.take j) l) ++ r).toArray.toList.take (i * 128) ++ (dk.cells (xb.take kq) ++ (dk.cellsS (dk.tear s.S (s.L.take j) l) ++ r).toArray.toList.drop (i * 128 + (dk.cells (xb.take kq)).length))).toArray) = W2 at *
            rw [hlk, List.toList_toArray, HR2.out] at hset
            have hMW2 := hMW.drew.stored hiS htb hset hchg
            simp only at hMW2
            clear e0 e1 d0 hrow hrl hset
            go_wp2_with fail
            go_roundw
            case rel => exact ⟨j + 1, by omega, by go_num, by rw [HST.out]; exact hMW2, ((hC.trans hCC (Sub.refl _ _)).trans (Chg.drew _ (dk.fp p g _)) (Sub.refl _ _)).trans hchg dk.sub_g⟩
            case measure => simp [intOf]; omega
      · have d1 := hM.c1
        have f1 := hM.fz 1
        simp only [List.take_of_length_le (show s.L.length ≤ j from by omega)] at hM
        have hc1 := hM.clear_
        have g3 := hc1.c3
        have f3 := hc1.fz 3
        have g2 := hc1.c2
        have f2 := hc1.fz 2
        have hc2 := hc1.cut 0 (by omega)
        have g3' := hc2.c3
        have f3' := hc2.fz 3
        have hc3 := hc2.black false
        go_wp2_with fail
        go_ret
        exact ⟨rfl, _, hc3, ((hC.trans (Chg.setCell _ _ _ _) dk.sub_p).trans (Chg.setCell _ _ _ _) dk.sub_p).trans (Chg.setCell _ _ _ _) dk.sub_p, dk.sub_nil⟩
end Go.Proofs.YthddcaoolaipiaaGreatDoor
