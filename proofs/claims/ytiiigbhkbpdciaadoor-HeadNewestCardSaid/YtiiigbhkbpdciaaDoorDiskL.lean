/-
  PURE: a disk: what is sure, what was written since, in order; what each act answers and leaves. No program is named here.
-/
import Derived.Test.YtiiigbhkbpdciaaDoorWords
namespace Go.Proofs.YtiiigbhkbpdciaaDoor.dk

abbrev Blk := List UInt8
/-- a block of 0s -/
def zero : Blk := List.replicate 128 0
/-- a disk -/
structure St where
  S : List Blk
  L : List (Int × Blk)
  cut : Int
  black : Bool
  many : Int
/-- its blocks are blocks; what is written is written to one of them -/
structure St.Ok (s : St) : Prop where
  lenS : ∀ b ∈ s.S, b.length = 128
  some : 64 ≤ s.S.length
  most : s.S.length ≤ 4096
  lenL : ∀ x ∈ s.L, x.2.length = 128
  inL : ∀ x ∈ s.L, 0 ≤ x.1 ∧ x.1 < s.S.length

/-- what is asked ahead of a block -/
def asks (s : St) (n : Int) : Int := if s.black then 9 else if n < 0 ∨ (s.S.length : Int) ≤ n then 2 else 0
/-- is the power cut at this step? else the step is done -/
def step (s : St) : Int × St := if s.cut = 1 then (9, { s with black := true }) else (0, { s with cut := if 1 < s.cut then s.cut - 1 else s.cut, many := s.many + 1 })
def look (b : Blk) (n : Int) : List (Int × Blk) → Blk
  | [] => b
  | x :: r => look (if x.1 = n then x.2 else b) n r
def read (s : St) (n : Int) : Blk × Int := if asks s n = 0 then (look (s.S.getD n.toNat zero) n s.L, 0) else (zero, asks s n)
def write (s : St) (n : Int) (b : Blk) : Int × St :=
  if asks s n = 0 then (if (step s).1 = 0 then (0, { (step s).2 with L := s.L ++ [(n, b)] }) else (9, (step s).2)) else (asks s n, s)
def lay (S : List Blk) : List (Int × Blk) → List Blk
  | [] => S
  | x :: r => lay (S.set x.1.toNat x.2) r
def flush (s : St) : Int × St :=
  if s.black then (9, s) else if (step s).1 = 0 then (0, { (step s).2 with S := lay s.S s.L, L := [] }) else (9, (step s).2)
def arm (s : St) (n : Int) : Int × St := if s.black then (9, s) else if n < 0 then (2, s) else (0, { s with cut := n })
def sure (s : St) (n : Int) : Blk × Int := if n < 0 ∨ (s.S.length : Int) ≤ n then (zero, 2) else (s.S.getD n.toNat zero, 0)
def rot (s : St) (n at_ : Int) (x : UInt8) : Int × St :=
  if n < 0 ∨ (s.S.length : Int) ≤ n ∨ at_ < 0 ∨ 128 ≤ at_ then (2, s)
  else (0, { s with S := s.S.set n.toNat ((s.S.getD n.toNat zero).set at_.toNat ((s.S.getD n.toNat zero).getD at_.toNat 0 ^^^ x)) })
/-- the first bytes of a new block, the others of an old one -/
def torn (old now : Blk) (n : Int) : Blk := now.take n.toNat ++ old.drop n.toNat
def tear (S : List Blk) : List (Int × Blk) → List Int → List Blk
  | [], _ => S
  | x :: r, p => tear (S.set x.1.toNat (torn (S.getD x.1.toNat zero) x.2 (p.headD 0))) r p.tail
def crash (s : St) (p : List Int) : St := { s with S := tear s.S s.L p, L := [], black := false, cut := 0 }

theorem look_snoc (b : Blk) (n : Int) (L : List (Int × Blk)) (x : Int × Blk) : look b n (L ++ [x]) = if x.1 = n then x.2 else look b n L := by
  induction L generalizing b with
  | nil => rfl
  | cons y r ih => exact ih _
theorem lay_snoc (L : List (Int × Blk)) (S : List Blk) (x : Int × Blk) : lay S (L ++ [x]) = (lay S L).set x.1.toNat x.2 := by
  induction L generalizing S with
  | nil => rfl
  | cons y r ih => exact ih _
theorem tear_snoc (L : List (Int × Blk)) (S : List Blk) (x : Int × Blk) (p : List Int) : tear S (L ++ [x]) p = (tear S L p).set x.1.toNat (torn ((tear S L p).getD x.1.toNat zero) x.2 (p.getD L.length 0)) := by
  induction L generalizing S p with
  | nil => cases p <;> rfl
  | cons y r ih =>
    rw [List.cons_append, tear, ih, List.length_cons]
    cases p <;> simp [tear]
theorem lay_length (L : List (Int × Blk)) (S : List Blk) : (lay S L).length = S.length := by
  induction L generalizing S with
  | nil => rfl
  | cons x r ih => rw [lay, ih, List.length_set]
theorem tear_length (L : List (Int × Blk)) (S : List Blk) (p : List Int) : (tear S L p).length = S.length := by
  induction L generalizing S p with
  | nil => rfl
  | cons x r ih => rw [tear, ih, List.length_set]
theorem torn_length {a b : Blk} (n : Int) (ha : a.length = 128) (hb : b.length = 128) : (torn a b n).length = 128 := by
  unfold torn
  rw [List.length_append, List.length_take, List.length_drop]
  omega
theorem set_len {S : List Blk} (h : ∀ b ∈ S, b.length = 128) {i : Nat} {b : Blk} (hb : b.length = 128) : ∀ x ∈ S.set i b, x.length = 128 := fun x hx => by
  rcases List.mem_or_eq_of_mem_set hx with h1 | rfl
  · exact h x h1
  · exact hb
theorem getD_len {S : List Blk} (h : ∀ b ∈ S, b.length = 128) (i : Nat) : (S.getD i zero).length = 128 := by
  rw [List.getD_eq_getElem?_getD]
  cases hi : S[i]? with
  | none => rfl
  | some b => exact h b (List.mem_of_getElem? hi)
theorem lay_len (L : List (Int × Blk)) (hL : ∀ x ∈ L, x.2.length = 128) (S : List Blk) (hS : ∀ b ∈ S, b.length = 128) : ∀ b ∈ lay S L, b.length = 128 := by
  induction L generalizing S with
  | nil => exact hS
  | cons x r ih => exact ih (fun y hy => hL y (List.mem_cons_of_mem _ hy)) _ (set_len hS (hL x (List.mem_cons_self ..)))
theorem tear_len (L : List (Int × Blk)) (hL : ∀ x ∈ L, x.2.length = 128) (S : List Blk) (hS : ∀ b ∈ S, b.length = 128) (p : List Int) : ∀ b ∈ tear S L p, b.length = 128 := by
  induction L generalizing S p with
  | nil => exact hS
  | cons x r ih => exact ih (fun y hy => hL y (List.mem_cons_of_mem _ hy)) _ (set_len hS (torn_length _ (getD_len hS _) (hL x (List.mem_cons_self ..)))) _
theorem look_len (L : List (Int × Blk)) (hL : ∀ x ∈ L, x.2.length = 128) (n : Int) (b : Blk) (hb : b.length = 128) : (look b n L).length = 128 := by
  induction L generalizing b with
  | nil => exact hb
  | cons x r ih =>
    rw [look]
    refine ih (fun y hy => hL y (List.mem_cons_of_mem _ hy)) _ ?_
    split
    · exact hL x (List.mem_cons_self ..)
    · exact hb
theorem step_S (s : St) : (step s).2.S = s.S := by unfold step; split <;> rfl
theorem step_L (s : St) : (step s).2.L = s.L := by unfold step; split <;> rfl
theorem Ok.step {s : St} (h : s.Ok) : (step s).2.Ok := ⟨by rw [step_S]; exact h.lenS, by rw [step_S]; exact h.some, by rw [step_S]; exact h.most, by rw [step_L]; exact h.lenL, by rw [step_L, step_S]; exact h.inL⟩
theorem asks_in {s : St} {n : Int} (h : asks s n = 0) : s.black = false ∧ 0 ≤ n ∧ n < s.S.length := by
  unfold asks at h
  cases hb : s.black with
  | true => rw [hb] at h; simp at h
  | false =>
    rw [hb] at h
    simp only [Bool.false_eq_true, if_false] at h
    split at h
    · omega
    · exact ⟨rfl, by omega, by omega⟩
theorem Ok.write {s : St} (h : s.Ok) {n : Int} {b : Blk} (hb : b.length = 128) : (write s n b).2.Ok := by
  unfold dk.write
  split
  · next ha =>
    obtain ⟨_, h0, h1⟩ := asks_in ha
    split
    · refine ⟨by rw [step_S]; exact h.lenS, by rw [step_S]; exact h.some, by rw [step_S]; exact h.most, fun x hx => ?_, fun x hx => ?_⟩
      · rcases List.mem_append.1 hx with hx | hx
        · exact h.lenL x hx
        · rw [List.mem_singleton.1 hx]; exact hb
      · rw [step_S]
        rcases List.mem_append.1 hx with hx | hx
        · exact h.inL x hx
        · rw [List.mem_singleton.1 hx]; exact ⟨h0, h1⟩
    · exact Ok.step h
  · exact h
theorem Ok.flush {s : St} (h : s.Ok) : (flush s).2.Ok := by
  unfold dk.flush
  split
  · exact h
  · split
    · exact ⟨lay_len _ h.lenL _ h.lenS, by simp only [lay_length]; exact h.some, by simp only [lay_length]; exact h.most, fun x hx => by simp at hx, fun x hx => by simp at hx⟩
    · exact Ok.step h
theorem Ok.arm {s : St} (h : s.Ok) (n : Int) : (arm s n).2.Ok := by
  unfold dk.arm
  split
  · exact h
  · split
    · exact h
    · exact ⟨h.lenS, h.some, h.most, h.lenL, h.inL⟩
theorem Ok.rot {s : St} (h : s.Ok) (n at_ : Int) (x : UInt8) : (rot s n at_ x).2.Ok := by
  unfold dk.rot
  split
  · exact h
  · exact ⟨set_len h.lenS (by rw [List.length_set]; exact getD_len h.lenS _), by simp only [List.length_set]; exact h.some, by simp only [List.length_set]; exact h.most, h.lenL, by simp only [List.length_set]; exact h.inL⟩
theorem Ok.crash {s : St} (h : s.Ok) (p : List Int) : (crash s p).Ok :=
  ⟨tear_len _ h.lenL _ h.lenS _, by unfold dk.crash; rw [tear_length]; exact h.some, by unfold dk.crash; rw [tear_length]; exact h.most, fun x hx => by simp [dk.crash] at hx, fun x hx => by simp [dk.crash] at hx⟩
end Go.Proofs.YtiiigbhkbpdciaaDoor.dk
