/-
  PURE: a rest is a word of 32 bits; what a bit, bytes, rows of bytes leave of it; what is true of them. No program is named here.
-/
import Derived.Test.YtiiigbhkbpdciaaDoorWords
namespace Go.Proofs.YtiiigbhkbpdciaaDoor.crc

abbrev W := BitVec 32
/-- moved on by a bit -/
def one (x : W) : W := if x.getLsbD 0 then (x >>> 1) ^^^ 2197175160#32 else x >>> 1
/-- moved on by k bits -/
def on : Nat → W → W
  | 0, x => x
  | k + 1, x => on k (one x)

theorem xor4 (a b c d : W) : (a ^^^ b) ^^^ (c ^^^ d) = (a ^^^ c) ^^^ (b ^^^ d) := by
  ext i; simp; cases a[i] <;> cases b[i] <;> cases c[i] <;> cases d[i] <;> rfl
theorem xor_swap (a b c : W) : (a ^^^ b) ^^^ c = (a ^^^ c) ^^^ b := by
  ext i; simp; cases a[i] <;> cases b[i] <;> cases c[i] <;> rfl
theorem xor_two (a b : W) : (a ^^^ b) ^^^ b = a := by
  ext i; simp
theorem one_xor (x y : W) : one (x ^^^ y) = one x ^^^ one y := by
  unfold one
  rw [BitVec.getLsbD_xor, BitVec.ushiftRight_xor_distrib]
  cases x.getLsbD 0 <;> cases y.getLsbD 0 <;> simp
  · rw [BitVec.xor_assoc]
  · rw [xor_swap]
  · rw [xor4]; simp
theorem one_zero : one 0#32 = 0#32 := by decide
theorem on_xor (k : Nat) (x y : W) : on k (x ^^^ y) = on k x ^^^ on k y := by
  induction k generalizing x y with
  | zero => rfl
  | succ k ih => rw [on, one_xor, ih]; rfl
theorem on_zero (k : Nat) : on k 0#32 = 0#32 := by
  induction k with
  | zero => rfl
  | succ k ih => rw [on, one_zero, ih]
theorem on_add (k m : Nat) (x : W) : on (k + m) x = on m (on k x) := by
  induction k generalizing x with
  | zero => rw [Nat.zero_add]; rfl
  | succ k ih => rw [Nat.succ_add, on, ih]; rfl
theorem on_succ' (k : Nat) (x : W) : on (k + 1) x = one (on k x) := by rw [on_add]; rfl
theorem one_inj0 (x : W) (h : one x = 0#32) : x = 0#32 := by
  unfold one at h
  cases hb : x.getLsbD 0 with
  | true =>
    rw [if_pos hb] at h
    have h31 := congrArg (fun z : W => z.getLsbD 31) h
    simp at h31
  | false =>
    rw [if_neg (by rw [hb]; simp)] at h
    apply BitVec.eq_of_getLsbD_eq
    intro i hi
    rcases i with _ | i
    · rw [hb]; simp
    · have h1 := congrArg (fun z : W => z.getLsbD i) h
      simp only [BitVec.getLsbD_ushiftRight] at h1
      rw [Nat.add_comm, h1]
      simp
theorem one_inj (x y : W) (h : one x = one y) : x = y := by
  have h1 : one (x ^^^ y) = 0#32 := by rw [one_xor, h, BitVec.xor_self]
  have h2 := one_inj0 _ h1
  have h3 : (x ^^^ y) ^^^ y = 0#32 ^^^ y := by rw [h2]
  rwa [xor_two, BitVec.zero_xor] at h3
theorem on_inj (k : Nat) (x y : W) (h : on k x = on k y) : x = y := by
  induction k generalizing x y with
  | zero => exact h
  | succ k ih => exact one_inj _ _ (ih _ _ h)

/-- a byte as a word -/
def wb (c : UInt8) : W := BitVec.ofNat 32 c.toNat
def into (x : W) (c : UInt8) : W := on 8 (x ^^^ wb c)
def go (x : W) : List UInt8 → W
  | [] => x
  | c :: l => go (into x c) l
def more (s : W) (l : List UInt8) : W := ~~~ (go (~~~ s) l)
def of (l : List UInt8) : W := more 0#32 l
def join (a b : W) (n : Nat) : W := on (8 * n) a ^^^ b

theorem on8 (x : W) : on 8 x = on 4 (on 4 x) := on_add 4 4 x
theorem into_four (x : W) (c : UInt8) : into x c = on 4 (on 4 (x ^^^ wb c)) := on8 _
theorem go_append (x : W) (l m : List UInt8) : go x (l ++ m) = go (go x l) m := by
  induction l generalizing x with
  | nil => rfl
  | cons c l ih => exact ih _
theorem go_snoc (x : W) (l : List UInt8) (c : UInt8) : go x (l ++ [c]) = into (go x l) c := by rw [go_append]; rfl
theorem into_two (x y : W) (c : UInt8) : into x c ^^^ into y c = on 8 (x ^^^ y) := by
  unfold into
  rw [← on_xor, xor4, BitVec.xor_self, BitVec.xor_zero]
theorem go_two (x y : W) (l : List UInt8) : go x l ^^^ go y l = on (8 * l.length) (x ^^^ y) := by
  induction l generalizing x y with
  | nil => rfl
  | cons c l ih =>
    rw [go, go, ih, into_two, ← on_add]
    congr 1
    simp
    omega
theorem not_two (x y : W) : ~~~ x ^^^ ~~~ y = x ^^^ y := by
  ext i; simp
theorem more_append (s : W) (l m : List UInt8) : more s (l ++ m) = more (more s l) m := by
  unfold more
  rw [go_append, BitVec.not_not]
theorem of_nil : of [] = 0#32 := by decide
theorem more_nil (s : W) : more s [] = s := by simp [more, go]
theorem more_two (s t : W) (l : List UInt8) : more s l ^^^ more t l = on (8 * l.length) (s ^^^ t) := by
  unfold more
  rw [not_two, go_two, not_two]
theorem of_append (l m : List UInt8) : of (l ++ m) = join (of l) (of m) m.length := by
  have h := more_two (of l) 0#32 m
  rw [BitVec.xor_zero] at h
  unfold join
  rw [← h]
  show of (l ++ m) = more (of l) m ^^^ more 0#32 m ^^^ more 0#32 m
  rw [xor_two]
  exact more_append 0#32 l m
theorem join_nil (b : W) (n : Nat) : join (of []) b n = b := by
  unfold join
  rw [of_nil, on_zero, BitVec.zero_xor]
theorem more_inj (s t : W) (l : List UInt8) (h : more s l = more t l) : s = t := by
  have h1 := more_two s t l
  rw [h, BitVec.xor_self] at h1
  have h2 := on_inj _ _ _ (h1.symm.trans (on_zero (8 * l.length)).symm)
  have h3 : (s ^^^ t) ^^^ t = 0#32 ^^^ t := by rw [h2]
  rwa [xor_two, BitVec.zero_xor] at h3

/-- what has no low bits comes down -/
theorem one_even (x : W) (h : x.getLsbD 0 = false) : one x = x >>> 1 := by
  unfold one
  rw [h]
  simp
theorem on_low (k : Nat) (x : W) (h : ∀ i, i < k → x.getLsbD i = false) : on k x = x >>> k := by
  induction k generalizing x with
  | zero => simp [on]
  | succ k ih =>
    rw [on, one_even x (h 0 (by omega)), ih _ (fun i hi => by rw [BitVec.getLsbD_ushiftRight]; exact h _ (by omega)), ← BitVec.shiftRight_add, Nat.add_comm]
/-- a byte that is moved up by k bits, and k bits on, is the byte -/
theorem on_up (k : Nat) (c : UInt8) (hk : k ≤ 24) : on k (wb c <<< k) = wb c := by
  rw [on_low _ _ (fun i hi => by simp [hi])]
  apply BitVec.eq_of_getLsbD_eq
  intro i hi
  rw [BitVec.getLsbD_ushiftRight, BitVec.getLsbD_shiftLeft]
  by_cases h : k + i < 32
  · simp [h]
  · have hc := c.toNat_lt
    have : (wb c).getLsbD i = false := by
      unfold wb
      rw [BitVec.getLsbD_ofNat]
      rw [Nat.testBit_lt_two_pow (Nat.lt_of_lt_of_le hc (by rw [show (2 : Nat) ^ 8 = 256 from rfl, show (256 : Nat) = 2 ^ 8 from rfl]; exact Nat.pow_le_pow_right (by omega) (by omega)))]
      simp
    rw [this]
    simp [h]
/-- four bytes as a word, the first one lowest -/
def le4 (a b c d : UInt8) : W := wb a ^^^ wb b <<< 8 ^^^ wb c <<< 16 ^^^ wb d <<< 24
theorem go4 (x : W) (a b c d : UInt8) : go x [a, b, c, d] = on 32 (x ^^^ le4 a b c d) := by
  have hb : on 8 (wb b <<< 8) = wb b := on_up 8 b (by omega)
  have hc : on 8 (on 8 (wb c <<< 16)) = wb c := by rw [← on_add]; exact on_up 16 c (by omega)
  have hd : on 8 (on 8 (on 8 (wb d <<< 24))) = wb d := by rw [← on_add, ← on_add]; exact on_up 24 d (by omega)
  have h32 : ∀ y : W, on 32 y = on 8 (on 8 (on 8 (on 8 y))) := fun y => by
    rw [← on_add, ← on_add, ← on_add]
  rw [h32]
  show on 8 (on 8 (on 8 (on 8 (x ^^^ wb a) ^^^ wb b) ^^^ wb c) ^^^ wb d) = _
  unfold le4
  simp only [on_xor, hb, hc, hd, BitVec.xor_assoc]
theorem wb_bit (c : UInt8) (i : Nat) : (wb c).getLsbD i = c.toNat.testBit i := by
  unfold wb
  rw [BitVec.getLsbD_ofNat]
  by_cases h : i < 32
  · simp [h]
  · have hc := c.toNat_lt
    rw [Nat.testBit_lt_two_pow (Nat.lt_of_lt_of_le hc (by rw [show (2 : Nat) ^ 8 = 256 from rfl, show (256 : Nat) = 2 ^ 8 from rfl]; exact Nat.pow_le_pow_right (by omega) (by omega)))]
    simp
theorem byte_high (c : UInt8) (i : Nat) (h : 8 ≤ i) : c.toNat.testBit i = false := by
  have hc := c.toNat_lt
  exact Nat.testBit_lt_two_pow (Nat.lt_of_lt_of_le hc (by rw [show (2 : Nat) ^ 8 = 256 from rfl, show (256 : Nat) = 2 ^ 8 from rfl]; exact Nat.pow_le_pow_right (by omega) (by omega)))
theorem le4_bit (a b c d : UInt8) (i : Nat) (h : i < 32) : (le4 a b c d).getLsbD i =
    (a.toNat.testBit i ^^ (decide (8 ≤ i) && b.toNat.testBit (i - 8)) ^^ (decide (16 ≤ i) && c.toNat.testBit (i - 16)) ^^ (decide (24 ≤ i) && d.toNat.testBit (i - 24))) := by
  unfold le4
  simp only [BitVec.getLsbD_xor, BitVec.getLsbD_shiftLeft, wb_bit, h, decide_true, Bool.true_and]
  have e : ∀ k, (!decide (i < k)) = decide (k ≤ i) := fun k => by
    by_cases hk : i < k
    · simp [hk]
    · simp [hk]; omega
  rw [e, e, e]
theorem byte_eq {a a' : UInt8} (h : ∀ j, j < 8 → a.toNat.testBit j = a'.toNat.testBit j) : a = a' := by
  apply UInt8.toNat_inj.1
  apply Nat.eq_of_testBit_eq
  intro j
  by_cases hj : j < 8
  · exact h j hj
  · rw [byte_high a j (by omega), byte_high a' j (by omega)]
theorem le4_inj {a b c d a' b' c' d' : UInt8} (h : le4 a b c d = le4 a' b' c' d') : a = a' ∧ b = b' ∧ c = c' ∧ d = d' := by
  have hb : ∀ i, i < 32 → _ := fun i hi => (le4_bit a b c d i hi).symm.trans ((congrArg (fun z : W => z.getLsbD i) h).trans (le4_bit a' b' c' d' i hi))
  refine ⟨byte_eq fun j hj => ?_, byte_eq fun j hj => ?_, byte_eq fun j hj => ?_, byte_eq fun j hj => ?_⟩
  · have := hb j (by omega)
    simpa [show ¬ 8 ≤ j from by omega, show ¬ 16 ≤ j from by omega, show ¬ 24 ≤ j from by omega] using this
  · have := hb (8 + j) (by omega)
    simpa [show ¬ 16 ≤ 8 + j from by omega, show ¬ 24 ≤ 8 + j from by omega, byte_high _ (8 + j) (by omega)] using this
  · have := hb (16 + j) (by omega)
    simpa [show 8 ≤ 16 + j from by omega, show ¬ 24 ≤ 16 + j from by omega, byte_high _ (16 + j) (by omega), byte_high _ (16 + j - 8) (by omega)] using this
  · have := hb (24 + j) (by omega)
    simpa [show 8 ≤ 24 + j from by omega, show 16 ≤ 24 + j from by omega, byte_high _ (24 + j) (by omega), byte_high _ (24 + j - 8) (by omega), byte_high _ (24 + j - 16) (by omega)] using this
/-- FOUR BYTES SIDE BY SIDE -/
theorem side (ahead behind : List UInt8) (a b c d a' b' c' d' : UInt8) (h : of (ahead ++ [a, b, c, d] ++ behind) = of (ahead ++ [a', b', c', d'] ++ behind)) : a = a' ∧ b = b' ∧ c = c' ∧ d = d' := by
  unfold of at h
  rw [more_append, more_append 0#32 (ahead ++ [a', b', c', d'])] at h
  have h1 := more_inj _ _ _ h
  rw [more_append, more_append 0#32 ahead] at h1
  have h2 : go (~~~ more 0#32 ahead) [a, b, c, d] = go (~~~ more 0#32 ahead) [a', b', c', d'] := by
    have h3 := congrArg (fun z : W => ~~~ z) h1
    simpa only [more, BitVec.not_not] using h3
  rw [go4, go4] at h2
  have h3 := on_inj _ _ _ h2
  have h4 := congrArg (fun z : W => z ^^^ ~~~ more 0#32 ahead) h3
  simp only [BitVec.xor_comm _ (le4 a b c d), BitVec.xor_comm _ (le4 a' b' c' d'), xor_two] at h4
  exact le4_inj h4

/-- what agrees at each bit alone agrees -/
theorem lin_eq (f g : W → W) (hf : ∀ x y, f (x ^^^ y) = f x ^^^ f y) (hg : ∀ x y, g (x ^^^ y) = g x ^^^ g y)
    (h : ∀ i : Fin 32, f (BitVec.twoPow 32 i) = g (BitVec.twoPow 32 i)) (x : W) : f x = g x := by
  have f0 : f 0#32 = 0#32 := by have := hf 0#32 0#32; simpa using this
  have g0 : g 0#32 = 0#32 := by have := hg 0#32 0#32; simpa using this
  have key : ∀ k, k ≤ 32 → ∀ x : W, (∀ i, k ≤ i → x.getLsbD i = false) → f x = g x := by
    intro k
    induction k with
    | zero =>
      intro _ x hx
      have : x = 0#32 := BitVec.eq_of_getLsbD_eq fun i hi => by rw [hx i (Nat.zero_le _)]; simp
      rw [this, f0, g0]
    | succ k ih =>
      intro hk x hx
      have ih := ih (by omega)
      cases hb : x.getLsbD k with
      | false =>
        exact ih x fun i hi => by
          rcases Nat.eq_or_lt_of_le hi with rfl | hi
          · exact hb
          · exact hx i hi
      | true =>
        have h1 : f (x ^^^ BitVec.twoPow 32 k) = g (x ^^^ BitVec.twoPow 32 k) := ih _ fun i hi => by
          rw [BitVec.getLsbD_xor, BitVec.getLsbD_twoPow]
          rcases Nat.eq_or_lt_of_le hi with rfl | hi
          · rw [hb]
            simp
            omega
          · rw [hx i hi]
            simp
            try omega
        have h2 := h ⟨k, by omega⟩
        simp only at h2
        have h3 : x = (x ^^^ BitVec.twoPow 32 k) ^^^ BitVec.twoPow 32 k := (xor_two _ _).symm
        rw [h3, hf, hg, h1, h2]
  exact key 32 (Nat.le_refl _) x fun i hi => BitVec.getLsbD_of_ge _ _ hi

theorem on4_add (x y : W) : ((x ^^^ y) >>> 4) ^^^ on 4 ((x ^^^ y) &&& 15#32) = ((x >>> 4) ^^^ on 4 (x &&& 15#32)) ^^^ ((y >>> 4) ^^^ on 4 (y &&& 15#32)) := by
  have e : (x ^^^ y) &&& 15#32 = (x &&& 15#32) ^^^ (y &&& 15#32) := by
    ext i
    simp only [BitVec.getElem_and, BitVec.getElem_xor]
    cases x[i] <;> cases y[i] <;> simp
  rw [e, on_xor, BitVec.ushiftRight_xor_distrib, xor4]
/-- four bits at once -/
theorem on4 (x : W) : on 4 x = (x >>> 4) ^^^ on 4 (x &&& 15#32) :=
  lin_eq (on 4) (fun x => (x >>> 4) ^^^ on 4 (x &&& 15#32)) (on_xor 4) on4_add (by decide +kernel) x

/-- the product, as the code reckons it: place by place -/
def timesN (a b : W) : Nat → W
  | 0 => 0#32
  | j + 1 => one (timesN a b j) ^^^ (if b.getLsbD j then a else 0#32)
def times (a b : W) : W := timesN a b 32
theorem timesN_add (a a' b : W) (j : Nat) : timesN (a ^^^ a') b j = timesN a b j ^^^ timesN a' b j := by
  induction j with
  | zero => simp [timesN]
  | succ j ih =>
    rw [timesN, timesN, timesN, ih, one_xor, xor4]
    cases b.getLsbD j <;> simp
theorem timesN_down (a b : W) (j : Nat) : timesN a b (j + 1) = timesN a (b >>> 1) j ^^^ (if b.getLsbD 0 then on j a else 0#32) := by
  induction j with
  | zero => simp [timesN, one_zero, on]
  | succ j ih =>
    rw [timesN, ih, timesN, one_xor]
    have e : (b >>> 1).getLsbD j = b.getLsbD (j + 1) := by rw [BitVec.getLsbD_ushiftRight, Nat.add_comm]
    have e2 : one (if b.getLsbD 0 = true then on j a else 0#32) = (if b.getLsbD 0 = true then on (j + 1) a else 0#32) := by
      cases b.getLsbD 0
      · simp [one_zero]
      · simp [on_succ']
    rw [e, e2, xor_swap]
theorem times_poly (a : W) : times a 2197175160#32 = on 32 a :=
  lin_eq (fun a => times a 2197175160#32) (on 32) (fun x y => timesN_add x y _ 32) (on_xor 32) (by decide +kernel) a
theorem times_add (a b c : W) (j : Nat) : timesN a (b ^^^ c) j = timesN a b j ^^^ timesN a c j := by
  induction j with
  | zero => simp [timesN]
  | succ j ih =>
    rw [timesN, timesN, timesN, ih, one_xor, xor4, BitVec.getLsbD_xor]
    cases b.getLsbD j <;> cases c.getLsbD j <;> simp
theorem times_shift (a b : W) : times a (b >>> 1) ^^^ (if b.getLsbD 0 then on 32 a else 0#32) = one (times a b) := by
  have h := timesN_down a b 32
  have h2 : timesN a b 33 = one (times a b) := by
    show one (timesN a b 32) ^^^ (if b.getLsbD 32 then a else 0#32) = _
    rw [BitVec.getLsbD_of_ge b 32 (Nat.le_refl _)]
    simp [times]
  rw [← h2, h]
  rfl
theorem times_one (a b : W) : times a (one b) = one (times a b) := by
  rw [← times_shift]
  unfold one
  cases hb : b.getLsbD 0 with
  | false => simp
  | true =>
    simp only [if_true]
    rw [← times_poly]
    exact times_add a _ _ 32
theorem times_on (a b : W) (k : Nat) : times a (on k b) = on k (times a b) := by
  induction k generalizing b with
  | zero => rfl
  | succ k ih => rw [on, ih, times_one]; rfl
/-- what 1 << 31 comes to, moved on by k bits, moves on by k bits -/
theorem times_top (a : W) : times a 2147483648#32 = a :=
  lin_eq (fun a => times a 2147483648#32) (fun a => a) (fun x y => timesN_add x y _ 32) (fun _ _ => rfl) (by decide +kernel) a
theorem times_step (a : W) (k : Nat) : times a (on k 2147483648#32) = on k a := by rw [times_on, times_top]
theorem step_byte : (8388608#32 : W) = on 8 2147483648#32 := by decide +kernel
end Go.Proofs.YtiiigbhkbpdciaaDoor.crc
