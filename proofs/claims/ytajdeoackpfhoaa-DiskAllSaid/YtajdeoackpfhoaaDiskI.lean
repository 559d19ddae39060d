/-
  THE DOCUMENT's DISK AS A LAW SEES IT: a pointer, its blocks of memory (F), what it is (s).
-/
import Derived.Test.YtajdeoackpfhoaaDiskR2
import Derived.Test.YtajdeoackpfhoaaDiskR3
import Derived.Test.YtajdeoackpfhoaaDiskR4
import Derived.Test.YtajdeoackpfhoaaDiskR5
namespace Go.Proofs.Ytajdeoackpfhoaa
open Go.RowKit
variable {w w' : World} {F : List Nat} {d : Value} {s : dk.St}

/-- few steps, few writes that are not sure -/
def dk.St.Few (s : dk.St) : Prop := s.many < 1048576 ∧ s.L.length < 1048576
def RD (w : World) (F : List Nat) (d : Value) (s : dk.St) : Prop := ∃ p g c r v, d = .pointer (some ⟨p, 0, none⟩) ∧ F = dk.fp p g v ∧ RM w p g c r v s
theorem RD.there (h : RD w F d s) : Ther w F := by obtain ⟨p, g, c, r, v, rfl, rfl, hM⟩ := h; exact hM.there
theorem RD.keep (h : RD w F d s) (hs : Same w w' F) : RD w' F d s := by obtain ⟨p, g, c, r, v, rfl, rfl, hM⟩ := h; exact ⟨p, g, c, r, v, rfl, rfl, hM.keep hs⟩
theorem RD.below (h : RD w F d s) (hb : Below w.heap.size w w') : RD w' F d s := h.keep fun k hk => hb.block k (h.there k hk)
theorem RD.ok (h : RD w F d s) : s.Ok := by obtain ⟨p, g, c, r, v, rfl, rfl, hM⟩ := h; exact hM.ok
theorem RD.form (h : RD w F d s) : ∃ p, d = .pointer (some ⟨p, 0, none⟩) := by obtain ⟨p, g, c, r, v, rfl, rfl, hM⟩ := h; exact ⟨p, rfl⟩

theorem rd_blocks (h : RD w F d s) : Calls Try.prog 36 #[d] w fun e w' => e = .returned (.int .i64 s.S.length) ∧ w = w' := by obtain ⟨p, g, c, r, v, rfl, rfl, hM⟩ := h; exact rblocks_any hM
theorem rd_dark (h : RD w F d s) : Calls Try.prog 37 #[d] w fun e w' => e = .returned (.bool s.black) ∧ w = w' := by obtain ⟨p, g, c, r, v, rfl, rfl, hM⟩ := h; exact rdark_any hM
theorem rd_steps (h : RD w F d s) : Calls Try.prog 38 #[d] w fun e w' => e = .returned (.int .i64 s.many) ∧ w = w' := by obtain ⟨p, g, c, r, v, rfl, rfl, hM⟩ := h; exact rsteps_any hM
theorem rd_loose (h : RD w F d s) : Calls Try.prog 39 #[d] w fun e w' => e = .returned (.int .i64 s.L.length) ∧ w = w' := by obtain ⟨p, g, c, r, v, rfl, rfl, hM⟩ := h; exact rloose_any hM
theorem rd_sure (n : Int) (h : RD w F d s) : Calls Try.prog 31 #[d, .int .i64 n] w fun e w' => e = .returned (.tuple #[dk.val (dk.sure s n).1, .int .i64 (dk.sure s n).2]) ∧ Below w.heap.size w w' := by obtain ⟨p, g, c, r, v, rfl, rfl, hM⟩ := h; exact rsure_any n hM
theorem rd_read (n : Int) (h : RD w F d s) : Calls Try.prog 27 #[d, .int .i64 n] w fun e w' => e = .returned (.tuple #[dk.val (dk.read s n).1, .int .i64 (dk.read s n).2]) ∧ Below w.heap.size w w' := by obtain ⟨p, g, c, r, v, rfl, rfl, hM⟩ := h; exact rread_any n hM
theorem rd_arm (n : Int) (hn : n ≤ 9223372036854775807) (h : RD w F d s) : Calls Try.prog 29 #[d, .int .i64 n] w fun e w' => ∃ F', e = .returned (.int .i64 (dk.arm s n).1) ∧ RD w' F' d (dk.arm s n).2 ∧ Chg w w' F ∧ Sub w F' F := by
  obtain ⟨p, g, c, r, v, rfl, rfl, hM⟩ := h
  exact (rarm_any n hn hM).mono fun e w' ⟨h1, h2, h3⟩ => ⟨_, h1, ⟨p, g, c, r, v, rfl, rfl, h2⟩, h3.mono dk.sub_p, Sub.refl _ _⟩
theorem rd_write (n : Int) (b : dk.Blk) (hb : b.length = 128) (h : RD w F d s) (hf : s.Few) : Calls Try.prog 26 #[d, .int .i64 n, dk.val b] w fun e w' => ∃ F', e = .returned (.int .i64 (dk.write s n b).1) ∧ RD w' F' d (dk.write s n b).2 ∧ Chg w w' F ∧ Sub w F' F := by
  obtain ⟨p, g, c, r, v, rfl, rfl, hM⟩ := h
  exact (rwrite_any n b hb hM (by have := hf.1; omega) (by have := hf.2; omega)).mono fun e w' ⟨v', h1, h2, h3, h4⟩ => ⟨_, h1, ⟨p, g, c, r, v', rfl, rfl, h2⟩, h3, h4⟩
theorem rd_flush (h : RD w F d s) (hf : s.Few) : Calls Try.prog 28 #[d] w fun e w' => ∃ F', e = .returned (.int .i64 (dk.flush s).1) ∧ RD w' F' d (dk.flush s).2 ∧ Chg w w' F ∧ Sub w F' F := by
  obtain ⟨p, g, c, r, v, rfl, rfl, hM⟩ := h
  exact (rflush_any hM (by have := hf.1; omega)).mono fun e w' ⟨v', h1, h2, h3, h4⟩ => ⟨_, h1, ⟨p, g, c, r, v', rfl, rfl, h2⟩, h3, h4⟩
theorem rd_rot (n at_ : Int) (x : UInt8) (h : RD w F d s) : Calls Try.prog 32 #[d, .int .i64 n, .int .i64 at_, bv x] w fun e w' => ∃ F', e = .returned (.int .i64 (dk.rot s n at_ x).1) ∧ RD w' F' d (dk.rot s n at_ x).2 ∧ Chg w w' F ∧ Sub w F' F := by
  obtain ⟨p, g, c, r, v, rfl, rfl, hM⟩ := h
  exact (rrot_any n at_ x hM).mono fun e w' ⟨h1, h2, h3⟩ => ⟨_, h1, ⟨p, g, c, r, v, rfl, rfl, h2⟩, h3, Sub.refl _ _⟩
theorem rd_crash (A : Option Addr) (n cp : Nat) (l : List Int) (hl : IS w A n cp l) (hA : 0 < n → ∀ b o, A = some ⟨b, o, none⟩ → b ∉ F) (h : RD w F d s) : Calls Try.prog 30 #[d, .slice A n cp] w fun e w' => ∃ F', e = .returned (.int .i64 0) ∧ RD w' F' d (dk.crash s l) ∧ Chg w w' F ∧ Sub w F' F := by
  obtain ⟨p, g, c, r, v, rfl, rfl, hM⟩ := h
  exact (rcrash_any A n cp l hl hA hM).mono fun e w' ⟨v', h1, h2, h3, h4⟩ => ⟨_, h1, ⟨p, g, c, r, v', rfl, rfl, h2⟩, h3, h4⟩
theorem rd_new (n : Nat) (h : 64 ≤ n) (h2 : n ≤ 4096) : Calls Try.prog 9 #[.int .i64 n] w fun e w' => ∃ F d, e = .returned (.tuple #[d, .int .i64 0]) ∧ RD w' F d (fresh n) ∧ Below w.heap.size w w' ∧ (∀ k ∈ F, w.heap.size ≤ k) := by
  refine (rnew_yes n h h2).mono fun e w' ⟨p, g, h1, h2, h3, h4, h5⟩ => ⟨_, _, h1, ⟨p, g, _, _, _, rfl, rfl, h2⟩, h3.below (Nat.le_refl _) (by simp), fun k hk => ?_⟩
  have : k = p ∨ k = g := by simpa [dk.fp, Value.ownBlock] using hk
  rcases this with rfl | rfl <;> assumption
end Go.Proofs.Ytajdeoackpfhoaa
