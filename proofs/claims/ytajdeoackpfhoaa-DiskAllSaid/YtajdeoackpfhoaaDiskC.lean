/-
  THE PROGRAM's DISK AS A LAW SEES IT: a pointer, its blocks of memory (F), what it is (s).
-/
import Derived.Test.YtajdeoackpfhoaaDiskI
import Derived.Test.YtajdeoackpfhoaaDiskP2
import Derived.Test.YtajdeoackpfhoaaDiskP5
import Derived.Test.YtajdeoackpfhoaaDiskP6
namespace Go.Proofs.Ytajdeoackpfhoaa
open Go.RowKit
variable {w w' : World} {F : List Nat} {d : Value} {s : dk.St}
def CD (w : World) (F : List Nat) (d : Value) (s : dk.St) : Prop := ∃ p g c r v, d = .pointer (some ⟨p, 0, none⟩) ∧ F = dk.fp p g v ∧ dk.M 59 33 68 w p g c r v s
theorem CD.there (h : CD w F d s) : Ther w F := by obtain ⟨p, g, c, r, v, rfl, rfl, hM⟩ := h; exact hM.there
theorem CD.keep (h : CD w F d s) (hs : Same w w' F) : CD w' F d s := by obtain ⟨p, g, c, r, v, rfl, rfl, hM⟩ := h; exact ⟨p, g, c, r, v, rfl, rfl, hM.keep hs⟩
theorem CD.below (h : CD w F d s) (hb : Below w.heap.size w w') : CD w' F d s := h.keep fun k hk => hb.block k (h.there k hk)
theorem CD.ok (h : CD w F d s) : s.Ok := by obtain ⟨p, g, c, r, v, rfl, rfl, hM⟩ := h; exact hM.ok
theorem CD.form (h : CD w F d s) : ∃ p, d = .pointer (some ⟨p, 0, none⟩) := by obtain ⟨p, g, c, r, v, rfl, rfl, hM⟩ := h; exact ⟨p, rfl⟩
theorem cd_blocks (h : CD w F d s) : Calls Try.prog 25 #[d] w fun e w' => e = .returned (.int .i64 s.S.length) ∧ w = w' := by
  obtain ⟨p, g, c, r, v, rfl, rfl, hM⟩ := h
  exact pblocks_any hM
theorem cd_dark (h : CD w F d s) : Calls Try.prog 22 #[d] w fun e w' => e = .returned (.bool s.black) ∧ w = w' := by
  obtain ⟨p, g, c, r, v, rfl, rfl, hM⟩ := h
  exact pdark_any hM
theorem cd_steps (h : CD w F d s) : Calls Try.prog 23 #[d] w fun e w' => e = .returned (.int .i64 s.many) ∧ w = w' := by
  obtain ⟨p, g, c, r, v, rfl, rfl, hM⟩ := h
  exact psteps_any hM
theorem cd_loose (h : CD w F d s) : Calls Try.prog 20 #[d] w fun e w' => e = .returned (.int .i64 s.L.length) ∧ w = w' := by
  obtain ⟨p, g, c, r, v, rfl, rfl, hM⟩ := h
  exact ploose_any hM
theorem cd_sure (n : Int) (h : CD w F d s) : Calls Try.prog 19 #[d, .int .i64 n] w fun e w' => e = .returned (.tuple #[dk.val (dk.sure s n).1, .int .i64 (dk.sure s n).2]) ∧ Below w.heap.size w w' := by
  obtain ⟨p, g, c, r, v, rfl, rfl, hM⟩ := h
  exact psure_any n hM
theorem cd_read (n : Int) (h : CD w F d s) : Calls Try.prog 18 #[d, .int .i64 n] w fun e w' => e = .returned (.tuple #[dk.val (dk.read s n).1, .int .i64 (dk.read s n).2]) ∧ Below w.heap.size w w' := by
  obtain ⟨p, g, c, r, v, rfl, rfl, hM⟩ := h
  exact pread_any n hM
theorem cd_arm (n : Int) (hn : n ≤ 9223372036854775807) (h : CD w F d s) : Calls Try.prog 21 #[d, .int .i64 n] w fun e w' => ∃ F', e = .returned (.int .i64 (dk.arm s n).1) ∧ CD w' F' d (dk.arm s n).2 ∧ Chg w w' F ∧ Sub w F' F := by
  obtain ⟨p, g, c, r, v, rfl, rfl, hM⟩ := h
  exact (parm_any n hn hM).mono fun e w' ⟨h1, h2, h3⟩ => ⟨_, h1, ⟨p, g, c, r, v, rfl, rfl, h2⟩, h3.mono dk.sub_p, Sub.refl _ _⟩
theorem cd_write (n : Int) (b : dk.Blk) (hb : b.length = 128) (h : CD w F d s) (hf : s.Few) : Calls Try.prog 15 #[d, .int .i64 n, dk.val b] w fun e w' => ∃ F', e = .returned (.int .i64 (dk.write s n b).1) ∧ CD w' F' d (dk.write s n b).2 ∧ Chg w w' F ∧ Sub w F' F := by
  obtain ⟨p, g, c, r, v, rfl, rfl, hM⟩ := h
  exact (pwrite_any n b hb hM (by have := hf.1; omega) (by have := hf.2; omega)).mono fun e w' ⟨v', h1, h2, h3, h4⟩ => ⟨_, h1, ⟨p, g, c, r, v', rfl, rfl, h2⟩, h3, h4⟩
theorem cd_flush (h : CD w F d s) (hf : s.Few) : Calls Try.prog 17 #[d] w fun e w' => ∃ F', e = .returned (.int .i64 (dk.flush s).1) ∧ CD w' F' d (dk.flush s).2 ∧ Chg w w' F ∧ Sub w F' F := by
  obtain ⟨p, g, c, r, v, rfl, rfl, hM⟩ := h
  exact (pflush_any hM (by have := hf.1; omega)).mono fun e w' ⟨v', h1, h2, h3, h4⟩ => ⟨_, h1, ⟨p, g, c, r, v', rfl, rfl, h2⟩, h3, h4⟩
theorem cd_rot (n at_ : Int) (x : UInt8) (h : CD w F d s) : Calls Try.prog 24 #[d, .int .i64 n, .int .i64 at_, bv x] w fun e w' => ∃ F', e = .returned (.int .i64 (dk.rot s n at_ x).1) ∧ CD w' F' d (dk.rot s n at_ x).2 ∧ Chg w w' F ∧ Sub w F' F := by
  obtain ⟨p, g, c, r, v, rfl, rfl, hM⟩ := h
  exact (prot_any n at_ x hM).mono fun e w' ⟨h1, h2, h3⟩ => ⟨_, h1, ⟨p, g, c, r, v, rfl, rfl, h2⟩, h3, Sub.refl _ _⟩
theorem cd_crash (A : Option Addr) (n cp : Nat) (l : List Int) (hl : IS w A n cp l) (hA : 0 < n → ∀ b o, A = some ⟨b, o, none⟩ → b ∉ F) (h : CD w F d s) : Calls Try.prog 14 #[d, .slice A n cp] w fun e w' => ∃ F', e = .returned (.int .i64 0) ∧ CD w' F' d (dk.crash s l) ∧ Chg w w' F ∧ Sub w F' F := by
  obtain ⟨p, g, c, r, v, rfl, rfl, hM⟩ := h
  exact (pcrash_any A n cp l hl hA hM).mono fun e w' ⟨v', h1, h2, h3, h4⟩ => ⟨_, h1, ⟨p, g, c, r, v', rfl, rfl, h2⟩, h3, h4⟩
theorem cd_new (n : Nat) (h : 64 ≤ n) (h2 : n ≤ 4096) : Calls Try.prog 8 #[.int .i64 n] w fun e w' => ∃ F d, e = .returned (.tuple #[d, .int .i64 0]) ∧ CD w' F d (fresh n) ∧ Below w.heap.size w w' ∧ (∀ k ∈ F, w.heap.size ≤ k) := by
  refine (pnew_yes n h h2).mono fun e w' ⟨p, g, h1, h2, h3, h4, h5⟩ => ⟨_, _, h1, ⟨p, g, _, _, _, rfl, rfl, h2⟩, h3.below (Nat.le_refl _) (by simp), fun k hk => ?_⟩
  have : k = p ∨ k = g := by simpa [dk.fp, Value.ownBlock] using hk
  rcases this with rfl | rfl <;> assumption
theorem cd_no (n : Int) (h : n < 64 ∨ 4096 < n) : Calls Try.prog 8 #[.int .i64 n] w fun e w' => e = .returned (.tuple #[.pointer none, .int .i64 2]) ∧ w = w' := pnew_no n h
theorem cd_copy (h : CD w F d s) (hf : s.Few) : Calls Try.prog 12 #[d] w fun e w' => ∃ F' d', e = .returned d' ∧ CD w' F' d' s ∧ Below w.heap.size w w' ∧ (∀ k ∈ F', w.heap.size ≤ k) := by
  obtain ⟨p, g, c, r, v, rfl, rfl, hM⟩ := h
  exact (pcopy_any hM (by have := hf.2; omega)).mono fun e w' ⟨p', g', c', r', v', h1, h2, h3, h4, h5, h6⟩ => ⟨_, _, h1, ⟨p', g', c', r', v', rfl, rfl, h2⟩, h3, fun k hk => by
    simp only [dk.fp, List.mem_cons, Option.mem_toList] at hk
    rcases hk with rfl | rfl | hk
    · exact h4
    · exact h5
    · exact h6 k hk⟩
end Go.Proofs.Ytajdeoackpfhoaa
