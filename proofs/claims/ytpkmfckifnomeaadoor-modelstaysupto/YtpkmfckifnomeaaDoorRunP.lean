/-
  ModelRuns.
-/
import Derived.Test.YtpkmfckifnomeaaDoorLx
namespace Go.Proofs.YtpkmfckifnomeaaDoor
open Go.RowKit

open Go.Lib (TabIs pow10Tab)
def kA : ByteArray := ⟨#[97]⟩
def v5 : ByteArray := ⟨#[53]⟩
def nA : ByteArray := ⟨#[]⟩
def u1 : En := ⟨kA, 1, 0, v5, 1⟩
def u2 : En := ⟨kA, 1, 0, ⟨#[49, 53]⟩, 2⟩
def u7 : En := ⟨kA, 1, 110, v5, 7⟩
def s1 : Rq := ⟨3, 1, 0, 1, 0, 0, false, v5⟩
def s7 : Rq := ⟨3, 1, 10, 1, 0, 0, false, v5⟩
theorem run1 : q1 s1 kA 0 1 [] = kpt (ab 2) u1 ∧ stp s1 kA 0 1 [] = [u1] := by
  have e : q1 s1 kA 0 1 [] = kpt (ab 2) u1 := by unfold q1; rw [nxt_3 rfl]; rfl
  exact ⟨e, by unfold stp; rw [e]; rfl⟩
theorem liv1 : liv [u1] kA 0 = (u1, true) := by kernel_rfl
theorem liv2 : liv [u2] kA 0 = (u2, true) := by kernel_rfl
theorem cou1 : cou true u1 true 10 2 = kpt ⟨8, 15, nA⟩ u2 := by
  have e : cnt true (nv 18446744073709551615 (L u1.val)) 10 = 15 := by kernel_rfl
  have d : S (Lib.decDigits 15) = ⟨#[49, 53]⟩ := by rw [dec_two 15 (by omega) (by omega)]; rfl
  unfold cou
  rw [if_neg (by simp), if_neg (by simp only [Bool.not_eq_false]; kernel_rfl), e, d]
  rfl
theorem run2 : q1 (ofq 10 nA 10) kA 0 2 [u1] = kpt ⟨8, 15, nA⟩ u2 ∧ stp (ofq 10 nA 10) kA 0 2 [u1] = [u2] := by
  have e : q1 (ofq 10 nA 10) kA 0 2 [u1] = kpt ⟨8, 15, nA⟩ u2 := by unfold q1; rw [liv1, nxt_10 rfl]; exact cou1
  exact ⟨e, by unfold stp; rw [e]; rfl⟩
theorem run3 : fnd [u2] 0 [kA] = [u2] := by kernel_rfl
theorem run4 : q1 (ofq 4 nA 0) kA 0 4 [u2] = tld (ab 3) ∧ stp (ofq 4 nA 0) kA 0 4 [u2] = [u2] := by
  have e : q1 (ofq 4 nA 0) kA 0 4 [u2] = tld (ab 3) := by unfold q1; rw [liv2, nxt_4 rfl]; rfl
  exact ⟨e, by unfold stp; rw [e]; rfl⟩
theorem run5 : q1 (ofq 9 nA 0) kA 0 5 [u2] = (ab 6, e0, false, true) ∧ stp (ofq 9 nA 0) kA 0 5 [u2] = [] := by
  have e : q1 (ofq 9 nA 0) kA 0 5 [u2] = (ab 6, e0, false, true) := by unfold q1; rw [liv2, nxt_9 rfl]; rfl
  exact ⟨e, by unfold stp; rw [e]; rfl⟩
theorem run6 : fnd [] 0 [kA] = [] := by kernel_rfl
theorem run7 : q1 s7 kA 100 7 [] = kpt (ab 2) u7 ∧ stp s7 kA 100 7 [] = [u7] := by
  have e : q1 s7 kA 100 7 [] = kpt (ab 2) u7 := by unfold q1; rw [nxt_3 rfl]; rfl
  exact ⟨e, by unfold stp; rw [e]; rfl⟩
theorem run8 : fnd [u7] 109 [kA] = [u7] := by kernel_rfl
theorem run9 : fnd [u7] 110 [kA] = [] := by kernel_rfl
end Go.Proofs.YtpkmfckifnomeaaDoor
