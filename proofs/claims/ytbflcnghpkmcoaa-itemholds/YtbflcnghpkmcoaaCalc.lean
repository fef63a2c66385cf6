/-
  CHAPTER 7's RUNS, reckoned.
-/
import Derived.Test.YtbflcnghpkmcoaaBk
namespace Go.Proofs.Ytbflcnghpkmcoaa
open Go.RowKit

def kA : ByteArray := ⟨#[97]⟩
def kB : ByteArray := ⟨#[98]⟩
def kC : ByteArray := ⟨#[99]⟩
def kD : ByteArray := ⟨#[100]⟩
def kE : ByteArray := ⟨#[101]⟩
def e0 : ByteArray := ⟨#[]⟩
def R0 : Sp := ⟨St.new 1 128 2, []⟩
def R1 : Sp := (R0.put kA e0 false).2.2
def R2 : Sp := (R1.put kB e0 false).2.2
def R3 : Sp := R2.touch kA
def R4 : Sp := (R3.put kC e0 false).2.2
def R5 : Sp := R4.pin kA true
def R6 : Sp := R5.pin kC true
def R7 : Sp := (R6.put kD e0 false).2.2
def R8 : Sp := (R7.put kE (zs 200) false).2.2
def R9 : Sp := R8.drop kA
def R10 : Sp := (R9.put kD e0 false).2.2
theorem run4 : (R3.put kC e0 false).1 = [kB] ∧ (R3.put kC e0 false).2.1 = 0 := ⟨by kernel_rfl, by kernel_rfl⟩
theorem keys4 : R4.keys = [kC, kA] := by kernel_rfl
theorem run7 : (R6.put kD e0 false).2.1 = 6 := by kernel_rfl
theorem run8 : (R7.put kE (zs 200) false).2.1 = 2 := by kernel_rfl
theorem keys10 : R10.keys = [kD, kC] := by kernel_rfl
end Go.Proofs.Ytbflcnghpkmcoaa
