/-
  STRINGS: their bytes as numbers; a string out of numbers; what a row of bytes is as a string.
-/
import Derived.Test.YtmhhegkpkncebaaBookM
import Derived.Laws.BytesArg
namespace Go.Proofs.Ytmhhegkpkncebaa
open Go.RowKit

theorem size_len (s : ByteArray) : s.data.toList.length = s.size := Array.length_toList
/-- The byte at a place; nought behind the end. -/
def bt (s : ByteArray) (i : Nat) : Nat := (s.data.toList.getD i 0).toNat
theorem bt_lt (s : ByteArray) (i : Nat) : bt s i < 256 := (s.data.toList.getD i 0).toNat_lt
theorem bt_out {s : ByteArray} {i : Nat} (h : s.size ≤ i) : bt s i = 0 := by
  unfold bt
  rw [List.getD_eq_getElem?_getD, List.getElem?_eq_none (by rw [size_len]; exact h)]; rfl
/-- A string out of numbers. -/
def mkS (f : Nat → Nat) (n : Nat) : ByteArray := ⟨((List.range n).map fun i => UInt8.ofNat (f i)).toArray⟩
theorem mkS_size (f : Nat → Nat) (n : Nat) : (mkS f n).size = n := by simp [mkS, ByteArray.size]
theorem bt_mkS {f : Nat → Nat} {n i : Nat} (hf : f i < 256) (hi : i < n) : bt (mkS f n) i = f i := by
  unfold bt mkS
  simp [List.getD_eq_getElem?_getD, hi]
  omega
theorem str_ext {s t : ByteArray} (h : s.size = t.size) (h2 : ∀ i, i < s.size → bt s i = bt t i) : s = t := by
  apply ByteArray.ext
  apply Array.toList_inj.1
  apply List.ext_getElem?
  intro i
  by_cases hi : i < s.size
  · have e := h2 i hi
    unfold bt at e
    have h1 : i < s.data.toList.length := by rw [size_len]; exact hi
    have h3 : i < t.data.toList.length := by rw [size_len]; omega
    rw [List.getD_eq_getElem?_getD, List.getD_eq_getElem?_getD, List.getElem?_eq_getElem h1, List.getElem?_eq_getElem h3] at e
    rw [List.getElem?_eq_getElem h1, List.getElem?_eq_getElem h3]
    exact congrArg some (UInt8.toNat_inj.1 e)
  · rw [List.getElem?_eq_none (by rw [size_len]; omega), List.getElem?_eq_none (by rw [size_len]; omega)]
theorem mkS_congr {f g : Nat → Nat} {n : Nat} (h : ∀ i, i < n → f i = g i) : mkS f n = mkS g n := by
  unfold mkS
  have : (List.range n).map (fun i => UInt8.ofNat (f i)) = (List.range n).map (fun i => UInt8.ofNat (g i)) := List.map_congr_left (fun i hi => by rw [h i (List.mem_range.1 hi)])
  rw [this]
theorem mkS_self (s : ByteArray) : mkS (bt s) s.size = s := str_ext (mkS_size _ _) (fun i hi => bt_mkS (bt_lt s i) (by rw [mkS_size] at hi; exact hi))
theorem mkS_nil (f : Nat → Nat) : mkS f 0 = ⟨#[]⟩ := rfl
theorem mkS_inj {f g : Nat → Nat} {n : Nat} (hf : ∀ i, f i < 256) (hg : ∀ i, g i < 256) (h : mkS f n = mkS g n) (i : Nat) (hi : i < n) : f i = g i := by
  rw [← bt_mkS (hf i) hi, h, bt_mkS (hg i) hi]

theorem under9 : Try.prog.underlying 9 = some .string := by kernel_rfl
theorem under5 : Try.prog.underlying 5 = some (.int .u8) := by kernel_rfl
/-- string(b). -/
theorem conv_str (w : World) (a : Option Addr) (n c : Nat) (f : Nat → Nat) (r : RowF w a f n) : (convert 54 9 (.slice a n c)).run Try.prog w = .ok (.string (mkS f n)) w := by
  rcases r with rfl | ⟨p, off, rfl, hc⟩
  · rw [run_convert_bytes_string w 54 9 5 _ 0 c under32 under5 under9]
    cases a <;> simp [Conv.bytesToString, loadCells]
    all_goals rfl
  · rw [run_convert_bytes_arg w 54 5 under32 under5 p off n c ((List.range n).map fun i => ((f i : Nat) : Int)) (by simp) (fun i hi => by
      rw [hc i hi]; simp [List.getD_eq_getElem?_getD, hi]) 9 under9]
    unfold strOfNums mkS
    simp
end Go.Proofs.Ytmhhegkpkncebaa
