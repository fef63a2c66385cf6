/-
  STRINGS BY THEIR BYTES; a key's hash, and Hash of the program.
-/
import Derived.Test.YtdnbpbkckdjbjaaMem
namespace Go.Proofs.Ytdnbpbkckdjbjaa
open Go.RowKit

theorem under9 : Try.prog.underlying 9 = some .string := by kernel_rfl
theorem under5 : Try.prog.underlying 5 = some (.int .u8) := by kernel_rfl
theorem size_len (s : ByteArray) : s.data.toList.length = s.size := Array.length_toList
/-- The byte at a place; nought behind the end. -/
def bt (s : ByteArray) (i : Nat) : Nat := (s.data.toList.getD i 0).toNat
theorem bt_lt (s : ByteArray) (i : Nat) : bt s i < 256 := (s.data.toList.getD i 0).toNat_lt
/-- A string out of numbers. -/
def mkS (f : Nat → Nat) (n : Nat) : ByteArray := ⟨((List.range n).map fun i => UInt8.ofNat (f i)).toArray⟩
theorem mkS_size (f : Nat → Nat) (n : Nat) : (mkS f n).size = n := by simp [mkS, ByteArray.size]
theorem bt_mkS {f : Nat → Nat} {n i : Nat} (hf : f i < 256) (hi : i < n) : bt (mkS f n) i = f i := by
  unfold bt mkS
  simp [List.getD_eq_getElem?_getD, hi]
  omega
theorem str_ext {s t : ByteArray} (h : s.size = t.size) (h2 : ∀ i, i < s.size → bt s i = bt t i) : s = t := by
  apply ByteArray.ext
  apply Array.toList_inj.1
  apply List.ext_getElem?
  intro i
  by_cases hi : i < s.size
  · have e := h2 i hi
    unfold bt at e
    have h1 : i < s.data.toList.length := by rw [size_len]; exact hi
    have h3 : i < t.data.toList.length := by rw [size_len]; omega
    rw [List.getD_eq_getElem?_getD, List.getD_eq_getElem?_getD, List.getElem?_eq_getElem h1, List.getElem?_eq_getElem h3] at e
    rw [List.getElem?_eq_getElem h1, List.getElem?_eq_getElem h3]
    exact congrArg some (UInt8.toNat_inj.1 e)
  · rw [List.getElem?_eq_none (by rw [size_len]; omega), List.getElem?_eq_none (by rw [size_len]; omega)]
theorem str_at (s : ByteArray) (q : Nat) (h : q < s.size) (w : World) : (Instr.index 9 (.string s) (.int .i64 (q : Int))).run Try.prog w = .ok (.int .u8 ((bt s q : Nat) : Int)) w := by
  rw [run_index_string w 9 s .i64 (q : Int) under9, dif_pos ⟨by omega, by omega⟩]
  have h1 : q < s.data.toList.length := by rw [size_len]; exact h
  have e : (s[((q : Int)).toNat]'(by omega)).toNat = bt s q := by
    unfold bt
    rw [List.getD_eq_getElem?_getD, List.getElem?_eq_getElem h1]
    simp only [Int.toNat_natCast, Option.getD_some]
    rfl
  rw [e]

theorem str_beq (a b : ByteArray) : (a.toList == b.toList) = decide (a = b) := by
  by_cases h : a = b
  · subst h; simp
  · rw [decide_eq_false h]
    exact beq_eq_false_iff_ne.2 (fun e => h (by
      rw [ByteArray.toList_eq, ByteArray.toList_eq] at e
      exact ByteArray.ext (Array.toList_inj.1 e)))
/-- One byte more. -/
def hx (a b : Int) : Int := bits .xor .u32 a b * 16777619 % 4294967296
def hsN (s : ByteArray) : Nat → Int
  | 0 => 2166136261
  | i + 1 => hx (hsN s i) ((bt s i : Nat) : Int)
/-- A key's hash. -/
def hs (s : ByteArray) : Int := hsN s s.size
theorem hx_bd (a b : Int) : 0 ≤ hx a b ∧ hx a b < 4294967296 := by unfold hx; omega
theorem hsN_bd (s : ByteArray) : ∀ i, 0 ≤ hsN s i ∧ hsN s i < 4294967296
  | 0 => by simp [hsN]
  | i + 1 => hx_bd _ _
theorem hs_bd (s : ByteArray) : 0 ≤ hs s ∧ hs s < 4294967296 := hsN_bd s _
theorem hsN_congr {s t : ByteArray} : ∀ {n : Nat}, (∀ i, i < n → bt s i = bt t i) → hsN s n = hsN t n
  | 0, _ => rfl
  | n + 1, h => by show hx _ _ = hx _ _; rw [hsN_congr (n := n) (fun i hi => h i (by omega)), h n (by omega)]
set_option maxHeartbeats 1000000 in
theorem hash_any (k : ByteArray) (hk : k.size ≤ 140737488355328) (w : World) : Calls Try.prog 13 #[.string k] w fun e w' => e = .returned (.int .u32 (hs k)) ∧ w = w' := by
  go_enter Try.func13, Try.ntmps13
  go_wp2_with fail
  go_loopw [3, 7] (fun h i wr => ∃ j : Nat, j ≤ k.size ∧ i = .int .i64 (j : Int) ∧ h = .int .u32 (hsN k j) ∧ w = wr) (fun _ i _ => k.size - (intOf i).toNat)
  case atStart => exact ⟨0, by omega, rfl, rfl, rfl⟩
  case round =>
    obtain ⟨j, hj, rfl, rfl, rfl⟩ := hrel
    by_cases hlt : j < k.size
    · have hi1 : (j : Int) < (k.size : Int) := by omega
      have ix := str_at k j hlt
      go_wp2_with fail
      have hb := bt_lt k j
      refine ⟨⟨j + 1, by omega, by go_num, ?_, trivial⟩, by simp [intOf]; omega⟩
      rw [show ((bt k j : Nat) : Int) % 4294967296 = ((bt k j : Nat) : Int) by omega]; rfl
    · go_wp2_with fail
      go_ret
      exact ⟨by rw [show j = k.size by omega]; rfl, rfl⟩
set_option maxHeartbeats 1000000 in
/-- Hash of the reference. -/
theorem rhash_any (k : ByteArray) (hk : k.size ≤ 140737488355328) (w : World) : Calls Try.prog 15 #[.string k] w fun e w' => e = .returned (.int .u32 (hs k)) ∧ w = w' := by
  go_enter Try.func15, Try.ntmps15
  go_wp2_with fail
  go_loopw [3, 4] (fun h i wr => ∃ j : Nat, j ≤ k.size ∧ i = .int .i64 (j : Int) ∧ h = .int .u32 (hsN k j) ∧ w = wr) (fun _ i _ => k.size - (intOf i).toNat)
  case atStart => exact ⟨0, by omega, rfl, rfl, rfl⟩
  case round =>
    obtain ⟨j, hj, rfl, rfl, rfl⟩ := hrel
    by_cases hlt : j < k.size
    · have hi1 : (j : Int) < (k.size : Int) := by omega
      have ix := str_at k j hlt
      go_wp2_with fail
      have hb := bt_lt k j
      refine ⟨⟨j + 1, by omega, by go_num, ?_, trivial⟩, by simp [intOf]; omega⟩
      rw [show ((bt k j : Nat) : Int) % 4294967296 = ((bt k j : Nat) : Int) by omega]; rfl
    · go_wp2_with fail
      go_ret
      exact ⟨by rw [show j = k.size by omega]; rfl, rfl⟩
end Go.Proofs.Ytdnbpbkckdjbjaa
