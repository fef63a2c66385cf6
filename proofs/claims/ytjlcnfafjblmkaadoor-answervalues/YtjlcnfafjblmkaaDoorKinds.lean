/-
  WHAT EMPTY ANSWERS SAY: no two kinds say the same; what is said ends a line.
-/
import Derived.Test.YtjlcnfafjblmkaaDoorLight
namespace Go.Proofs.YtjlcnfafjblmkaaDoor
open Go.RowKit
open Go.Lib (TabIs pow10Tab OthersKept)

def za (k : Int) : An := ⟨k, [], false, 0, ⟨#[]⟩, 0, 0, 0, 0⟩
def zt (k : Int) : B := txt (za k)
theorem za_ok (k : Int) : AnOk (za k) := ⟨by simp [za], fun f hf => by simp [za] at hf, by show 0 ≤ 3000; omega, by simp [za], by simp [za], by simp [za], by simp [za], by simp [za]⟩
theorem text_zero (k : Int) (w : World) (ht : Tb w) :
    Calls Tryd.prog 7 #[.agg #[.int .i64 k, .slice none 0 0, .bool false, .int .u64 0, .string ⟨#[]⟩, .int .i64 0, .int .i64 0, .int .i64 0, .int .i64 0]] w fun e w' => e = .returned (.string (S (zt k))) ∧ Below w.heap.size w w' :=
  text_any (za k) none 0 w (.inl rfl) (za_ok k) ht
theorem dg0 : dg 0 = [48] := dec1 (u := 0) (by omega)
theorem zt_1 : zt 1 = [69, 78, 68, 13, 10] := rfl
theorem zt_2 : zt 2 = [83, 84, 79, 82, 69, 68, 13, 10] := rfl
theorem zt_3 : zt 3 = [78, 79, 84, 95, 83, 84, 79, 82, 69, 68, 13, 10] := rfl
theorem zt_4 : zt 4 = [69, 88, 73, 83, 84, 83, 13, 10] := rfl
theorem zt_5 : zt 5 = [78, 79, 84, 95, 70, 79, 85, 78, 68, 13, 10] := rfl
theorem zt_6 : zt 6 = [68, 69, 76, 69, 84, 69, 68, 13, 10] := rfl
theorem zt_7 : zt 7 = [84, 79, 85, 67, 72, 69, 68, 13, 10] := rfl
theorem zt_8 : zt 8 = [48, 13, 10] := by
  show ln [Lib.decDigits 0] = _
  rw [dec1 (u := 0) (by omega)]
  rfl
theorem zt_9 : zt 9 = [79, 75, 13, 10] := rfl
theorem zt_10 : zt 10 = [86, 69, 82, 83, 73, 79, 78, 32, 100, 101, 112, 111, 116, 13, 10] := rfl
theorem zt_11 : zt 11 = [83, 84, 65, 84, 32, 115, 108, 111, 116, 115, 95, 117, 112, 32, 48, 13, 10, 83, 84, 65, 84, 32, 99, 109, 100, 95, 103, 101, 116, 32, 48, 13, 10, 83, 84, 65, 84, 32, 99, 109, 100, 95, 115, 101, 116, 32, 48, 13, 10, 83, 84, 65, 84, 32, 103, 101, 116, 95, 104, 105, 116, 115, 32, 48, 13, 10, 69, 78, 68, 13, 10] := by
  show stats (four 0 0 0 0) = _
  unfold stats sts sts sts sts sts stl
  rw [show four 0 0 0 0 0 = 0 from rfl, show four 0 0 0 0 1 = 0 from rfl, show four 0 0 0 0 2 = 0 from rfl, show four 0 0 0 0 3 = 0 from rfl, dg0]
  rfl
theorem zt_12 : zt 12 = [69, 82, 82, 79, 82, 13, 10] := rfl
theorem zt_13 : zt 13 = [67, 76, 73, 69, 78, 84, 95, 69, 82, 82, 79, 82, 32, 13, 10] := rfl
theorem zt_14 : zt 14 = [83, 69, 82, 86, 69, 82, 95, 69, 82, 82, 79, 82, 32, 13, 10] := rfl
def tbl : List (Int × B) := [(1, [69, 78, 68, 13, 10]), (2, [83, 84, 79, 82, 69, 68, 13, 10]), (3, [78, 79, 84, 95, 83, 84, 79, 82, 69, 68, 13, 10]), (4, [69, 88, 73, 83, 84, 83, 13, 10]), (5, [78, 79, 84, 95, 70, 79, 85, 78, 68, 13, 10]), (6, [68, 69, 76, 69, 84, 69, 68, 13, 10]), (7, [84, 79, 85, 67, 72, 69, 68, 13, 10]), (8, [48, 13, 10]), (9, [79, 75, 13, 10]), (10, [86, 69, 82, 83, 73, 79, 78, 32, 100, 101, 112, 111, 116, 13, 10]), (11, [83, 84, 65, 84, 32, 115, 108, 111, 116, 115, 95, 117, 112, 32, 48, 13, 10, 83, 84, 65, 84, 32, 99, 109, 100, 95, 103, 101, 116, 32, 48, 13, 10, 83, 84, 65, 84, 32, 99, 109, 100, 95, 115, 101, 116, 32, 48, 13, 10, 83, 84, 65, 84, 32, 103, 101, 116, 95, 104, 105, 116, 115, 32, 48, 13, 10, 69, 78, 68, 13, 10]), (12, [69, 82, 82, 79, 82, 13, 10]), (13, [67, 76, 73, 69, 78, 84, 95, 69, 82, 82, 79, 82, 32, 13, 10]), (14, [83, 69, 82, 86, 69, 82, 95, 69, 82, 82, 79, 82, 32, 13, 10])]
def dc (l : B) : Int := match tbl.find? (fun p => p.2 == l) with
  | some p => p.1
  | none => 0
theorem txt_other (x : An) (h : x.kind < 1 ∨ 15 ≤ x.kind) : txt x = [] := by
  unfold txt
  rw [if_neg (by omega), if_neg (by omega), if_neg (by omega), if_neg (by omega), if_neg (by omega), if_neg (by omega), if_neg (by omega), if_neg (by omega), if_neg (by omega), if_neg (by omega), if_neg (by omega), if_neg (by omega), if_neg (by omega), if_neg (by omega)]
theorem dc_zt (k : Int) : dc (zt k) = if 1 ≤ k ∧ k ≤ 14 then k else 0 := by
  by_cases h : 1 ≤ k ∧ k ≤ 14
  · rw [if_pos h]
    have hk : k = 1 ∨ k = 2 ∨ k = 3 ∨ k = 4 ∨ k = 5 ∨ k = 6 ∨ k = 7 ∨ k = 8 ∨ k = 9 ∨ k = 10 ∨ k = 11 ∨ k = 12 ∨ k = 13 ∨ k = 14 := by omega
    rcases hk with rfl | rfl | rfl | rfl | rfl | rfl | rfl | rfl | rfl | rfl | rfl | rfl | rfl | rfl
    · rw [zt_1]; decide
    · rw [zt_2]; decide
    · rw [zt_3]; decide
    · rw [zt_4]; decide
    · rw [zt_5]; decide
    · rw [zt_6]; decide
    · rw [zt_7]; decide
    · rw [zt_8]; decide
    · rw [zt_9]; decide
    · rw [zt_10]; decide
    · rw [zt_11]; decide
    · rw [zt_12]; decide
    · rw [zt_13]; decide
    · rw [zt_14]; decide
  · rw [if_neg h, show zt k = [] from txt_other (za k) (by show k < 1 ∨ 15 ≤ k; omega)]
    decide
theorem zt_inj {k j : Int} (h : 1 ≤ k ∧ k ≤ 14) (e : zt k = zt j) : k = j := by
  have h1 := dc_zt k
  rw [if_pos h, e, dc_zt j] at h1
  split at h1 <;> omega
theorem zt_beq {k j : Int} (h : 1 ≤ k ∧ k ≤ 14) : ((S (zt k)).toList == (S (zt j)).toList) = (k == j) := by
  rw [str_beq]
  by_cases e : k = j
  · subst e; simp
  · rw [decide_eq_false (fun x => e (zt_inj h (S_inj x)))]
    exact (beq_eq_false_iff_ne.2 e).symm
theorem ln_ends (ws : List B) : ∃ p, ln ws = p ++ [13, 10] := ⟨_, rfl⟩
theorem app_ends {a b : B} (h : ∃ p, b = p ++ [13, 10]) : ∃ p, a ++ b = p ++ [13, 10] := by
  obtain ⟨p, rfl⟩ := h
  exact ⟨a ++ p, by rw [List.append_assoc]⟩
theorem ln_len0 (x : B) (r : List B) (h : 1 ≤ x.length) : 3 ≤ (ln (x :: r)).length := by
  unfold ln
  rw [Lib.join_cons]
  simp
  omega
theorem app_len {a b : B} (h : 3 ≤ b.length) : 3 ≤ (a ++ b).length := by rw [List.length_append]; omega
/-- What is said of a kind that says something ends a line. -/
theorem txt_ends {x : An} (h : 1 ≤ x.kind ∧ x.kind ≤ 14) (hn : x.num < 18446744073709551616) : (∃ p, txt x = p ++ [13, 10]) ∧ 3 ≤ (txt x).length := by
  obtain ⟨kind, fs, g, num, text, s0, s1, s2, s3⟩ := x
  simp only at h hn
  have hk : kind = 1 ∨ kind = 2 ∨ kind = 3 ∨ kind = 4 ∨ kind = 5 ∨ kind = 6 ∨ kind = 7 ∨ kind = 8 ∨ kind = 9 ∨ kind = 10 ∨ kind = 11 ∨ kind = 12 ∨ kind = 13 ∨ kind = 14 := by omega
  rcases hk with rfl | rfl | rfl | rfl | rfl | rfl | rfl | rfl | rfl | rfl | rfl | rfl | rfl | rfl
  · exact ⟨app_ends (ln_ends _), app_len (ln_len0 _ _ (by decide))⟩
  · exact ⟨ln_ends _, ln_len0 _ _ (by decide)⟩
  · exact ⟨ln_ends _, ln_len0 _ _ (by decide)⟩
  · exact ⟨ln_ends _, ln_len0 _ _ (by decide)⟩
  · exact ⟨ln_ends _, ln_len0 _ _ (by decide)⟩
  · exact ⟨ln_ends _, ln_len0 _ _ (by decide)⟩
  · exact ⟨ln_ends _, ln_len0 _ _ (by decide)⟩
  · exact ⟨ln_ends _, ln_len0 _ _ (dec_len hn).1⟩
  · exact ⟨ln_ends _, ln_len0 _ _ (by decide)⟩
  · exact ⟨ln_ends _, ln_len0 _ _ (by decide)⟩
  · exact ⟨app_ends (ln_ends _), app_len (ln_len0 _ _ (by decide))⟩
  · exact ⟨ln_ends _, ln_len0 _ _ (by decide)⟩
  · exact ⟨ln_ends _, ln_len0 _ _ (by decide)⟩
  · exact ⟨ln_ends _, ln_len0 _ _ (by decide)⟩
theorem str_lo (s : ByteArray) (n : Nat) (h : n ≤ s.size) (w : World) : (Instr.sliceAt 9 (.string s) (some (.int .i64 (n : Int))) none none).run Tryd.prog w = .ok (.string (S ((L s).drop n))) w := by
  rw [run_sliceAt_string _ _ _ _ _ _ under9, run_slice_string_l _ _ _ under9 _ _ (by omega) (by omega)]
  rw [show s.extract ((n : Int)).toNat s.size = S ((L s).drop n) from L_inj (by rw [L_extract, ← L_len, List.take_length]; rfl)]
theorem str_hi (s : ByteArray) (n : Nat) (h : n ≤ s.size) (w : World) : (Instr.sliceAt 9 (.string s) none (some (.int .i64 (n : Int))) none).run Tryd.prog w = .ok (.string (S ((L s).take n))) w := by
  rw [run_sliceAt_string _ _ _ _ _ _ under9, run_slice_string_h _ _ _ under9 _ _ (by omega) (by omega)]
  rw [show s.extract 0 ((n : Int)).toNat = S ((L s).take n) from L_inj (by rw [L_extract]; rfl)]
end Go.Proofs.YtjlcnfafjblmkaaDoor
