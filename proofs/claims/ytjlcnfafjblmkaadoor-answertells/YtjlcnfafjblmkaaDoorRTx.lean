/-
  TEXT of the reference, but for values and counts.
-/
import Derived.Test.YtjlcnfafjblmkaaDoorRDig
namespace Go.Proofs.YtjlcnfafjblmkaaDoor
open Go.RowKit
open Go.Lib (TabIs pow10Tab OthersKept)

set_option maxRecDepth 100000 in
set_option maxHeartbeats 1000000 in
theorem rtext_2 (g : Bool) (num : Nat) (text : ByteArray) (s0 s1 s2 s3 : Int) (a : Option Addr) (n cap : Nat) (w : World) :
    Calls Tryd.prog 9 #[.agg #[.int .i64 2, .slice a n cap, .bool g, .int .u64 (num : Int), .string text, .int .i64 s0, .int .i64 s1, .int .i64 s2, .int .i64 s3]] w fun e w' => e = .returned (.string ⟨#[83, 84, 79, 82, 69, 68, 13, 10]⟩) ∧ Below w.heap.size w w' := by
  go_enter Tryd.func9, Tryd.ntmps9
  go_wp2_with fail
  go_ret
  exact ⟨rfl, up1 (below_alloc _ _)⟩
set_option maxRecDepth 100000 in
set_option maxHeartbeats 1000000 in
theorem rtext_3 (g : Bool) (num : Nat) (text : ByteArray) (s0 s1 s2 s3 : Int) (a : Option Addr) (n cap : Nat) (w : World) :
    Calls Tryd.prog 9 #[.agg #[.int .i64 3, .slice a n cap, .bool g, .int .u64 (num : Int), .string text, .int .i64 s0, .int .i64 s1, .int .i64 s2, .int .i64 s3]] w fun e w' => e = .returned (.string ⟨#[78, 79, 84, 95, 83, 84, 79, 82, 69, 68, 13, 10]⟩) ∧ Below w.heap.size w w' := by
  go_enter Tryd.func9, Tryd.ntmps9
  go_wp2_with fail
  go_ret
  exact ⟨rfl, up1 (below_alloc _ _)⟩
set_option maxRecDepth 100000 in
set_option maxHeartbeats 1000000 in
theorem rtext_4 (g : Bool) (num : Nat) (text : ByteArray) (s0 s1 s2 s3 : Int) (a : Option Addr) (n cap : Nat) (w : World) :
    Calls Tryd.prog 9 #[.agg #[.int .i64 4, .slice a n cap, .bool g, .int .u64 (num : Int), .string text, .int .i64 s0, .int .i64 s1, .int .i64 s2, .int .i64 s3]] w fun e w' => e = .returned (.string ⟨#[69, 88, 73, 83, 84, 83, 13, 10]⟩) ∧ Below w.heap.size w w' := by
  go_enter Tryd.func9, Tryd.ntmps9
  go_wp2_with fail
  go_ret
  exact ⟨rfl, up1 (below_alloc _ _)⟩
set_option maxRecDepth 100000 in
set_option maxHeartbeats 1000000 in
theorem rtext_5 (g : Bool) (num : Nat) (text : ByteArray) (s0 s1 s2 s3 : Int) (a : Option Addr) (n cap : Nat) (w : World) :
    Calls Tryd.prog 9 #[.agg #[.int .i64 5, .slice a n cap, .bool g, .int .u64 (num : Int), .string text, .int .i64 s0, .int .i64 s1, .int .i64 s2, .int .i64 s3]] w fun e w' => e = .returned (.string ⟨#[78, 79, 84, 95, 70, 79, 85, 78, 68, 13, 10]⟩) ∧ Below w.heap.size w w' := by
  go_enter Tryd.func9, Tryd.ntmps9
  go_wp2_with fail
  go_ret
  exact ⟨rfl, up1 (below_alloc _ _)⟩
set_option maxRecDepth 100000 in
set_option maxHeartbeats 1000000 in
theorem rtext_6 (g : Bool) (num : Nat) (text : ByteArray) (s0 s1 s2 s3 : Int) (a : Option Addr) (n cap : Nat) (w : World) :
    Calls Tryd.prog 9 #[.agg #[.int .i64 6, .slice a n cap, .bool g, .int .u64 (num : Int), .string text, .int .i64 s0, .int .i64 s1, .int .i64 s2, .int .i64 s3]] w fun e w' => e = .returned (.string ⟨#[68, 69, 76, 69, 84, 69, 68, 13, 10]⟩) ∧ Below w.heap.size w w' := by
  go_enter Tryd.func9, Tryd.ntmps9
  go_wp2_with fail
  go_ret
  exact ⟨rfl, up1 (below_alloc _ _)⟩
set_option maxRecDepth 100000 in
set_option maxHeartbeats 1000000 in
theorem rtext_7 (g : Bool) (num : Nat) (text : ByteArray) (s0 s1 s2 s3 : Int) (a : Option Addr) (n cap : Nat) (w : World) :
    Calls Tryd.prog 9 #[.agg #[.int .i64 7, .slice a n cap, .bool g, .int .u64 (num : Int), .string text, .int .i64 s0, .int .i64 s1, .int .i64 s2, .int .i64 s3]] w fun e w' => e = .returned (.string ⟨#[84, 79, 85, 67, 72, 69, 68, 13, 10]⟩) ∧ Below w.heap.size w w' := by
  go_enter Tryd.func9, Tryd.ntmps9
  go_wp2_with fail
  go_ret
  exact ⟨rfl, up1 (below_alloc _ _)⟩
set_option maxRecDepth 100000 in
set_option maxHeartbeats 1000000 in
theorem rtext_9 (g : Bool) (num : Nat) (text : ByteArray) (s0 s1 s2 s3 : Int) (a : Option Addr) (n cap : Nat) (w : World) :
    Calls Tryd.prog 9 #[.agg #[.int .i64 9, .slice a n cap, .bool g, .int .u64 (num : Int), .string text, .int .i64 s0, .int .i64 s1, .int .i64 s2, .int .i64 s3]] w fun e w' => e = .returned (.string ⟨#[79, 75, 13, 10]⟩) ∧ Below w.heap.size w w' := by
  go_enter Tryd.func9, Tryd.ntmps9
  go_wp2_with fail
  go_ret
  exact ⟨rfl, up1 (below_alloc _ _)⟩
set_option maxRecDepth 100000 in
set_option maxHeartbeats 1000000 in
theorem rtext_10 (g : Bool) (num : Nat) (text : ByteArray) (s0 s1 s2 s3 : Int) (a : Option Addr) (n cap : Nat) (w : World) :
    Calls Tryd.prog 9 #[.agg #[.int .i64 10, .slice a n cap, .bool g, .int .u64 (num : Int), .string text, .int .i64 s0, .int .i64 s1, .int .i64 s2, .int .i64 s3]] w fun e w' => e = .returned (.string ⟨#[86, 69, 82, 83, 73, 79, 78, 32, 100, 101, 112, 111, 116, 13, 10]⟩) ∧ Below w.heap.size w w' := by
  go_enter Tryd.func9, Tryd.ntmps9
  go_wp2_with fail
  go_ret
  exact ⟨rfl, up1 (below_alloc _ _)⟩
set_option maxRecDepth 100000 in
set_option maxHeartbeats 1000000 in
theorem rtext_12 (g : Bool) (num : Nat) (text : ByteArray) (s0 s1 s2 s3 : Int) (a : Option Addr) (n cap : Nat) (w : World) :
    Calls Tryd.prog 9 #[.agg #[.int .i64 12, .slice a n cap, .bool g, .int .u64 (num : Int), .string text, .int .i64 s0, .int .i64 s1, .int .i64 s2, .int .i64 s3]] w fun e w' => e = .returned (.string ⟨#[69, 82, 82, 79, 82, 13, 10]⟩) ∧ Below w.heap.size w w' := by
  go_enter Tryd.func9, Tryd.ntmps9
  go_wp2_with fail
  go_ret
  exact ⟨rfl, up1 (below_alloc _ _)⟩
set_option maxRecDepth 100000 in
set_option maxHeartbeats 1000000 in
theorem rtext_8 (g : Bool) (num : Nat) (text : ByteArray) (s0 s1 s2 s3 : Int) (a : Option Addr) (n cap : Nat) (w : World) (hn : num < 18446744073709551616) :
    Calls Tryd.prog 9 #[.agg #[.int .i64 8, .slice a n cap, .bool g, .int .u64 (num : Int), .string text, .int .i64 s0, .int .i64 s1, .int .i64 s2, .int .i64 s3]] w fun e w' => e = .returned (.string (S (ln [Lib.decDigits num]))) ∧ Below w.heap.size w w' := by
  have HN := Lib.hid hn
  obtain ⟨D, hD⟩ : ∃ D, S (Lib.decDigits num) = D := ⟨_, rfl⟩
  have zD : D.size ≤ 20 := by rw [← hD, S_size]; exact (dec_len hn).2
  have HD := Lib.hid hD
  have hR : S (ln [Lib.decDigits num]) = D ++ (⟨#[13, 10]⟩ : ByteArray) := by
    rw [← hD]
    show _ = S (Lib.decDigits num) ++ S [13, 10]
    rw [S_append]
    unfold ln
    rw [Lib.join_one]
  rw [hR]
  clear hD hR hn
  go_enter Tryd.func9, Tryd.ntmps9
  go_wp2_with fail
  refine (rdigits_any num HN.out _).mono ?_
  rintro e w1 ⟨rfl, b1⟩
  rw [HD.out]
  have HB := Lib.hid (up1 b1)
  clear b1
  go_wp2_with fail
  go_ret
  exact ⟨rfl, HB.out⟩
set_option maxRecDepth 100000 in
set_option maxHeartbeats 1000000 in
theorem rtext_13 (g : Bool) (num : Nat) (text : ByteArray) (s0 s1 s2 s3 : Int) (a : Option Addr) (n cap : Nat) (w : World) (hl : text.size ≤ 3000) :
    Calls Tryd.prog 9 #[.agg #[.int .i64 13, .slice a n cap, .bool g, .int .u64 (num : Int), .string text, .int .i64 s0, .int .i64 s1, .int .i64 s2, .int .i64 s3]] w fun e w' => e = .returned (.string (S (ln [[67, 76, 73, 69, 78, 84, 95, 69, 82, 82, 79, 82], L text]))) ∧ Below w.heap.size w w' := by
  obtain ⟨s1, e1⟩ : ∃ s', (⟨#[67, 76, 73, 69, 78, 84, 95, 69, 82, 82, 79, 82, 32]⟩ : ByteArray) ++ text = s' := ⟨_, rfl⟩
  have z1 : s1.size ≤ 3100 := by rw [← e1, ByteArray.size_append]; show 13 + _ ≤ _; omega
  have hR : S (ln [[67, 76, 73, 69, 78, 84, 95, 69, 82, 82, 79, 82], L text]) = s1 ++ (⟨#[13, 10]⟩ : ByteArray) := by
    rw [← e1]
    refine L_inj ?_
    rw [L_append, L_append, L_S]
    unfold ln
    rw [Lib.join_cons]
    simp [Lib.joinTail, L]
  rw [hR]
  clear hR
  go_enter Tryd.func9, Tryd.ntmps9
  go_wp2_with fail
  go_ret
  exact ⟨rfl, below_alloc _ _⟩
set_option maxRecDepth 100000 in
set_option maxHeartbeats 1000000 in
theorem rtext_14 (g : Bool) (num : Nat) (text : ByteArray) (s0 s1 s2 s3 : Int) (a : Option Addr) (n cap : Nat) (w : World) (hl : text.size ≤ 3000) :
    Calls Tryd.prog 9 #[.agg #[.int .i64 14, .slice a n cap, .bool g, .int .u64 (num : Int), .string text, .int .i64 s0, .int .i64 s1, .int .i64 s2, .int .i64 s3]] w fun e w' => e = .returned (.string (S (ln [[83, 69, 82, 86, 69, 82, 95, 69, 82, 82, 79, 82], L text]))) ∧ Below w.heap.size w w' := by
  obtain ⟨s1, e1⟩ : ∃ s', (⟨#[83, 69, 82, 86, 69, 82, 95, 69, 82, 82, 79, 82, 32]⟩ : ByteArray) ++ text = s' := ⟨_, rfl⟩
  have z1 : s1.size ≤ 3100 := by rw [← e1, ByteArray.size_append]; show 13 + _ ≤ _; omega
  have hR : S (ln [[83, 69, 82, 86, 69, 82, 95, 69, 82, 82, 79, 82], L text]) = s1 ++ (⟨#[13, 10]⟩ : ByteArray) := by
    rw [← e1]
    refine L_inj ?_
    rw [L_append, L_append, L_S]
    unfold ln
    rw [Lib.join_cons]
    simp [Lib.joinTail, L]
  rw [hR]
  clear hR
  go_enter Tryd.func9, Tryd.ntmps9
  go_wp2_with fail
  go_ret
  exact ⟨rfl, below_alloc _ _⟩
set_option maxRecDepth 100000 in
set_option maxHeartbeats 1000000 in
theorem rtext_low (kind : Int) (g : Bool) (num : Nat) (text : ByteArray) (s0 s1 s2 s3 : Int) (a : Option Addr) (n cap : Nat) (w : World) (h : kind < 1) :
    Calls Tryd.prog 9 #[.agg #[.int .i64 kind, .slice a n cap, .bool g, .int .u64 (num : Int), .string text, .int .i64 s0, .int .i64 s1, .int .i64 s2, .int .i64 s3]] w fun e w' => e = .returned (.string ⟨#[]⟩) ∧ Below w.heap.size w w' := by
  have d1 : (kind == 1) = false := beq_eq_false_iff_ne.2 (by omega)
  have d8 : (kind == 8) = false := beq_eq_false_iff_ne.2 (by omega)
  have d11 : (kind == 11) = false := beq_eq_false_iff_ne.2 (by omega)
  have d13 : (kind == 13) = false := beq_eq_false_iff_ne.2 (by omega)
  have d14 : (kind == 14) = false := beq_eq_false_iff_ne.2 (by omega)
  have g1 : decide (kind < 2) = true := decide_eq_true (by omega)
  clear h
  go_enter Tryd.func9, Tryd.ntmps9
  go_wp2_with fail
  go_ret
  exact ⟨rfl, below_alloc _ _⟩
set_option maxRecDepth 100000 in
set_option maxHeartbeats 1000000 in
theorem rtext_high (kind : Int) (g : Bool) (num : Nat) (text : ByteArray) (s0 s1 s2 s3 : Int) (a : Option Addr) (n cap : Nat) (w : World) (h : 15 ≤ kind) :
    Calls Tryd.prog 9 #[.agg #[.int .i64 kind, .slice a n cap, .bool g, .int .u64 (num : Int), .string text, .int .i64 s0, .int .i64 s1, .int .i64 s2, .int .i64 s3]] w fun e w' => e = .returned (.string ⟨#[]⟩) ∧ Below w.heap.size w w' := by
  have d1 : (kind == 1) = false := beq_eq_false_iff_ne.2 (by omega)
  have d8 : (kind == 8) = false := beq_eq_false_iff_ne.2 (by omega)
  have d11 : (kind == 11) = false := beq_eq_false_iff_ne.2 (by omega)
  have d13 : (kind == 13) = false := beq_eq_false_iff_ne.2 (by omega)
  have d14 : (kind == 14) = false := beq_eq_false_iff_ne.2 (by omega)
  have g1 : decide (kind < 2) = false := decide_eq_false (by omega)
  have g2 : decide (12 < kind) = true := decide_eq_true (by omega)
  clear h
  go_enter Tryd.func9, Tryd.ntmps9
  go_wp2_with fail
  go_ret
  exact ⟨rfl, below_alloc _ _⟩
end Go.Proofs.YtjlcnfafjblmkaaDoor
