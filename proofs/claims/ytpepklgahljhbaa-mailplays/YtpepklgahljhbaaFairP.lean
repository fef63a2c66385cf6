/-
  BOXES THAT HAVE AS MANY, drained, as plain lists: each case reckoned.
-/
import Derived.Test.YtpepklgahljhbaaPure
import Derived.KernelRfl
namespace Go.Proofs.Ytpepklgahljhbaa

/-- The numbers of box i. -/
def row (i m : Nat) : List Int := (List.range m).map fun (j : Nat) => 100 * (i : Int) + (j : Int)
def rowsF (k m : Nat) : List (List Int) := (List.range k).map fun i => row i m
/-- The p-th that is drained. -/
def tgF (k p : Nat) : Int := 100 * ((p % k : Nat) : Int) + ((p / k : Nat) : Int)
def chk (k m x : Nat) : Bool := let s := itr x k 9 (rowsF k m, []); rnp x k s == s && s.2 == (List.range (min x (k * m))).map (tgF k)
set_option maxRecDepth 100000 in
theorem chk1 : ((List.range 9).all fun m => (List.range 61).all fun x => chk 1 m x) = true := by kernel_rfl
set_option maxRecDepth 100000 in
theorem chk2 : ((List.range 9).all fun m => (List.range 61).all fun x => chk 2 m x) = true := by kernel_rfl
set_option maxRecDepth 100000 in
theorem chk3 : ((List.range 9).all fun m => (List.range 61).all fun x => chk 3 m x) = true := by kernel_rfl
set_option maxRecDepth 100000 in
theorem chk4 : ((List.range 9).all fun m => (List.range 61).all fun x => chk 4 m x) = true := by kernel_rfl
set_option maxRecDepth 100000 in
theorem chk5 : ((List.range 9).all fun m => (List.range 61).all fun x => chk 5 m x) = true := by kernel_rfl
set_option maxRecDepth 100000 in
theorem chk6 : ((List.range 9).all fun m => (List.range 61).all fun x => chk 6 m x) = true := by kernel_rfl
theorem chk_at {k m x : Nat} (h : ((List.range 9).all fun m => (List.range 61).all fun x => chk k m x) = true) (hm : m ≤ 8) (hx : x ≤ 60) : chk k m x = true := by
  have := List.all_eq_true.1 h m (List.mem_range.2 (by omega))
  exact List.all_eq_true.1 this x (List.mem_range.2 (by omega))
theorem fair_is {k m x : Nat} (h1 : 1 ≤ k) (h6 : k ≤ 6) (hm : m ≤ 8) (hx : x ≤ 60) : rnp x k (itr x k 9 (rowsF k m, [])) = itr x k 9 (rowsF k m, []) ∧ (itr x k 9 (rowsF k m, [])).2 = (List.range (min x (k * m))).map (tgF k) := by
  have h : chk k m x = true := by
    have : k = 1 ∨ k = 2 ∨ k = 3 ∨ k = 4 ∨ k = 5 ∨ k = 6 := by omega
    rcases this with rfl | rfl | rfl | rfl | rfl | rfl
    · exact chk_at chk1 hm hx
    · exact chk_at chk2 hm hx
    · exact chk_at chk3 hm hx
    · exact chk_at chk4 hm hx
    · exact chk_at chk5 hm hx
    · exact chk_at chk6 hm hx
  unfold chk at h
  simp only [Bool.and_eq_true, beq_iff_eq] at h
  exact h
/-- How many of the first i box b gave. -/
def cnt (k i b : Nat) : Nat := (i + (k - 1 - b)) / k
theorem cnt_chk : ((List.range 7).all fun k => k == 0 || (List.range 61).all fun i => cnt k i (i % k) == i / k && (List.range 6).all fun b => !(decide (b < k)) || cnt k (i + 1) b == (if b = i % k then i / k + 1 else cnt k i b)) = true := by kernel_rfl
theorem cnt_is {k i : Nat} (h1 : 1 ≤ k) (h6 : k ≤ 6) (hi : i ≤ 60) : cnt k i (i % k) = i / k ∧ ∀ b, b < k → cnt k (i + 1) b = if b = i % k then i / k + 1 else cnt k i b := by
  have h := List.all_eq_true.1 cnt_chk k (List.mem_range.2 (by omega))
  rw [Bool.or_eq_true] at h
  have hk : ¬ (k == 0) = true := by simp; omega
  have h := List.all_eq_true.1 (h.resolve_left hk) i (List.mem_range.2 (by omega))
  rw [Bool.and_eq_true] at h
  refine ⟨by simpa using h.1, fun b hb => ?_⟩
  have h2 := List.all_eq_true.1 h.2 b (List.mem_range.2 (by omega))
  rw [Bool.or_eq_true] at h2
  have hb2 : ¬ (!(decide (b < k))) = true := by simp [hb]
  simpa using h2.resolve_left hb2
theorem row_succ (i j : Nat) : row i (j + 1) = row i j ++ [100 * (i : Int) + (j : Int)] := by simp [row, List.range_succ]
theorem rowsF_succ (k m : Nat) : rowsF (k + 1) m = rowsF k m ++ [row k m] := by simp [rowsF, List.range_succ]
theorem row_len (i m : Nat) : (row i m).length = m := by simp [row]
theorem rowsF_len (k m : Nat) : (rowsF k m).length = k := by simp [rowsF]
theorem rowsF_tot (k m : Nat) : tot (rowsF k m, []) = k * m := by
  induction k with
  | zero => simp [tot, rowsF]
  | succ k ih =>
    unfold tot at ih ⊢
    simp only [rowsF_succ, List.map_append, List.sum_append, List.map_cons, List.map_nil, List.sum_cons, List.sum_nil, row_len, List.length_nil] at ih ⊢
    rw [Nat.add_mul]; omega
end Go.Proofs.Ytpepklgahljhbaa
