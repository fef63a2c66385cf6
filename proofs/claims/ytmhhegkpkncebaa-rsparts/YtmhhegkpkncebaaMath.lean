/-
  THE PLAIN MATHEMATICS OF THE FIELD OF 256: no program in sight. Powers of two by doubling, logarithms, the product by logarithms; that it is the same both ways, may be parted, goes over sums; what the slow product does in a round; powers, inverses, dots.
-/
import Derived.KernelRfl
namespace Go.Proofs.Ytmhhegkpkncebaa
namespace Gf

def dbl (x : Nat) : Nat := if 255 < 2 * x then (2 * x) ^^^ 285 else 2 * x
def ex : Nat → Nat
  | 0 => 1
  | n + 1 => dbl (ex n)
def exList : Nat → Nat → List Nat
  | 0, _ => []
  | n + 1, x => x :: exList n (dbl x)
def lg (x : Nat) : Nat := if x = 0 then 0 else (exList 255 1).idxOf x
def mul (a b : Nat) : Nat := if a = 0 ∨ b = 0 then 0 else ex (lg a + lg b)
def inv (a : Nat) : Nat := if a = 0 then 0 else ex (255 - lg a)
def pw (a n : Nat) : Nat := if n = 0 then 1 else if a = 0 then 0 else ex (lg a * (n % 255) % 255)
def it : Nat → Nat → Nat
  | 0, x => x
  | k + 1, x => dbl (it k x)

theorem dbl_lt : ∀ x, x < 256 → dbl x < 256 := by decide +kernel
theorem dbl_pos : ∀ x, x < 256 → x ≠ 0 → dbl x ≠ 0 := by decide +kernel
theorem dbl_xor_all : ∀ x, x < 256 → ∀ y, y < 256 → dbl (x ^^^ y) = dbl x ^^^ dbl y := by decide +kernel
theorem dbl_zero : dbl 0 = 0 := by decide +kernel
theorem ex_255 : ex 255 = 1 := by decide +kernel
theorem lg_ex_all : ∀ i, i < 255 → lg (ex i) = i := by decide +kernel
theorem ex_lg_all : ∀ x, x < 256 → x ≠ 0 → ex (lg x) = x ∧ lg x < 255 := by decide +kernel
theorem lg_zero : lg 0 = 0 := by decide +kernel
theorem lg_one : lg 1 = 0 := by decide +kernel
theorem lg_two : lg 2 = 1 := by decide +kernel

theorem ex_lt (n : Nat) : ex n < 256 := by
  induction n with
  | zero => decide
  | succ n ih => exact dbl_lt _ ih
theorem ex_pos (n : Nat) : ex n ≠ 0 := by
  induction n with
  | zero => decide
  | succ n ih => exact dbl_pos _ (ex_lt n) ih
theorem ex_add255 (n : Nat) : ex (n + 255) = ex n := by
  induction n with
  | zero => exact ex_255
  | succ n ih => rw [show n + 1 + 255 = (n + 255) + 1 from by omega]; show dbl _ = dbl _; rw [ih]
theorem ex_addmul (n q : Nat) : ex (n + 255 * q) = ex n := by
  induction q with
  | zero => rfl
  | succ q ih => rw [show n + 255 * (q + 1) = (n + 255 * q) + 255 from by omega, ex_add255, ih]
theorem ex_mod (n : Nat) : ex (n % 255) = ex n := by
  have h := ex_addmul (n % 255) (n / 255)
  rw [show n % 255 + 255 * (n / 255) = n from by omega] at h
  exact h.symm
theorem ex_congr {m n : Nat} (h : m % 255 = n % 255) : ex m = ex n := by
  rw [← ex_mod m, ← ex_mod n, h]
theorem lg_ex (n : Nat) : lg (ex n) = n % 255 := by
  rw [← ex_mod n]; exact lg_ex_all _ (Nat.mod_lt _ (by decide))
theorem ex_inj {m n : Nat} (h : ex m = ex n) : m % 255 = n % 255 := by
  rw [← lg_ex m, ← lg_ex n, h]
theorem ex_lg {x : Nat} (h : x < 256) (h0 : x ≠ 0) : ex (lg x) = x := (ex_lg_all x h h0).1
theorem lg_lt {x : Nat} (h : x < 256) : lg x < 255 := by
  by_cases h0 : x = 0
  · subst h0; rw [lg_zero]; decide
  · exact (ex_lg_all x h h0).2

theorem mul_lt (a b : Nat) : mul a b < 256 := by
  unfold mul; split
  · decide
  · exact ex_lt _
theorem mul_comm (a b : Nat) : mul a b = mul b a := by
  unfold mul; rw [Nat.add_comm (lg a)]
  by_cases ha : a = 0 <;> by_cases hb : b = 0 <;> simp [ha, hb]
theorem mul_zero (a : Nat) : mul a 0 = 0 := by simp [mul]
theorem zero_mul (a : Nat) : mul 0 a = 0 := by simp [mul]
theorem mul_one {a : Nat} (h : a < 256) : mul a 1 = a := by
  by_cases h0 : a = 0
  · subst h0; exact zero_mul 1
  · unfold mul; rw [if_neg (by omega), lg_one]; exact ex_lg h h0
theorem mul_ne (a b : Nat) (ha : a ≠ 0) (hb : b ≠ 0) : mul a b ≠ 0 := by
  unfold mul; rw [if_neg (by omega)]; exact ex_pos _
theorem mul_eq_zero (a b : Nat) : mul a b = 0 ↔ a = 0 ∨ b = 0 := by
  constructor
  · intro h
    by_cases ha : a = 0
    · exact Or.inl ha
    · by_cases hb : b = 0
      · exact Or.inr hb
      · exact absurd h (mul_ne a b ha hb)
  · intro h; unfold mul; rw [if_pos h]
theorem mul_ex (m n : Nat) : mul (ex m) (ex n) = ex (m + n) := by
  unfold mul; rw [if_neg (by have := ex_pos m; have := ex_pos n; omega), lg_ex, lg_ex]
  apply ex_congr; omega
theorem mul_assoc {a b c : Nat} (ha : a < 256) (hb : b < 256) (hc : c < 256) : mul (mul a b) c = mul a (mul b c) := by
  by_cases a0 : a = 0
  · subst a0; simp [zero_mul]
  by_cases b0 : b = 0
  · subst b0; simp [zero_mul, mul_zero]
  by_cases c0 : c = 0
  · subst c0; simp [mul_zero]
  rw [← ex_lg ha a0, ← ex_lg hb b0, ← ex_lg hc c0, mul_ex, mul_ex, mul_ex, mul_ex, Nat.add_assoc]

theorem it_lt (k : Nat) {x : Nat} (h : x < 256) : it k x < 256 := by
  induction k with
  | zero => exact h
  | succ k ih => exact dbl_lt _ ih
theorem it_zero (k : Nat) : it k 0 = 0 := by
  induction k with
  | zero => rfl
  | succ k ih => show dbl (it k 0) = 0; rw [ih]; exact dbl_zero
theorem it_ex (k n : Nat) : it k (ex n) = ex (n + k) := by
  induction k with
  | zero => rfl
  | succ k ih => show dbl (it k (ex n)) = _; rw [ih]; rfl
theorem it_xor (k : Nat) {x y : Nat} (hx : x < 256) (hy : y < 256) : it k (x ^^^ y) = it k x ^^^ it k y := by
  induction k with
  | zero => rfl
  | succ k ih => show dbl _ = dbl _ ^^^ dbl _; rw [ih]; exact dbl_xor_all _ (it_lt k hx) _ (it_lt k hy)
theorem mul_it {a x : Nat} (_ha : a < 256) (a0 : a ≠ 0) (hx : x < 256) : mul a x = it (lg a) x := by
  by_cases x0 : x = 0
  · subst x0; rw [mul_zero, it_zero]
  · conv => rhs; rw [← ex_lg hx x0]
    rw [it_ex]; unfold mul; rw [if_neg (by omega), Nat.add_comm]
theorem xor_lt {x y : Nat} (hx : x < 256) (hy : y < 256) : x ^^^ y < 256 := Nat.xor_lt_two_pow (n := 8) hx hy
theorem mul_xor {a x y : Nat} (ha : a < 256) (hx : x < 256) (hy : y < 256) : mul a (x ^^^ y) = mul a x ^^^ mul a y := by
  by_cases a0 : a = 0
  · subst a0; simp [zero_mul]
  · rw [mul_it ha a0 (xor_lt hx hy), mul_it ha a0 hx, mul_it ha a0 hy, it_xor _ hx hy]
theorem xor_mul {a x y : Nat} (ha : a < 256) (hx : x < 256) (hy : y < 256) : mul (x ^^^ y) a = mul x a ^^^ mul y a := by
  rw [mul_comm, mul_xor ha hx hy, mul_comm a x, mul_comm a y]
theorem mul_dbl {x z : Nat} (hx : x < 256) (hz : z < 256) : mul x (dbl z) = mul (dbl x) z := by
  by_cases x0 : x = 0
  · subst x0; rw [dbl_zero, zero_mul, zero_mul]
  by_cases z0 : z = 0
  · subst z0; rw [dbl_zero, mul_zero, mul_zero]
  have e1 : dbl z = ex (lg z + 1) := by show dbl z = dbl (ex (lg z)); rw [ex_lg hz z0]
  have e2 : dbl x = ex (lg x + 1) := by show dbl x = dbl (ex (lg x)); rw [ex_lg hx x0]
  rw [e1, e2]
  conv => lhs; rw [← ex_lg hx x0]
  conv => rhs; rw [← ex_lg hz z0]
  rw [mul_ex, mul_ex]; congr 1; omega
theorem half_all : ∀ y, y < 256 → y = (y % 2) ^^^ dbl (y / 2) := by decide +kernel
/-- What a round of the slow product does. -/
theorem mul_round {x y : Nat} (hx : x < 256) (hy : y < 256) : mul x y = (if y % 2 = 1 then x else 0) ^^^ mul (dbl x) (y / 2) := by
  have h2 : y / 2 < 256 := by omega
  have hd := dbl_lt _ h2
  have e := half_all y hy
  conv => lhs; rw [e]
  rw [mul_xor hx (by omega) hd, mul_dbl hx h2]
  congr 1
  by_cases h : y % 2 = 1
  · rw [if_pos h, h]; exact mul_one hx
  · rw [if_neg h, show y % 2 = 0 from by omega]; exact mul_zero x

theorem inv_lt (a : Nat) : inv a < 256 := by
  unfold inv; split
  · decide
  · exact ex_lt _
theorem inv_ne {a : Nat} (a0 : a ≠ 0) : inv a ≠ 0 := by
  unfold inv; rw [if_neg a0]; exact ex_pos _
theorem mul_inv {a : Nat} (ha : a < 256) (a0 : a ≠ 0) : mul a (inv a) = 1 := by
  unfold inv; rw [if_neg a0]
  conv => lhs; rw [← ex_lg ha a0]
  rw [lg_ex, mul_ex]
  have := lg_lt ha
  rw [show lg a + (255 - lg a % 255) = 255 from by omega]; exact ex_255
theorem inv_only {a b : Nat} (ha : a < 256) (hb : b < 256) (h : mul a b = 1) : b = inv a := by
  have a0 : a ≠ 0 := by intro e; subst e; rw [zero_mul] at h; omega
  have e : mul (inv a) (mul a b) = b := by
    rw [← mul_assoc (inv_lt a) ha hb, mul_comm (inv a) a, mul_inv ha a0, mul_comm, mul_one hb]
  rw [h, mul_one (inv_lt a)] at e
  exact e.symm
theorem inv_zero : inv 0 = 0 := by simp [inv]

theorem pw_lt (a n : Nat) : pw a n < 256 := by
  unfold pw; split
  · decide
  · split
    · decide
    · exact ex_lt _
theorem pw_zero (a : Nat) : pw a 0 = 1 := by simp [pw]
theorem zero_pw {n : Nat} (h : n ≠ 0) : pw 0 n = 0 := by simp [pw, h]
theorem pw_eq {a : Nat} (a0 : a ≠ 0) (n : Nat) : pw a n = ex (lg a * n) := by
  unfold pw
  by_cases h : n = 0
  · subst h; rfl
  · rw [if_neg h, if_neg a0, ex_mod]
    apply ex_congr
    simp [Nat.mul_mod]
theorem pw_add (a i j : Nat) : mul (pw a i) (pw a j) = pw a (i + j) := by
  by_cases a0 : a = 0
  · subst a0
    by_cases hi : i = 0
    · subst hi; rw [pw_zero, Nat.zero_add, mul_comm, mul_one (pw_lt _ _)]
    · rw [zero_pw hi, zero_mul, zero_pw (by omega)]
  · rw [pw_eq a0, pw_eq a0, pw_eq a0, mul_ex, Nat.mul_add]
theorem pw_two (i : Nat) : pw 2 i = ex i := by
  rw [pw_eq (by decide), lg_two, Nat.one_mul]
theorem pw_step {a : Nat} (ha : a < 256) (a0 : a ≠ 0) (i : Nat) : mul (ex (lg a * i)) a = ex (lg a * (i + 1)) := by
  conv => lhs; rw [← ex_lg ha a0]
  rw [lg_ex, mul_ex]
  apply ex_congr
  rw [Nat.mul_add, Nat.mul_one]
  have := lg_lt ha
  rw [Nat.mod_eq_of_lt this]

/-- The dot of two rows. -/
def dot : List Nat → List Nat → Nat
  | a :: x, b :: y => mul a b ^^^ dot x y
  | _, _ => 0
theorem dot_lt (x y : List Nat) : dot x y < 256 := by
  induction x generalizing y with
  | nil => simp [dot]
  | cons a x ih =>
    cases y with
    | nil => simp [dot]
    | cons b y => exact xor_lt (mul_lt a b) (ih y)

theorem sq_eight {a : Nat} (ha : a < 256) : let q := fun x => mul x x; q (q (q (q (q (q (q (q a))))))) = a := by
  intro q
  by_cases a0 : a = 0
  · subst a0; simp [q, zero_mul]
  · have e : ∀ n, q (ex n) = ex (n + n) := fun n => mul_ex n n
    conv => lhs; rw [← ex_lg ha a0]
    simp only [e]
    conv => rhs; rw [← ex_lg ha a0]
    apply ex_congr; omega
theorem sq_xor {a b : Nat} (ha : a < 256) (hb : b < 256) : mul (a ^^^ b) (a ^^^ b) = mul a a ^^^ mul b b := by
  rw [mul_xor (xor_lt ha hb) ha hb, xor_mul ha ha hb, xor_mul hb ha hb, mul_comm b a]
  rw [Nat.xor_assoc, ← Nat.xor_assoc (mul a b), Nat.xor_self, Nat.zero_xor]
end Gf
end Go.Proofs.Ytmhhegkpkncebaa
