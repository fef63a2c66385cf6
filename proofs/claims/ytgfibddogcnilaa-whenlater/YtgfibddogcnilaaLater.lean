/-
  WHENLATER walked.
-/
import Derived.Test.YtgfibddogcnilaaTells
namespace Go.Proofs.Ytgfibddogcnilaa
open Go.RowKit
set_option linter.unusedVariables false

set_option maxRecDepth 100000 in
set_option maxHeartbeats 1000000 in
theorem later_neg_neg (n a b x y : Int) (Hx : Hid (wi a (-5) 549755813888 = x)) (Hy : Hid (wi b (-5) 549755813888 = y)) (hx1 : -5 ≤ x) (hx2 : x ≤ 549755813888) (hy1 : -5 ≤ y) (hy2 : y ≤ 549755813888) (hx : x < 0) (hy : y < 0) (w : World) : Calls Try.prog 6 #[.int .i64 n, .int .i64 a, .int .i64 b] w fun e w' => e = .returned (.bool true) ∧ w = w' := by
  obtain ⟨N1, N2⟩ := it_bd n
  obtain ⟨N, hN⟩ : ∃ N, it n = N := ⟨_, rfl⟩
  rw [hN] at N1 N2
  have ex : it x = 0 := it_neg hx
  have ey : it y = 0 := it_neg hy
  obtain ⟨P, hP⟩ : ∃ P, it (N + 0) = P := ⟨_, rfl⟩
  obtain ⟨Q, hQ⟩ : ∃ Q, it (N + (0)) = Q := ⟨_, rfl⟩
  have P0 := it_bd (N + 0)
  rw [hP] at P0
  have pq : it (P + 0) = Q ∧ N ≤ Q := by
    have NN : N ≤ 1099511627776 := N2
    by_cases k1 : N + 0 ≤ 1099511627776
    · have p1 := it_mid (n := N + 0) (by omega) k1
      have p2 : P = N + 0 := by omega
      rw [p2, ← hQ, show N + 0 + 0 = N + (0) by omega]
      refine ⟨rfl, ?_⟩
      by_cases k2 : N + (0) ≤ 1099511627776
      · rw [it_mid (by omega) k2]; omega
      · rw [it_top (by omega)]; omega
    · have p1 := it_top (n := N + 0) (by omega)
      have p2 : P = 1099511627776 := by omega
      rw [p2, ← hQ, it_top (n := N + (0)) (by omega), it_top (n := 1099511627776 + 0) (by omega)]
      exact ⟨rfl, NN⟩
  have HA : Hid (it (it n + it 0) = N) := by show _ = _; rw [hN, it_mid (n := 0) (by omega) (by omega), Int.add_zero]; exact it_mid N1 N2
  have HB : Hid (it (it n + it x) = P) := by show _ = _; rw [hN, ex, hP]
  have HC : Hid (it (it P + it y) = Q) := by show _ = _; rw [it_mid P0.1 P0.2, ey]; exact pq.1
  have HD : Hid (it (it n + it (0)) = Q) := by show _ = _; rw [hN, it_mid (n := 0) (by omega) (by omega)]; exact hQ
  have HE : Hid (it (it n + it 4611686018427387904) = 1099511627776) := by show _ = _; rw [hN, it_big (n := 4611686018427387904) (by omega)]; exact it_top (by omega)
  have NQ : N ≤ Q := pq.2
  clear hN ex ey hP hQ pq P0
  go_enter Try.func6, Try.ntmps6
  go_wp2_with fail
  refine (within_any a (-5) 549755813888 (by omega) (by omega) (by omega) w).mono ?_
  rintro e w1 ⟨rfl, rfl⟩
  rw [Hx.out]
  go_wp2_with fail
  refine (within_any b (-5) 549755813888 (by omega) (by omega) (by omega) w).mono ?_
  rintro e w1 ⟨rfl, rfl⟩
  rw [Hy.out]
  go_wp2_with fail
  refine (later_c n 0 N HA.out w).mono ?_
  rintro e w1 ⟨rfl, rfl⟩
  go_wp2_with fail
  refine (later_c n x P HB.out w).mono ?_
  rintro e w1 ⟨rfl, rfl⟩
  go_wp2_with fail
  refine (later_c P y Q HC.out w).mono ?_
  rintro e w1 ⟨rfl, rfl⟩
  go_wp2_with fail
  refine (later_c n (0) Q HD.out w).mono ?_
  rintro e w1 ⟨rfl, rfl⟩
  go_wp2_with fail
  refine (later_c n 4611686018427387904 1099511627776 HE.out w).mono ?_
  rintro e w1 ⟨rfl, rfl⟩
  go_wp2_with fail
  refine (runs_any w).mono ?_
  rintro e w1 ⟨rfl, rfl⟩
  go_wp2
  go_ret
  exact ⟨rfl, rfl⟩
set_option maxRecDepth 100000 in
set_option maxHeartbeats 1000000 in
theorem later_neg_pos (n a b x y : Int) (Hx : Hid (wi a (-5) 549755813888 = x)) (Hy : Hid (wi b (-5) 549755813888 = y)) (hx1 : -5 ≤ x) (hx2 : x ≤ 549755813888) (hy1 : -5 ≤ y) (hy2 : y ≤ 549755813888) (hx : x < 0) (hy : 0 ≤ y) (w : World) : Calls Try.prog 6 #[.int .i64 n, .int .i64 a, .int .i64 b] w fun e w' => e = .returned (.bool true) ∧ w = w' := by
  obtain ⟨N1, N2⟩ := it_bd n
  obtain ⟨N, hN⟩ : ∃ N, it n = N := ⟨_, rfl⟩
  rw [hN] at N1 N2
  have ex : it x = 0 := it_neg hx
  have ey : it y = y := it_mid hy (by omega)
  obtain ⟨P, hP⟩ : ∃ P, it (N + 0) = P := ⟨_, rfl⟩
  obtain ⟨Q, hQ⟩ : ∃ Q, it (N + (y)) = Q := ⟨_, rfl⟩
  have P0 := it_bd (N + 0)
  rw [hP] at P0
  have pq : it (P + y) = Q ∧ N ≤ Q := by
    have NN : N ≤ 1099511627776 := N2
    by_cases k1 : N + 0 ≤ 1099511627776
    · have p1 := it_mid (n := N + 0) (by omega) k1
      have p2 : P = N + 0 := by omega
      rw [p2, ← hQ, show N + 0 + y = N + (y) by omega]
      refine ⟨rfl, ?_⟩
      by_cases k2 : N + (y) ≤ 1099511627776
      · rw [it_mid (by omega) k2]; omega
      · rw [it_top (by omega)]; omega
    · have p1 := it_top (n := N + 0) (by omega)
      have p2 : P = 1099511627776 := by omega
      rw [p2, ← hQ, it_top (n := N + (y)) (by omega), it_top (n := 1099511627776 + y) (by omega)]
      exact ⟨rfl, NN⟩
  have HA : Hid (it (it n + it 0) = N) := by show _ = _; rw [hN, it_mid (n := 0) (by omega) (by omega), Int.add_zero]; exact it_mid N1 N2
  have HB : Hid (it (it n + it x) = P) := by show _ = _; rw [hN, ex, hP]
  have HC : Hid (it (it P + it y) = Q) := by show _ = _; rw [it_mid P0.1 P0.2, ey]; exact pq.1
  have HD : Hid (it (it n + it (y)) = Q) := by show _ = _; rw [hN, it_mid (n := y) (by omega) (by omega)]; exact hQ
  have HE : Hid (it (it n + it 4611686018427387904) = 1099511627776) := by show _ = _; rw [hN, it_big (n := 4611686018427387904) (by omega)]; exact it_top (by omega)
  have NQ : N ≤ Q := pq.2
  clear hN ex ey hP hQ pq P0
  go_enter Try.func6, Try.ntmps6
  go_wp2_with fail
  refine (within_any a (-5) 549755813888 (by omega) (by omega) (by omega) w).mono ?_
  rintro e w1 ⟨rfl, rfl⟩
  rw [Hx.out]
  go_wp2_with fail
  refine (within_any b (-5) 549755813888 (by omega) (by omega) (by omega) w).mono ?_
  rintro e w1 ⟨rfl, rfl⟩
  rw [Hy.out]
  go_wp2_with fail
  refine (later_c n 0 N HA.out w).mono ?_
  rintro e w1 ⟨rfl, rfl⟩
  go_wp2_with fail
  refine (later_c n x P HB.out w).mono ?_
  rintro e w1 ⟨rfl, rfl⟩
  go_wp2_with fail
  refine (later_c P y Q HC.out w).mono ?_
  rintro e w1 ⟨rfl, rfl⟩
  go_wp2_with fail
  refine (later_c n (y) Q HD.out w).mono ?_
  rintro e w1 ⟨rfl, rfl⟩
  go_wp2_with fail
  refine (later_c n 4611686018427387904 1099511627776 HE.out w).mono ?_
  rintro e w1 ⟨rfl, rfl⟩
  go_wp2_with fail
  refine (runs_any w).mono ?_
  rintro e w1 ⟨rfl, rfl⟩
  go_wp2
  go_ret
  exact ⟨rfl, rfl⟩
set_option maxRecDepth 100000 in
set_option maxHeartbeats 1000000 in
theorem later_pos_neg (n a b x y : Int) (Hx : Hid (wi a (-5) 549755813888 = x)) (Hy : Hid (wi b (-5) 549755813888 = y)) (hx1 : -5 ≤ x) (hx2 : x ≤ 549755813888) (hy1 : -5 ≤ y) (hy2 : y ≤ 549755813888) (hx : 0 ≤ x) (hy : y < 0) (w : World) : Calls Try.prog 6 #[.int .i64 n, .int .i64 a, .int .i64 b] w fun e w' => e = .returned (.bool true) ∧ w = w' := by
  obtain ⟨N1, N2⟩ := it_bd n
  obtain ⟨N, hN⟩ : ∃ N, it n = N := ⟨_, rfl⟩
  rw [hN] at N1 N2
  have ex : it x = x := it_mid hx (by omega)
  have ey : it y = 0 := it_neg hy
  obtain ⟨P, hP⟩ : ∃ P, it (N + x) = P := ⟨_, rfl⟩
  obtain ⟨Q, hQ⟩ : ∃ Q, it (N + (x)) = Q := ⟨_, rfl⟩
  have P0 := it_bd (N + x)
  rw [hP] at P0
  have pq : it (P + 0) = Q ∧ N ≤ Q := by
    have NN : N ≤ 1099511627776 := N2
    by_cases k1 : N + x ≤ 1099511627776
    · have p1 := it_mid (n := N + x) (by omega) k1
      have p2 : P = N + x := by omega
      rw [p2, ← hQ, show N + x + 0 = N + (x) by omega]
      refine ⟨rfl, ?_⟩
      by_cases k2 : N + (x) ≤ 1099511627776
      · rw [it_mid (by omega) k2]; omega
      · rw [it_top (by omega)]; omega
    · have p1 := it_top (n := N + x) (by omega)
      have p2 : P = 1099511627776 := by omega
      rw [p2, ← hQ, it_top (n := N + (x)) (by omega), it_top (n := 1099511627776 + 0) (by omega)]
      exact ⟨rfl, NN⟩
  have HA : Hid (it (it n + it 0) = N) := by show _ = _; rw [hN, it_mid (n := 0) (by omega) (by omega), Int.add_zero]; exact it_mid N1 N2
  have HB : Hid (it (it n + it x) = P) := by show _ = _; rw [hN, ex, hP]
  have HC : Hid (it (it P + it y) = Q) := by show _ = _; rw [it_mid P0.1 P0.2, ey]; exact pq.1
  have HD : Hid (it (it n + it (x)) = Q) := by show _ = _; rw [hN, it_mid (n := x) (by omega) (by omega)]; exact hQ
  have HE : Hid (it (it n + it 4611686018427387904) = 1099511627776) := by show _ = _; rw [hN, it_big (n := 4611686018427387904) (by omega)]; exact it_top (by omega)
  have NQ : N ≤ Q := pq.2
  clear hN ex ey hP hQ pq P0
  go_enter Try.func6, Try.ntmps6
  go_wp2_with fail
  refine (within_any a (-5) 549755813888 (by omega) (by omega) (by omega) w).mono ?_
  rintro e w1 ⟨rfl, rfl⟩
  rw [Hx.out]
  go_wp2_with fail
  refine (within_any b (-5) 549755813888 (by omega) (by omega) (by omega) w).mono ?_
  rintro e w1 ⟨rfl, rfl⟩
  rw [Hy.out]
  go_wp2_with fail
  refine (later_c n 0 N HA.out w).mono ?_
  rintro e w1 ⟨rfl, rfl⟩
  go_wp2_with fail
  refine (later_c n x P HB.out w).mono ?_
  rintro e w1 ⟨rfl, rfl⟩
  go_wp2_with fail
  refine (later_c P y Q HC.out w).mono ?_
  rintro e w1 ⟨rfl, rfl⟩
  go_wp2_with fail
  refine (later_c n (x) Q HD.out w).mono ?_
  rintro e w1 ⟨rfl, rfl⟩
  go_wp2_with fail
  refine (later_c n 4611686018427387904 1099511627776 HE.out w).mono ?_
  rintro e w1 ⟨rfl, rfl⟩
  go_wp2_with fail
  refine (runs_any w).mono ?_
  rintro e w1 ⟨rfl, rfl⟩
  go_wp2
  go_ret
  exact ⟨rfl, rfl⟩
set_option maxRecDepth 100000 in
set_option maxHeartbeats 1000000 in
theorem later_pos_pos (n a b x y : Int) (Hx : Hid (wi a (-5) 549755813888 = x)) (Hy : Hid (wi b (-5) 549755813888 = y)) (hx1 : -5 ≤ x) (hx2 : x ≤ 549755813888) (hy1 : -5 ≤ y) (hy2 : y ≤ 549755813888) (hx : 0 ≤ x) (hy : 0 ≤ y) (w : World) : Calls Try.prog 6 #[.int .i64 n, .int .i64 a, .int .i64 b] w fun e w' => e = .returned (.bool true) ∧ w = w' := by
  obtain ⟨N1, N2⟩ := it_bd n
  obtain ⟨N, hN⟩ : ∃ N, it n = N := ⟨_, rfl⟩
  rw [hN] at N1 N2
  have ex : it x = x := it_mid hx (by omega)
  have ey : it y = y := it_mid hy (by omega)
  obtain ⟨P, hP⟩ : ∃ P, it (N + x) = P := ⟨_, rfl⟩
  obtain ⟨Q, hQ⟩ : ∃ Q, it (N + (x + y)) = Q := ⟨_, rfl⟩
  have P0 := it_bd (N + x)
  rw [hP] at P0
  have pq : it (P + y) = Q ∧ N ≤ Q := by
    have NN : N ≤ 1099511627776 := N2
    by_cases k1 : N + x ≤ 1099511627776
    · have p1 := it_mid (n := N + x) (by omega) k1
      have p2 : P = N + x := by omega
      rw [p2, ← hQ, show N + x + y = N + (x + y) by omega]
      refine ⟨rfl, ?_⟩
      by_cases k2 : N + (x + y) ≤ 1099511627776
      · rw [it_mid (by omega) k2]; omega
      · rw [it_top (by omega)]; omega
    · have p1 := it_top (n := N + x) (by omega)
      have p2 : P = 1099511627776 := by omega
      rw [p2, ← hQ, it_top (n := N + (x + y)) (by omega), it_top (n := 1099511627776 + y) (by omega)]
      exact ⟨rfl, NN⟩
  have HA : Hid (it (it n + it 0) = N) := by show _ = _; rw [hN, it_mid (n := 0) (by omega) (by omega), Int.add_zero]; exact it_mid N1 N2
  have HB : Hid (it (it n + it x) = P) := by show _ = _; rw [hN, ex, hP]
  have HC : Hid (it (it P + it y) = Q) := by show _ = _; rw [it_mid P0.1 P0.2, ey]; exact pq.1
  have HD : Hid (it (it n + it (x + y)) = Q) := by show _ = _; rw [hN, it_mid (n := x + y) (by omega) (by omega)]; exact hQ
  have HE : Hid (it (it n + it 4611686018427387904) = 1099511627776) := by show _ = _; rw [hN, it_big (n := 4611686018427387904) (by omega)]; exact it_top (by omega)
  have NQ : N ≤ Q := pq.2
  clear hN ex ey hP hQ pq P0
  go_enter Try.func6, Try.ntmps6
  go_wp2_with fail
  refine (within_any a (-5) 549755813888 (by omega) (by omega) (by omega) w).mono ?_
  rintro e w1 ⟨rfl, rfl⟩
  rw [Hx.out]
  go_wp2_with fail
  refine (within_any b (-5) 549755813888 (by omega) (by omega) (by omega) w).mono ?_
  rintro e w1 ⟨rfl, rfl⟩
  rw [Hy.out]
  go_wp2_with fail
  refine (later_c n 0 N HA.out w).mono ?_
  rintro e w1 ⟨rfl, rfl⟩
  go_wp2_with fail
  refine (later_c n x P HB.out w).mono ?_
  rintro e w1 ⟨rfl, rfl⟩
  go_wp2_with fail
  refine (later_c P y Q HC.out w).mono ?_
  rintro e w1 ⟨rfl, rfl⟩
  go_wp2_with fail
  refine (later_c n (x + y) Q HD.out w).mono ?_
  rintro e w1 ⟨rfl, rfl⟩
  go_wp2_with fail
  refine (later_c n 4611686018427387904 1099511627776 HE.out w).mono ?_
  rintro e w1 ⟨rfl, rfl⟩
  go_wp2_with fail
  refine (runs_any w).mono ?_
  rintro e w1 ⟨rfl, rfl⟩
  go_wp2
  go_ret
  exact ⟨rfl, rfl⟩
theorem later_walk (n a b : Int) (w : World) : Calls Try.prog 6 #[.int .i64 n, .int .i64 a, .int .i64 b] w fun e w' => e = .returned (.bool true) ∧ w = w' := by
  obtain ⟨x1, x2⟩ := wi_bd a (-5) 549755813888 (by omega)
  obtain ⟨y1, y2⟩ := wi_bd b (-5) 549755813888 (by omega)
  rcases Int.lt_or_le (wi a (-5) 549755813888) 0 with h | h <;> rcases Int.lt_or_le (wi b (-5) 549755813888) 0 with g | g
  · exact later_neg_neg n a b _ _ rfl rfl x1 x2 y1 y2 h g w
  · exact later_neg_pos n a b _ _ rfl rfl x1 x2 y1 y2 h g w
  · exact later_pos_neg n a b _ _ rfl rfl x1 x2 y1 y2 h g w
  · exact later_pos_pos n a b _ _ rfl rfl x1 x2 y1 y2 h g w
end Go.Proofs.Ytgfibddogcnilaa
