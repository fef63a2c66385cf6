/-
  Requests: two requests held against each other; noreply behind a line, plain.
-/
import Derived.Test.YtedbklipbfbmoaaDoorRuns
namespace Go.Proofs.YtedbklipbfbmoaaDoor
open Go.RowKit

set_option maxRecDepth 100000 in
set_option maxHeartbeats 2000000 in
theorem reqs_any (V f x b c D : Int) (q : Bool) (ks : List B) (a1 a2 : Option Addr) (n1 n2 c1 c2 : Nat) (hl : ks.length ≤ 100000) (w : World) (h1 : Strs w (.slice a1 n1 c1) ks) (h2 : Strs w (.slice a2 n2 c2) ks) :
    Calls Tryd.prog 26 #[.agg #[.int .i64 V, .slice a1 n1 c1, .int .i64 f, .int .i64 x, .int .i64 b, .int .i64 c, .int .u64 D, .bool q, .string ⟨#[]⟩], .agg #[.int .i64 V, .slice a2 n2 c2, .int .i64 f, .int .i64 x, .int .i64 b, .int .i64 c, .int .u64 D, .bool q, .string ⟨#[]⟩]] w fun e w' => e = .returned (.bool true) ∧ Below w.heap.size w w' := by
  obtain ⟨A, hA⟩ : ∃ A : List Value, A = [.int .i64 V, .slice a1 n1 c1, .int .i64 f, .int .i64 x, .int .i64 b, .int .i64 c, .int .u64 D, .bool q, .string ⟨#[]⟩] := ⟨_, rfl⟩
  obtain ⟨B, hB⟩ : ∃ B : List Value, B = [.int .i64 V, .slice a2 n2 c2, .int .i64 f, .int .i64 x, .int .i64 b, .int .i64 c, .int .u64 D, .bool q, .string ⟨#[]⟩] := ⟨_, rfl⟩
  have b2 := alloc2_up w (.cells A.toArray 30) (.cells B.toArray 30)
  have l2 : ((w.alloc (.cells A.toArray 30)).alloc (.cells B.toArray 30)).rangeAt (w.heap.size + 1) 0 B := by
    have := lay_new (w.alloc (.cells A.toArray 30)) B
    rwa [size_alloc] at this
  have l1 : ((w.alloc (.cells A.toArray 30)).alloc (.cells B.toArray 30)).rangeAt w.heap.size 0 A := lay_up ((Below.refl _ _).alloc (Nat.le_refl _) _) (lay_new w A)
  have SM := fun hs => same_any ks a1 a2 n1 n2 c1 c2 hl ((w.alloc (.cells A.toArray 30)).alloc (.cells B.toArray 30)) (h1.below b2) hs
  have SM := SM (h2.below b2)
  have HA := Lib.hid hA
  have HB := Lib.hid hB
  have H2 := Lib.hid b2
  have L1 := Lib.hid l1
  have L2 := Lib.hid l2
  rw [hA, hB] at SM H2 L1 L2
  clear hA hB b2 l1 l2 h1 h2 HA HB
  have qq : (q == q) = true := by simp
  go_enter Tryd.func26, Tryd.ntmps26
  go_wp2_with fail
  refine SM.mono ?_
  rintro e w3 ⟨rfl, b3⟩
  have m1 := lay_up b3 L1.out
  have m2 := lay_up b3 L2.out
  have HB3 : Hid (Below w.heap.size w w3) := Lib.hid (H2.out.trans (b3.mono H2.out.size))
  have x2 : w3.cell? ⟨w.heap.size, 2, none⟩ = some (.int .i64 f) := m1 2 _ rfl
  have x3 : w3.cell? ⟨w.heap.size, 3, none⟩ = some (.int .i64 x) := m1 3 _ rfl
  have x4 : w3.cell? ⟨w.heap.size, 4, none⟩ = some (.int .i64 b) := m1 4 _ rfl
  have x5 : w3.cell? ⟨w.heap.size, 5, none⟩ = some (.int .i64 c) := m1 5 _ rfl
  have x6 : w3.cell? ⟨w.heap.size, 6, none⟩ = some (.int .u64 D) := m1 6 _ rfl
  have x7 : w3.cell? ⟨w.heap.size, 7, none⟩ = some (.bool q) := m1 7 _ rfl
  have x8 : w3.cell? ⟨w.heap.size, 8, none⟩ = some (.string ⟨#[]⟩) := m1 8 _ rfl
  have y2 : w3.cell? ⟨w.heap.size + 1, 2, none⟩ = some (.int .i64 f) := m2 2 _ rfl
  have y3 : w3.cell? ⟨w.heap.size + 1, 3, none⟩ = some (.int .i64 x) := m2 3 _ rfl
  have y4 : w3.cell? ⟨w.heap.size + 1, 4, none⟩ = some (.int .i64 b) := m2 4 _ rfl
  have y5 : w3.cell? ⟨w.heap.size + 1, 5, none⟩ = some (.int .i64 c) := m2 5 _ rfl
  have y6 : w3.cell? ⟨w.heap.size + 1, 6, none⟩ = some (.int .u64 D) := m2 6 _ rfl
  have y7 : w3.cell? ⟨w.heap.size + 1, 7, none⟩ = some (.bool q) := m2 7 _ rfl
  have y8 : w3.cell? ⟨w.heap.size + 1, 8, none⟩ = some (.string ⟨#[]⟩) := m2 8 _ rfl
  clear m1 m2 b3 L1 L2 H2 SM
  go_wp2_with fail
  go_ret
  exact ⟨rfl, HB3.out⟩

theorem fm_hush : ∀ v, v < 18 → v ≠ 0 → v ≠ 1 → v ≠ 2 → v ≠ 14 → v ≠ 16 → v ≠ 17 → (fm v).hush = true
  | 0, _, h, _, _, _, _, _ => absurd rfl h
  | 1, _, _, h, _, _, _, _ => absurd rfl h
  | 2, _, _, _, h, _, _, _ => absurd rfl h
  | 3, _, _, _, _, _, _, _ => rfl
  | 4, _, _, _, _, _, _, _ => rfl
  | 5, _, _, _, _, _, _, _ => rfl
  | 6, _, _, _, _, _, _, _ => rfl
  | 7, _, _, _, _, _, _, _ => rfl
  | 8, _, _, _, _, _, _, _ => rfl
  | 9, _, _, _, _, _, _, _ => rfl
  | 10, _, _, _, _, _, _, _ => rfl
  | 11, _, _, _, _, _, _, _ => rfl
  | 12, _, _, _, _, _, _, _ => rfl
  | 13, _, _, _, _, _, _, _ => rfl
  | 14, _, _, _, _, h, _, _ => absurd rfl h
  | 15, _, _, _, _, _, _, _ => rfl
  | 16, _, _, _, _, _, h, _ => absurd rfl h
  | 17, _, _, _, _, _, _, h => absurd rfl h
  | n + 18, h, _, _, _, _, _, _ => absurd h (by omega)
theorem lin_quiet {v : Nat} {l : List B} {r : Rq} (hv : v < 18) (h : lin v l = (r, 0)) (hq : r.quiet = false) (h1 : r.verb ≠ 1) (h2 : r.verb ≠ 2) (h14 : r.verb ≠ 14) (h16 : r.verb ≠ 16) (h17 : r.verb ≠ 17) : lin v (l ++ [noreply]) = ({ r with quiet := true }, 0) := by
  have hl : l.length + 1 = (l ++ [noreply]).length := by simp
  unfold lin at h ⊢
  split at h
  · simp at h
  · rename_i hv0
    rw [if_neg hv0]
    split at h
    · simp at h
    · rename_i hc
      split at h
      · simp at h
      · rename_i r0 hr0
        have e := congrArg Prod.fst h
        simp only at e
        subst e
        simp only at hq h1 h2 h14 h16 h17
        have ha : args (fm v) l = l := by unfold args; rw [hq]; rfl
        rw [ha] at hc hr0
        have hh : hushed (fm v) (l ++ [noreply]) = true := by
          unfold hushed
          rw [fm_hush v hv hv0 h1 h2 h14 h16 h17]
          have e1 : (l ++ [noreply]).getD ((l ++ [noreply]).length - 1) [] = noreply := by
            rw [← hl, Nat.add_sub_cancel, List.getD_eq_getElem?_getD, List.getElem?_append_right (Nat.le_refl _)]
            simp
          rw [e1, ← hl]
          simp only [Bool.true_and, Bool.and_eq_true, decide_eq_true_eq, and_true]
          omega
        have ha2 : args (fm v) (l ++ [noreply]) = l := by
          unfold args; rw [hh, ← hl]; simp
        rw [ha2, if_neg hc, hr0, hh]
theorem quiet_line {s : B} {r : Rq} (h : line s = (r, 0)) (hq : r.quiet = false) (h1 : r.verb ≠ 1) (h2 : r.verb ≠ 2) (h14 : r.verb ≠ 14) (h16 : r.verb ≠ 16) (h17 : r.verb ≠ 17) : line (s ++ 32 :: noreply) = ({ r with quiet := true }, 0) ∧ split s ≠ [] := by
  have hn : split noreply = [noreply] := split_word _ (by unfold nobl; decide) (by decide)
  unfold line at h ⊢
  rw [split_app, hn]
  split at h
  · simp at h
  · rename_i wd l hs
    refine ⟨?_, by rw [hs]; simp⟩
    rw [hs]
    exact lin_quiet (vb_lt wd) h hq h1 h2 h14 h16 h17
end Go.Proofs.YtedbklipbfbmoaaDoor
