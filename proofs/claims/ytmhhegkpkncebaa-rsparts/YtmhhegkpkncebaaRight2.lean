/-
  FITS, RIGHT of the program: their contracts, for rows of whatever lengths.
-/
import Derived.Test.YtmhhegkpkncebaaRefRight
namespace Go.Proofs.Ytmhhegkpkncebaa
open Go.RowKit

theorem fits_yes (n : Int) (h1 : 1 ≤ n) (h2 : n ≤ 12) (w : World) :
    Calls Try.prog 48 #[.int .i64 n] w fun e w' => e = .returned (.bool true) ∧ w = w' := by
  go_enter Try.func48, Try.ntmps48
  go_wp2
  go_ret
  exact ⟨rfl, rfl⟩
theorem fits_no (n : Int) (h : n < 1 ∨ 12 < n) (w : World) :
    Calls Try.prog 48 #[.int .i64 n] w fun e w' => e = .returned (.bool false) ∧ w = w' := by
  by_cases h1 : 1 ≤ n
  · have i2 : decide (n ≤ (12 : Int)) = false := by simp; omega
    clear h
    go_enter Try.func48, Try.ntmps48
    go_wp2
    go_ret
    exact ⟨rfl, rfl⟩
  · have i2 : decide ((1 : Int) ≤ n) = false := by simp; omega
    clear h
    go_enter Try.func48, Try.ntmps48
    go_wp2
    go_ret
    exact ⟨rfl, rfl⟩

set_option maxHeartbeats 2000000 in
set_option maxRecDepth 100000 in
theorem right_any (a : Option Addr) (m c : Nat) (A : Nat → Nat → Nat) (L : Nat → Nat) (b : Bool) (hm : m ≤ 140737488351232) (hL : ∀ i, i < m → L i ≤ 140737488351232) (hb : b = true ↔ Good L m) (w : World) (ra : MatL w a A L m) :
    Calls Try.prog 56 #[.slice a m c] w fun e w' => e = .returned (.bool b) ∧ w = w' := by
  have HB : Hid (b = true ↔ Good L m) := hb
  clear hb
  have no : ¬ Good L m → b = false := fun h => by
    cases hbb : b with
    | false => rfl
    | true => exact absurd (HB.out.1 hbb) h
  by_cases hm1 : 1 ≤ m ∧ m ≤ 12
  · obtain ⟨hm1, hm2⟩ := hm1
    obtain ⟨p, o, rfl, q1⟩ : ∃ p off, a = some ⟨p, off, none⟩ ∧ ∀ i, i < m → ∃ ra rc, w.cell? ⟨p, off + i, none⟩ = some (.slice ra (L i) rc) ∧ L i ≤ rc ∧ RowF w ra (A i) (L i) := by
      rcases ra with r | r
      · exfalso; omega
      · exact r
    have Q1 : Hid (∀ i, i < m → ∃ ra rc, w.cell? ⟨p, o + i, none⟩ = some (.slice ra (L i) rc) ∧ L i ≤ rc ∧ RowF w ra (A i) (L i)) := q1
    have HL : Hid (∀ i, i < m → L i ≤ 140737488351232) := hL
    have HN : Hid (¬ Good L m → b = false) := no
    clear q1 ra hL no
    obtain ⟨y, yc, h4, _, _⟩ := Q1.out 0 (by omega)
    obtain ⟨l0, hl0⟩ : ∃ v, L 0 = v := ⟨_, rfl⟩
    rw [hl0, Nat.add_zero] at h4
    have b2 := HL.out 0 (by omega)
    rw [hl0] at b2
    have H2 : Hid (L 0 = l0) := hl0
    clear hl0
    have i0 : (0 : Int) < (m : Int) := by omega
    by_cases hl : 1 ≤ l0 ∧ l0 ≤ 12
    · go_enter Try.func56, Try.ntmps56
      go_wp2_with fail
      refine (fits_yes (m : Int) (by omega) (by omega) _).mono ?_
      rintro e w2 ⟨rfl, rfl⟩
      go_wp2_with fail
      refine (fits_yes (l0 : Int) (by omega) (by omega) _).mono ?_
      rintro e w2 ⟨rfl, rfl⟩
      go_wp2_with fail
      go_loopw [19] (fun i wr => ∃ j : Nat, j ≤ m ∧ i = .int .i64 (j : Int) ∧ Hid (∀ t, t < j → L t = L 0 ∧ 1 ≤ L t ∧ L t ≤ 12) ∧ w = wr) (fun i _ => m - (intOf i).toNat)
      case atStart => exact ⟨0, by omega, rfl, fun t ht => by omega, rfl⟩
      case round =>
        obtain ⟨j, hj, rfl, HJ, rfl⟩ := hrel
        by_cases hlt : j < m
        · obtain ⟨x, xc, h1, _, _⟩ := Q1.out j hlt
          obtain ⟨lj, hlj⟩ : ∃ v, L j = v := ⟨_, rfl⟩
          rw [hlj] at h1
          have b1 := HL.out j hlt
          rw [hlj] at b1
          have H1 : Hid (L j = lj) := hlj
          clear hlj
          have hi1 : (j : Int) < (m : Int) := by omega
          by_cases e1 : lj = l0
          · subst e1
            have n1 : ((lj : Int) != (lj : Int)) = false := by simp
            have HJ' : Hid (∀ t, t < j + 1 → L t = L 0 ∧ 1 ≤ L t ∧ L t ≤ 12) := fun t ht => by
              by_cases e : t = j
              · rw [e, H1.out, H2.out]; omega
              · exact HJ.out t (by omega)
            clear HJ
            go_wp2
            go_roundw
            case rel => exact ⟨j + 1, by omega, by go_num, HJ', by trivial⟩
            case measure => simp [intOf]; omega
          · have n1 : ((lj : Int) != (l0 : Int)) = true := by simp; omega
            have F : Hid (b = false) := HN.out (fun h => by
              have := h.2.2 j hlt
              rw [H1.out, H2.out] at this
              exact e1 this.1)
            go_wp2
            go_ret
            exact ⟨by rw [F.out]; rfl, rfl⟩
        · have F : Hid (b = true) := HB.out.2 ⟨hm1, hm2, fun t ht => HJ.out t (by omega)⟩
          go_wp2
          go_ret
          exact ⟨by rw [F.out]; rfl, rfl⟩
    · have F : Hid (b = false) := HN.out (fun h => by
        have := h.2.2 0 (by omega)
        rw [H2.out] at this
        exact hl ⟨this.2.1, this.2.2⟩)
      go_enter Try.func56, Try.ntmps56
      go_wp2_with fail
      refine (fits_yes (m : Int) (by omega) (by omega) _).mono ?_
      rintro e w2 ⟨rfl, rfl⟩
      go_wp2_with fail
      refine (fits_no (l0 : Int) (by omega) _).mono ?_
      rintro e w2 ⟨rfl, rfl⟩
      go_wp2_with fail
      go_ret
      exact ⟨by rw [F.out]; rfl, rfl⟩
  · have F : Hid (b = false) := no (fun h => hm1 ⟨h.1, h.2.1⟩)
    clear no ra
    go_enter Try.func56, Try.ntmps56
    go_wp2_with fail
    refine (fits_no (m : Int) (by omega) _).mono ?_
    rintro e w2 ⟨rfl, rfl⟩
    go_wp2_with fail
    go_ret
    exact ⟨by rw [F.out]; rfl, rfl⟩
/-- A matrix is right. -/
theorem right_yes (a : Option Addr) (m n c : Nat) (A : Nat → Nat → Nat) (hm1 : 1 ≤ m) (hm : m ≤ 12) (hn1 : 1 ≤ n) (hn : n ≤ 12) (w : World) (ra : MatF w a A m n) :
    Calls Try.prog 56 #[.slice a m c] w fun e w' => e = .returned (.bool true) ∧ w = w' :=
  right_any a m c A (fun _ => n) true (by omega) (fun _ _ => by omega) ⟨fun _ => ⟨hm1, hm, fun _ _ => ⟨rfl, hn1, hn⟩⟩, fun _ => rfl⟩ w ra
end Go.Proofs.Ytmhhegkpkncebaa
