/-
  RIGHT of the reference: its contract, for rows of whatever lengths.
-/
import Derived.Test.YtmhhegkpkncebaaSquare
namespace Go.Proofs.Ytmhhegkpkncebaa
open Go.RowKit

/-- m rows lie at a: row i has L i bytes, A i's numbers. -/
def MatL (w : World) (a : Option Addr) (A : Nat → Nat → Nat) (L : Nat → Nat) (m : Nat) : Prop :=
  m = 0 ∨ ∃ p off, a = some ⟨p, off, none⟩ ∧ ∀ i, i < m → ∃ ra rc, w.cell? ⟨p, off + i, none⟩ = some (.slice ra (L i) rc) ∧ L i ≤ rc ∧ RowF w ra (A i) (L i)
/-- Is it a matrix? -/
def Good (L : Nat → Nat) (m : Nat) : Prop := 1 ≤ m ∧ m ≤ 12 ∧ ∀ i, i < m → L i = L 0 ∧ 1 ≤ L i ∧ L i ≤ 12

set_option maxHeartbeats 1000000 in
set_option maxRecDepth 100000 in
theorem rright_no0 (a : Option Addr) (m c : Nat) (h : m = 0 ∨ 12 < m) (w : World) :
    Calls Try.prog 47 #[.slice a m c] w fun e w' => e = .returned (.bool false) ∧ w' = w := by
  by_cases h0 : m = 0
  · subst h0
    go_enter Try.func47, Try.ntmps47
    go_wp2
    go_ret
    exact ⟨rfl, rfl⟩
  · have i1 : ((m : Int) == 0) = false := by simp; omega
    have i2 : (12 : Int) < (m : Int) := by omega
    go_enter Try.func47, Try.ntmps47
    go_wp2
    go_ret
    exact ⟨rfl, rfl⟩

set_option maxHeartbeats 2000000 in
set_option maxRecDepth 100000 in
theorem rright_any (a : Option Addr) (m c : Nat) (A : Nat → Nat → Nat) (L : Nat → Nat) (b : Bool) (hm1 : 1 ≤ m) (hm : m ≤ 12) (hL : ∀ i, i < m → L i ≤ 140737488351232) (hb : b = true ↔ Good L m) (w : World) (ra : MatL w a A L m) :
    Calls Try.prog 47 #[.slice a m c] w fun e w' => e = .returned (.bool b) ∧ ∃ k, w' = w.drewN k := by
  have HB : Hid (b = true ↔ Good L m) := hb
  clear hb
  obtain ⟨p, o, rfl, q1⟩ : ∃ p off, a = some ⟨p, off, none⟩ ∧ ∀ i, i < m → ∃ ra rc, w.cell? ⟨p, off + i, none⟩ = some (.slice ra (L i) rc) ∧ L i ≤ rc ∧ RowF w ra (A i) (L i) := by
    rcases ra with r | r
    · exfalso; omega
    · exact r
  have Q1 : Hid (∀ i, i < m → ∃ ra rc, w.cell? ⟨p, o + i, none⟩ = some (.slice ra (L i) rc) ∧ L i ≤ rc ∧ RowF w ra (A i) (L i)) := q1
  have HL : Hid (∀ i, i < m → L i ≤ 140737488351232) := hL
  clear q1 ra hL
  have i1 : ((m : Int) == 0) = false := by simp; omega
  have i2 : decide ((12 : Int) < (m : Int)) = false := by simp; omega
  go_enter Try.func47, Try.ntmps47
  go_wp2_with fail
  go_loopw [3] (fun i wr => ∃ j k : Nat, j ≤ m ∧ i = .int .i64 (j : Int) ∧ Hid (∀ t, t < j → L t = L 0 ∧ 1 ≤ L t ∧ L t ≤ 12) ∧ Hid (wr = w.drewN k)) (fun i _ => m - (intOf i).toNat)
  case atStart => exact ⟨0, 0, by omega, rfl, fun t ht => by omega, rfl⟩
  case round =>
    obtain ⟨j, k, hj, rfl, HJ, HW⟩ := hrel
    by_cases hlt : j < m
    · obtain ⟨x, xc, h1, _, _⟩ := Q1.out j hlt
      obtain ⟨y, yc, h4, _, _⟩ := Q1.out 0 (by omega)
      obtain ⟨lj, hlj⟩ : ∃ v, L j = v := ⟨_, rfl⟩
      obtain ⟨l0, hl0⟩ : ∃ v, L 0 = v := ⟨_, rfl⟩
      rw [hlj] at h1
      rw [hl0, Nat.add_zero] at h4
      have b1 := HL.out j hlt
      have b2 := HL.out 0 (by omega)
      rw [hlj] at b1
      rw [hl0] at b2
      have c1 : wr.cell? ⟨p, o + j, none⟩ = some (.slice x lj xc) := (by rw [HW.out]; exact h1)
      have c2 : wr.cell? ⟨p, o, none⟩ = some (.slice y l0 yc) := (by rw [HW.out]; exact h4)
      have H1 : Hid (L j = lj) := hlj
      have H2 : Hid (L 0 = l0) := hl0
      clear h1 h4 hlj hl0
      have hi1 : (j : Int) < (m : Int) := by omega
      have hi2 : (0 : Int) < (m : Int) := by omega
      have bad : ¬ (lj = l0 ∧ 1 ≤ lj ∧ lj ≤ 12) → Hid (b = false) := fun h => by
        show b = false
        cases hbb : b with
        | false => rfl
        | true =>
          exfalso
          have := (HB.out.1 hbb).2.2 j hlt
          rw [H1.out, H2.out] at this
          exact h this
      by_cases e1 : lj = l0
      · subst e1
        have n1 : ((lj : Int) != (lj : Int)) = false := by simp
        by_cases e2 : lj = 0
        · have n2 : ((lj : Int) == 0) = true := by simp; omega
          have F := bad (by omega)
          clear bad
          go_wp2
          go_quiet (fail)
          go_wp2
          go_ret
          exact ⟨by rw [F.out]; rfl, k + nq, by rw [HW.out, World.drewN_drewN]⟩
        · have n2 : ((lj : Int) == 0) = false := by simp; omega
          by_cases e3 : 12 < lj
          · have n3 : (12 : Int) < (lj : Int) := by omega
            have F := bad (by omega)
            clear bad
            go_wp2
            go_quiet (fail)
            go_wp2
            go_ret
            exact ⟨by rw [F.out]; rfl, k + nq, by rw [HW.out, World.drewN_drewN]⟩
          · have n3 : decide ((12 : Int) < (lj : Int)) = false := by simp; omega
            have HJ' : Hid (∀ t, t < j + 1 → L t = L 0 ∧ 1 ≤ L t ∧ L t ≤ 12) := fun t ht => by
              by_cases e : t = j
              · rw [e, H1.out, H2.out]; omega
              · exact HJ.out t (by omega)
            clear bad HJ
            go_wp2
            go_quiet (fail)
            go_wp2
            go_roundw
            case rel => exact ⟨j + 1, k + nq, by omega, by go_num, HJ', by show _ = _; rw [HW.out, World.drewN_drewN]⟩
            case measure => simp [intOf]; omega
      · have n1 : ((lj : Int) != (l0 : Int)) = true := by simp; omega
        have F := bad (fun h => e1 h.1)
        clear bad
        go_wp2
        go_quiet (fail)
        go_wp2
        go_ret
        exact ⟨by rw [F.out]; rfl, k + nq, by rw [HW.out, World.drewN_drewN]⟩
    · have F : Hid (b = true) := HB.out.2 ⟨hm1, hm, fun t ht => HJ.out t (by omega)⟩
      go_wp2
      go_ret
      exact ⟨by rw [F.out]; rfl, k, HW.out⟩
end Go.Proofs.Ytmhhegkpkncebaa
