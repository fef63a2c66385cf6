/-
  WHERE THERE IS NO ANSWER: Times, Invert, Cauchy of the program and of the reference say no.
-/
import Derived.Test.YtdinhkcdllmmkaaFew
import Derived.Test.YtdinhkcdllmmkaaRefTimes
namespace Go.Proofs.Ytdinhkcdllmmkaa
open Go.RowKit

theorem MatL.drewN {w : World} {a : Option Addr} {A : Nat → Nat → Nat} {L : Nat → Nat} {m : Nat} (h : MatL w a A L m) (k : Nat) : MatL (w.drewN k) a A L m := h
theorem MatL.at0 {w : World} {a : Option Addr} {A : Nat → Nat → Nat} {L : Nat → Nat} {m : Nat} (h : MatL w a A L m) (hm : 1 ≤ m) : ∃ p off ra rc, a = some ⟨p, off, none⟩ ∧ w.cell? ⟨p, off, none⟩ = some (.slice ra (L 0) rc) := by
  rcases h with h | ⟨p, off, e, hr⟩
  · exfalso; omega
  · obtain ⟨ra, rc, h1, _⟩ := hr 0 (by omega)
    exact ⟨p, off, ra, rc, e, h1⟩
theorem rright_full (a : Option Addr) (m c : Nat) (A : Nat → Nat → Nat) (L : Nat → Nat) (b : Bool) (hL : ∀ i, i < m → L i ≤ 140737488351232) (hb : b = true ↔ Good L m) (w : World) (ra : MatL w a A L m) :
    Calls Try.prog 22 #[.slice a m c] w fun e w' => e = .returned (.bool b) ∧ ∃ k, w' = w.drewN k := by
  by_cases h : m = 0 ∨ 12 < m
  · have hbf : b = false := by
      cases hbb : b with
      | false => rfl
      | true => have := hb.1 hbb; exfalso; have h1 := this.1; have h2 := this.2.1; omega
    subst hbf
    exact (rright_no0 a m c h w).mono fun e w' ⟨h1, h2⟩ => ⟨h1, 0, by rw [h2]; rfl⟩
  · exact rright_any a m c A L b (by omega) (by omega) hL hb w ra
theorem rright_yes' (a : Option Addr) (m c : Nat) (A : Nat → Nat → Nat) (L : Nat → Nat) (hL : ∀ i, i < m → L i ≤ 140737488351232) (hg : Good L m) (w : World) (ra : MatL w a A L m) :
    Calls Try.prog 22 #[.slice a m c] w fun e w' => e = .returned (.bool true) ∧ ∃ k, w' = w.drewN k := rright_full a m c A L true hL ⟨fun _ => hg, fun _ => rfl⟩ w ra
theorem rright_no' (a : Option Addr) (m c : Nat) (A : Nat → Nat → Nat) (L : Nat → Nat) (hL : ∀ i, i < m → L i ≤ 140737488351232) (hg : ¬ Good L m) (w : World) (ra : MatL w a A L m) :
    Calls Try.prog 22 #[.slice a m c] w fun e w' => e = .returned (.bool false) ∧ ∃ k, w' = w.drewN k := rright_full a m c A L false hL ⟨fun h => (by cases h), fun h => absurd h hg⟩ w ra
theorem right_yes' (a : Option Addr) (m c : Nat) (A : Nat → Nat → Nat) (L : Nat → Nat) (hL : ∀ i, i < m → L i ≤ 140737488351232) (hg : Good L m) (w : World) (ra : MatL w a A L m) :
    Calls Try.prog 21 #[.slice a m c] w fun e w' => e = .returned (.bool true) ∧ ∃ k, w' = w.drewN k :=
  (right_any a m c A L true (by have := hg.2.1; omega) hL ⟨fun _ => hg, fun _ => rfl⟩ w ra).mono fun e w' ⟨h1, h2⟩ => ⟨h1, 0, by rw [← h2]; rfl⟩
theorem right_no' (a : Option Addr) (m c : Nat) (A : Nat → Nat → Nat) (L : Nat → Nat) (hm : m ≤ 140737488351232) (hL : ∀ i, i < m → L i ≤ 140737488351232) (hg : ¬ Good L m) (w : World) (ra : MatL w a A L m) :
    Calls Try.prog 21 #[.slice a m c] w fun e w' => e = .returned (.bool false) ∧ ∃ k, w' = w.drewN k :=
  (right_any a m c A L false hm hL ⟨fun h => (by cases h), fun h => absurd h hg⟩ w ra).mono fun e w' ⟨h1, h2⟩ => ⟨h1, 0, by rw [← h2]; rfl⟩

set_option maxHeartbeats 1000000 in
theorem times_no (b : Nat) (a0 a1 : Option Addr) (m0 m1 c0 c1 : Nat) (A B : Nat → Nat → Nat) (L0 L1 : Nat → Nat) (hm0 : m0 ≤ 140737488351232) (hm1 : m1 ≤ 140737488351232) (h0 : ∀ i, i < m0 → L0 i ≤ 140737488351232) (h1 : ∀ i, i < m1 → L1 i ≤ 140737488351232) (h : ¬ (Good L0 m0 ∧ Good L1 m1 ∧ L0 0 = m1)) (w : World) (ra : MatL w a0 A L0 m0) (rb : MatL w a1 B L1 m1) :
    Calls Try.prog 17 #[.pointer (some ⟨b, 0, none⟩), .slice a0 m0 c0, .slice a1 m1 c1] w fun e w' => e = .returned (.tuple #[.slice none 0 0, .bool false]) ∧ ∃ k, w' = w.drewN k := by
  by_cases g0 : Good L0 m0
  · obtain ⟨pa, oa, xa, xc, rfl, z1⟩ := ra.at0 g0.1
    have i0 : (0 : Int) < (m0 : Int) := by have := g0.1; omega
    by_cases g1 : Good L1 m1
    · have hne : L0 0 ≠ m1 := fun e => h ⟨g0, g1, e⟩
      obtain ⟨l, hl⟩ : ∃ l, L0 0 = l := ⟨_, rfl⟩
      rw [hl] at z1 hne
      have nn : ((l : Int) != (m1 : Int)) = true := by simp; omega
      have hl' : l ≤ 140737488351232 := by rw [← hl]; exact h0 0 (by have := g0.1; omega)
      clear hl
      go_enter Try.func17, Try.ntmps17
      go_wp2_with fail
      refine (right_yes' _ m0 c0 A L0 h0 g0 _ ra).mono ?_
      rintro e w1 ⟨rfl, k1, rfl⟩
      go_wp2_with fail
      refine (right_yes' _ m1 c1 B L1 h1 g1 _ (rb.drewN k1)).mono ?_
      rintro e w2 ⟨rfl, k2, rfl⟩
      have z2 : (w.drewN (k1 + k2)).cell? ⟨pa, oa, none⟩ = some (.slice xa l xc) := z1
      go_wp2_with fail
      go_ret2
      exact ⟨rfl, _, rfl⟩
    · go_enter Try.func17, Try.ntmps17
      go_wp2_with fail
      refine (right_yes' _ m0 c0 A L0 h0 g0 _ ra).mono ?_
      rintro e w1 ⟨rfl, k1, rfl⟩
      go_wp2_with fail
      refine (right_no' _ m1 c1 B L1 hm1 h1 g1 _ (rb.drewN k1)).mono ?_
      rintro e w2 ⟨rfl, k2, rfl⟩
      go_wp2_with fail
      go_ret2
      exact ⟨rfl, _, rfl⟩
  · go_enter Try.func17, Try.ntmps17
    go_wp2_with fail
    refine (right_no' _ m0 c0 A L0 hm0 h0 g0 _ ra).mono ?_
    rintro e w1 ⟨rfl, k1, rfl⟩
    go_wp2_with fail
    go_ret2
    exact ⟨rfl, _, rfl⟩

set_option maxHeartbeats 1000000 in
theorem rtimes_no (a0 a1 : Option Addr) (m0 m1 c0 c1 : Nat) (A B : Nat → Nat → Nat) (L0 L1 : Nat → Nat) (hm0 : m0 ≤ 140737488351232) (_hm1 : m1 ≤ 140737488351232) (h0 : ∀ i, i < m0 → L0 i ≤ 140737488351232) (h1 : ∀ i, i < m1 → L1 i ≤ 140737488351232) (h : ¬ (Good L0 m0 ∧ Good L1 m1 ∧ L0 0 = m1)) (w : World) (ra : MatL w a0 A L0 m0) (rb : MatL w a1 B L1 m1) :
    Calls Try.prog 18 #[.slice a0 m0 c0, .slice a1 m1 c1] w fun e w' => e = .returned (.tuple #[.slice none 0 0, .bool false]) ∧ ∃ k, w' = w.drewN k := by
  by_cases g0 : Good L0 m0
  · obtain ⟨pa, oa, xa, xc, rfl, z1⟩ := ra.at0 g0.1
    have i0 : (0 : Int) < (m0 : Int) := by have := g0.1; omega
    by_cases g1 : Good L1 m1
    · have hne : L0 0 ≠ m1 := fun e => h ⟨g0, g1, e⟩
      obtain ⟨l, hl⟩ : ∃ l, L0 0 = l := ⟨_, rfl⟩
      rw [hl] at z1 hne
      have nn : ((l : Int) != (m1 : Int)) = true := by simp; omega
      have hl' : l ≤ 140737488351232 := by rw [← hl]; exact h0 0 (by have := g0.1; omega)
      clear hl
      go_enter Try.func18, Try.ntmps18
      go_wp2_with fail
      refine (rright_yes' _ m0 c0 A L0 h0 g0 _ ra).mono ?_
      rintro e w1 ⟨rfl, k1, rfl⟩
      go_wp2_with fail
      refine (rright_yes' _ m1 c1 B L1 h1 g1 _ (rb.drewN k1)).mono ?_
      rintro e w2 ⟨rfl, k2, rfl⟩
      have z2 : (w.drewN (k1 + k2)).cell? ⟨pa, oa, none⟩ = some (.slice xa l xc) := z1
      go_wp2_with fail
      go_ret2
      exact ⟨rfl, _, rfl⟩
    · go_enter Try.func18, Try.ntmps18
      go_wp2_with fail
      refine (rright_yes' _ m0 c0 A L0 h0 g0 _ ra).mono ?_
      rintro e w1 ⟨rfl, k1, rfl⟩
      go_wp2_with fail
      refine (rright_no' _ m1 c1 B L1 h1 g1 _ (rb.drewN k1)).mono ?_
      rintro e w2 ⟨rfl, k2, rfl⟩
      go_wp2_with fail
      go_ret2
      exact ⟨rfl, _, rfl⟩
  · go_enter Try.func18, Try.ntmps18
    go_wp2_with fail
    refine (rright_no' _ m0 c0 A L0 h0 g0 _ ra).mono ?_
    rintro e w1 ⟨rfl, k1, rfl⟩
    go_wp2_with fail
    go_ret2
    exact ⟨rfl, _, rfl⟩

set_option maxHeartbeats 1000000 in
set_option maxRecDepth 100000 in
theorem invert_no (b : Nat) (a0 : Option Addr) (m0 c0 : Nat) (A : Nat → Nat → Nat) (L0 : Nat → Nat) (hm0 : m0 ≤ 140737488351232) (h0 : ∀ i, i < m0 → L0 i ≤ 140737488351232) (h : ¬ (Good L0 m0 ∧ L0 0 = m0)) (w : World) (ra : MatL w a0 A L0 m0) :
    Calls Try.prog 10 #[.pointer (some ⟨b, 0, none⟩), .slice a0 m0 c0] w fun e w' => e = .returned (.tuple #[.slice none 0 0, .bool false]) ∧ ∃ k, w' = w.drewN k := by
  by_cases g0 : Good L0 m0
  · obtain ⟨pa, oa, xa, xc, rfl, z1⟩ := ra.at0 g0.1
    have i0 : (0 : Int) < (m0 : Int) := by have := g0.1; omega
    have hne : L0 0 ≠ m0 := fun e => h ⟨g0, e⟩
    obtain ⟨l, hl⟩ : ∃ l, L0 0 = l := ⟨_, rfl⟩
    rw [hl] at z1 hne
    have nn : ((m0 : Int) != (l : Int)) = true := by simp; omega
    have hl' : l ≤ 140737488351232 := by rw [← hl]; exact h0 0 (by have := g0.1; omega)
    clear hl
    go_enter Try.func10, Try.ntmps10
    go_wp2_with fail
    refine (right_yes' _ m0 c0 A L0 h0 g0 _ ra).mono ?_
    rintro e w1 ⟨rfl, k1, rfl⟩
    have z2 : (w.drewN k1).cell? ⟨pa, oa, none⟩ = some (.slice xa l xc) := z1
    go_wp2_with fail
    go_ret2
    exact ⟨rfl, _, rfl⟩
  · go_enter Try.func10, Try.ntmps10
    go_wp2_with fail
    refine (right_no' _ m0 c0 A L0 hm0 h0 g0 _ ra).mono ?_
    rintro e w1 ⟨rfl, k1, rfl⟩
    go_wp2_with fail
    go_ret2
    exact ⟨rfl, _, rfl⟩

set_option maxHeartbeats 1000000 in
set_option maxRecDepth 100000 in
theorem rinvert_no (a0 : Option Addr) (m0 c0 : Nat) (A : Nat → Nat → Nat) (L0 : Nat → Nat) (hm0 : m0 ≤ 140737488351232) (h0 : ∀ i, i < m0 → L0 i ≤ 140737488351232) (h : ¬ (Good L0 m0 ∧ L0 0 = m0)) (w : World) (ra : MatL w a0 A L0 m0) :
    Calls Try.prog 19 #[.slice a0 m0 c0] w fun e w' => e = .returned (.tuple #[.slice none 0 0, .bool false]) ∧ ∃ k, w' = w.drewN k := by
  by_cases g0 : Good L0 m0
  · obtain ⟨pa, oa, xa, xc, rfl, z1⟩ := ra.at0 g0.1
    have i0 : (0 : Int) < (m0 : Int) := by have := g0.1; omega
    have hne : L0 0 ≠ m0 := fun e => h ⟨g0, e⟩
    obtain ⟨l, hl⟩ : ∃ l, L0 0 = l := ⟨_, rfl⟩
    rw [hl] at z1 hne
    have nn : ((m0 : Int) != (l : Int)) = true := by simp; omega
    have hl' : l ≤ 140737488351232 := by rw [← hl]; exact h0 0 (by have := g0.1; omega)
    clear hl
    go_enter Try.func19, Try.ntmps19
    go_wp2_with fail
    refine (rright_yes' _ m0 c0 A L0 h0 g0 _ ra).mono ?_
    rintro e w1 ⟨rfl, k1, rfl⟩
    have z2 : (w.drewN k1).cell? ⟨pa, oa, none⟩ = some (.slice xa l xc) := z1
    go_wp2_with fail
    go_ret2
    exact ⟨rfl, _, rfl⟩
  · go_enter Try.func19, Try.ntmps19
    go_wp2_with fail
    refine (rright_no' _ m0 c0 A L0 h0 g0 _ ra).mono ?_
    rintro e w1 ⟨rfl, k1, rfl⟩
    go_wp2_with fail
    go_ret2
    exact ⟨rfl, _, rfl⟩
theorem rcau_none (k m : Int) (h : k < 1 ∨ 8 < k ∨ m < 0 ∨ 12 - k < m) (w : World) :
    Calls Try.prog 24 #[.int .i64 k, .int .i64 m] w fun e w' => e = .returned (.slice none 0 0) ∧ w = w' := by
  by_cases h1 : k < 1
  · clear h
    go_enter Try.func24, Try.ntmps24
    go_wp2_with fail
    go_ret
    exact ⟨rfl, rfl⟩
  · have j1 : decide (k < (1 : Int)) = false := by simp; omega
    by_cases h2 : 8 < k
    · clear h
      go_enter Try.func24, Try.ntmps24
      go_wp2_with fail
      go_ret
      exact ⟨rfl, rfl⟩
    · have j2 : decide ((8 : Int) < k) = false := by simp; omega
      by_cases h3 : m < 0
      · clear h
        go_enter Try.func24, Try.ntmps24
        go_wp2_with fail
        go_ret
        exact ⟨rfl, rfl⟩
      · have j3 : decide (m < (0 : Int)) = false := by simp; omega
        have j4 : 12 - k < m := by omega
        clear h
        go_enter Try.func24, Try.ntmps24
        go_wp2_with fail
        go_ret
        exact ⟨rfl, rfl⟩
end Go.Proofs.Ytdinhkcdllmmkaa
