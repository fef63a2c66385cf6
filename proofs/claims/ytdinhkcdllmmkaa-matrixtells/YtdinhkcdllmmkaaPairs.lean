/-
  THE PROGRAM AND THE REFERENCE SIDE BY SIDE: each pair of functions answers in one form, whatever is handed in.
-/
import Derived.Test.YtdinhkcdllmmkaaBoth
namespace Go.Proofs.Ytdinhkcdllmmkaa
open Go.RowKit

theorem MatL.matF {w : World} {a : Option Addr} {A : Nat → Nat → Nat} {L : Nat → Nat} {m n : Nat} (h : MatL w a A L m) (hL : ∀ i, i < m → L i = n) : MatF w a A m n := by
  rcases h with h | ⟨p, off, e, hr⟩
  · exact Or.inl h
  · refine Or.inr ⟨p, off, e, fun i hi => ?_⟩
    obtain ⟨ra, rc, h1, h2, h3⟩ := hr i hi
    rw [hL i hi] at h1 h2 h3
    exact ⟨ra, rc, h1, h2, h3⟩
theorem Good.all {L : Nat → Nat} {m : Nat} (h : Good L m) : ∀ i, i < m → L i = L 0 := fun i hi => (h.2.2 i hi).1
theorem Good.len {L : Nat → Nat} {m : Nat} (h : Good L m) : 1 ≤ L 0 ∧ L 0 ≤ 12 := by have := h.2.2 0 (by have := h.1; omega); exact this.2

/-- An answer in one form: a matrix and a Boolean. -/
def Ans (p : Bool) (mx nx : Nat) (X : Nat → Nat → Nat) (w : World) (e : Ending) (w' : World) : Prop :=
  ∃ ax cx, e = .returned (.tuple #[.slice ax mx cx, .bool p]) ∧ MatF w' ax X mx nx ∧ Below w.heap.size w w'
theorem times_both (A B : Nat → Nat → Nat) (hA : Gf.B8 A) (hB : Gf.B8 B) (K0 K1 : Nat → Nat) (M0 M1 : Nat) (h0 : ∀ i, K0 i ≤ 14) (h1 : ∀ i, K1 i ≤ 14) (hM0 : M0 ≤ 14) (hM1 : M1 ≤ 14) :
    ∃ (p : Bool) (mx nx : Nat) (X : Nat → Nat → Nat), mx ≤ 14 ∧ nx ≤ 14 ∧
      (∀ t a0 c0 a1 c1 w, MatL w a0 A K0 M0 → MatL w a1 B K1 M1 → HasTab w t → Calls Try.prog 17 #[.pointer (some ⟨t, 0, none⟩), .slice a0 M0 c0, .slice a1 M1 c1] w (Ans p mx nx X w)) ∧
      (∀ a0 c0 a1 c1 w, MatL w a0 A K0 M0 → MatL w a1 B K1 M1 → Calls Try.prog 18 #[.slice a0 M0 c0, .slice a1 M1 c1] w (Ans p mx nx X w)) := by
  by_cases hg : Good K0 M0 ∧ Good K1 M1 ∧ K0 0 = M1
  · obtain ⟨g0, g1, e⟩ := hg
    have l0 := g0.len
    have l1 := g1.len
    refine ⟨true, M0, K1 0, Gf.mm M1 A B, by omega, by omega, fun t a0 c0 a1 c1 w r0 r1 hT => ?_, fun a0 c0 a1 c1 w r0 r1 => ?_⟩
    · refine (times_any a0 a1 t M0 M1 (K1 0) c0 c1 A B hA hB g0.1 g0.2.1 g1.1 g1.2.1 l1.1 l1.2 w (r0.matF (fun i hi => by rw [g0.all i hi, e])) (r1.matF g1.all) hT).mono ?_
      rintro e w' ⟨g, P, rfl, Gr, L⟩
      exact ⟨_, _, rfl, Gr.matF, L⟩
    · refine (rtimes_any a0 a1 M0 M1 (K1 0) c0 c1 A B hA hB g0.1 g0.2.1 g1.1 g1.2.1 l1.1 l1.2 w (r0.matF (fun i hi => by rw [g0.all i hi, e])) (r1.matF g1.all)).mono ?_
      rintro e w' ⟨g, cap, rfl, Gr, _, L⟩
      exact ⟨_, _, rfl, Gr, L⟩
  · refine ⟨false, 0, 0, fun _ _ => 0, by omega, by omega, fun t a0 c0 a1 c1 w r0 r1 hT => ?_, fun a0 c0 a1 c1 w r0 r1 => ?_⟩
    · refine (times_no t a0 a1 M0 M1 c0 c1 A B K0 K1 (by omega) (by omega) (fun i _ => by have := h0 i; omega) (fun i _ => by have := h1 i; omega) hg w r0 r1).mono ?_
      rintro e w' ⟨rfl, k, rfl⟩
      exact ⟨_, _, rfl, Or.inl rfl, below_drewN (Below.refl _ _) k⟩
    · refine (rtimes_no a0 a1 M0 M1 c0 c1 A B K0 K1 (by omega) (by omega) (fun i _ => by have := h0 i; omega) (fun i _ => by have := h1 i; omega) hg w r0 r1).mono ?_
      rintro e w' ⟨rfl, k, rfl⟩
      exact ⟨_, _, rfl, Or.inl rfl, below_drewN (Below.refl _ _) k⟩

/-- An inverse's answer in one form. -/
def AnsI (A : Nat → Nat → Nat) (p : Bool) (mx : Nat) (w : World) (e : Ending) (w' : World) : Prop :=
  ∃ ax cx V, e = .returned (.tuple #[.slice ax mx cx, .bool p]) ∧ MatF w' ax V mx mx ∧ (mx = 0 ∨ (Gf.B8 V ∧ Gf.EqN mx (Gf.mm mx V A) Gf.idm ∧ Gf.EqN mx (Gf.mm mx A V) Gf.idm)) ∧ Below w.heap.size w w'
theorem invert_both (A : Nat → Nat → Nat) (hA : Gf.B8 A) (K0 : Nat → Nat) (M0 : Nat) (h0 : ∀ i, K0 i ≤ 14) (hM0 : M0 ≤ 14) :
    ∃ (p : Bool) (mx : Nat), mx ≤ 14 ∧ (∀ t a0 c0 w, MatL w a0 A K0 M0 → HasTab w t → Calls Try.prog 10 #[.pointer (some ⟨t, 0, none⟩), .slice a0 M0 c0] w (AnsI A p mx w)) ∧
      (∀ a0 c0 w, MatL w a0 A K0 M0 → Calls Try.prog 19 #[.slice a0 M0 c0] w (AnsI A p mx w)) := by
  by_cases hg : Good K0 M0 ∧ K0 0 = M0
  · obtain ⟨g0, e⟩ := hg
    by_cases hi : Gf.Inj M0 A
    · refine ⟨true, M0, hM0, fun t a0 c0 w r0 hT => ?_, fun a0 c0 w r0 => ?_⟩
      · refine (invert_any a0 t M0 c0 A hA g0.1 g0.2.1 w (r0.matF (fun i hi => by rw [g0.all i hi, e])) hT).mono ?_
        rintro e w' ⟨L, ⟨g, P, V, rfl, Gr, bV, v1, v2, _⟩ | ⟨_, no⟩⟩
        · exact ⟨_, _, V, rfl, Gr.matF, Or.inr ⟨bV, v1, v2⟩, L⟩
        · exact absurd hi no
      · refine (rinvert_any a0 M0 c0 A hA g0.1 g0.2.1 w (r0.matF (fun i hi => by rw [g0.all i hi, e]))).mono ?_
        rintro e w' ⟨L, ⟨g, cg, V, rfl, Gr, bV, v1, v2, _⟩ | ⟨_, no⟩⟩
        · exact ⟨_, _, V, rfl, Gr, Or.inr ⟨bV, v1, v2⟩, L⟩
        · exact absurd hi no
    · refine ⟨false, 0, by omega, fun t a0 c0 w r0 hT => ?_, fun a0 c0 w r0 => ?_⟩
      · refine (invert_any a0 t M0 c0 A hA g0.1 g0.2.1 w (r0.matF (fun i hi => by rw [g0.all i hi, e])) hT).mono ?_
        rintro e w' ⟨L, ⟨_, _, _, _, _, _, _, _, yes⟩ | ⟨rfl, _⟩⟩
        · exact absurd yes hi
        · exact ⟨_, _, fun _ _ => 0, rfl, Or.inl rfl, Or.inl rfl, L⟩
      · refine (rinvert_any a0 M0 c0 A hA g0.1 g0.2.1 w (r0.matF (fun i hi => by rw [g0.all i hi, e]))).mono ?_
        rintro e w' ⟨L, ⟨_, _, _, _, _, _, _, _, yes⟩ | ⟨rfl, _⟩⟩
        · exact absurd yes hi
        · exact ⟨_, _, fun _ _ => 0, rfl, Or.inl rfl, Or.inl rfl, L⟩
  · refine ⟨false, 0, by omega, fun t a0 c0 w r0 hT => ?_, fun a0 c0 w r0 => ?_⟩
    · refine (invert_no t a0 M0 c0 A K0 (by omega) (fun i _ => by have := h0 i; omega) hg w r0).mono ?_
      rintro e w' ⟨rfl, k, rfl⟩
      exact ⟨_, _, fun _ _ => 0, rfl, Or.inl rfl, Or.inl rfl, below_drewN (Below.refl _ _) k⟩
    · refine (rinvert_no a0 M0 c0 A K0 (by omega) (fun i _ => by have := h0 i; omega) hg w r0).mono ?_
      rintro e w' ⟨rfl, k, rfl⟩
      exact ⟨_, _, fun _ _ => 0, rfl, Or.inl rfl, Or.inl rfl, below_drewN (Below.refl _ _) k⟩

def AnsM (mx nx : Nat) (X : Nat → Nat → Nat) (w : World) (e : Ending) (w' : World) : Prop :=
  ∃ ax cx, e = .returned (.slice ax mx cx) ∧ MatF w' ax X mx nx ∧ Below w.heap.size w w'
theorem ident_both (n : Int) : ∃ mx, mx ≤ 12 ∧ (∀ w, Calls Try.prog 14 #[.int .i64 n] w (AnsM mx mx Gf.idm w)) ∧ (∀ w, Calls Try.prog 23 #[.int .i64 n] w (AnsM mx mx Gf.idm w)) := by
  by_cases h : n < 1 ∨ 12 < n
  · refine ⟨0, by omega, fun w => ?_, fun w => ?_⟩
    · refine (ident_none n h w).mono ?_
      rintro e w' ⟨rfl, rfl⟩
      exact ⟨_, _, rfl, Or.inl rfl, Below.refl _ _⟩
    · refine (rid_none n h w).mono ?_
      rintro e w' ⟨rfl, rfl⟩
      exact ⟨_, _, rfl, Or.inl rfl, Below.refl _ _⟩
  · obtain ⟨k, rfl⟩ : ∃ k : Nat, n = (k : Int) := ⟨n.toNat, by omega⟩
    refine ⟨k, by omega, fun w => ?_, fun w => ?_⟩
    · refine (ident_any k _ rfl (by omega) (by omega) w).mono ?_
      rintro e w' ⟨g, P, rfl, Gr, L⟩
      exact ⟨_, _, rfl, Gr.matF, L⟩
    · refine (rid_any k (by omega) (by omega) w).mono ?_
      rintro e w' ⟨g, cap, rfl, Gr, _, L⟩
      exact ⟨_, _, rfl, Gr, L⟩
theorem cau_both (n m : Int) : ∃ mx nx X, mx ≤ 12 ∧ nx ≤ 12 ∧ (∀ t w, HasTab w t → Calls Try.prog 13 #[.pointer (some ⟨t, 0, none⟩), .int .i64 n, .int .i64 m] w (AnsM mx nx X w)) ∧ (∀ w, Calls Try.prog 24 #[.int .i64 n, .int .i64 m] w (AnsM mx nx X w)) := by
  by_cases h : n < 1 ∨ 8 < n ∨ m < 0 ∨ 12 - n < m
  · refine ⟨0, 0, fun _ _ => 0, by omega, by omega, fun t w _ => ?_, fun w => ?_⟩
    · refine (cau_none t n m h w).mono ?_
      rintro e w' ⟨rfl, rfl⟩
      exact ⟨_, _, rfl, Or.inl rfl, Below.refl _ _⟩
    · refine (rcau_none n m h w).mono ?_
      rintro e w' ⟨rfl, rfl⟩
      exact ⟨_, _, rfl, Or.inl rfl, Below.refl _ _⟩
  · obtain ⟨k, rfl⟩ : ∃ k : Nat, n = (k : Int) := ⟨n.toNat, by omega⟩
    obtain ⟨j, rfl⟩ : ∃ j : Nat, m = (j : Int) := ⟨m.toNat, by omega⟩
    refine ⟨k + j, k, Gf.cau k, by omega, by omega, fun t w hT => ?_, fun w => ?_⟩
    · refine (cau_any t k j _ _ rfl rfl (by omega) (by omega) (by omega) w hT).mono ?_
      rintro e w' ⟨g, cap, rfl, Gr, _, L⟩
      exact ⟨_, _, rfl, Gr, L⟩
    · refine (rcau_own k j (by omega) (by omega) (by omega) w).mono ?_
      rintro e w' ⟨v, xs, rfl, ho, hr, L⟩
      obtain ⟨g, cap, rfl, hM, _⟩ := own_matF (by omega) ho hr
      exact ⟨_, _, rfl, hM, L⟩
theorem right_both (A : Nat → Nat → Nat) (K0 : Nat → Nat) (M0 : Nat) (h0 : ∀ i, K0 i ≤ 14) (hM0 : M0 ≤ 14) :
    ∃ b : Bool, (∀ a0 c0 w, MatL w a0 A K0 M0 → Calls Try.prog 21 #[.slice a0 M0 c0] w fun e w' => e = .returned (.bool b) ∧ ∃ k, w' = w.drewN k) ∧
      (∀ a0 c0 w, MatL w a0 A K0 M0 → Calls Try.prog 22 #[.slice a0 M0 c0] w fun e w' => e = .returned (.bool b) ∧ ∃ k, w' = w.drewN k) := by
  by_cases g : Good K0 M0
  · exact ⟨true, fun a0 c0 w r => right_yes' a0 M0 c0 A K0 (fun i _ => by have := h0 i; omega) g w r, fun a0 c0 w r => rright_yes' a0 M0 c0 A K0 (fun i _ => by have := h0 i; omega) g w r⟩
  · exact ⟨false, fun a0 c0 w r => right_no' a0 M0 c0 A K0 (by omega) (fun i _ => by have := h0 i; omega) g w r, fun a0 c0 w r => rright_no' a0 M0 c0 A K0 (fun i _ => by have := h0 i; omega) g w r⟩
end Go.Proofs.Ytdinhkcdllmmkaa
