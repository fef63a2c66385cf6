/-
  CHAINTWINS walked.
-/
import Derived.Test.YtaflabjeddckeaaAsks
namespace Go.Proofs.Ytaflabjeddckeaa
open Go.RowKit

def T12 (t : Nat × Nat) : Prop := t.1 = 1 ∨ t.1 = 2
set_option maxHeartbeats 2000000 in
theorem twins_any (a0 a1 : Option Addr) (l0 c0 l1 c1 : Nat) (q0 q1 : Nat → AskD) (hl0 : l0 ≤ 9223372036854775807) (hl1 : l1 ≤ 9223372036854775807) (w : World) (h0 : AskF w a0 q0 l0) (h1 : AskF w a1 q1 l1) :
    Calls Try.prog 8 #[.slice a0 l0 c0, .slice a1 l1 c1] w fun e w' => e = .returned (.bool true) ∧ Below w.heap.size w w' := by
  have H0 : Hid (AskF w a0 q0 l0) := h0
  have H1 : Hid (AskF w a1 q1 l1) := h1
  clear h0 h1
  go_enter Try.func8, Try.ntmps8
  go_wp2_with fail
  refine (new_any 1 _ o0).mono ?_
  rintro e w1 ⟨C, o1, rfl, I1, F1⟩
  have HI1 : Hid (IsChain w1 o1 1 C A0) := I1
  have HF1 : Hid (Fr T12 o0 o1 w w1) := F1.mono (fun _ h => h.elim)
  clear I1 F1
  go_wp2_with fail
  refine (new_any 2 _ o1).mono ?_
  rintro e w2 ⟨D, o2, rfl, I2, F2⟩
  have HI2 : Hid (IsChain w2 o2 1 C A0) := HI1.out.fr F2 (fun _ h => h)
  have HJ2 : Hid (IsChain w2 o2 2 D A0) := I2
  have HF2 : Hid (Fr T12 o0 o2 w w2) := HF1.out.trans (F2.mono (fun _ h => h.elim))
  clear I2 F2 HI1 HF1
  go_wp2_with fail
  go_loopw [8] (fun y wr => ∃ (i : Nat) (s : A) (o3 : Nat → Nat × Nat), i ≤ l0 ∧ i ≤ 60 ∧ y = .int .i64 (i : Int) ∧ -(i : Int) ≤ s.keys ∧ s.keys ≤ (i : Int) ∧ Hid (IsChain wr o3 1 C s) ∧ Hid (IsChain wr o3 2 D s) ∧ Hid (Fr T12 o0 o3 w wr)) (fun y _ => 60 - (intOf y).toNat)
  case atStart => exact ⟨0, A0, o2, by omega, by omega, rfl, by decide, by decide, HI2, HJ2, HF2⟩
  case round =>
    clear HI2 HJ2 HF2
    obtain ⟨i, s, o3, hi, hi60, rfl, hk1, hk2, HI, HJ, HF⟩ := hrel
    by_cases hlt : i < l0 ∧ i < 60
    · obtain ⟨hlt, h60⟩ := hlt
      have hi1 : (i : Int) < (l0 : Int) := by omega
      have hi2 : (i : Int) < 60 := by omega
      have BB := HF.out.below (N := w.heap.size) (Nat.le_refl _) (fun b _ e => by rcases e with e | e <;> cases e)
      obtain ⟨p, off, rfl, d0, d1, d2⟩ := (H0.out.below BB).at_ hlt
      clear BB
      go_wp2_with fail
      refine (tell_any 1 C s (q0 i) (by omega) (by omega) _ o3 HI.out).mono ?_
      rintro e w4 ⟨rfl, o4, I4, F4⟩
      have HI4 : Hid (IsChain w4 o4 1 C (s.tell (q0 i))) := I4
      have HJ4 : Hid (IsChain w4 o4 2 D s) := HJ.out.fr F4 (fun _ h => by cases h)
      have HF4 : Hid (Fr T12 o0 o4 w w4) := HF.out.trans (F4.mono (fun _ h => .inl h))
      have BB := HF4.out.below (N := w.heap.size) (Nat.le_refl _) (fun b _ e => by rcases e with e | e <;> cases e)
      obtain ⟨p', off', hpp, e0, e1, e2⟩ := (H0.out.below BB).at_ hlt
      injection hpp with hpp
      injection hpp with hp1 hp2
      subst hp1 hp2
      obtain ⟨t1, t2⟩ := s.tell_keys (q0 i)
      clear BB d0 d1 d2 I4 F4 HI HJ HF
      obtain ⟨zn, hzn⟩ : ∃ z, z = s.ansN (q0 i) := ⟨_, rfl⟩
      obtain ⟨zb, hzb⟩ : ∃ z, z = s.ansB (q0 i) := ⟨_, rfl⟩
      have HZ : Hid (zn = s.ansN (q0 i) ∧ zb = s.ansB (q0 i)) := ⟨hzn, hzb⟩
      rw [← hzn, ← hzb]
      clear hzn hzb
      go_wp2_with fail
      refine (tell_any 2 D s (q0 i) (by omega) (by omega) _ o4 HJ4.out).mono ?_
      rintro e w5 ⟨rfl, o5, I5, F5⟩
      have HI5 : Hid (IsChain w5 o5 1 C (s.tell (q0 i))) := HI4.out.fr F5 (fun _ h => by cases h)
      have HJ5 : Hid (IsChain w5 o5 2 D (s.tell (q0 i))) := I5
      have HF5 : Hid (Fr T12 o0 o5 w w5) := HF4.out.trans (F5.mono (fun _ h => .inr h))
      rw [← HZ.out.1, ← HZ.out.2]
      have y1 : (zn != zn) = false := by simp
      have y2 : (zb != zb) = false := by simp
      clear I5 F5 HI4 HJ4 HF4 e0 e1 e2 HZ
      go_wp2_with fail
      exact ⟨⟨i + 1, s.tell (q0 i), o5, by omega, by omega, by go_num, by omega, by omega, HI5, HJ5, HF5⟩, by simp [intOf]; omega⟩
    · have hc : i = l0 ∨ i < l0 ∧ i = 60 := by omega
      clear hlt
      have HK : Hid (i ≤ 60) := hi60
      have hk3 : -60 ≤ s.keys := by omega
      have hk4 : s.keys ≤ 60 := by omega
      clear hk1 hk2
      rcases hc with hc | ⟨hc, hd⟩
      case' inl =>
        subst hc
      case' inr =>
        subst hd
        have hi1 : (60 : Int) < (l0 : Int) := by omega
      all_goals
        go_wp2_with fail
        refine (shape_any 1 C s _ o3 HI.out).mono ?_
        rintro e w4 ⟨rfl, B4⟩
        have HI4 : Hid (IsChain w4 o3 1 C s) := HI.out.below B4
        have HJ4 : Hid (IsChain w4 o3 2 D s) := HJ.out.below B4
        have HF4 : Hid (Fr T12 o0 o3 w w4) := HF.out.trans (Fr.ofBelow _ o3 B4)
        clear B4 HI HJ HF
        go_wp2_with fail
        refine (len_any 1 C s _ o3 HI4.out).mono ?_
        rintro e w5 ⟨rfl, rfl⟩
        go_wp2_with fail
        go_loopw [17] (fun y wr => ∃ (i : Nat) (s2 : A) (o4 : Nat → Nat × Nat), i ≤ l1 ∧ i ≤ 30 ∧ y = .int .i64 (i : Int) ∧ -(60 + i : Int) ≤ s2.keys ∧ s2.keys ≤ (60 + i : Int) ∧ Hid (IsChain wr o4 1 C s) ∧ Hid (IsChain wr o4 2 D s2) ∧ Hid (Fr T12 o0 o4 w wr)) (fun y _ => 30 - (intOf y).toNat)
        case atStart => exact ⟨0, s, o3, by omega, by omega, rfl, by omega, by omega, HI4, HJ4, HF4⟩
        case round =>
          clear HI4 HJ4 HF4
          obtain ⟨j, s2, o4, hj, hj30, rfl, kk1, kk2, HI, HJ, HF⟩ := hrel
          by_cases hlt : j < l1 ∧ j < 30
          · obtain ⟨hlt, h30⟩ := hlt
            have hj1 : (j : Int) < (l1 : Int) := by omega
            have hj2 : (j : Int) < 30 := by omega
            have BB := HF.out.below (N := w.heap.size) (Nat.le_refl _) (fun b _ e => by rcases e with e | e <;> cases e)
            obtain ⟨p, off, rfl, d0, d1, d2⟩ := (H1.out.below BB).at_ hlt
            obtain ⟨t1, t2⟩ := s2.tell_keys (q1 j)
            clear BB
            go_wp2_with fail
            refine (tell_any 2 D s2 (q1 j) (by omega) (by omega) _ o4 HJ.out).mono ?_
            rintro e w6 ⟨rfl, o6, I6, F6⟩
            have HI6 : Hid (IsChain w6 o6 1 C s) := HI.out.fr F6 (fun _ h => by cases h)
            have HJ6 : Hid (IsChain w6 o6 2 D (s2.tell (q1 j))) := I6
            have HF6 : Hid (Fr T12 o0 o6 w w6) := HF.out.trans (F6.mono (fun _ h => .inr h))
            clear I6 F6 HI HJ HF d0 d1 d2
            go_wp2_with fail
            exact ⟨⟨j + 1, s2.tell (q1 j), o6, by omega, by omega, by go_num, by omega, by omega, HI6, HJ6, HF6⟩, by simp [intOf]; omega⟩
          · have hc : j = l1 ∨ j < l1 ∧ j = 30 := by omega
            clear hlt kk1 kk2
            rcases hc with hc | ⟨hc, hd⟩
            case' inl =>
              subst hc
            case' inr =>
              subst hd
              have hi1 : (30 : Int) < (l1 : Int) := by omega
            all_goals
              go_wp2_with fail
              refine (shape_any 1 C s _ o4 HI.out).mono ?_
              rintro e w4 ⟨rfl, B4⟩
              have HI5 : Hid (IsChain w4 o4 1 C s) := HI.out.below B4
              have HF5 : Hid (Fr T12 o0 o4 w w4) := HF.out.trans (Fr.ofBelow _ o4 B4)
              clear B4 HI HJ HF
              have y1 : (((s.n : Nat) : Int) == ((s.n : Nat) : Int)) = true := by simp
              have y2 : (((s.m : Nat) : Int) == ((s.m : Nat) : Int)) = true := by simp
              have y3 : (((s.mv : Nat) : Int) == ((s.mv : Nat) : Int)) = true := by simp
              have y4 : (s.keys == s.keys) = true := by simp
              go_wp2_with fail
              refine (len_any 1 C s _ o4 HI5.out).mono ?_
              rintro e w5 ⟨rfl, rfl⟩
              go_wp2_with fail
              refine (runs_any _).mono ?_
              rintro e w6 ⟨rfl, B6⟩
              go_wp2_with fail
              go_ret
              have B := HF5.out.below (N := w.heap.size) (Nat.le_refl _) (fun b _ e => by rcases e with e | e <;> cases e)
              exact ⟨rfl, B.trans (B6.mono B.size)⟩
end Go.Proofs.Ytaflabjeddckeaa
