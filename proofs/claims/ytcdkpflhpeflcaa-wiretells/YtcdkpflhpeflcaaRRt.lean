/-
  THE REFERENCE's Right.
-/
import Derived.Test.YtcdkpflhpeflcaaFrm
namespace Go.Proofs.Ytcdkpflhpeflcaa
open Go.RowKit

set_option maxHeartbeats 20000000 in
theorem rright_any (f : F) (w : World) : Calls Try.prog 10 #[f.v] w fun e w' => e = .returned (.bool (rt f)) ∧ Below w.heap.size w w' := by
  obtain ⟨a0, a1, a2, a3, a4, a5, a6, a7, a8⟩ := f
  obtain ⟨r, hr⟩ : ∃ r, r = rt ⟨a0, a1, a2, a3, a4, a5, a6, a7, a8⟩ := ⟨_, rfl⟩
  rw [← hr]
  have HR : Hid (r = (wi a0 1 7 && (wi a1 0 11 && (wi a2 0 1099511627776 && (wi a3 0 1099511627776 && (wi a4 0 1099511627776 && (wi a7 0 1099511627776 && (decide ((a6.size : Int) ≤ 250) && (decide ((a8.size : Int) ≤ 1049600) && (fit a5 a0)))))))))) := hr
  clear hr
  have HB : Hid (Below w.heap.size w (w.alloc (.cells #[.int .i64 a0, .int .i64 a1, .int .i64 a2, .int .i64 a3, .int .i64 a4, .int .i64 a5, .string a6, .int .i64 a7, .string a8] 25))) := (Below.refl _ _).alloc (Nat.le_refl _) _
  simp only [F.v, F.cs]
  by_cases g0 : a0 < (1 : Int)
  · have HQ : Hid (r = false) := by
      show _ = _
      rw [HR.out]
      simp [wi]
      omega
    clear HR
    go_enter Try.func10, Try.ntmps10
    go_wp2_with fail
    go_ret
    exact ⟨ret_bool HQ.out, HB.out⟩
  have k0 : decide (a0 < (1 : Int)) = false := by simp; omega
  by_cases g1 : (7 : Int) < a0
  · have HQ : Hid (r = false) := by
      show _ = _
      rw [HR.out]
      simp [wi]
      omega
    clear HR
    go_enter Try.func10, Try.ntmps10
    go_wp2_with fail
    go_ret
    exact ⟨ret_bool HQ.out, HB.out⟩
  have k1 : decide ((7 : Int) < a0) = false := by simp; omega
  by_cases g2 : a1 < (0 : Int)
  · have HQ : Hid (r = false) := by
      show _ = _
      rw [HR.out]
      simp [wi]
      omega
    clear HR
    go_enter Try.func10, Try.ntmps10
    go_wp2_with fail
    go_ret
    exact ⟨ret_bool HQ.out, HB.out⟩
  have k2 : decide (a1 < (0 : Int)) = false := by simp; omega
  by_cases g3 : (12 : Int) ≤ a1
  · have HQ : Hid (r = false) := by
      show _ = _
      rw [HR.out]
      simp [wi]
      omega
    clear HR
    go_enter Try.func10, Try.ntmps10
    go_wp2_with fail
    go_ret
    exact ⟨ret_bool HQ.out, HB.out⟩
  have k3 : decide ((12 : Int) ≤ a1) = false := by simp; omega
  by_cases g4 : a2 < (0 : Int)
  · have HQ : Hid (r = false) := by
      show _ = _
      rw [HR.out]
      simp [wi]
      omega
    clear HR
    go_enter Try.func10, Try.ntmps10
    go_wp2_with fail
    go_ret
    exact ⟨ret_bool HQ.out, HB.out⟩
  have k4 : decide (a2 < (0 : Int)) = false := by simp; omega
  by_cases g5 : (1099511627776 : Int) < a2
  · have HQ : Hid (r = false) := by
      show _ = _
      rw [HR.out]
      simp [wi]
      omega
    clear HR
    go_enter Try.func10, Try.ntmps10
    go_wp2_with fail
    go_ret
    exact ⟨ret_bool HQ.out, HB.out⟩
  have k5 : decide ((1099511627776 : Int) < a2) = false := by simp; omega
  by_cases g6 : a3 < (0 : Int)
  · have HQ : Hid (r = false) := by
      show _ = _
      rw [HR.out]
      simp [wi]
      omega
    clear HR
    go_enter Try.func10, Try.ntmps10
    go_wp2_with fail
    go_ret
    exact ⟨ret_bool HQ.out, HB.out⟩
  have k6 : decide (a3 < (0 : Int)) = false := by simp; omega
  by_cases g7 : (1099511627776 : Int) < a3
  · have HQ : Hid (r = false) := by
      show _ = _
      rw [HR.out]
      simp [wi]
      omega
    clear HR
    go_enter Try.func10, Try.ntmps10
    go_wp2_with fail
    go_ret
    exact ⟨ret_bool HQ.out, HB.out⟩
  have k7 : decide ((1099511627776 : Int) < a3) = false := by simp; omega
  by_cases g8 : a4 < (0 : Int)
  · have HQ : Hid (r = false) := by
      show _ = _
      rw [HR.out]
      simp [wi]
      omega
    clear HR
    go_enter Try.func10, Try.ntmps10
    go_wp2_with fail
    go_ret
    exact ⟨ret_bool HQ.out, HB.out⟩
  have k8 : decide (a4 < (0 : Int)) = false := by simp; omega
  by_cases g9 : (1099511627776 : Int) < a4
  · have HQ : Hid (r = false) := by
      show _ = _
      rw [HR.out]
      simp [wi]
      omega
    clear HR
    go_enter Try.func10, Try.ntmps10
    go_wp2_with fail
    go_ret
    exact ⟨ret_bool HQ.out, HB.out⟩
  have k9 : decide ((1099511627776 : Int) < a4) = false := by simp; omega
  by_cases g10 : (250 : Int) < (a6.size : Int)
  · have HQ : Hid (r = false) := by
      show _ = _
      rw [HR.out]
      simp [wi]
      omega
    clear HR
    go_enter Try.func10, Try.ntmps10
    go_wp2_with fail
    go_ret
    exact ⟨ret_bool HQ.out, HB.out⟩
  have k10 : decide ((250 : Int) < (a6.size : Int)) = false := by simp; omega
  by_cases g11 : (1049600 : Int) < (a8.size : Int)
  · have HQ : Hid (r = false) := by
      show _ = _
      rw [HR.out]
      simp [wi]
      omega
    clear HR
    go_enter Try.func10, Try.ntmps10
    go_wp2_with fail
    go_ret
    exact ⟨ret_bool HQ.out, HB.out⟩
  have k11 : decide ((1049600 : Int) < (a8.size : Int)) = false := by simp; omega
  by_cases g12 : a7 < (0 : Int)
  · have HQ : Hid (r = false) := by
      show _ = _
      rw [HR.out]
      simp [wi]
      omega
    clear HR
    go_enter Try.func10, Try.ntmps10
    go_wp2_with fail
    go_ret
    exact ⟨ret_bool HQ.out, HB.out⟩
  have k12 : decide (a7 < (0 : Int)) = false := by simp; omega
  by_cases g13 : (1099511627776 : Int) < a7
  · have HQ : Hid (r = false) := by
      show _ = _
      rw [HR.out]
      simp [wi]
      omega
    clear HR
    go_enter Try.func10, Try.ntmps10
    go_wp2_with fail
    go_ret
    exact ⟨ret_bool HQ.out, HB.out⟩
  have k13 : decide ((1099511627776 : Int) < a7) = false := by simp; omega
  have HQ : Hid (r = fit a5 a0) := by
    show _ = _
    rw [HR.out, wi_iff.2 ⟨by omega, by omega⟩, wi_iff.2 ⟨by omega, by omega⟩, wi_iff.2 ⟨by omega, by omega⟩, wi_iff.2 ⟨by omega, by omega⟩, wi_iff.2 ⟨by omega, by omega⟩, wi_iff.2 ⟨by omega, by omega⟩, decide_eq_true (by omega), decide_eq_true (by omega)]
    rfl
  clear HR
  by_cases q4 : a0 = 4
  · subst q4
    have HP : Hid (fit a5 4 = (a5 == 0)) := rfl
    go_enter Try.func10, Try.ntmps10
    go_wp2_with fail
    go_ret
    exact ⟨ret_bool (HQ.out.trans HP.out), HB.out⟩
  have u4 : (a0 == 4) = false := by simp [q4]
  by_cases q5 : a0 = 5
  · subst q5
    have HP : Hid (fit a5 5 = (a5 == 0)) := rfl
    go_enter Try.func10, Try.ntmps10
    go_wp2_with fail
    go_ret
    exact ⟨ret_bool (HQ.out.trans HP.out), HB.out⟩
  have u5 : (a0 == 5) = false := by simp [q5]
  by_cases q7 : a0 = 7
  · subst q7
    have HP : Hid (fit a5 7 = (a5 == 0)) := rfl
    go_enter Try.func10, Try.ntmps10
    go_wp2_with fail
    go_ret
    exact ⟨ret_bool (HQ.out.trans HP.out), HB.out⟩
  have u7 : (a0 == 7) = false := by simp [q7]
  by_cases q6 : a0 = 6
  · subst q6
    by_cases p1 : a5 = 1
    · subst p1
      have HP : Hid (fit 1 6 = true) := rfl
      go_enter Try.func10, Try.ntmps10
      go_wp2_with fail
      go_ret
      exact ⟨ret_bool (HQ.out.trans HP.out), HB.out⟩
    have v1 : (a5 == 1) = false := by simp [p1]
    by_cases p2 : a5 = 2
    · subst p2
      have HP : Hid (fit 2 6 = true) := rfl
      go_enter Try.func10, Try.ntmps10
      go_wp2_with fail
      go_ret
      exact ⟨ret_bool (HQ.out.trans HP.out), HB.out⟩
    have v2 : (a5 == 2) = false := by simp [p2]
    have HP : Hid (fit a5 6 = (a5 == 0)) := by
      show _ = _
      by_cases p0 : a5 = 0
      · subst p0; rfl
      · have : wi a5 0 2 = false := wi_not.2 (by omega)
        have e : fit a5 6 = wi a5 0 2 := rfl
        rw [e, this]; simp [p0]
    go_enter Try.func10, Try.ntmps10
    go_wp2_with fail
    go_ret
    exact ⟨ret_bool (HQ.out.trans HP.out), HB.out⟩
  have u6 : (a0 == 6) = false := by simp [q6]
  have HP : Hid (fit a5 a0 = wi a5 1 2) := by show _ = _; simp [fit, q4, q5, q6, q7]
  by_cases p1 : a5 = 1
  · subst p1
    go_enter Try.func10, Try.ntmps10
    go_wp2_with fail
    go_ret
    exact ⟨ret_bool (HQ.out.trans HP.out), HB.out⟩
  have v1 : (a5 == 1) = false := by simp [p1]
  by_cases p2 : a5 = 2
  · subst p2
    go_enter Try.func10, Try.ntmps10
    go_wp2_with fail
    go_ret
    exact ⟨ret_bool (HQ.out.trans HP.out), HB.out⟩
  have v2 : (a5 == 2) = false := by simp [p2]
  have HN : Hid (wi a5 1 2 = false) := wi_not.2 (by omega)
  go_enter Try.func10, Try.ntmps10
  go_wp2_with fail
  go_ret
  exact ⟨ret_bool (HQ.out.trans (HP.out.trans HN.out)), HB.out⟩
end Go.Proofs.Ytcdkpflhpeflcaa
