/-
  FRAMES; which are right: the program's Right and the reference's; light.
-/
import Derived.Test.YtcdkpflhpeflcaaLits
namespace Go.Proofs.Ytcdkpflhpeflcaa
open Go.RowKit

structure F where
  kind : Int
  slot : Int
  inc : Int
  rid : Int
  floor : Int
  role : Int
  key : ByteArray
  ver : Int
  data : ByteArray
def F.cs (f : F) : List Value := [.int .i64 f.kind, .int .i64 f.slot, .int .i64 f.inc, .int .i64 f.rid, .int .i64 f.floor, .int .i64 f.role, .string f.key, .int .i64 f.ver, .string f.data]
def F.v (f : F) : Value := .agg f.cs.toArray
/-- No frame. -/
def Z : F := ⟨0, 0, 0, 0, 0, 0, ⟨#[]⟩, 0, ⟨#[]⟩⟩
def wi (n l m : Int) : Bool := decide (l ≤ n) && decide (n ≤ m)
/-- May a frame of kind k have role r? -/
def fit (r k : Int) : Bool := if k = 4 ∨ k = 5 ∨ k = 7 then decide (r = 0) else if k = 6 then wi r 0 2 else wi r 1 2
/-- A frame that may go. -/
def rt (f : F) : Bool := wi f.kind 1 7 && (wi f.slot 0 11 && (wi f.inc 0 1099511627776 && (wi f.rid 0 1099511627776 && (wi f.floor 0 1099511627776 && (wi f.ver 0 1099511627776 && (decide ((f.key.size : Int) ≤ 250) && (decide ((f.data.size : Int) ≤ 1049600) && fit f.role f.kind)))))))
theorem wi_iff {n l m : Int} : wi n l m = true ↔ l ≤ n ∧ n ≤ m := by simp [wi]
theorem wi_not {n l m : Int} : wi n l m = false ↔ ¬ (l ≤ n ∧ n ≤ m) := by rw [← wi_iff]; simp

theorem ret_bool {a b : Bool} (h : b = a) : Ending.returned (.bool a) = .returned (.bool b) := by rw [h]
theorem within_w (n l m : Int) (b : Bool) (hb : wi n l m = b) (w : World) : Calls Try.prog 27 #[.int .i64 n, .int .i64 l, .int .i64 m] w fun e w' => e = .returned (.bool b) ∧ w = w' := by
  by_cases h1 : l ≤ n
  · by_cases h2 : n ≤ m
    · have hb' : b = true := by rw [← hb]; simp [wi, h1, h2]
      subst hb'
      clear hb
      go_enter Try.func27, Try.ntmps27
      go_wp2_with fail
      go_ret
      exact ⟨rfl, rfl⟩
    · have hb' : b = false := by rw [← hb]; simp [wi, h2]
      subst hb'
      clear hb
      have j2 : decide (n ≤ m) = false := by simp; omega
      go_enter Try.func27, Try.ntmps27
      go_wp2_with fail
      go_ret
      exact ⟨rfl, rfl⟩
  · have hb' : b = false := by rw [← hb]; simp [wi, h1]
    subst hb'
    clear hb
    have j1 : decide (l ≤ n) = false := by simp; omega
    go_enter Try.func27, Try.ntmps27
    go_wp2_with fail
    go_ret
    exact ⟨rfl, rfl⟩
theorem fits_any (r k : Int) (b : Bool) (hb : fit r k = b) (w : World) : Calls Try.prog 28 #[.int .i64 r, .int .i64 k] w fun e w' => e = .returned (.bool b) ∧ w = w' := by
  by_cases h4 : k = 4
  · subst h4
    have hb' : (r == 0) = b := by rw [← hb]; rfl
    clear hb
    go_enter Try.func28, Try.ntmps28
    go_wp2_with fail
    go_ret
    exact ⟨rfl, rfl⟩
  by_cases h5 : k = 5
  · subst h5
    have hb' : (r == 0) = b := by rw [← hb]; rfl
    clear hb
    go_enter Try.func28, Try.ntmps28
    go_wp2_with fail
    go_ret
    exact ⟨rfl, rfl⟩
  by_cases h7 : k = 7
  · subst h7
    have hb' : (r == 0) = b := by rw [← hb]; rfl
    clear hb
    go_enter Try.func28, Try.ntmps28
    go_wp2_with fail
    go_ret
    exact ⟨rfl, rfl⟩
  have i4 : (k == 4) = false := by simp [h4]
  have i5 : (k == 5) = false := by simp [h5]
  have i7 : (k == 7) = false := by simp [h7]
  by_cases h6 : k = 6
  · subst h6
    have HW : Hid (wi r 0 2 = b) := by show _ = _; rw [← hb]; rfl
    clear hb
    go_enter Try.func28, Try.ntmps28
    go_wp2_with fail
    refine (within_w r 0 2 b HW.out _).mono ?_
    rintro e w2 ⟨rfl, rfl⟩
    go_wp2_with fail
    go_ret
    exact ⟨rfl, rfl⟩
  · have i6 : (k == 6) = false := by simp [h6]
    have HW : Hid (wi r 1 2 = b) := by show _ = _; rw [← hb]; simp [fit, h4, h5, h6, h7]
    clear hb
    go_enter Try.func28, Try.ntmps28
    go_wp2_with fail
    refine (within_w r 1 2 b HW.out _).mono ?_
    rintro e w2 ⟨rfl, rfl⟩
    go_wp2_with fail
    go_ret
    exact ⟨rfl, rfl⟩
/-- A frame's own block. -/
def fb (f : F) : Obj := .cells f.cs.toArray 25
theorem fb_cell (w : World) (f : F) (i : Nat) : (w.alloc (fb f)).cell? ⟨w.heap.size, i, none⟩ = f.cs[i]? := by
  unfold fb; rw [World.cell?_alloc_new, List.getElem?_toArray]
set_option maxHeartbeats 1000000 in
theorem right_any (f : F) (w : World) : Calls Try.prog 15 #[f.v] w fun e w' => e = .returned (.bool (rt f)) ∧ Below w.heap.size w w' := by
  obtain ⟨a0, a1, a2, a3, a4, a5, a6, a7, a8⟩ := f
  obtain ⟨r, hr⟩ : ∃ r, r = rt ⟨a0, a1, a2, a3, a4, a5, a6, a7, a8⟩ := ⟨_, rfl⟩
  rw [← hr]
  have HR : Hid (r = (wi a0 1 7 && (wi a1 0 11 && (wi a2 0 1099511627776 && (wi a3 0 1099511627776 && (wi a4 0 1099511627776 && (wi a7 0 1099511627776 && (decide ((a6.size : Int) ≤ 250) && (decide ((a8.size : Int) ≤ 1049600) && (fit a5 a0)))))))))) := hr
  clear hr
  have HB : Hid (Below w.heap.size w (w.alloc (.cells #[.int .i64 a0, .int .i64 a1, .int .i64 a2, .int .i64 a3, .int .i64 a4, .int .i64 a5, .string a6, .int .i64 a7, .string a8] 25))) := (Below.refl _ _).alloc (Nat.le_refl _) _
  simp only [F.v, F.cs]
  go_enter Try.func15, Try.ntmps15
  go_wp2_with fail
  cases h1 : wi a0 1 7
  · refine (within_w a0 1 7 false (by assumption) _).mono ?_
    rintro e w2 ⟨rfl, rfl⟩
    go_wp2_with fail
    go_ret
    exact ⟨ret_bool (by rw [HR.out, h1]; rfl), HB.out⟩
  · refine (within_w a0 1 7 true (by assumption) _).mono ?_
    rintro e w2 ⟨rfl, rfl⟩
    go_wp2_with fail
    cases h2 : wi a1 0 11
    · refine (within_w a1 0 11 false (by assumption) _).mono ?_
      rintro e w3 ⟨rfl, rfl⟩
      go_wp2_with fail
      go_ret
      exact ⟨ret_bool (by rw [HR.out, h1, h2]; rfl), HB.out⟩
    · refine (within_w a1 0 11 true (by assumption) _).mono ?_
      rintro e w3 ⟨rfl, rfl⟩
      go_wp2_with fail
      cases h3 : wi a2 0 1099511627776
      · refine (within_w a2 0 1099511627776 false (by assumption) _).mono ?_
        rintro e w4 ⟨rfl, rfl⟩
        go_wp2_with fail
        go_ret
        exact ⟨ret_bool (by rw [HR.out, h1, h2, h3]; rfl), HB.out⟩
      · refine (within_w a2 0 1099511627776 true (by assumption) _).mono ?_
        rintro e w4 ⟨rfl, rfl⟩
        go_wp2_with fail
        cases h4 : wi a3 0 1099511627776
        · refine (within_w a3 0 1099511627776 false (by assumption) _).mono ?_
          rintro e w5 ⟨rfl, rfl⟩
          go_wp2_with fail
          go_ret
          exact ⟨ret_bool (by rw [HR.out, h1, h2, h3, h4]; rfl), HB.out⟩
        · refine (within_w a3 0 1099511627776 true (by assumption) _).mono ?_
          rintro e w5 ⟨rfl, rfl⟩
          go_wp2_with fail
          cases h5 : wi a4 0 1099511627776
          · refine (within_w a4 0 1099511627776 false (by assumption) _).mono ?_
            rintro e w6 ⟨rfl, rfl⟩
            go_wp2_with fail
            go_ret
            exact ⟨ret_bool (by rw [HR.out, h1, h2, h3, h4, h5]; rfl), HB.out⟩
          · refine (within_w a4 0 1099511627776 true (by assumption) _).mono ?_
            rintro e w6 ⟨rfl, rfl⟩
            go_wp2_with fail
            cases h6 : wi a7 0 1099511627776
            · refine (within_w a7 0 1099511627776 false (by assumption) _).mono ?_
              rintro e w7 ⟨rfl, rfl⟩
              go_wp2_with fail
              go_ret
              exact ⟨ret_bool (by rw [HR.out, h1, h2, h3, h4, h5, h6]; rfl), HB.out⟩
            · refine (within_w a7 0 1099511627776 true (by assumption) _).mono ?_
              rintro e w7 ⟨rfl, rfl⟩
              cases h7 : decide ((a6.size : Int) ≤ 250)
              · go_wp2_with fail
                go_ret
                exact ⟨ret_bool (by rw [HR.out, h1, h2, h3, h4, h5, h6, h7]; rfl), HB.out⟩
              · have j7 : ((a6.size : Int) ≤ 250) := of_decide_eq_true h7
                cases h8 : decide ((a8.size : Int) ≤ 1049600)
                · go_wp2_with fail
                  go_ret
                  exact ⟨ret_bool (by rw [HR.out, h1, h2, h3, h4, h5, h6, h7, h8]; rfl), HB.out⟩
                · have j8 : ((a8.size : Int) ≤ 1049600) := of_decide_eq_true h8
                  go_wp2_with fail
                  cases h9 : fit a5 a0
                  · refine (fits_any a5 a0 false (by assumption) _).mono ?_
                    rintro e w10 ⟨rfl, rfl⟩
                    go_wp2_with fail
                    go_ret
                    exact ⟨ret_bool (by rw [HR.out, h1, h2, h3, h4, h5, h6, h7, h8, h9]; rfl), HB.out⟩
                  · refine (fits_any a5 a0 true (by assumption) _).mono ?_
                    rintro e w10 ⟨rfl, rfl⟩
                    go_wp2_with fail
                    go_ret
                    exact ⟨ret_bool (by rw [HR.out, h1, h2, h3, h4, h5, h6, h7, h8, h9]; rfl), HB.out⟩
/-- A frame that is not too large. -/
def ltF (f : F) : Bool := decide ((f.key.size : Int) + (f.data.size : Int) < 2000)

theorem light_any (f : F) (hk : f.key.size ≤ 140737488351232) (hd : f.data.size ≤ 140737488351232) (w : World) : Calls Try.prog 9 #[f.v] w fun e w' => e = .returned (.bool (ltF f)) ∧ Below w.heap.size w w' := by
  obtain ⟨a0, a1, a2, a3, a4, a5, a6, a7, a8⟩ := f
  have HB : Hid (Below w.heap.size w (w.alloc (.cells #[.int .i64 a0, .int .i64 a1, .int .i64 a2, .int .i64 a3, .int .i64 a4, .int .i64 a5, .string a6, .int .i64 a7, .string a8] 25))) := (Below.refl _ _).alloc (Nat.le_refl _) _
  have h1 : a6.size ≤ 140737488351232 := hk
  have h2 : a8.size ≤ 140737488351232 := hd
  clear hk hd
  obtain ⟨b, hb⟩ : ∃ b, b = ltF ⟨a0, a1, a2, a3, a4, a5, a6, a7, a8⟩ := ⟨_, rfl⟩
  rw [← hb]
  have HQ : Hid (b = decide ((a6.size : Int) + (a8.size : Int) < 2000)) := hb
  clear hb
  simp only [F.v, F.cs]
  go_enter Try.func9, Try.ntmps9
  go_wp2_with fail
  go_ret
  exact ⟨ret_bool HQ.out, HB.out⟩
end Go.Proofs.Ytcdkpflhpeflcaa
