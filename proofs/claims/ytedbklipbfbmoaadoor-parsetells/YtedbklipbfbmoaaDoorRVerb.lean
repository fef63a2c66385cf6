/-
  verb of the reference: a word's verb, and what stands behind it.
-/
import Derived.Test.YtedbklipbfbmoaaDoorVerb
import Derived.Test.YtedbklipbfbmoaaDoorHush
namespace Go.Proofs.YtedbklipbfbmoaaDoor
open Go.RowKit

/-- What verb tells. -/
def vbV (v : Nat) : Value := .tuple #[.int .i64 ((v : Nat) : Int), .int .i64 (((fm v).least : Nat) : Int), .int .i64 (((fm v).most : Nat) : Int), .bool (fm v).hush]
theorem vbAt_is {l : B} : ∀ {t : List B} {i v : Nat}, vbAt l i t = v → v ≠ 0 → ∃ k, v = i + k ∧ t[k]? = some l
  | [], i, v, h, h0 => absurd h.symm (by simpa [vbAt] using h0)
  | x :: t, i, v, h, h0 => by
    rw [vbAt] at h
    split at h
    · rename_i e; exact ⟨0, by omega, by simp [e]⟩
    · obtain ⟨k, e1, e2⟩ := vbAt_is h h0
      exact ⟨k + 1, by omega, by simpa using e2⟩
theorem vbAt_no {l : B} : ∀ {t : List B} {i : Nat}, vbAt l i t = 0 → i ≠ 0 → ∀ x ∈ t, x ≠ l
  | [], _, _, _, x, hx => by cases hx
  | y :: t, i, h, h0, x, hx => by
    rw [vbAt] at h
    split at h
    · omega
    · rename_i e
      rcases List.mem_cons.1 hx with rfl | hx
      · exact e
      · exact vbAt_no h (by omega) x hx
theorem vb_is {l : B} {v : Nat} (h : vb l = v) (h0 : v ≠ 0) : tab[v]? = some l := by
  obtain ⟨k, e1, e2⟩ := vbAt_is h h0
  rw [e1, Nat.zero_add]; exact e2
theorem vb_no {l : B} (h : vb l = 0) : ∀ x ∈ tab.tail, x ≠ l := by
  intro x hx
  unfold vb tab at h
  rw [vbAt] at h
  split at h
  · rename_i e
    subst e
    intro e2
    subst e2
    revert hx
    decide
  · exact vbAt_no h (by omega) x hx
theorem beq_str (s : ByteArray) (l : B) : (s.toList == l) = decide (L s = l) := by
  have := beq_lit (L s) l
  rwa [S_L] at this
set_option maxRecDepth 100000 in
theorem rverb_1 (w : World) : Calls Tryd.prog 72 #[.string ⟨#[103, 101, 116]⟩] w fun e w' => e = .returned (vbV 1) ∧ w = w' := by
  go_enter Tryd.func72, Tryd.ntmps72
  go_wp2_with fail
  exact bodyPost_ret (v := .tuple #[.int .i64 1, .int .i64 1, .int .i64 64, .bool false]) (by simp [results, Tryd.results72, go_sem]) rfl ⟨rfl, rfl⟩
set_option maxRecDepth 100000 in
theorem rverb_2 (w : World) : Calls Tryd.prog 72 #[.string ⟨#[103, 101, 116, 115]⟩] w fun e w' => e = .returned (vbV 2) ∧ w = w' := by
  go_enter Tryd.func72, Tryd.ntmps72
  go_wp2_with fail
  exact bodyPost_ret (v := .tuple #[.int .i64 2, .int .i64 1, .int .i64 64, .bool false]) (by simp [results, Tryd.results72, go_sem]) rfl ⟨rfl, rfl⟩
set_option maxRecDepth 100000 in
theorem rverb_3 (w : World) : Calls Tryd.prog 72 #[.string ⟨#[115, 101, 116]⟩] w fun e w' => e = .returned (vbV 3) ∧ w = w' := by
  go_enter Tryd.func72, Tryd.ntmps72
  go_wp2_with fail
  exact bodyPost_ret (v := .tuple #[.int .i64 3, .int .i64 4, .int .i64 4, .bool true]) (by simp [results, Tryd.results72, go_sem]) rfl ⟨rfl, rfl⟩
set_option maxRecDepth 100000 in
theorem rverb_4 (w : World) : Calls Tryd.prog 72 #[.string ⟨#[97, 100, 100]⟩] w fun e w' => e = .returned (vbV 4) ∧ w = w' := by
  go_enter Tryd.func72, Tryd.ntmps72
  go_wp2_with fail
  exact bodyPost_ret (v := .tuple #[.int .i64 4, .int .i64 4, .int .i64 4, .bool true]) (by simp [results, Tryd.results72, go_sem]) rfl ⟨rfl, rfl⟩
set_option maxRecDepth 100000 in
theorem rverb_5 (w : World) : Calls Tryd.prog 72 #[.string ⟨#[114, 101, 112, 108, 97, 99, 101]⟩] w fun e w' => e = .returned (vbV 5) ∧ w = w' := by
  go_enter Tryd.func72, Tryd.ntmps72
  go_wp2_with fail
  exact bodyPost_ret (v := .tuple #[.int .i64 5, .int .i64 4, .int .i64 4, .bool true]) (by simp [results, Tryd.results72, go_sem]) rfl ⟨rfl, rfl⟩
set_option maxRecDepth 100000 in
theorem rverb_6 (w : World) : Calls Tryd.prog 72 #[.string ⟨#[97, 112, 112, 101, 110, 100]⟩] w fun e w' => e = .returned (vbV 6) ∧ w = w' := by
  go_enter Tryd.func72, Tryd.ntmps72
  go_wp2_with fail
  exact bodyPost_ret (v := .tuple #[.int .i64 6, .int .i64 4, .int .i64 4, .bool true]) (by simp [results, Tryd.results72, go_sem]) rfl ⟨rfl, rfl⟩
set_option maxRecDepth 100000 in
theorem rverb_7 (w : World) : Calls Tryd.prog 72 #[.string ⟨#[112, 114, 101, 112, 101, 110, 100]⟩] w fun e w' => e = .returned (vbV 7) ∧ w = w' := by
  go_enter Tryd.func72, Tryd.ntmps72
  go_wp2_with fail
  exact bodyPost_ret (v := .tuple #[.int .i64 7, .int .i64 4, .int .i64 4, .bool true]) (by simp [results, Tryd.results72, go_sem]) rfl ⟨rfl, rfl⟩
set_option maxRecDepth 100000 in
theorem rverb_8 (w : World) : Calls Tryd.prog 72 #[.string ⟨#[99, 97, 115]⟩] w fun e w' => e = .returned (vbV 8) ∧ w = w' := by
  go_enter Tryd.func72, Tryd.ntmps72
  go_wp2_with fail
  exact bodyPost_ret (v := .tuple #[.int .i64 8, .int .i64 5, .int .i64 5, .bool true]) (by simp [results, Tryd.results72, go_sem]) rfl ⟨rfl, rfl⟩
set_option maxRecDepth 100000 in
theorem rverb_9 (w : World) : Calls Tryd.prog 72 #[.string ⟨#[100, 101, 108, 101, 116, 101]⟩] w fun e w' => e = .returned (vbV 9) ∧ w = w' := by
  go_enter Tryd.func72, Tryd.ntmps72
  go_wp2_with fail
  exact bodyPost_ret (v := .tuple #[.int .i64 9, .int .i64 1, .int .i64 1, .bool true]) (by simp [results, Tryd.results72, go_sem]) rfl ⟨rfl, rfl⟩
set_option maxRecDepth 100000 in
theorem rverb_10 (w : World) : Calls Tryd.prog 72 #[.string ⟨#[105, 110, 99, 114]⟩] w fun e w' => e = .returned (vbV 10) ∧ w = w' := by
  go_enter Tryd.func72, Tryd.ntmps72
  go_wp2_with fail
  exact bodyPost_ret (v := .tuple #[.int .i64 10, .int .i64 2, .int .i64 2, .bool true]) (by simp [results, Tryd.results72, go_sem]) rfl ⟨rfl, rfl⟩
set_option maxRecDepth 100000 in
theorem rverb_11 (w : World) : Calls Tryd.prog 72 #[.string ⟨#[100, 101, 99, 114]⟩] w fun e w' => e = .returned (vbV 11) ∧ w = w' := by
  go_enter Tryd.func72, Tryd.ntmps72
  go_wp2_with fail
  exact bodyPost_ret (v := .tuple #[.int .i64 11, .int .i64 2, .int .i64 2, .bool true]) (by simp [results, Tryd.results72, go_sem]) rfl ⟨rfl, rfl⟩
set_option maxRecDepth 100000 in
theorem rverb_12 (w : World) : Calls Tryd.prog 72 #[.string ⟨#[116, 111, 117, 99, 104]⟩] w fun e w' => e = .returned (vbV 12) ∧ w = w' := by
  go_enter Tryd.func72, Tryd.ntmps72
  go_wp2_with fail
  exact bodyPost_ret (v := .tuple #[.int .i64 12, .int .i64 2, .int .i64 2, .bool true]) (by simp [results, Tryd.results72, go_sem]) rfl ⟨rfl, rfl⟩
set_option maxRecDepth 100000 in
theorem rverb_13 (w : World) : Calls Tryd.prog 72 #[.string ⟨#[102, 108, 117, 115, 104, 95, 97, 108, 108]⟩] w fun e w' => e = .returned (vbV 13) ∧ w = w' := by
  go_enter Tryd.func72, Tryd.ntmps72
  go_wp2_with fail
  exact bodyPost_ret (v := .tuple #[.int .i64 13, .int .i64 0, .int .i64 1, .bool true]) (by simp [results, Tryd.results72, go_sem]) rfl ⟨rfl, rfl⟩
set_option maxRecDepth 100000 in
theorem rverb_14 (w : World) : Calls Tryd.prog 72 #[.string ⟨#[118, 101, 114, 115, 105, 111, 110]⟩] w fun e w' => e = .returned (vbV 14) ∧ w = w' := by
  go_enter Tryd.func72, Tryd.ntmps72
  go_wp2_with fail
  exact bodyPost_ret (v := .tuple #[.int .i64 14, .int .i64 0, .int .i64 0, .bool false]) (by simp [results, Tryd.results72, go_sem]) rfl ⟨rfl, rfl⟩
set_option maxRecDepth 100000 in
theorem rverb_15 (w : World) : Calls Tryd.prog 72 #[.string ⟨#[118, 101, 114, 98, 111, 115, 105, 116, 121]⟩] w fun e w' => e = .returned (vbV 15) ∧ w = w' := by
  go_enter Tryd.func72, Tryd.ntmps72
  go_wp2_with fail
  exact bodyPost_ret (v := .tuple #[.int .i64 15, .int .i64 1, .int .i64 1, .bool true]) (by simp [results, Tryd.results72, go_sem]) rfl ⟨rfl, rfl⟩
set_option maxRecDepth 100000 in
theorem rverb_16 (w : World) : Calls Tryd.prog 72 #[.string ⟨#[115, 116, 97, 116, 115]⟩] w fun e w' => e = .returned (vbV 16) ∧ w = w' := by
  go_enter Tryd.func72, Tryd.ntmps72
  go_wp2_with fail
  exact bodyPost_ret (v := .tuple #[.int .i64 16, .int .i64 0, .int .i64 0, .bool false]) (by simp [results, Tryd.results72, go_sem]) rfl ⟨rfl, rfl⟩
set_option maxRecDepth 100000 in
theorem rverb_17 (w : World) : Calls Tryd.prog 72 #[.string ⟨#[113, 117, 105, 116]⟩] w fun e w' => e = .returned (vbV 17) ∧ w = w' := by
  go_enter Tryd.func72, Tryd.ntmps72
  go_wp2_with fail
  exact bodyPost_ret (v := .tuple #[.int .i64 17, .int .i64 0, .int .i64 0, .bool false]) (by simp [results, Tryd.results72, go_sem]) rfl ⟨rfl, rfl⟩
set_option maxRecDepth 100000 in
theorem rverb_0 (s : ByteArray) (h : vb (L s) = 0) (w : World) : Calls Tryd.prog 72 #[.string s] w fun e w' => e = .returned (vbV 0) ∧ w = w' := by
  have hn := vb_no h
  have e1 : (s.toList == [103, 101, 116]) = false := by rw [beq_str]; exact decide_eq_false (fun e => hn [103, 101, 116] (by decide) e.symm)
  have e2 : (s.toList == [103, 101, 116, 115]) = false := by rw [beq_str]; exact decide_eq_false (fun e => hn [103, 101, 116, 115] (by decide) e.symm)
  have e3 : (s.toList == [115, 101, 116]) = false := by rw [beq_str]; exact decide_eq_false (fun e => hn [115, 101, 116] (by decide) e.symm)
  have e4 : (s.toList == [97, 100, 100]) = false := by rw [beq_str]; exact decide_eq_false (fun e => hn [97, 100, 100] (by decide) e.symm)
  have e5 : (s.toList == [114, 101, 112, 108, 97, 99, 101]) = false := by rw [beq_str]; exact decide_eq_false (fun e => hn [114, 101, 112, 108, 97, 99, 101] (by decide) e.symm)
  have e6 : (s.toList == [97, 112, 112, 101, 110, 100]) = false := by rw [beq_str]; exact decide_eq_false (fun e => hn [97, 112, 112, 101, 110, 100] (by decide) e.symm)
  have e7 : (s.toList == [112, 114, 101, 112, 101, 110, 100]) = false := by rw [beq_str]; exact decide_eq_false (fun e => hn [112, 114, 101, 112, 101, 110, 100] (by decide) e.symm)
  have e8 : (s.toList == [99, 97, 115]) = false := by rw [beq_str]; exact decide_eq_false (fun e => hn [99, 97, 115] (by decide) e.symm)
  have e9 : (s.toList == [100, 101, 108, 101, 116, 101]) = false := by rw [beq_str]; exact decide_eq_false (fun e => hn [100, 101, 108, 101, 116, 101] (by decide) e.symm)
  have e10 : (s.toList == [105, 110, 99, 114]) = false := by rw [beq_str]; exact decide_eq_false (fun e => hn [105, 110, 99, 114] (by decide) e.symm)
  have e11 : (s.toList == [100, 101, 99, 114]) = false := by rw [beq_str]; exact decide_eq_false (fun e => hn [100, 101, 99, 114] (by decide) e.symm)
  have e12 : (s.toList == [116, 111, 117, 99, 104]) = false := by rw [beq_str]; exact decide_eq_false (fun e => hn [116, 111, 117, 99, 104] (by decide) e.symm)
  have e13 : (s.toList == [102, 108, 117, 115, 104, 95, 97, 108, 108]) = false := by rw [beq_str]; exact decide_eq_false (fun e => hn [102, 108, 117, 115, 104, 95, 97, 108, 108] (by decide) e.symm)
  have e14 : (s.toList == [118, 101, 114, 115, 105, 111, 110]) = false := by rw [beq_str]; exact decide_eq_false (fun e => hn [118, 101, 114, 115, 105, 111, 110] (by decide) e.symm)
  have e15 : (s.toList == [118, 101, 114, 98, 111, 115, 105, 116, 121]) = false := by rw [beq_str]; exact decide_eq_false (fun e => hn [118, 101, 114, 98, 111, 115, 105, 116, 121] (by decide) e.symm)
  have e16 : (s.toList == [115, 116, 97, 116, 115]) = false := by rw [beq_str]; exact decide_eq_false (fun e => hn [115, 116, 97, 116, 115] (by decide) e.symm)
  have e17 : (s.toList == [113, 117, 105, 116]) = false := by rw [beq_str]; exact decide_eq_false (fun e => hn [113, 117, 105, 116] (by decide) e.symm)
  clear hn h
  go_enter Tryd.func72, Tryd.ntmps72
  go_wp2_with fail
  exact bodyPost_ret (v := .tuple #[.int .i64 0, .int .i64 0, .int .i64 0, .bool false]) (by simp [results, Tryd.results72, go_sem]) rfl ⟨rfl, rfl⟩
theorem rverb_any (s : ByteArray) : ∀ v : Nat, v < 18 → vb (L s) = v → ∀ w : World, Calls Tryd.prog 72 #[.string s] w fun e w' => e = .returned (vbV v) ∧ w = w'
  | 0, _, h, w => rverb_0 s h w
  | 1, _, h, w => by
    have e : s = ⟨#[103, 101, 116]⟩ := L_inj ((Option.some.inj (vb_is h (by decide))).symm.trans rfl)
    subst e; exact rverb_1 w
  | 2, _, h, w => by
    have e : s = ⟨#[103, 101, 116, 115]⟩ := L_inj ((Option.some.inj (vb_is h (by decide))).symm.trans rfl)
    subst e; exact rverb_2 w
  | 3, _, h, w => by
    have e : s = ⟨#[115, 101, 116]⟩ := L_inj ((Option.some.inj (vb_is h (by decide))).symm.trans rfl)
    subst e; exact rverb_3 w
  | 4, _, h, w => by
    have e : s = ⟨#[97, 100, 100]⟩ := L_inj ((Option.some.inj (vb_is h (by decide))).symm.trans rfl)
    subst e; exact rverb_4 w
  | 5, _, h, w => by
    have e : s = ⟨#[114, 101, 112, 108, 97, 99, 101]⟩ := L_inj ((Option.some.inj (vb_is h (by decide))).symm.trans rfl)
    subst e; exact rverb_5 w
  | 6, _, h, w => by
    have e : s = ⟨#[97, 112, 112, 101, 110, 100]⟩ := L_inj ((Option.some.inj (vb_is h (by decide))).symm.trans rfl)
    subst e; exact rverb_6 w
  | 7, _, h, w => by
    have e : s = ⟨#[112, 114, 101, 112, 101, 110, 100]⟩ := L_inj ((Option.some.inj (vb_is h (by decide))).symm.trans rfl)
    subst e; exact rverb_7 w
  | 8, _, h, w => by
    have e : s = ⟨#[99, 97, 115]⟩ := L_inj ((Option.some.inj (vb_is h (by decide))).symm.trans rfl)
    subst e; exact rverb_8 w
  | 9, _, h, w => by
    have e : s = ⟨#[100, 101, 108, 101, 116, 101]⟩ := L_inj ((Option.some.inj (vb_is h (by decide))).symm.trans rfl)
    subst e; exact rverb_9 w
  | 10, _, h, w => by
    have e : s = ⟨#[105, 110, 99, 114]⟩ := L_inj ((Option.some.inj (vb_is h (by decide))).symm.trans rfl)
    subst e; exact rverb_10 w
  | 11, _, h, w => by
    have e : s = ⟨#[100, 101, 99, 114]⟩ := L_inj ((Option.some.inj (vb_is h (by decide))).symm.trans rfl)
    subst e; exact rverb_11 w
  | 12, _, h, w => by
    have e : s = ⟨#[116, 111, 117, 99, 104]⟩ := L_inj ((Option.some.inj (vb_is h (by decide))).symm.trans rfl)
    subst e; exact rverb_12 w
  | 13, _, h, w => by
    have e : s = ⟨#[102, 108, 117, 115, 104, 95, 97, 108, 108]⟩ := L_inj ((Option.some.inj (vb_is h (by decide))).symm.trans rfl)
    subst e; exact rverb_13 w
  | 14, _, h, w => by
    have e : s = ⟨#[118, 101, 114, 115, 105, 111, 110]⟩ := L_inj ((Option.some.inj (vb_is h (by decide))).symm.trans rfl)
    subst e; exact rverb_14 w
  | 15, _, h, w => by
    have e : s = ⟨#[118, 101, 114, 98, 111, 115, 105, 116, 121]⟩ := L_inj ((Option.some.inj (vb_is h (by decide))).symm.trans rfl)
    subst e; exact rverb_15 w
  | 16, _, h, w => by
    have e : s = ⟨#[115, 116, 97, 116, 115]⟩ := L_inj ((Option.some.inj (vb_is h (by decide))).symm.trans rfl)
    subst e; exact rverb_16 w
  | 17, _, h, w => by
    have e : s = ⟨#[113, 117, 105, 116]⟩ := L_inj ((Option.some.inj (vb_is h (by decide))).symm.trans rfl)
    subst e; exact rverb_17 w
  | n + 18, h, _, _ => absurd h (by omega)
end Go.Proofs.YtedbklipbfbmoaaDoor
