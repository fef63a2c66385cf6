/-
  TEXT of the reference: counts; all kinds together.
-/
import Derived.Test.YtjlcnfafjblmkaaDoorRVl
namespace Go.Proofs.YtjlcnfafjblmkaaDoor
open Go.RowKit
open Go.Lib (TabIs pow10Tab OthersKept)

theorem stl_eq (i : Nat) (x : Int) : stl i x = [83, 84, 65, 84, 32] ++ nm i ++ [32] ++ dg x ++ [13, 10] := by
  simp [stl, ln, Lib.join_cons, Lib.joinTail]
/-- Where the reference stands: the counts' cells, the names'. -/
structure Rc (w wr : World) (A Q : Nat) (x : Nat → Int) : Prop where
  below : Below w.heap.size w wr
  lt : A < wr.heap.size
  lq : Q < wr.heap.size
  ca : ∀ i, i < 4 → wr.cell? ⟨A, 5 + i, none⟩ = some (.int .i64 (x i))
  cq : ∀ i, i < 4 → wr.cell? ⟨Q, i, none⟩ = some (.string (S (nm i)))
theorem Rc.up {w wr wr' : World} {A Q : Nat} {x : Nat → Int} (h : Rc w wr A Q x) (hb : Below wr.heap.size wr wr') : Rc w wr' A Q x :=
  ⟨h.below.trans (hb.mono h.below.size), Nat.lt_of_lt_of_le h.lt hb.size, Nat.lt_of_lt_of_le h.lq hb.size, fun i hi => (World.cell?_of_block (a := ⟨A, 5 + i, none⟩) (hb.block A h.lt)).trans (h.ca i hi), fun i hi => (World.cell?_of_block (a := ⟨Q, i, none⟩) (hb.block Q h.lq)).trans (h.cq i hi)⟩
set_option maxRecDepth 100000 in
set_option maxHeartbeats 2000000 in
theorem rtext_11 (g : Bool) (num : Nat) (text : ByteArray) (s0 s1 s2 s3 : Int) (a : Option Addr) (n cap : Nat) (w : World) (h0 : s0 ≤ 9223372036854775807) (h1 : s1 ≤ 9223372036854775807) (h2 : s2 ≤ 9223372036854775807) (h3 : s3 ≤ 9223372036854775807) :
    Calls Tryd.prog 9 #[.agg #[.int .i64 11, .slice a n cap, .bool g, .int .u64 (num : Int), .string text, .int .i64 s0, .int .i64 s1, .int .i64 s2, .int .i64 s3]] w fun e w' => e = .returned (.string (S (stats (four s0 s1 s2 s3)))) ∧ Below w.heap.size w w' := by
  have HX : Hid (∀ i, four s0 s1 s2 s3 i ≤ 9223372036854775807) := Lib.hid (fun i => by rcases i with _ | _ | _ | i <;> assumption)
  clear h0 h1 h2 h3
  go_enter Tryd.func9, Tryd.ntmps9
  go_wp2_with fail
  have HR : Hid (Rc w ((w.alloc (.cells #[.int .i64 11, .slice a n cap, .bool g, .int .u64 (num : Int), .string text, .int .i64 s0, .int .i64 s1, .int .i64 s2, .int .i64 s3] 28)).alloc (.cells #[.string ⟨#[115, 108, 111, 116, 115, 95, 117, 112]⟩, .string ⟨#[99, 109, 100, 95, 103, 101, 116]⟩, .string ⟨#[99, 109, 100, 95, 115, 101, 116]⟩, .string ⟨#[103, 101, 116, 95, 104, 105, 116, 115]⟩] 9)) w.heap.size (w.heap.size + 1) (four s0 s1 s2 s3)) := Lib.hid ⟨up1 (below_alloc _ _), by simp; omega, by simp, fun i hi => by
      rw [World.cell?_of_block (a := ⟨w.heap.size, 5 + i, none⟩) ((below_alloc (w.alloc (.cells #[.int .i64 11, .slice a n cap, .bool g, .int .u64 (num : Int), .string text, .int .i64 s0, .int .i64 s1, .int .i64 s2, .int .i64 s3] 28)) (.cells #[.string ⟨#[115, 108, 111, 116, 115, 95, 117, 112]⟩, .string ⟨#[99, 109, 100, 95, 103, 101, 116]⟩, .string ⟨#[99, 109, 100, 95, 115, 101, 116]⟩, .string ⟨#[103, 101, 116, 95, 104, 105, 116, 115]⟩] 9)).block w.heap.size (by simp)), World.cell?_alloc_new]
      rcases i with _ | _ | _ | _ | i
      · rfl
      · rfl
      · rfl
      · rfl
      · omega, fun i hi => by
      have e : (w.alloc (.cells #[.int .i64 11, .slice a n cap, .bool g, .int .u64 (num : Int), .string text, .int .i64 s0, .int .i64 s1, .int .i64 s2, .int .i64 s3] 28)).heap.size = w.heap.size + 1 := by simp
      rw [← e, World.cell?_alloc_new]
      rcases i with _ | _ | _ | _ | i
      · rfl
      · rfl
      · rfl
      · rfl
      · omega⟩
  obtain ⟨W1, hW1⟩ : ∃ W, (w.alloc (.cells #[.int .i64 11, .slice a n cap, .bool g, .int .u64 (num : Int), .string text, .int .i64 s0, .int .i64 s1, .int .i64 s2, .int .i64 s3] 28)).alloc (.cells #[.string ⟨#[115, 108, 111, 116, 115, 95, 117, 112]⟩, .string ⟨#[99, 109, 100, 95, 103, 101, 116]⟩, .string ⟨#[99, 109, 100, 95, 115, 101, 116]⟩, .string ⟨#[103, 101, 116, 95, 104, 105, 116, 115]⟩] 9) = W := ⟨_, rfl⟩
  obtain ⟨Q, A, hQ, hA⟩ : ∃ Q A, w.heap.size + 1 = Q ∧ w.heap.size = A := ⟨_, _, rfl, rfl⟩
  rw [hW1, hQ, hA] at HR
  rw [hW1, hQ, hA]
  clear hW1 hA hQ
  go_loopw [7, 8] (fun sv iv wr => ∃ (i : Nat) (s : ByteArray), i ≤ 4 ∧ sv = .string s ∧ iv = .int .i64 (i : Int) ∧ Hid (L s = sts (four s0 s1 s2 s3) i) ∧ Hid (Rc w wr A Q (four s0 s1 s2 s3))) (fun _ iv _ => 4 - (intOf iv).toNat)
  case atStart => exact ⟨0, ⟨#[]⟩, by omega, rfl, rfl, Lib.hid rfl, HR⟩
  case round =>
    clear HR
    obtain ⟨i, sv, hi, rfl, rfl, HE, HR⟩ := hrel
    have zs : sv.size ≤ 1000 := by
      have h1 := sts_len (four s0 s1 s2 s3) HX.out i
      rw [← HE.out, L_len] at h1
      omega
    by_cases hlt : i < 4
    · have h1 : (i : Int) < 4 := by omega
      obtain ⟨x, hx⟩ : ∃ x, four s0 s1 s2 s3 i = x := ⟨_, rfl⟩
      have zx : x ≤ 9223372036854775807 := by rw [← hx]; exact HX.out i
      obtain ⟨nam, hnam⟩ : ∃ nam, S (nm i) = nam := ⟨_, rfl⟩
      have zn : nam.size ≤ 8 := by rw [← hnam, S_size]; exact nm_len i
      have HS : Hid (∀ X, Below wr.heap.size wr X → (X.cell? ⟨A, 5 + i, none⟩ = some (.int .i64 x) ∧ X.cell? ⟨Q, i, none⟩ = some (.string nam))) := Lib.hid (fun X bX => ⟨by rw [← hx]; exact (HR.out.up bX).ca i hlt, by rw [← hnam]; exact (HR.out.up bX).cq i hlt⟩)
      have HXi := Lib.hid hx
      have HNM := Lib.hid hnam
      clear hx hnam
      obtain ⟨m1, x1, x2, x3, x4⟩ := max_nat zx
      obtain ⟨d1, hd1⟩ : ∃ d, S (Lib.decDigits m1) = d := ⟨_, rfl⟩
      have zd1 : d1.size ≤ 20 := by rw [← hd1, S_size]; exact (dec_len x2).2
      have HX2 := Lib.hid x2
      have HX3 := Lib.hid x3
      have HD1 := Lib.hid hd1
      clear x2 x3 hd1
      obtain ⟨t1, e1⟩ : ∃ t', sv ++ (⟨#[83, 84, 65, 84, 32]⟩ : ByteArray) = t' := ⟨_, rfl⟩
      have z1 : t1.size ≤ 1010 := by rw [← e1, ByteArray.size_append]; show _ + 5 ≤ _; omega
      have n1 : ¬ (9223372036854775807 < (sv).size + ((⟨#[83, 84, 65, 84, 32]⟩ : ByteArray)).size) := by rw [show (⟨#[83, 84, 65, 84, 32]⟩ : ByteArray).size = 5 from rfl]; omega
      have a1 : ∀ w, (Op.stringOp .add sv (⟨#[83, 84, 65, 84, 32]⟩ : ByteArray)).run Tryd.prog w = .ok (.string t1) w := fun w => by rw [run_string_add_sum w _ _ (by rw [show (⟨#[83, 84, 65, 84, 32]⟩ : ByteArray).size = 5 from rfl]; omega), e1]
      obtain ⟨t2, e2⟩ : ∃ t', t1 ++ nam = t' := ⟨_, rfl⟩
      have z2 : t2.size ≤ 1020 := by rw [← e2, ByteArray.size_append]; omega
      have n2 : ¬ (9223372036854775807 < (t1).size + (nam).size) := by omega
      have a2 : ∀ w, (Op.stringOp .add t1 nam).run Tryd.prog w = .ok (.string t2) w := fun w => by rw [run_string_add_sum w _ _ (by omega), e2]
      obtain ⟨t3, e3⟩ : ∃ t', t2 ++ (⟨#[32]⟩ : ByteArray) = t' := ⟨_, rfl⟩
      have z3 : t3.size ≤ 1030 := by rw [← e3, ByteArray.size_append]; show _ + 1 ≤ _; omega
      have n3 : ¬ (9223372036854775807 < (t2).size + ((⟨#[32]⟩ : ByteArray)).size) := by rw [show (⟨#[32]⟩ : ByteArray).size = 1 from rfl]; omega
      have a3 : ∀ w, (Op.stringOp .add t2 (⟨#[32]⟩ : ByteArray)).run Tryd.prog w = .ok (.string t3) w := fun w => by rw [run_string_add_sum w _ _ (by rw [show (⟨#[32]⟩ : ByteArray).size = 1 from rfl]; omega), e3]
      obtain ⟨t4, e4⟩ : ∃ t', t3 ++ d1 = t' := ⟨_, rfl⟩
      have z4 : t4.size ≤ 1050 := by rw [← e4, ByteArray.size_append]; omega
      have n4 : ¬ (9223372036854775807 < (t3).size + (d1).size) := by omega
      have a4 : ∀ w, (Op.stringOp .add t3 d1).run Tryd.prog w = .ok (.string t4) w := fun w => by rw [run_string_add_sum w _ _ (by omega), e4]
      obtain ⟨t5, e5⟩ : ∃ t', t4 ++ (⟨#[13, 10]⟩ : ByteArray) = t' := ⟨_, rfl⟩
      have z5 : t5.size ≤ 1060 := by rw [← e5, ByteArray.size_append]; show _ + 2 ≤ _; omega
      have n5 : ¬ (9223372036854775807 < (t4).size + ((⟨#[13, 10]⟩ : ByteArray)).size) := by rw [show (⟨#[13, 10]⟩ : ByteArray).size = 2 from rfl]; omega
      have a5 : ∀ w, (Op.stringOp .add t4 (⟨#[13, 10]⟩ : ByteArray)).run Tryd.prog w = .ok (.string t5) w := fun w => by rw [run_string_add_sum w _ _ (by rw [show (⟨#[13, 10]⟩ : ByteArray).size = 2 from rfl]; omega), e5]
      have C1 : Hid (∀ W, Calls Tryd.prog 15 #[.int .u64 (m1 : Int)] W fun e w' => e = .returned (.string d1) ∧ Below W.heap.size W w') := Lib.hid (fun W => by rw [← HD1.out]; exact rdigits_any m1 HX2.out W)
      have HT5 : Hid (L t5 = sts (four s0 s1 s2 s3) (i + 1)) := Lib.hid (by
        rw [← e5, ← e4, ← e3, ← e2, ← e1]
        simp only [L_append]
        rw [HE.out, ← HD1.out, L_S, ← HX3.out, ← HNM.out, L_S, ← HXi.out]
        show _ = sts (four s0 s1 s2 s3) i ++ stl i (four s0 s1 s2 s3 i)
        rw [stl_eq]
        simp only [List.append_assoc]
        rfl)
      clear e1 e2 e3 e4 e5
      have BD : Hid (Below wr.heap.size wr wr.drew) := Lib.hid (below_drewN (Below.refl _ _) 1)
      have S0 := HS.out _ BD.out
      go_wp2_with fail
      go_region_held3 (fun w' => w'.cell? ⟨A, 5 + i, none⟩ = some (.int .i64 x) ∧ w'.cell? ⟨Q, i, none⟩ = some (.string nam))
        (first | with_reducible exact S0 | with_reducible exact S1)
        (first
          | (go_at_call 15; with_reducible refine (C1.out _).mono ?_; rintro e w4 ⟨rfl, b4⟩; have B1 : Hid (Below wr.heap.size wr w4) := Lib.hid (BD.out.trans (b4.mono BD.out.size)); have S1 := HS.out _ B1.out; clear b4))
      have HR5 := Lib.hid (HR.out.up B1.out)
      clear S0 S1 HS BD B1 HR n1 n2 n3 n4 n5 a1 a2 a3 a4 a5 x1 x4 C1
      go_wp2_with fail
      exact ⟨⟨i + 1, t5, by omega, rfl, by go_num, HT5, HR5⟩, by simp [intOf]; omega⟩
    · have h1 : decide ((i : Int) < 4) = false := decide_eq_false (by omega)
      obtain rfl : i = 4 := by omega
      have e : S (stats (four s0 s1 s2 s3)) = sv ++ (⟨#[69, 78, 68, 13, 10]⟩ : ByteArray) := L_inj (by
        rw [L_S, L_append, HE.out]
        rfl)
      have HE2 := Lib.hid e
      clear e
      go_wp2_with fail
      rw [HE2.out]
      go_ret
      exact ⟨rfl, HR.out.below⟩
theorem rtext_any (x : An) (a : Option Addr) (cap : Nat) (w : World) (hF : FdF w a x.fs) (hok : AnOk x) :
    Calls Tryd.prog 9 #[x.v a cap] w fun e w' => e = .returned (.string (S (txt x))) ∧ Below w.heap.size w w' := by
  obtain ⟨kind, fs, g, num, text, s0, s1, s2, s3⟩ := x
  obtain ⟨o1, o2, o3, o4, o5, o6, o7, o8⟩ := hok
  unfold An.v
  simp only at o1 o2 o3 o4 o5 o6 o7 o8 hF ⊢
  by_cases k1 : kind = 1
  · subst k1
    exact rtext_1 fs g num text s0 s1 s2 s3 a _ cap w rfl hF o2 o1
  by_cases k2 : kind = 2
  · subst k2
    exact rtext_2 g num text s0 s1 s2 s3 a _ cap w
  by_cases k3 : kind = 3
  · subst k3
    exact rtext_3 g num text s0 s1 s2 s3 a _ cap w
  by_cases k4 : kind = 4
  · subst k4
    exact rtext_4 g num text s0 s1 s2 s3 a _ cap w
  by_cases k5 : kind = 5
  · subst k5
    exact rtext_5 g num text s0 s1 s2 s3 a _ cap w
  by_cases k6 : kind = 6
  · subst k6
    exact rtext_6 g num text s0 s1 s2 s3 a _ cap w
  by_cases k7 : kind = 7
  · subst k7
    exact rtext_7 g num text s0 s1 s2 s3 a _ cap w
  by_cases k8 : kind = 8
  · subst k8
    exact rtext_8 g num text s0 s1 s2 s3 a _ cap w o4
  by_cases k9 : kind = 9
  · subst k9
    exact rtext_9 g num text s0 s1 s2 s3 a _ cap w
  by_cases k10 : kind = 10
  · subst k10
    exact rtext_10 g num text s0 s1 s2 s3 a _ cap w
  by_cases k11 : kind = 11
  · subst k11
    exact rtext_11 g num text s0 s1 s2 s3 a _ cap w o5 o6 o7 o8
  by_cases k12 : kind = 12
  · subst k12
    exact rtext_12 g num text s0 s1 s2 s3 a _ cap w
  by_cases k13 : kind = 13
  · subst k13
    exact rtext_13 g num text s0 s1 s2 s3 a _ cap w o3
  by_cases k14 : kind = 14
  · subst k14
    exact rtext_14 g num text s0 s1 s2 s3 a _ cap w o3
  have e : txt ⟨kind, fs, g, num, text, s0, s1, s2, s3⟩ = [] := by
    unfold txt
    simp only
    rw [if_neg k1, if_neg k2, if_neg k3, if_neg k4, if_neg k5, if_neg k6, if_neg k7, if_neg k8, if_neg k9, if_neg k10, if_neg k11, if_neg k12, if_neg k13, if_neg k14]
  rw [e]
  by_cases hk : kind < 1
  · exact rtext_low kind g num text s0 s1 s2 s3 a _ cap w hk
  · exact rtext_high kind g num text s0 s1 s2 s3 a _ cap w (by omega)
end Go.Proofs.YtjlcnfafjblmkaaDoor
