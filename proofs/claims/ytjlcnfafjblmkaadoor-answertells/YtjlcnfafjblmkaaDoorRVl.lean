/-
  TEXT of the reference: values.
-/
import Derived.Test.YtjlcnfafjblmkaaDoorRTx
namespace Go.Proofs.YtjlcnfafjblmkaaDoor
open Go.RowKit
open Go.Lib (TabIs pow10Tab OthersKept)

theorem vl_false (f : Fd) : vl false f = [86, 65, 76, 85, 69, 32] ++ L f.key ++ [32] ++ dg f.fl ++ [32] ++ dg (f.val.size : Int) ++ [13, 10] ++ L f.val ++ [13, 10] := by
  simp [vl, ln, hd, Lib.join_cons, Lib.joinTail]
theorem vl_true (f : Fd) : vl true f = [86, 65, 76, 85, 69, 32] ++ L f.key ++ [32] ++ dg f.fl ++ [32] ++ dg (f.val.size : Int) ++ [32] ++ dg f.cas ++ [13, 10] ++ L f.val ++ [13, 10] := by
  simp [vl, ln, hd, Lib.join_cons, Lib.joinTail]
theorem vls_more (g : Bool) (fs : List Fd) (i : Nat) (f : Fd) (h : fs[i]? = some f) : vls g (fs.take (i + 1)) = vls g (fs.take i) ++ vl g f := by
  rw [List.take_add_one, h, vls_app]
  simp [vls]
/-- A number that is not below nought, as the reference takes it. -/
theorem max_nat {n : Int} (h : n ≤ 9223372036854775807) : ∃ m : Nat, max n 0 = (m : Int) ∧ m < 18446744073709551616 ∧ dg n = Lib.decDigits m ∧ IntKind.u64.wrap (m : Int) = (m : Int) :=
  ⟨n.toNat, by omega, by omega, rfl, by simp [IntKind.wrap, IntKind.bits, IntKind.signed]; omega⟩
/-- Where the reference stands: the answer's cells. -/
structure Rw (w wr : World) (A : Nat) (v : Value) (g : Bool) : Prop where
  below : Below w.heap.size w wr
  lt : A < wr.heap.size
  c1 : wr.cell? ⟨A, 1, none⟩ = some v
  c2 : wr.cell? ⟨A, 2, none⟩ = some (.bool g)
theorem Rw.up {w wr wr' : World} {A : Nat} {v : Value} {g : Bool} (h : Rw w wr A v g) (hb : Below wr.heap.size wr wr') : Rw w wr' A v g :=
  ⟨h.below.trans (hb.mono h.below.size), Nat.lt_of_lt_of_le h.lt hb.size, (World.cell?_of_block (a := ⟨A, 1, none⟩) (hb.block A h.lt)).trans h.c1, (World.cell?_of_block (a := ⟨A, 2, none⟩) (hb.block A h.lt)).trans h.c2⟩
set_option maxRecDepth 100000 in
set_option maxHeartbeats 2000000 in
theorem rtext_1 (fs : List Fd) (g : Bool) (num : Nat) (text : ByteArray) (s0 s1 s2 s3 : Int) (a : Option Addr) (n cap : Nat) (w : World) (hn : fs.length = n) (hF : FdF w a fs) (hok : ∀ f ∈ fs, FdOk f) (hlen : n ≤ 8000) :
    Calls Tryd.prog 9 #[.agg #[.int .i64 1, .slice a n cap, .bool g, .int .u64 (num : Int), .string text, .int .i64 s0, .int .i64 s1, .int .i64 s2, .int .i64 s3]] w fun e w' => e = .returned (.string (S (vals g fs))) ∧ Below w.heap.size w w' := by
  have HF := Lib.hid hF
  have HO := Lib.hid hok
  have HN := Lib.hid hn
  clear hF hok hn
  go_enter Tryd.func9, Tryd.ntmps9
  go_wp2_with fail
  have HR : Hid (Rw w (w.alloc (.cells #[.int .i64 1, .slice a n cap, .bool g, .int .u64 (num : Int), .string text, .int .i64 s0, .int .i64 s1, .int .i64 s2, .int .i64 s3] 28)) w.heap.size (.slice a n cap) g) := Lib.hid ⟨below_alloc _ _, by simp, by rw [World.cell?_alloc_new]; rfl, by rw [World.cell?_alloc_new]; rfl⟩
  obtain ⟨W1, hW1⟩ : ∃ W, w.alloc (.cells #[.int .i64 1, .slice a n cap, .bool g, .int .u64 (num : Int), .string text, .int .i64 s0, .int .i64 s1, .int .i64 s2, .int .i64 s3] 28) = W := ⟨_, rfl⟩
  obtain ⟨A, hA⟩ : ∃ A, w.heap.size = A := ⟨_, rfl⟩
  rw [hW1, hA] at HR
  rw [hW1, hA]
  clear hW1 hA
  go_loopw [3, 4] (fun sv iv wr => ∃ (i : Nat) (s : ByteArray), i ≤ n ∧ sv = .string s ∧ iv = .int .i64 (i : Int) ∧ Hid (L s = vls g (fs.take i)) ∧ Hid (Rw w wr A (.slice a n cap) g)) (fun _ iv _ => n - (intOf iv).toNat)
  case atStart => exact ⟨0, ⟨#[]⟩, by omega, rfl, rfl, Lib.hid rfl, HR⟩
  case round =>
    clear HR
    obtain ⟨i, sv, hi, rfl, rfl, HE, HR⟩ := hrel
    have zs : sv.size ≤ 49600000 := by
      have h1 := vls_len g (fs.take i) (fun f hf => HO.out f (List.mem_of_mem_take hf))
      have h2 : (fs.take i).length ≤ 8000 := by rw [List.length_take, HN.out]; omega
      rw [← HE.out, L_len] at h1
      omega
    have cA := HR.out.c1
    by_cases hlt : i < n
    · have h1 : (i : Int) < (n : Int) := by omega
      obtain ⟨f, hf⟩ : ∃ f, fs[i]? = some f := ⟨_, List.getElem?_eq_getElem (by rw [HN.out]; exact hlt)⟩
      have HFi := Lib.hid hf
      have HOf := Lib.hid (HO.out f (List.mem_of_getElem? hf))
      obtain ⟨p, off, rfl, c0, c1, c2, c3⟩ : ∃ p off, a = some ⟨p, off, none⟩ ∧ wr.cell? ⟨p, off + i * 4, none⟩ = some (.string f.key) ∧ wr.cell? ⟨p, off + i * 4 + 1, none⟩ = some (.int .i64 f.fl) ∧ wr.cell? ⟨p, off + i * 4 + 2, none⟩ = some (.string f.val) ∧ wr.cell? ⟨p, off + i * 4 + 3, none⟩ = some (.int .i64 f.cas) := by
        rcases HF.out.below rfl HR.out.below with h | ⟨p, off, h1, h2, h3⟩
        · rw [h] at hf; simp at hf
        · exact ⟨p, off, h1, h3 i f hf⟩
      clear hf
      go_wp2_with fail
      have HA : Hid (FdAt (wr.alloc (.cells #[.string f.key, .int .i64 f.fl, .string f.val, .int .i64 f.cas] 23)) wr.heap.size f) := Lib.hid (heap_alloc_new _ _)
      have HR2 : Hid (Rw w (wr.alloc (.cells #[.string f.key, .int .i64 f.fl, .string f.val, .int .i64 f.cas] 23)) A (.slice (some ⟨p, off, none⟩) n cap) g) := Lib.hid (HR.out.up (below_alloc _ _))
      obtain ⟨V, hV⟩ : ∃ V, wr.heap.size = V := ⟨_, rfl⟩
      obtain ⟨W2, hW2⟩ : ∃ W, wr.alloc (.cells #[.string f.key, .int .i64 f.fl, .string f.val, .int .i64 f.cas] 23) = W := ⟨_, rfl⟩
      rw [hV, hW2] at HA
      rw [hW2] at HR2
      rw [hW2, hV]
      clear hV hW2 HR c0 c1 c2 c3 cA
      have HS : Hid (∀ X, Below W2.heap.size W2 X → (X.cell? ⟨V, 0, none⟩ = some (.string f.key) ∧ X.cell? ⟨V, 1, none⟩ = some (.int .i64 f.fl) ∧ X.cell? ⟨V, 2, none⟩ = some (.string f.val))) := Lib.hid (fun X bX => ⟨(HA.out.up bX).cells.1, (HA.out.up bX).cells.2.1, (HA.out.up bX).cells.2.2.1⟩)
      have BD : Hid (Below W2.heap.size W2 W2.drew) := Lib.hid (below_drewN (Below.refl _ _) 1)
      have S0 := HS.out _ BD.out
      have zk := HOf.out.key
      have zw := HOf.out.val
      obtain ⟨m1, x1, x2, x3, x4⟩ := max_nat HOf.out.fl
      obtain ⟨d1, hd1⟩ : ∃ d, S (Lib.decDigits m1) = d := ⟨_, rfl⟩
      obtain ⟨d2, hd2⟩ : ∃ d, S (Lib.decDigits f.val.size) = d := ⟨_, rfl⟩
      have zd1 : d1.size ≤ 20 := by rw [← hd1, S_size]; exact (dec_len x2).2
      have zd2 : d2.size ≤ 20 := by rw [← hd2, S_size]; exact (dec_len (by omega)).2
      have x5 : IntKind.u64.wrap (f.val.size : Int) = (f.val.size : Int) := by simp [IntKind.wrap, IntKind.bits, IntKind.signed]; omega
      have HX2 := Lib.hid x2
      have HX3 := Lib.hid x3
      have HD1 := Lib.hid hd1
      have HD2 := Lib.hid hd2
      clear x2 x3 hd1 hd2
      obtain ⟨t1, e1⟩ : ∃ t', sv ++ (⟨#[86, 65, 76, 85, 69, 32]⟩ : ByteArray) = t' := ⟨_, rfl⟩
      have z1 : t1.size ≤ 50000010 := by rw [← e1, ByteArray.size_append]; show _ + 6 ≤ _; omega
      have n1 : ¬ (9223372036854775807 < (sv).size + ((⟨#[86, 65, 76, 85, 69, 32]⟩ : ByteArray)).size) := by rw [show (⟨#[86, 65, 76, 85, 69, 32]⟩ : ByteArray).size = 6 from rfl]; omega
      have a1 : ∀ w, (Op.stringOp .add sv (⟨#[86, 65, 76, 85, 69, 32]⟩ : ByteArray)).run Tryd.prog w = .ok (.string t1) w := fun w => by rw [run_string_add_sum w _ _ (by rw [show (⟨#[86, 65, 76, 85, 69, 32]⟩ : ByteArray).size = 6 from rfl]; omega), e1]
      obtain ⟨t2, e2⟩ : ∃ t', t1 ++ f.key = t' := ⟨_, rfl⟩
      have z2 : t2.size ≤ 50003010 := by rw [← e2, ByteArray.size_append]; omega
      have n2 : ¬ (9223372036854775807 < (t1).size + (f.key).size) := by omega
      have a2 : ∀ w, (Op.stringOp .add t1 f.key).run Tryd.prog w = .ok (.string t2) w := fun w => by rw [run_string_add_sum w _ _ (by omega), e2]
      obtain ⟨t3, e3⟩ : ∃ t', t2 ++ (⟨#[32]⟩ : ByteArray) = t' := ⟨_, rfl⟩
      have z3 : t3.size ≤ 50003020 := by rw [← e3, ByteArray.size_append]; show _ + 1 ≤ _; omega
      have n3 : ¬ (9223372036854775807 < (t2).size + ((⟨#[32]⟩ : ByteArray)).size) := by rw [show (⟨#[32]⟩ : ByteArray).size = 1 from rfl]; omega
      have a3 : ∀ w, (Op.stringOp .add t2 (⟨#[32]⟩ : ByteArray)).run Tryd.prog w = .ok (.string t3) w := fun w => by rw [run_string_add_sum w _ _ (by rw [show (⟨#[32]⟩ : ByteArray).size = 1 from rfl]; omega), e3]
      obtain ⟨t4, e4⟩ : ∃ t', t3 ++ d1 = t' := ⟨_, rfl⟩
      have z4 : t4.size ≤ 50003040 := by rw [← e4, ByteArray.size_append]; omega
      have n4 : ¬ (9223372036854775807 < (t3).size + (d1).size) := by omega
      have a4 : ∀ w, (Op.stringOp .add t3 d1).run Tryd.prog w = .ok (.string t4) w := fun w => by rw [run_string_add_sum w _ _ (by omega), e4]
      obtain ⟨t5, e5⟩ : ∃ t', t4 ++ (⟨#[32]⟩ : ByteArray) = t' := ⟨_, rfl⟩
      have z5 : t5.size ≤ 50003050 := by rw [← e5, ByteArray.size_append]; show _ + 1 ≤ _; omega
      have n5 : ¬ (9223372036854775807 < (t4).size + ((⟨#[32]⟩ : ByteArray)).size) := by rw [show (⟨#[32]⟩ : ByteArray).size = 1 from rfl]; omega
      have a5 : ∀ w, (Op.stringOp .add t4 (⟨#[32]⟩ : ByteArray)).run Tryd.prog w = .ok (.string t5) w := fun w => by rw [run_string_add_sum w _ _ (by rw [show (⟨#[32]⟩ : ByteArray).size = 1 from rfl]; omega), e5]
      obtain ⟨t6, e6⟩ : ∃ t', t5 ++ d2 = t' := ⟨_, rfl⟩
      have z6 : t6.size ≤ 50003070 := by rw [← e6, ByteArray.size_append]; omega
      have n6 : ¬ (9223372036854775807 < (t5).size + (d2).size) := by omega
      have a6 : ∀ w, (Op.stringOp .add t5 d2).run Tryd.prog w = .ok (.string t6) w := fun w => by rw [run_string_add_sum w _ _ (by omega), e6]
      have C1 : Hid (∀ W, Calls Tryd.prog 15 #[.int .u64 (m1 : Int)] W fun e w' => e = .returned (.string d1) ∧ Below W.heap.size W w') := Lib.hid (fun W => by rw [← HD1.out]; exact rdigits_any m1 HX2.out W)
      have C2 : Hid (∀ W, Calls Tryd.prog 15 #[.int .u64 (f.val.size : Int)] W fun e w' => e = .returned (.string d2) ∧ Below W.heap.size W w') := Lib.hid (fun W => by rw [← HD2.out]; exact rdigits_any f.val.size (by omega) W)
      have HT6 : Hid (L t6 = vls g (fs.take i) ++ [86, 65, 76, 85, 69, 32] ++ L f.key ++ [32] ++ dg f.fl ++ [32] ++ dg (f.val.size : Int)) := Lib.hid (by
        rw [← e6, ← e5, ← e4, ← e3, ← e2, ← e1]
        simp only [L_append]
        rw [HE.out, ← HD1.out, ← HD2.out, L_S, L_S, HX3.out]
        rfl)
      clear e1 e2 e3 e4 e5 e6
      go_region_held3 (fun w' => w'.cell? ⟨V, 0, none⟩ = some (.string f.key) ∧ w'.cell? ⟨V, 1, none⟩ = some (.int .i64 f.fl) ∧ w'.cell? ⟨V, 2, none⟩ = some (.string f.val))
        (first | with_reducible exact S0 | with_reducible exact S1 | with_reducible exact S2)
        (first
          | (go_at_call 15; with_reducible refine (C1.out _).mono ?_; rintro e w4 ⟨rfl, b4⟩; have B1 : Hid (Below W2.heap.size W2 w4) := Lib.hid (BD.out.trans (b4.mono BD.out.size)); have S1 := HS.out _ B1.out; clear b4)
          | (go_at_call 15; with_reducible refine (C2.out _).mono ?_; rintro e w5 ⟨rfl, b5⟩; have B2 : Hid (Below W2.heap.size W2 w5) := Lib.hid (B1.out.trans (b5.mono B1.out.size)); have S2 := HS.out _ B2.out; clear b5))
      have HA5 := Lib.hid (HA.out.up B2.out)
      have HR5 := Lib.hid (HR2.out.up B2.out)
      have k2 := HR5.out.c2
      clear S0 S1 S2 HS BD B1 B2 HR2 HA n1 n2 n3 n4 n5 n6 a1 a2 a3 a4 a5 a6 x1 x4 x5 C1 C2
      cases g
      case false =>
        obtain ⟨u1, q1⟩ : ∃ t', t6 ++ (⟨#[13, 10]⟩ : ByteArray) = t' := ⟨_, rfl⟩
        have y1 : u1.size ≤ 50003080 := by rw [← q1, ByteArray.size_append]; show _ + 2 ≤ _; omega
        obtain ⟨u2, q2⟩ : ∃ t', u1 ++ f.val = t' := ⟨_, rfl⟩
        have y2 : u2.size ≤ 50006080 := by rw [← q2, ByteArray.size_append]; omega
        obtain ⟨u3, q3⟩ : ∃ t', u2 ++ (⟨#[13, 10]⟩ : ByteArray) = t' := ⟨_, rfl⟩
        have HU : Hid (L u3 = vls false (fs.take (i + 1))) := Lib.hid (by
          rw [vls_more false fs i f HFi.out, vl_false, ← q3, ← q2, ← q1]
          simp only [L_append]
          rw [HT6.out]
          simp only [List.append_assoc]
          rfl)
        obtain ⟨d0, d1', d2', d3⟩ := HA5.out.cells
        clear HT6 d0 d1' d3
        go_wp2_with fail
        exact ⟨⟨i + 1, u3, by omega, rfl, by go_num, HU, HR5⟩, by simp [intOf]; omega⟩
      case true =>
        obtain ⟨m3, x1, x2, x3, x4⟩ := max_nat HOf.out.cas
        have HX2 := Lib.hid x2
        obtain ⟨d3', hd3⟩ : ∃ d, S (Lib.decDigits m3) = d := ⟨_, rfl⟩
        have zd3 : d3'.size ≤ 20 := by rw [← hd3, S_size]; exact (dec_len x2).2
        obtain ⟨v1, r1⟩ : ∃ t', t6 ++ (⟨#[32]⟩ : ByteArray) = t' := ⟨_, rfl⟩
        have v1z : v1.size ≤ 50003080 := by rw [← r1, ByteArray.size_append]; show _ + 1 ≤ _; omega
        obtain ⟨v2, r2⟩ : ∃ t', v1 ++ d3' = t' := ⟨_, rfl⟩
        have v2z : v2.size ≤ 50003100 := by rw [← r2, ByteArray.size_append]; omega
        obtain ⟨u1, q1⟩ : ∃ t', v2 ++ (⟨#[13, 10]⟩ : ByteArray) = t' := ⟨_, rfl⟩
        have y1 : u1.size ≤ 50003110 := by rw [← q1, ByteArray.size_append]; show _ + 2 ≤ _; omega
        obtain ⟨u2, q2⟩ : ∃ t', u1 ++ f.val = t' := ⟨_, rfl⟩
        have y2 : u2.size ≤ 50006110 := by rw [← q2, ByteArray.size_append]; omega
        obtain ⟨u3, q3⟩ : ∃ t', u2 ++ (⟨#[13, 10]⟩ : ByteArray) = t' := ⟨_, rfl⟩
        have HU : Hid (L u3 = vls true (fs.take (i + 1))) := Lib.hid (by
          rw [vls_more true fs i f HFi.out, vl_true, ← q3, ← q2, ← q1, ← r2, ← r1]
          simp only [L_append]
          rw [HT6.out, ← hd3, L_S, ← x3]
          simp only [List.append_assoc]
          rfl)
        have HD3 := Lib.hid hd3
        obtain ⟨d0, d1', d2', d3⟩ := HA5.out.cells
        clear HT6 d0 d1' x2 x3 hd3
        go_wp2_with fail
        refine (rdigits_any m3 HX2.out _).mono ?_
        rintro e w6 ⟨rfl, b6⟩
        rw [HD3.out]
        have HR6 := Lib.hid (HR5.out.up b6)
        obtain ⟨d0, d1', d2'', d3''⟩ := (HA5.out.up b6).cells
        clear d0 d1' d3'' d2' d3 HR5 b6
        go_wp2_with fail
        exact ⟨⟨i + 1, u3, by omega, rfl, by go_num, HU, HR6⟩, by simp [intOf]; omega⟩
    · have h1 : decide ((i : Int) < (n : Int)) = false := decide_eq_false (by omega)
      obtain rfl : i = n := by omega
      have e : S (vals g fs) = sv ++ (⟨#[69, 78, 68, 13, 10]⟩ : ByteArray) := L_inj (by
        have h := HE.out
        rw [List.take_of_length_le (by rw [HN.out]; omega)] at h
        rw [L_S, L_append, h]
        rfl)
      have HE2 := Lib.hid e
      clear e
      go_wp2_with fail
      rw [HE2.out]
      go_ret
      exact ⟨rfl, HR.out.below⟩
end Go.Proofs.YtjlcnfafjblmkaaDoor
