/-
  ANSWERLINES walked.
-/
import Derived.Test.YtjlcnfafjblmkaaDoorKinds
namespace Go.Proofs.YtjlcnfafjblmkaaDoor
open Go.RowKit
open Go.Lib (TabIs pow10Tab OthersKept)

/-- An answer in a variable of the call's own. -/
def AnAt (w : World) (A : Nat) (x : An) (a : Option Addr) (cap : Nat) : Prop := w.heap[A]? = some (.cells #[.int .i64 x.kind, .slice a x.fs.length cap, .bool x.gets, .int .u64 (x.num : Int), .string x.text, .int .i64 x.s0, .int .i64 x.s1, .int .i64 x.s2, .int .i64 x.s3] 28)
theorem AnAt.lt {w : World} {A : Nat} {x : An} {a : Option Addr} {cap : Nat} (h : AnAt w A x a cap) : A < w.heap.size := (Array.getElem?_eq_some_iff.1 h).1
theorem AnAt.up {w w' : World} {A : Nat} {x : An} {a : Option Addr} {cap : Nat} (h : AnAt w A x a cap) (hb : Below w.heap.size w w') : AnAt w' A x a cap := (hb.block A h.lt).trans h
theorem AnAt.cell {w : World} {A : Nat} {x : An} {a : Option Addr} {cap : Nat} (h : AnAt w A x a cap) {j : Nat} {u : Value} (hu : (#[.int .i64 x.kind, .slice a x.fs.length cap, .bool x.gets, .int .u64 (x.num : Int), .string x.text, .int .i64 x.s0, .int .i64 x.s1, .int .i64 x.s2, .int .i64 x.s3] : Array Value)[j]? = some u) : w.cell? ⟨A, j, none⟩ = some u := by
  unfold AnAt at h
  unfold World.cell?
  rw [h]
  simpa using hu
theorem AnAt.cells {w : World} {A : Nat} {x : An} {a : Option Addr} {cap : Nat} (h : AnAt w A x a cap) : w.cell? ⟨A, 0, none⟩ = some (.int .i64 x.kind) ∧ w.cell? ⟨A, 1, none⟩ = some (.slice a x.fs.length cap) ∧ w.cell? ⟨A, 2, none⟩ = some (.bool x.gets) ∧ w.cell? ⟨A, 3, none⟩ = some (.int .u64 (x.num : Int)) ∧ w.cell? ⟨A, 4, none⟩ = some (.string x.text) ∧ w.cell? ⟨A, 5, none⟩ = some (.int .i64 x.s0) ∧ w.cell? ⟨A, 6, none⟩ = some (.int .i64 x.s1) ∧ w.cell? ⟨A, 7, none⟩ = some (.int .i64 x.s2) ∧ w.cell? ⟨A, 8, none⟩ = some (.int .i64 x.s3) :=
  ⟨h.cell rfl, h.cell rfl, h.cell rfl, h.cell rfl, h.cell rfl, h.cell rfl, h.cell rfl, h.cell rfl, h.cell rfl⟩
theorem AnAt.new (w : World) (x : An) (a : Option Addr) (cap : Nat) : AnAt (w.alloc (.cells #[.int .i64 x.kind, .slice a x.fs.length cap, .bool x.gets, .int .u64 (x.num : Int), .string x.text, .int .i64 x.s0, .int .i64 x.s1, .int .i64 x.s2, .int .i64 x.s3] 28)) w.heap.size x a cap := heap_alloc_new _ _
theorem ite_len {c : Prop} [Decidable c] {a b : B} {N : Nat} (ha : a.length ≤ N) (hb : b.length ≤ N) : (if c then a else b).length ≤ N := by split <;> assumption
theorem txt_S_size {x : An} (h : AnOk x) : (S (txt x)).size ≤ 60000000 := by
  rw [S_size]
  obtain ⟨kind, fs, g, num, text, s0, s1, s2, s3⟩ := x
  obtain ⟨o1, o2, o3, o4, o5, o6, o7, o8⟩ := h
  simp only at o1 o2 o3 o4 o5 o6 o7 o8
  have L1 : ∀ ws : List B, Lib.lens ws + ws.length ≤ 50000000 → (ln ws).length ≤ 60000000 := fun ws h => Nat.le_trans (ln_len ws) (by omega)
  have hv := vls_len g fs o2
  have hs := sts_len (four s0 s1 s2 s3) (fun i => by rcases i with _ | _ | _ | i <;> assumption) 4
  have hd := dec_len o4
  have hE : (ln [END]).length ≤ 6 := by decide
  have ht := L_len text
  unfold txt
  simp only
  refine ite_len ?_ ?_
  · unfold vals; rw [List.length_append]; omega
  refine ite_len ?_ ?_
  · refine L1 _ ?_; simp [Lib.lens]
  refine ite_len ?_ ?_
  · refine L1 _ ?_; simp [Lib.lens]
  refine ite_len ?_ ?_
  · refine L1 _ ?_; simp [Lib.lens]
  refine ite_len ?_ ?_
  · refine L1 _ ?_; simp [Lib.lens]
  refine ite_len ?_ ?_
  · refine L1 _ ?_; simp [Lib.lens]
  refine ite_len ?_ ?_
  · refine L1 _ ?_; simp [Lib.lens]
  refine ite_len ?_ ?_
  · refine L1 _ ?_; simp [Lib.lens]; omega
  refine ite_len ?_ ?_
  · refine L1 _ ?_; simp [Lib.lens]
  refine ite_len ?_ ?_
  · refine L1 _ ?_; simp [Lib.lens]
  refine ite_len ?_ ?_
  · unfold stats; rw [List.length_append]; omega
  refine ite_len ?_ ?_
  · refine L1 _ ?_; simp [Lib.lens]
  refine ite_len ?_ ?_
  · refine L1 _ ?_; simp [Lib.lens]; omega
  refine ite_len ?_ ?_
  · refine L1 _ ?_; simp [Lib.lens]; omega
  · simp
set_option maxRecDepth 100000 in
set_option maxHeartbeats 2000000 in
theorem lines_walk (x y : An) (a1 a2 : Option Addr) (cap1 cap2 : Nat) (w : World) (hx : AnIn x) (hy : AnIn y) (hn1 : x.fs.length ≤ 9223372036854775807) (hn2 : y.fs.length ≤ 9223372036854775807) (hF1 : FdF w a1 x.fs) (hF2 : FdF w a2 y.fs) (ht : Tb w) :
    Calls Tryd.prog 6 #[x.v a1 cap1, y.v a2 cap2] w fun e w' => e = .returned (.bool true) ∧ Below w.heap.size w w' := by
  have HX := Lib.hid hx
  have HY := Lib.hid hy
  have HF1 := Lib.hid hF1
  have HF2 := Lib.hid hF2
  have HT := Lib.hid ht
  have HN1 := Lib.hid hn1
  have HN2 := Lib.hid hn2
  clear hx hy hF1 hF2 ht hn1 hn2
  unfold An.v
  go_enter Tryd.func6, Tryd.ntmps6
  go_wp2_with fail
  have HB1 : Hid (Below w.heap.size w ((w.alloc (.cells #[.int .i64 x.kind, .slice a1 x.fs.length cap1, .bool x.gets, .int .u64 (x.num : Int), .string x.text, .int .i64 x.s0, .int .i64 x.s1, .int .i64 x.s2, .int .i64 x.s3] 28)).alloc (.cells #[.int .i64 y.kind, .slice a2 y.fs.length cap2, .bool y.gets, .int .u64 (y.num : Int), .string y.text, .int .i64 y.s0, .int .i64 y.s1, .int .i64 y.s2, .int .i64 y.s3] 28))) := Lib.hid (up1 (below_alloc _ _))
  have HA1 : Hid (AnAt ((w.alloc (.cells #[.int .i64 x.kind, .slice a1 x.fs.length cap1, .bool x.gets, .int .u64 (x.num : Int), .string x.text, .int .i64 x.s0, .int .i64 x.s1, .int .i64 x.s2, .int .i64 x.s3] 28)).alloc (.cells #[.int .i64 y.kind, .slice a2 y.fs.length cap2, .bool y.gets, .int .u64 (y.num : Int), .string y.text, .int .i64 y.s0, .int .i64 y.s1, .int .i64 y.s2, .int .i64 y.s3] 28)) w.heap.size x a1 cap1) := Lib.hid ((AnAt.new w x a1 cap1).up (below_alloc _ _))
  have HC1 : Hid (AnAt ((w.alloc (.cells #[.int .i64 x.kind, .slice a1 x.fs.length cap1, .bool x.gets, .int .u64 (x.num : Int), .string x.text, .int .i64 x.s0, .int .i64 x.s1, .int .i64 x.s2, .int .i64 x.s3] 28)).alloc (.cells #[.int .i64 y.kind, .slice a2 y.fs.length cap2, .bool y.gets, .int .u64 (y.num : Int), .string y.text, .int .i64 y.s0, .int .i64 y.s1, .int .i64 y.s2, .int .i64 y.s3] 28)) (w.heap.size + 1) y a2 cap2) := Lib.hid (by
    have h := AnAt.new (w.alloc (.cells #[.int .i64 x.kind, .slice a1 x.fs.length cap1, .bool x.gets, .int .u64 (x.num : Int), .string x.text, .int .i64 x.s0, .int .i64 x.s1, .int .i64 x.s2, .int .i64 x.s3] 28)) y a2 cap2
    simpa using h)
  obtain ⟨W1, hW1⟩ : ∃ W, (w.alloc (.cells #[.int .i64 x.kind, .slice a1 x.fs.length cap1, .bool x.gets, .int .u64 (x.num : Int), .string x.text, .int .i64 x.s0, .int .i64 x.s1, .int .i64 x.s2, .int .i64 x.s3] 28)).alloc (.cells #[.int .i64 y.kind, .slice a2 y.fs.length cap2, .bool y.gets, .int .u64 (y.num : Int), .string y.text, .int .i64 y.s0, .int .i64 y.s1, .int .i64 y.s2, .int .i64 y.s3] 28) = W := ⟨_, rfl⟩
  obtain ⟨A, hA⟩ : ∃ A, w.heap.size = A := ⟨_, rfl⟩
  rw [hW1] at HB1 HA1 HC1 ⊢
  rw [hA] at HA1 HC1 ⊢
  clear hW1 hA
  refine (light_any x a1 cap1 _ HN1.out (HF1.out.below rfl HB1.out) HX.out).mono ?_
  rintro e w2 ⟨rfl, b2⟩
  have HB2 := Lib.hid (HB1.out.trans (b2.mono HB1.out.size))
  have HA2 := Lib.hid (HA1.out.up b2)
  have HC2 := Lib.hid (HC1.out.up b2)
  clear b2 HB1 HA1 HC1
  obtain ⟨lx, hlx⟩ : ∃ lx, li x.text.size x.fs = lx := ⟨_, rfl⟩
  rw [hlx]
  have HLX := Lib.hid hlx
  clear hlx
  cases lx
  case false =>
    go_wp2_with fail
    refine (runs_any _ (tb_up HT.out HB2.out)).mono ?_
    rintro e w9 ⟨rfl, b9⟩
    have HB9 := Lib.hid (HB2.out.trans (b9.mono HB2.out.size))
    clear b9
    go_wp2_with fail
    go_ret
    exact ⟨rfl, HB9.out⟩
  case true =>
    obtain ⟨c0, c1, c2, c3, c4, c5, c6, c7, c8⟩ := HC2.out.cells
    go_wp2_with fail
    refine (light_any y a2 cap2 _ HN2.out (HF2.out.below rfl HB2.out) HY.out).mono ?_
    rintro e w3 ⟨rfl, b3⟩
    have HB3 := Lib.hid (HB2.out.trans (b3.mono HB2.out.size))
    have HA3 := Lib.hid (HA2.out.up b3)
    have HC3 := Lib.hid (HC2.out.up b3)
    clear b3 HB2 HA2 HC2 c0 c1 c2 c3 c4 c5 c6 c7 c8
    obtain ⟨ly, hly⟩ : ∃ ly, li y.text.size y.fs = ly := ⟨_, rfl⟩
    rw [hly]
    clear hly
    cases ly
    case false =>
      go_wp2_with fail
      refine (runs_any _ (tb_up HT.out HB3.out)).mono ?_
      rintro e w9 ⟨rfl, b9⟩
      have HB9 := Lib.hid (HB3.out.trans (b9.mono HB3.out.size))
      clear b9
      go_wp2_with fail
      go_ret
      exact ⟨rfl, HB9.out⟩
    case true =>
      obtain ⟨c0, c1, c2, c3, c4, c5, c6, c7, c8⟩ := HA3.out.cells
      go_wp2_with fail
      refine (text_any x a1 cap1 _ (HF1.out.below rfl HB3.out) (HX.out.ok HLX.out) (tb_up HT.out HB3.out)).mono ?_
      rintro e w4 ⟨rfl, b4⟩
      have HB4 := Lib.hid (HB3.out.trans (b4.mono HB3.out.size))
      have HA4 := Lib.hid (HA3.out.up b4)
      have HC4 := Lib.hid (HC3.out.up b4)
      clear b4 HB3 HA3 HC3 c0 c1 c2 c3 c4 c5 c6 c7 c8
      have k0 := HA4.out.cells.1
      by_cases hk : x.kind < 1 ∨ 15 ≤ x.kind
      · rw [txt_other x hk, show S [] = ⟨#[]⟩ from rfl]
        by_cases hk1 : x.kind < 1
        case' pos => have g1 : decide (x.kind < 1) = true := decide_eq_true hk1
        case' neg =>
          have g1 : decide (x.kind < 1) = false := decide_eq_false hk1
          have g2 : decide (15 ≤ x.kind) = true := decide_eq_true (by omega)
        all_goals
          go_wp2_with fail
          refine (runs_any _ (tb_up HT.out HB4.out)).mono ?_
          rintro e w9 ⟨rfl, b9⟩
          have HB9 := Lib.hid (HB4.out.trans (b9.mono HB4.out.size))
          clear b9
          go_wp2_with fail
          go_ret
          exact ⟨rfl, HB9.out⟩
      · have HK : Hid (1 ≤ x.kind ∧ x.kind ≤ 14) := Lib.hid (by omega)
        have g1 : decide (x.kind < 1) = false := decide_eq_false (by omega)
        have g2 : decide (15 ≤ x.kind) = false := decide_eq_false (by omega)
        obtain ⟨sv, hsv⟩ : ∃ sv, S (txt x) = sv := ⟨_, rfl⟩
        have zs : sv.size ≤ 60000000 := by rw [← hsv]; exact txt_S_size (HX.out.ok HLX.out)
        have z3 : 3 ≤ sv.size := by rw [← hsv, S_size]; exact (txt_ends HK.out HX.out.num).2
        have SL : Hid (∀ w, (Instr.sliceAt 9 (.string sv) (some (.int .i64 ((sv.size : Int) - 2))) none none).run Tryd.prog w = .ok (.string ⟨#[13, 10]⟩) w) := Lib.hid (fun w => by
          obtain ⟨p, hp⟩ := (txt_ends HK.out HX.out.num).1
          have hl : sv.size = p.length + 2 := by rw [← hsv, S_size, hp]; simp
          have h := str_lo sv (sv.size - 2) (by omega) w
          rw [show ((sv.size - 2 : Nat) : Int) = (sv.size : Int) - 2 by omega] at h
          rw [h, show (L sv).drop (sv.size - 2) = [13, 10] by rw [hl, ← hsv, L_S, hp]; simp]
          rfl)
        rw [hsv]
        clear hsv hk
        go_wp2_with fail
        have HS : Hid (∀ X, Below w4.heap.size w4 X → (X.cell? ⟨A, 0, none⟩ = some (.int .i64 x.kind) ∧ X.cell? ⟨A + 1, 0, none⟩ = some (.int .i64 y.kind))) := Lib.hid (fun X bX => ⟨(HA4.out.up bX).cells.1, (HC4.out.up bX).cells.1⟩)
        have BD : Hid (Below w4.heap.size w4 w4.drew) := Lib.hid (below_drewN (Below.refl _ _) 1)
        have S0 := HS.out _ BD.out
        have T0 : Hid (Tb w4.drew) := Lib.hid (tb_up (tb_up HT.out HB4.out) BD.out)
        clear k0 g1 g2
        go_region_held3 (fun w' => w'.cell? ⟨A, 0, none⟩ = some (.int .i64 x.kind) ∧ w'.cell? ⟨A + 1, 0, none⟩ = some (.int .i64 y.kind))
          (first | with_reducible exact S0 | with_reducible exact S1 | with_reducible exact S2)
          (first
            | (go_at_call 7; with_reducible refine (text_zero x.kind _ T0.out).mono ?_; rintro e w5 ⟨rfl, b5⟩; have B1 : Hid (Below w4.heap.size w4 w5) := Lib.hid (BD.out.trans (b5.mono BD.out.size)); have S1 := HS.out _ B1.out; have T1 : Hid (Tb w5) := Lib.hid (tb_up (tb_up HT.out HB4.out) B1.out); clear b5)
            | (go_at_call 7; with_reducible refine (text_zero y.kind _ T1.out).mono ?_; rintro e w6 ⟨rfl, b6⟩; have B2 : Hid (Below w4.heap.size w4 w6) := Lib.hid (B1.out.trans (b6.mono B1.out.size)); have S2 := HS.out _ B2.out; clear b6))
        have HB6 : Hid (Below w.heap.size w w6) := Lib.hid (HB4.out.trans (B2.out.mono HB4.out.size))
        obtain ⟨kx, ky⟩ := S2
        clear S0 S1 T0 T1 HS BD B1 B2 HA4 HC4 HB4
        obtain ⟨q, hq⟩ : ∃ q, (x.kind == y.kind) = q := ⟨_, rfl⟩
        obtain ⟨X, hX⟩ : ∃ X, S (zt x.kind) = X := ⟨_, rfl⟩
        obtain ⟨Y, hY⟩ : ∃ Y, S (zt y.kind) = Y := ⟨_, rfl⟩
        have hXY : (X.toList == Y.toList) = q := by rw [← hX, ← hY, ← hq]; exact zt_beq HK.out
        rw [hX, hY]
        clear hX hY
        have hqq : (q == q) = true := by simp
        have sl := SL.out
        have g3 : decide (3 ≤ (sv.size : Int)) = true := decide_eq_true (by omega)
        go_wp2_with fail
        refine (runs_any _ (tb_up HT.out HB6.out)).mono ?_
        rintro e w9 ⟨rfl, b9⟩
        have HB9 := Lib.hid (HB6.out.trans (b9.mono HB6.out.size))
        clear b9
        go_wp2_with fail
        go_ret
        exact ⟨rfl, HB9.out⟩
end Go.Proofs.YtjlcnfafjblmkaaDoor
