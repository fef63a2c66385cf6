/-
  ANSWERVALUES walked.
-/
import Derived.Test.YtjlcnfafjblmkaaDoorBoth
import Derived.Test.YtjlcnfafjblmkaaDoorKinds
namespace Go.Proofs.YtjlcnfafjblmkaaDoor
open Go.RowKit
open Go.Lib (TabIs pow10Tab OthersKept)

/-- An answer of values in a variable of the call's own. -/
def VAt (w : World) (A : Nat) (a : Option Addr) (n cap : Nat) (g : Bool) : Prop := w.heap[A]? = some (.cells #[.int .i64 1, .slice a n cap, .bool g, .int .u64 0, .string ⟨#[]⟩, .int .i64 0, .int .i64 0, .int .i64 0, .int .i64 0] 28)
theorem VAt.lt {w : World} {A : Nat} {a : Option Addr} {n cap : Nat} {g : Bool} (h : VAt w A a n cap g) : A < w.heap.size := (Array.getElem?_eq_some_iff.1 h).1
theorem VAt.up {w w' : World} {A : Nat} {a : Option Addr} {n cap : Nat} {g : Bool} (h : VAt w A a n cap g) (hb : Below w.heap.size w w') : VAt w' A a n cap g := (hb.block A h.lt).trans h
theorem VAt.cells {w : World} {A : Nat} {a : Option Addr} {n cap : Nat} {g : Bool} (h : VAt w A a n cap g) : w.cell? ⟨A, 0, none⟩ = some (.int .i64 1) ∧ w.cell? ⟨A, 1, none⟩ = some (.slice a n cap) ∧ w.cell? ⟨A, 2, none⟩ = some (.bool g) ∧ w.cell? ⟨A, 3, none⟩ = some (.int .u64 0) ∧ w.cell? ⟨A, 4, none⟩ = some (.string ⟨#[]⟩) ∧ w.cell? ⟨A, 5, none⟩ = some (.int .i64 0) ∧ w.cell? ⟨A, 6, none⟩ = some (.int .i64 0) ∧ w.cell? ⟨A, 7, none⟩ = some (.int .i64 0) ∧ w.cell? ⟨A, 8, none⟩ = some (.int .i64 0) := by
  unfold VAt at h
  unfold World.cell?
  rw [h]
  exact ⟨rfl, rfl, rfl, rfl, rfl, rfl, rfl, rfl, rfl⟩
theorem light_v {fs : List Fd} (g : Bool) (a : Option Addr) {n : Nat} (cap : Nat) {w : World} (hn : fs.length = n) (hnn : n ≤ 9223372036854775807) (hF : FdF w a fs) (hb : ∀ f ∈ fs, f.key.size ≤ 140737488355328 ∧ f.val.size ≤ 140737488355328) :
    Calls Tryd.prog 8 #[.agg #[.int .i64 1, .slice a n cap, .bool g, .int .u64 0, .string ⟨#[]⟩, .int .i64 0, .int .i64 0, .int .i64 0, .int .i64 0]] w fun e w' => e = .returned (.bool (li 0 fs)) ∧ Below w.heap.size w w' :=
  light_walk fs 1 g 0 ⟨#[]⟩ 0 0 0 0 a n cap w hn hnn hF hb (by show 0 ≤ 140737488355328; omega)
theorem text_v {fs : List Fd} (g : Bool) (a : Option Addr) {n : Nat} (cap : Nat) {w : World} (hn : fs.length = n) (hF : FdF w a fs) (hok : ∀ f ∈ fs, FdOk f) (hlen : n ≤ 8000) (ht : Tb w) :
    Calls Tryd.prog 7 #[.agg #[.int .i64 1, .slice a n cap, .bool g, .int .u64 0, .string ⟨#[]⟩, .int .i64 0, .int .i64 0, .int .i64 0, .int .i64 0]] w fun e w' => e = .returned (.string (S (vals g fs))) ∧ Below w.heap.size w w' :=
  text_1 fs g 0 ⟨#[]⟩ 0 0 0 0 a n cap w hn hF hok hlen ht
theorem vals_size {g : Bool} {fs : List Fd} (hok : ∀ f ∈ fs, FdOk f) (hlen : fs.length ≤ 8000) : (S (vals g fs)).size ≤ 60000000 ∧ (S (vals g fs)).size = (vls g fs).length + 5 := by
  have h := vls_len g fs hok
  have e : (S (vals g fs)).size = (vls g fs).length + 5 := by
    rw [S_size]
    unfold vals
    rw [List.length_append]
    rfl
  exact ⟨by omega, e⟩
/-- Numbers and texts of what came in. -/
def FdsIn (fs : List Fd) : Prop := ∀ f ∈ fs, f.key.size ≤ 140737488355328 ∧ f.val.size ≤ 140737488355328 ∧ f.fl ≤ 9223372036854775807 ∧ f.cas ≤ 9223372036854775807 ∧ -9223372036854775808 ≤ f.fl ∧ -9223372036854775808 ≤ f.cas
theorem FdsIn.ok {fs : List Fd} (h : FdsIn fs) (hl : li 0 fs = true) : fs.length ≤ 3000 ∧ ∀ f ∈ fs, FdOk f := by
  obtain ⟨h1, h2⟩ := li_ok _ _ hl
  exact ⟨by omega, fun f hf => ⟨(h2 f hf).1, (h2 f hf).2, (h f hf).2.2.1, (h f hf).2.2.2.1, (h f hf).2.2.2.2.1, (h f hf).2.2.2.2.2⟩⟩
set_option maxRecDepth 100000 in
set_option maxHeartbeats 2000000 in
theorem vals_walk (fs1 fs2 : List Fd) (g : Bool) (a1 a2 : Option Addr) (n1 n2 cap1 cap2 : Nat) (w : World) (hl1 : fs1.length = n1) (hl2 : fs2.length = n2) (hx : FdsIn fs1) (hy : FdsIn fs2) (hn1 : n1 ≤ 9223372036854775807) (hn2 : n2 ≤ 9223372036854775807) (hF1 : FdF w a1 fs1) (hF2 : FdF w a2 fs2) (ht : Tb w) :
    Calls Tryd.prog 5 #[.slice a1 n1 cap1, .slice a2 n2 cap2, .bool g] w fun e w' => e = .returned (.bool true) ∧ Below w.heap.size w w' := by
  have HX := Lib.hid hx
  have HY := Lib.hid hy
  have HL1 := Lib.hid hl1
  have HL2 := Lib.hid hl2
  have HF1 := Lib.hid hF1
  have HF2 := Lib.hid hF2
  have HT := Lib.hid ht
  have HN1 := Lib.hid hn1
  have HN2 := Lib.hid hn2
  clear hx hy hF1 hF2 ht hn1 hn2 hl1 hl2
  go_enter Tryd.func5, Tryd.ntmps5
  go_wp2_with fail
  have HB1 : Hid (Below w.heap.size w ((w.alloc (.cells #[.int .i64 1, .slice a1 n1 cap1, .bool g, .int .u64 0, .string ⟨#[]⟩, .int .i64 0, .int .i64 0, .int .i64 0, .int .i64 0] 28)).alloc (.cells #[.int .i64 1, .slice a2 n2 cap2, .bool g, .int .u64 0, .string ⟨#[]⟩, .int .i64 0, .int .i64 0, .int .i64 0, .int .i64 0] 28))) := Lib.hid (up1 (below_alloc _ _))
  have HA1 : Hid (VAt ((w.alloc (.cells #[.int .i64 1, .slice a1 n1 cap1, .bool g, .int .u64 0, .string ⟨#[]⟩, .int .i64 0, .int .i64 0, .int .i64 0, .int .i64 0] 28)).alloc (.cells #[.int .i64 1, .slice a2 n2 cap2, .bool g, .int .u64 0, .string ⟨#[]⟩, .int .i64 0, .int .i64 0, .int .i64 0, .int .i64 0] 28)) w.heap.size a1 n1 cap1 g) := Lib.hid (VAt.up (heap_alloc_new _ _) (below_alloc _ _))
  have HC1 : Hid (VAt ((w.alloc (.cells #[.int .i64 1, .slice a1 n1 cap1, .bool g, .int .u64 0, .string ⟨#[]⟩, .int .i64 0, .int .i64 0, .int .i64 0, .int .i64 0] 28)).alloc (.cells #[.int .i64 1, .slice a2 n2 cap2, .bool g, .int .u64 0, .string ⟨#[]⟩, .int .i64 0, .int .i64 0, .int .i64 0, .int .i64 0] 28)) (w.heap.size + 1) a2 n2 cap2 g) := Lib.hid (by
    have h : VAt ((w.alloc (.cells #[.int .i64 1, .slice a1 n1 cap1, .bool g, .int .u64 0, .string ⟨#[]⟩, .int .i64 0, .int .i64 0, .int .i64 0, .int .i64 0] 28)).alloc (.cells #[.int .i64 1, .slice a2 n2 cap2, .bool g, .int .u64 0, .string ⟨#[]⟩, .int .i64 0, .int .i64 0, .int .i64 0, .int .i64 0] 28)) (w.alloc (.cells #[.int .i64 1, .slice a1 n1 cap1, .bool g, .int .u64 0, .string ⟨#[]⟩, .int .i64 0, .int .i64 0, .int .i64 0, .int .i64 0] 28)).heap.size a2 n2 cap2 g := heap_alloc_new _ _
    simpa using h)
  obtain ⟨W1, hW1⟩ : ∃ W, (w.alloc (.cells #[.int .i64 1, .slice a1 n1 cap1, .bool g, .int .u64 0, .string ⟨#[]⟩, .int .i64 0, .int .i64 0, .int .i64 0, .int .i64 0] 28)).alloc (.cells #[.int .i64 1, .slice a2 n2 cap2, .bool g, .int .u64 0, .string ⟨#[]⟩, .int .i64 0, .int .i64 0, .int .i64 0, .int .i64 0] 28) = W := ⟨_, rfl⟩
  obtain ⟨A, hA⟩ : ∃ A, w.heap.size = A := ⟨_, rfl⟩
  rw [hW1] at HB1 HA1 HC1 ⊢
  rw [hA] at HA1 HC1 ⊢
  clear hW1 hA
  refine (light_v g a1 cap1 HL1.out HN1.out (HF1.out.below rfl HB1.out) (fun f hf => ⟨(HX.out f hf).1, (HX.out f hf).2.1⟩)).mono ?_
  rintro e w2 ⟨rfl, b2⟩
  have HB2 := Lib.hid (HB1.out.trans (b2.mono HB1.out.size))
  have HA2 := Lib.hid (HA1.out.up b2)
  have HC2 := Lib.hid (HC1.out.up b2)
  clear b2 HB1 HA1 HC1
  obtain ⟨lx, hlx⟩ : ∃ lx, li 0 fs1 = lx := ⟨_, rfl⟩
  rw [hlx]
  have HLX := Lib.hid hlx
  clear hlx
  cases lx
  case false =>
    go_wp2_with fail
    refine (runs_any _ (tb_up HT.out HB2.out)).mono ?_
    rintro e w9 ⟨rfl, b9⟩
    have HB9 := Lib.hid (HB2.out.trans (b9.mono HB2.out.size))
    clear b9
    go_wp2_with fail
    go_ret
    exact ⟨rfl, HB9.out⟩
  case true =>
    obtain ⟨c0, c1, c2, c3, c4, c5, c6, c7, c8⟩ := HC2.out.cells
    go_wp2_with fail
    refine (light_v g a2 cap2 HL2.out HN2.out (HF2.out.below rfl HB2.out) (fun f hf => ⟨(HY.out f hf).1, (HY.out f hf).2.1⟩)).mono ?_
    rintro e w3 ⟨rfl, b3⟩
    have HB3 := Lib.hid (HB2.out.trans (b3.mono HB2.out.size))
    have HA3 := Lib.hid (HA2.out.up b3)
    have HC3 := Lib.hid (HC2.out.up b3)
    clear b3 HB2 HA2 HC2 c0 c1 c2 c3 c4 c5 c6 c7 c8
    obtain ⟨ly, hly⟩ : ∃ ly, li 0 fs2 = ly := ⟨_, rfl⟩
    rw [hly]
    have HLY := Lib.hid hly
    clear hly
    cases ly
    case false =>
      go_wp2_with fail
      refine (runs_any _ (tb_up HT.out HB3.out)).mono ?_
      rintro e w9 ⟨rfl, b9⟩
      have HB9 := Lib.hid (HB3.out.trans (b9.mono HB3.out.size))
      clear b9
      go_wp2_with fail
      go_ret
      exact ⟨rfl, HB9.out⟩
    case true =>
      obtain ⟨m1, q1⟩ := HX.out.ok HLX.out
      obtain ⟨m2, q2⟩ := HY.out.ok HLY.out
      have HO1 := Lib.hid q1
      have HO2 := Lib.hid q2
      clear q1 q2
      obtain ⟨v1, w4, a, c, w5, hr1, hr2, hF, hB⟩ := both_any cap1 cap2 (HF1.out.below rfl HB3.out) (HF2.out.below rfl HB3.out) m1 m2
      have HM1 : Hid (n1 ≤ 3000) := Lib.hid (by rw [← HL1.out]; exact m1)
      have HM2 : Hid (n2 ≤ 3000) := Lib.hid (by rw [← HL2.out]; exact m2)
      rw [HL1.out] at hr1
      rw [HL2.out] at hr2
      obtain ⟨n, hn⟩ : ∃ n, (fs1 ++ fs2).length = n := ⟨_, rfl⟩
      have HNN := Lib.hid hn
      rw [hn] at hr2
      have HFB := Lib.hid hF
      have HB5 := Lib.hid (HB3.out.trans (hB.mono HB3.out.size))
      have HA5 := Lib.hid (HA3.out.up hB)
      have HC5 := Lib.hid (HC3.out.up hB)
      clear hF hB hn m1 m2 HB3 HA3 HC3
      go_wp2_with (at_builtin; first | refine wpList_append_run rfl (.tmp 28) (.tmp 29) 24 24 rfl _ _ _ rfl rfl hr1 ?_ | refine wpList_append_run rfl (.tmp 30) (.tmp 31) 24 24 rfl _ _ _ rfl rfl hr2 ?_)
      have HA6 := Lib.hid (HA5.out.up (below_alloc w5 (.cells #[.int .i64 1, .slice a n c, .bool g, .int .u64 0, .string ⟨#[]⟩, .int .i64 0, .int .i64 0, .int .i64 0, .int .i64 0] 28)))
      have HC6 := Lib.hid (HC5.out.up (below_alloc w5 (.cells #[.int .i64 1, .slice a n c, .bool g, .int .u64 0, .string ⟨#[]⟩, .int .i64 0, .int .i64 0, .int .i64 0, .int .i64 0] 28)))
      have HD6 : Hid (VAt (w5.alloc (.cells #[.int .i64 1, .slice a n c, .bool g, .int .u64 0, .string ⟨#[]⟩, .int .i64 0, .int .i64 0, .int .i64 0, .int .i64 0] 28)) w5.heap.size a n c g) := Lib.hid (heap_alloc_new _ _)
      have HB6 := Lib.hid (HB5.out.trans ((below_alloc w5 (.cells #[.int .i64 1, .slice a n c, .bool g, .int .u64 0, .string ⟨#[]⟩, .int .i64 0, .int .i64 0, .int .i64 0, .int .i64 0] 28)).mono HB5.out.size))
      have HF6 := Lib.hid (HFB.out.up (below_alloc w5 (.cells #[.int .i64 1, .slice a n c, .bool g, .int .u64 0, .string ⟨#[]⟩, .int .i64 0, .int .i64 0, .int .i64 0, .int .i64 0] 28)))
      obtain ⟨W6, hW6⟩ : ∃ W, w5.alloc (.cells #[.int .i64 1, .slice a n c, .bool g, .int .u64 0, .string ⟨#[]⟩, .int .i64 0, .int .i64 0, .int .i64 0, .int .i64 0] 28) = W := ⟨_, rfl⟩
      obtain ⟨D, hD⟩ : ∃ D, w5.heap.size = D := ⟨_, rfl⟩
      rw [hW6] at HA6 HC6 HD6 HB6 HF6 ⊢
      rw [hD] at HD6 ⊢
      clear hW6 hD HA5 HC5 HB5 HFB hr1 hr2
      have HS : Hid (∀ X, Below W6.heap.size W6 X → (X.cell? ⟨A, 0, none⟩ = some (.int .i64 1) ∧ X.cell? ⟨A, 1, none⟩ = some (.slice a1 n1 cap1) ∧ X.cell? ⟨A, 2, none⟩ = some (.bool g) ∧ X.cell? ⟨A, 3, none⟩ = some (.int .u64 0) ∧ X.cell? ⟨A, 4, none⟩ = some (.string ⟨#[]⟩) ∧ X.cell? ⟨A, 5, none⟩ = some (.int .i64 0) ∧ X.cell? ⟨A, 6, none⟩ = some (.int .i64 0) ∧ X.cell? ⟨A, 7, none⟩ = some (.int .i64 0) ∧ X.cell? ⟨A, 8, none⟩ = some (.int .i64 0) ∧ X.cell? ⟨A + 1, 0, none⟩ = some (.int .i64 1) ∧ X.cell? ⟨A + 1, 1, none⟩ = some (.slice a2 n2 cap2) ∧ X.cell? ⟨A + 1, 2, none⟩ = some (.bool g) ∧ X.cell? ⟨A + 1, 3, none⟩ = some (.int .u64 0) ∧ X.cell? ⟨A + 1, 4, none⟩ = some (.string ⟨#[]⟩) ∧ X.cell? ⟨A + 1, 5, none⟩ = some (.int .i64 0) ∧ X.cell? ⟨A + 1, 6, none⟩ = some (.int .i64 0) ∧ X.cell? ⟨A + 1, 7, none⟩ = some (.int .i64 0) ∧ X.cell? ⟨A + 1, 8, none⟩ = some (.int .i64 0))) := Lib.hid (fun X bX => by
        obtain ⟨x0, x1, x2, x3, x4, x5, x6, x7, x8⟩ := (HA6.out.up bX).cells
        obtain ⟨y0, y1, y2, y3, y4, y5, y6, y7, y8⟩ := (HC6.out.up bX).cells
        exact ⟨x0, x1, x2, x3, x4, x5, x6, x7, x8, y0, y1, y2, y3, y4, y5, y6, y7, y8⟩)
      have BD : Hid (Below W6.heap.size W6 W6.drew) := Lib.hid (below_drewN (Below.refl _ _) 1)
      have S0 := HS.out _ BD.out
      have U0 : Hid (Below w.heap.size w W6.drew) := Lib.hid (HB6.out.trans (BD.out.mono HB6.out.size))
      have M1 : n1 ≤ 8000 := by have := HM1.out; omega
      have M2 : n2 ≤ 8000 := by have := HM2.out; omega
      go_region_held3 (fun w' => w'.cell? ⟨A, 0, none⟩ = some (.int .i64 1) ∧ w'.cell? ⟨A, 1, none⟩ = some (.slice a1 n1 cap1) ∧ w'.cell? ⟨A, 2, none⟩ = some (.bool g) ∧ w'.cell? ⟨A, 3, none⟩ = some (.int .u64 0) ∧ w'.cell? ⟨A, 4, none⟩ = some (.string ⟨#[]⟩) ∧ w'.cell? ⟨A, 5, none⟩ = some (.int .i64 0) ∧ w'.cell? ⟨A, 6, none⟩ = some (.int .i64 0) ∧ w'.cell? ⟨A, 7, none⟩ = some (.int .i64 0) ∧ w'.cell? ⟨A, 8, none⟩ = some (.int .i64 0) ∧ w'.cell? ⟨A + 1, 0, none⟩ = some (.int .i64 1) ∧ w'.cell? ⟨A + 1, 1, none⟩ = some (.slice a2 n2 cap2) ∧ w'.cell? ⟨A + 1, 2, none⟩ = some (.bool g) ∧ w'.cell? ⟨A + 1, 3, none⟩ = some (.int .u64 0) ∧ w'.cell? ⟨A + 1, 4, none⟩ = some (.string ⟨#[]⟩) ∧ w'.cell? ⟨A + 1, 5, none⟩ = some (.int .i64 0) ∧ w'.cell? ⟨A + 1, 6, none⟩ = some (.int .i64 0) ∧ w'.cell? ⟨A + 1, 7, none⟩ = some (.int .i64 0) ∧ w'.cell? ⟨A + 1, 8, none⟩ = some (.int .i64 0))
        (first | with_reducible exact S0 | with_reducible exact S1 | with_reducible exact S2)
        (first
          | (go_at_call 7; with_reducible refine (text_v g a1 cap1 HL1.out (HF1.out.below rfl U0.out) HO1.out M1 (tb_up HT.out U0.out)).mono ?_; rintro e w7 ⟨rfl, b7⟩; have B1 : Hid (Below W6.heap.size W6 w7) := Lib.hid (BD.out.trans (b7.mono BD.out.size)); have S1 := HS.out _ B1.out; have U1 : Hid (Below w.heap.size w w7) := Lib.hid (HB6.out.trans (B1.out.mono HB6.out.size)); clear b7)
          | (go_at_call 7; with_reducible refine (text_v g a2 cap2 HL2.out (HF2.out.below rfl U1.out) HO2.out M2 (tb_up HT.out U1.out)).mono ?_; rintro e w8 ⟨rfl, b8⟩; have B2 : Hid (Below W6.heap.size W6 w8) := Lib.hid (B1.out.trans (b8.mono B1.out.size)); have S2 := HS.out _ B2.out; have U2 : Hid (Below w.heap.size w w8) := Lib.hid (HB6.out.trans (B2.out.mono HB6.out.size)); clear b8))
      have HD8 := Lib.hid (HD6.out.up B2.out)
      have HF8 := Lib.hid (HF6.out.up B2.out)
      clear S0 S1 S2 HS BD B1 B2 U0 U1 HA6 HC6 HD6 HF6 HB6 M1 M2
      obtain ⟨z1, z2⟩ := vals_size (g := g) HO1.out (by have := HM1.out; have := HL1.out; omega)
      obtain ⟨z3, _⟩ := vals_size (g := g) HO2.out (by have := HM2.out; have := HL2.out; omega)
      obtain ⟨pv, hpv⟩ : ∃ pv, S (vls g fs1) = pv := ⟨_, rfl⟩
      have zp : pv.size ≤ 60000000 := by rw [← hpv, S_size]; omega
      have he : pv ++ S (vals g fs2) = S (vals g (fs1 ++ fs2)) := by
        rw [← hpv, S_append]
        congr 1
        unfold vals
        rw [vls_app, List.append_assoc]
      have SL1 : Hid (∀ w, (Instr.sliceAt 9 (.string (S (vals g fs1))) none (some (.int .i64 (((S (vals g fs1)).size : Int) - 5))) none).run Tryd.prog w = .ok (.string pv) w) := Lib.hid (fun w => by
        have h := str_hi (S (vals g fs1)) ((S (vals g fs1)).size - 5) (by omega) w
        rw [show (((S (vals g fs1)).size - 5 : Nat) : Int) = ((S (vals g fs1)).size : Int) - 5 by omega] at h
        rw [h, ← hpv, L_S, z2]
        congr 3
        unfold vals
        simp)
      have SL2 : Hid (∀ w, (Instr.sliceAt 9 (.string (S (vals g fs1))) (some (.int .i64 (((S (vals g fs1)).size : Int) - 5))) none none).run Tryd.prog w = .ok (.string ⟨#[69, 78, 68, 13, 10]⟩) w) := Lib.hid (fun w => by
        have h := str_lo (S (vals g fs1)) ((S (vals g fs1)).size - 5) (by omega) w
        rw [show (((S (vals g fs1)).size - 5 : Nat) : Int) = ((S (vals g fs1)).size : Int) - 5 by omega] at h
        rw [h, L_S, z2]
        have e : (vals g fs1).drop ((vls g fs1).length + 5 - 5) = [69, 78, 68, 13, 10] := by
          unfold vals
          simp
          decide
        rw [e]
        rfl)
      have z5 : 5 ≤ (S (vals g fs1)).size := by omega
      obtain ⟨sv, hsv⟩ : ∃ sv, S (vals g fs1) = sv := ⟨_, rfl⟩
      obtain ⟨tv, htv⟩ : ∃ tv, S (vals g fs2) = tv := ⟨_, rfl⟩
      obtain ⟨bv, hbv⟩ : ∃ bv, S (vals g (fs1 ++ fs2)) = bv := ⟨_, rfl⟩
      rw [hsv] at z1 SL1 SL2 z5 ⊢
      rw [htv] at z3 he ⊢
      rw [hbv] at he
      have HBV := Lib.hid hbv
      clear hsv htv hbv hpv z2
      have hbb : (bv.toList == bv.toList) = true := by simp
      obtain ⟨k5, hk5⟩ : ∃ k5, (sv.size : Int) - 5 = k5 := ⟨_, rfl⟩
      have wk : IntKind.i64.wrap ((sv.size : Int) - 5) = k5 := by
        rw [hk5]
        have : 0 ≤ k5 ∧ k5 < 60000000 := by omega
        simp [IntKind.wrap, IntKind.bits, IntKind.signed]
        omega
      have ad : ∀ w, (Op.stringOp .add pv tv).run Tryd.prog w = .ok (.string bv) w := fun w => by rw [run_string_add_sum w pv tv (by omega), he]
      have nb : ¬ (9223372036854775807 < pv.size + tv.size) := by omega
      have sl1 := SL1.out
      have sl2 := SL2.out
      rw [hk5] at sl1 sl2
      clear hk5
      have g5 : decide (5 ≤ (sv.size : Int)) = true := decide_eq_true (by omega)
      have HS : Hid (∀ X, Below w8.heap.size w8 X → (X.cell? ⟨D, 0, none⟩ = some (.int .i64 1) ∧ X.cell? ⟨D, 1, none⟩ = some (.slice a n c) ∧ X.cell? ⟨D, 2, none⟩ = some (.bool g) ∧ X.cell? ⟨D, 3, none⟩ = some (.int .u64 0) ∧ X.cell? ⟨D, 4, none⟩ = some (.string ⟨#[]⟩) ∧ X.cell? ⟨D, 5, none⟩ = some (.int .i64 0) ∧ X.cell? ⟨D, 6, none⟩ = some (.int .i64 0) ∧ X.cell? ⟨D, 7, none⟩ = some (.int .i64 0) ∧ X.cell? ⟨D, 8, none⟩ = some (.int .i64 0))) := Lib.hid (fun X bX => (HD8.out.up bX).cells)
      have BD : Hid (Below w8.heap.size w8 w8.drew) := Lib.hid (below_drewN (Below.refl _ _) 1)
      have S0 := HS.out _ BD.out
      have U0 : Hid (Below w.heap.size w w8.drew) := Lib.hid (U2.out.trans (BD.out.mono U2.out.size))
      have M3 : n ≤ 8000 := by
        have := HM1.out; have := HM2.out; have := HL1.out; have := HL2.out; have h := HNN.out
        rw [List.length_append] at h
        omega
      have HO3 : Hid (∀ f ∈ fs1 ++ fs2, FdOk f) := Lib.hid (fun f hf => by
        rcases List.mem_append.1 hf with h | h
        · exact HO1.out f h
        · exact HO2.out f h)
      go_wp2_with fail
      go_region_held3 (fun w' => w'.cell? ⟨D, 0, none⟩ = some (.int .i64 1) ∧ w'.cell? ⟨D, 1, none⟩ = some (.slice a n c) ∧ w'.cell? ⟨D, 2, none⟩ = some (.bool g) ∧ w'.cell? ⟨D, 3, none⟩ = some (.int .u64 0) ∧ w'.cell? ⟨D, 4, none⟩ = some (.string ⟨#[]⟩) ∧ w'.cell? ⟨D, 5, none⟩ = some (.int .i64 0) ∧ w'.cell? ⟨D, 6, none⟩ = some (.int .i64 0) ∧ w'.cell? ⟨D, 7, none⟩ = some (.int .i64 0) ∧ w'.cell? ⟨D, 8, none⟩ = some (.int .i64 0))
        (first | with_reducible exact S0 | with_reducible exact S1 | with_reducible exact S2)
        (first
          | (go_at_call 7; with_reducible refine (text_v g a c HNN.out (HF8.out.up BD.out) HO3.out M3 (tb_up HT.out U0.out)).mono ?_; rintro e w9 ⟨rfl, b9⟩; rw [HBV.out]; have B1 : Hid (Below w8.heap.size w8 w9) := Lib.hid (BD.out.trans (b9.mono BD.out.size)); have S1 := HS.out _ B1.out; have U1 : Hid (Below w.heap.size w w9) := Lib.hid (U2.out.trans (B1.out.mono U2.out.size)); clear b9)
          | (go_at_call 3; with_reducible refine (runs_any _ (tb_up HT.out U1.out)).mono ?_; rintro e w10 ⟨rfl, b10⟩; have B2 : Hid (Below w8.heap.size w8 w10) := Lib.hid (B1.out.trans (b10.mono B1.out.size)); have S2 := HS.out _ B2.out; have U3 : Hid (Below w.heap.size w w10) := Lib.hid (U2.out.trans (B2.out.mono U2.out.size)); clear b10))
      go_wp2_with fail
      go_ret
      exact ⟨rfl, U3.out⟩
end Go.Proofs.YtjlcnfafjblmkaaDoor
