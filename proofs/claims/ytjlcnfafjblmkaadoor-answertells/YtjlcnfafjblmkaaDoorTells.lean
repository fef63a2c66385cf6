/-
  ANSWERTELLS walked.
-/
import Derived.Test.YtjlcnfafjblmkaaDoorRSt
import Derived.Test.YtjlcnfafjblmkaaDoorLines
namespace Go.Proofs.YtjlcnfafjblmkaaDoor
open Go.RowKit
open Go.Lib (TabIs pow10Tab OthersKept)

/-- A world that lies above Y: nothing of Y has turned in it. -/
structure Up (Y : World) where
  w : World
  h : Below Y.heap.size Y w
/-- A region that draws its order and whose calls make new memory: walked in all the worlds in which nothing elder has turned. -/
theorem region_up {P : Program} {id : Nat} {Q : Exit → Act → World → Prop} {a : Act} {w : World} {l : List Oper} (hm : P.follows .mixedOrders = true) (hB : Region.lexB .any l.toArray = true) (Y : World) (hY : Y = { w with drawn := w.drawn + 1 })
    (h : wpQuiet P l.toArray (fun w' => ∃ s : Up Y, w' = s.w) (fun a' => ∀ w', (∃ s : Up Y, w' = s.w) → Q .normal a' w') l a) : (Code.region id l.toArray true).wp P Q a w :=
  wp_region_quiet (C := fun w' => ∃ s : Up Y, w' = s.w) hm hB ⟨⟨Y, Below.refl _ _⟩, hY.symm⟩ (by simpa using h)
set_option maxRecDepth 100000 in
set_option maxHeartbeats 1000000 in
theorem quiet_any (q : Bool) (x : An) (a : Option Addr) (cap : Nat) (w : World) :
    Calls Tryd.prog 10 #[.agg #[.int .i64 0, .slice none 0 0, .int .i64 0, .int .i64 0, .int .i64 0, .int .i64 0, .int .u64 0, .bool q, .string ⟨#[]⟩], .agg #[.int .i64 x.kind, .slice a x.fs.length cap, .bool x.gets, .int .u64 (x.num : Int), .string x.text, .int .i64 x.s0, .int .i64 x.s1, .int .i64 x.s2, .int .i64 x.s3]] w fun e w' => e = .returned (.bool (q && x.kind != 13)) ∧ Below w.heap.size w w' := by
  obtain ⟨k, hk⟩ : ∃ k, x.kind = k := ⟨_, rfl⟩
  rw [hk]
  clear hk
  cases q
  case false =>
    go_enter Tryd.func10, Tryd.ntmps10
    go_wp2_with fail
    go_ret
    exact ⟨rfl, up1 (below_alloc _ _)⟩
  case true =>
    go_enter Tryd.func10, Tryd.ntmps10
    go_wp2_with fail
    go_ret
    exact ⟨rfl, up1 (below_alloc _ _)⟩
set_option maxRecDepth 100000 in
set_option maxHeartbeats 2000000 in
theorem tells_walk (x : An) (a : Option Addr) (cap : Nat) (q : Bool) (w : World) (hx : AnIn x) (hn : x.fs.length ≤ 9223372036854775807) (hF : FdF w a x.fs) (ht : Tb w) :
    Calls Tryd.prog 4 #[x.v a cap, .bool q] w fun e w' => e = .returned (.bool true) ∧ Below w.heap.size w w' := by
  have HX := Lib.hid hx
  have HF := Lib.hid hF
  have HT := Lib.hid ht
  have HN := Lib.hid hn
  clear hx hF ht hn
  unfold An.v
  go_enter Tryd.func4, Tryd.ntmps4
  go_wp2_with fail
  have HB1 : Hid (Below w.heap.size w (w.alloc (.cells #[.int .i64 x.kind, .slice a x.fs.length cap, .bool x.gets, .int .u64 (x.num : Int), .string x.text, .int .i64 x.s0, .int .i64 x.s1, .int .i64 x.s2, .int .i64 x.s3] 28))) := Lib.hid (below_alloc _ _)
  have HA1 : Hid (AnAt (w.alloc (.cells #[.int .i64 x.kind, .slice a x.fs.length cap, .bool x.gets, .int .u64 (x.num : Int), .string x.text, .int .i64 x.s0, .int .i64 x.s1, .int .i64 x.s2, .int .i64 x.s3] 28)) w.heap.size x a cap) := Lib.hid (AnAt.new w x a cap)
  obtain ⟨W1, hW1⟩ : ∃ W, w.alloc (.cells #[.int .i64 x.kind, .slice a x.fs.length cap, .bool x.gets, .int .u64 (x.num : Int), .string x.text, .int .i64 x.s0, .int .i64 x.s1, .int .i64 x.s2, .int .i64 x.s3] 28) = W := ⟨_, rfl⟩
  obtain ⟨A, hA⟩ : ∃ A, w.heap.size = A := ⟨_, rfl⟩
  rw [hW1] at HB1 HA1 ⊢
  rw [hA] at HA1 ⊢
  clear hW1 hA
  refine (light_any x a cap _ HN.out (HF.out.below rfl HB1.out) HX.out).mono ?_
  rintro e w2 ⟨rfl, b2⟩
  have HB2 := Lib.hid (HB1.out.trans (b2.mono HB1.out.size))
  have HA2 := Lib.hid (HA1.out.up b2)
  clear b2 HB1 HA1
  obtain ⟨lx, hlx⟩ : ∃ lx, li x.text.size x.fs = lx := ⟨_, rfl⟩
  rw [hlx]
  have HLX := Lib.hid hlx
  clear hlx
  cases lx
  case false =>
    go_wp2_with fail
    refine (runs_any _ (tb_up HT.out HB2.out)).mono ?_
    rintro e w9 ⟨rfl, b9⟩
    have HB9 := Lib.hid (HB2.out.trans (b9.mono HB2.out.size))
    clear b9
    go_wp2_with fail
    go_ret
    exact ⟨rfl, HB9.out⟩
  case true =>
    have HO := Lib.hid (HX.out.ok HLX.out)
    obtain ⟨sv, hsv⟩ : ∃ sv, S (txt x) = sv := ⟨_, rfl⟩
    have HSV := Lib.hid hsv
    clear hsv
    have hss : (sv.toList == sv.toList) = true := by simp
    have HS : Hid (∀ X, Below w2.heap.size w2 X → (X.cell? ⟨A, 0, none⟩ = some (.int .i64 x.kind) ∧ X.cell? ⟨A, 1, none⟩ = some (.slice a x.fs.length cap) ∧ X.cell? ⟨A, 2, none⟩ = some (.bool x.gets) ∧ X.cell? ⟨A, 3, none⟩ = some (.int .u64 (x.num : Int)) ∧ X.cell? ⟨A, 4, none⟩ = some (.string x.text) ∧ X.cell? ⟨A, 5, none⟩ = some (.int .i64 x.s0) ∧ X.cell? ⟨A, 6, none⟩ = some (.int .i64 x.s1) ∧ X.cell? ⟨A, 7, none⟩ = some (.int .i64 x.s2) ∧ X.cell? ⟨A, 8, none⟩ = some (.int .i64 x.s3))) := Lib.hid (fun X bX => (HA2.out.up bX).cells)
    have HC1 : Hid (∀ X, Below w2.heap.size w2 X → Calls Tryd.prog 7 #[.agg #[.int .i64 x.kind, .slice a x.fs.length cap, .bool x.gets, .int .u64 (x.num : Int), .string x.text, .int .i64 x.s0, .int .i64 x.s1, .int .i64 x.s2, .int .i64 x.s3]] X fun e w' => e = .returned (.string sv) ∧ Below X.heap.size X w') := Lib.hid (fun X bX => by
      have u := HB2.out.trans (bX.mono HB2.out.size)
      rw [← HSV.out]; exact text_any x a cap X (HF.out.below rfl u) HO.out (tb_up HT.out u))
    have HC2 : Hid (∀ X, Below w2.heap.size w2 X → Calls Tryd.prog 9 #[.agg #[.int .i64 x.kind, .slice a x.fs.length cap, .bool x.gets, .int .u64 (x.num : Int), .string x.text, .int .i64 x.s0, .int .i64 x.s1, .int .i64 x.s2, .int .i64 x.s3]] X fun e w' => e = .returned (.string sv) ∧ Below X.heap.size X w') := Lib.hid (fun X bX => by
      have u := HB2.out.trans (bX.mono HB2.out.size)
      rw [← HSV.out]; exact rtext_any x a cap X (HF.out.below rfl u) HO.out)
    have HC4 : Hid (∀ X, Below w2.heap.size w2 X → Calls Tryd.prog 3 #[] X fun e w' => e = .returned (.bool true) ∧ Below X.heap.size X w') := Lib.hid (fun X bX => runs_any X (tb_up HT.out (HB2.out.trans (bX.mono HB2.out.size))))
    have BD : Hid (Below w2.heap.size w2 w2.drew) := Lib.hid (below_drewN (Below.refl _ _) 1)
    have S0 := HS.out _ BD.out
    go_wp2_with fail
    obtain ⟨kb, hkb⟩ : ∃ kb, (x.kind != 13) = kb := ⟨_, rfl⟩
    cases q
    case true =>
      go_region_held3 (fun w' => w'.cell? ⟨A, 0, none⟩ = some (.int .i64 x.kind) ∧ w'.cell? ⟨A, 1, none⟩ = some (.slice a x.fs.length cap) ∧ w'.cell? ⟨A, 2, none⟩ = some (.bool x.gets) ∧ w'.cell? ⟨A, 3, none⟩ = some (.int .u64 (x.num : Int)) ∧ w'.cell? ⟨A, 4, none⟩ = some (.string x.text) ∧ w'.cell? ⟨A, 5, none⟩ = some (.int .i64 x.s0) ∧ w'.cell? ⟨A, 6, none⟩ = some (.int .i64 x.s1) ∧ w'.cell? ⟨A, 7, none⟩ = some (.int .i64 x.s2) ∧ w'.cell? ⟨A, 8, none⟩ = some (.int .i64 x.s3))
        (first | with_reducible exact S0 | with_reducible exact S1 | with_reducible exact S2 | with_reducible exact S3 | with_reducible exact S4)
        (first
          | (go_at_call 7; with_reducible refine (HC1.out _ BD.out).mono ?_; rintro e w3 ⟨rfl, b3⟩; have B1 : Hid (Below w2.heap.size w2 w3) := Lib.hid (BD.out.trans (b3.mono BD.out.size)); have S1 := HS.out _ B1.out; clear b3)
          | (go_at_call 9; with_reducible refine (HC2.out _ B1.out).mono ?_; rintro e w4 ⟨rfl, b4⟩; have B2 : Hid (Below w2.heap.size w2 w4) := Lib.hid (B1.out.trans (b4.mono B1.out.size)); have S2 := HS.out _ B2.out; clear b4)
          | (go_at_call 10; with_reducible refine (quiet_any true x a cap _).mono ?_; rintro e w5 ⟨rfl, b5⟩; have B3 : Hid (Below w2.heap.size w2 w5) := Lib.hid (B2.out.trans (b5.mono B2.out.size)); have S3 := HS.out _ B3.out; clear b5)
          | (go_at_call 3; with_reducible refine (HC4.out _ B3.out).mono ?_; rintro e w6 ⟨rfl, b6⟩; have B4 : Hid (Below w2.heap.size w2 w6) := Lib.hid (B3.out.trans (b6.mono B3.out.size)); have S4 := HS.out _ B4.out; clear b6))
      go_wp2_with fail
      go_ret
      exact ⟨rfl, HB2.out.trans (B4.out.mono HB2.out.size)⟩
    case false =>
      obtain ⟨Y, eY⟩ : ∃ Y : World, Y = { w2 with drawn := w2.drawn + 1 } := ⟨_, rfl⟩
      have YB : Hid (Below w2.heap.size w2 Y) := Lib.hid (by rw [eY]; exact below_drewN (Below.refl _ _) 1)
      have YU : Hid (∀ s : Up Y, Below w2.heap.size w2 s.w) := Lib.hid (fun s => YB.out.trans (s.h.mono YB.out.size))
      have k0 : ∀ s : Up Y, s.w.cell? ⟨A, 0, none⟩ = some (.int .i64 x.kind) := fun s => (HS.out s.w (YU.out s)).1
      have k1 : ∀ s : Up Y, s.w.cell? ⟨A, 1, none⟩ = some (.slice a x.fs.length cap) := fun s => (HS.out s.w (YU.out s)).2.1
      have k2 : ∀ s : Up Y, s.w.cell? ⟨A, 2, none⟩ = some (.bool x.gets) := fun s => (HS.out s.w (YU.out s)).2.2.1
      have k3 : ∀ s : Up Y, s.w.cell? ⟨A, 3, none⟩ = some (.int .u64 (x.num : Int)) := fun s => (HS.out s.w (YU.out s)).2.2.2.1
      have k4 : ∀ s : Up Y, s.w.cell? ⟨A, 4, none⟩ = some (.string x.text) := fun s => (HS.out s.w (YU.out s)).2.2.2.2.1
      have k5 : ∀ s : Up Y, s.w.cell? ⟨A, 5, none⟩ = some (.int .i64 x.s0) := fun s => (HS.out s.w (YU.out s)).2.2.2.2.2.1
      have k6 : ∀ s : Up Y, s.w.cell? ⟨A, 6, none⟩ = some (.int .i64 x.s1) := fun s => (HS.out s.w (YU.out s)).2.2.2.2.2.2.1
      have k7 : ∀ s : Up Y, s.w.cell? ⟨A, 7, none⟩ = some (.int .i64 x.s2) := fun s => (HS.out s.w (YU.out s)).2.2.2.2.2.2.2.1
      have k8 : ∀ s : Up Y, s.w.cell? ⟨A, 8, none⟩ = some (.int .i64 x.s3) := fun s => (HS.out s.w (YU.out s)).2.2.2.2.2.2.2.2
      have D1 : Hid (∀ s : Up Y, Calls Tryd.prog 7 #[.agg #[.int .i64 x.kind, .slice a x.fs.length cap, .bool x.gets, .int .u64 (x.num : Int), .string x.text, .int .i64 x.s0, .int .i64 x.s1, .int .i64 x.s2, .int .i64 x.s3]] s.w fun e w' => e = .returned (.string sv) ∧ ∃ s' : Up Y, w' = s'.w) := Lib.hid (fun s => (HC1.out s.w (YU.out s)).mono fun _ w' h => ⟨h.1, ⟨w', s.h.trans (h.2.mono s.h.size)⟩, rfl⟩)
      have D2 : Hid (∀ s : Up Y, Calls Tryd.prog 9 #[.agg #[.int .i64 x.kind, .slice a x.fs.length cap, .bool x.gets, .int .u64 (x.num : Int), .string x.text, .int .i64 x.s0, .int .i64 x.s1, .int .i64 x.s2, .int .i64 x.s3]] s.w fun e w' => e = .returned (.string sv) ∧ ∃ s' : Up Y, w' = s'.w) := Lib.hid (fun s => (HC2.out s.w (YU.out s)).mono fun _ w' h => ⟨h.1, ⟨w', s.h.trans (h.2.mono s.h.size)⟩, rfl⟩)
      have D3 : Hid (∀ s : Up Y, Calls Tryd.prog 10 #[.agg #[.int .i64 0, .slice none 0 0, .int .i64 0, .int .i64 0, .int .i64 0, .int .i64 0, .int .u64 0, .bool false, .string ⟨#[]⟩], .agg #[.int .i64 x.kind, .slice a x.fs.length cap, .bool x.gets, .int .u64 (x.num : Int), .string x.text, .int .i64 x.s0, .int .i64 x.s1, .int .i64 x.s2, .int .i64 x.s3]] s.w fun e w' => e = .returned (.bool false) ∧ ∃ s' : Up Y, w' = s'.w) := Lib.hid (fun s => (quiet_any false x a cap s.w).mono fun _ w' h => ⟨h.1, ⟨w', s.h.trans (h.2.mono s.h.size)⟩, rfl⟩)
      have D4 : Hid (∀ s : Up Y, Calls Tryd.prog 3 #[] s.w fun e w' => e = .returned (.bool true) ∧ ∃ s' : Up Y, w' = s'.w) := Lib.hid (fun s => (HC4.out s.w (YU.out s)).mono fun _ w' h => ⟨h.1, ⟨w', s.h.trans (h.2.mono s.h.size)⟩, rfl⟩)
      clear S0 hkb
      refine region_up (by kernel_rfl) (by kernel_rfl) Y eY ?_
      clear eY
      have ne : Nonempty (Up Y) := ⟨⟨Y, Below.refl _ _⟩⟩
      repeat (go_big_quiet_step (first | exact D1.out _ | exact D2.out _ | exact D3.out _ | exact D4.out _))
      refine wpQuiet_nil ?_
      rintro w13 ⟨s13, rfl⟩
      have fB : Hid (Below w.heap.size w s13.w) := Lib.hid (HB2.out.trans ((YU.out s13).mono HB2.out.size))
      go_wp2_with fail
      go_ret
      exact ⟨rfl, fB.out⟩

end Go.Proofs.YtjlcnfafjblmkaaDoor
