/-
  args of the reference: append, prepend, cas.
-/
import Derived.Test.YtedbklipbfbmoaaDoorRArg1
namespace Go.Proofs.YtedbklipbfbmoaaDoor
open Go.RowKit

set_option maxRecDepth 100000 in
set_option maxHeartbeats 800000 in
theorem rargs_6 (x0 x1 x2 x3 : B) (q : Bool) (ag aq n c R : Nat) (z0 : (S x0).size ≤ 100000) (_z1 : (S x1).size ≤ 100000) (z2 : (S x2).size ≤ 100000) (_z3 : (S x3).size ≤ 100000) (w : World) (hR : IsR w R [.int .i64 6, .slice none 0 0, .int .i64 0, .int .i64 0, .int .i64 0, .int .i64 0, .int .u64 0, .bool q, .string ⟨#[]⟩]) (hS : Strs w (.slice (some ⟨ag, aq, none⟩) n c) [x0, x1, x2, x3]) (hlt : ag < R) :
    Calls Tryd.prog 73 #[.pointer (some ⟨R, 0, none⟩), .slice (some ⟨ag, aq, none⟩) n c] w fun e w' => e = .returned (.bool (rd [0, 1, 2, 3] 0 [x0, x1, x2, x3] Rq.none).isSome) ∧ Below R w w' ∧ Got w.heap.size R w' (rd [0, 1, 2, 3] 0 [x0, x1, x2, x3] Rq.none) 6 q := by
  have hrd : rd [0, 1, 2, 3] 0 [x0, x1, x2, x3] Rq.none = if key x0 = true then (if nb 4294967295 x1 = true then (if gb 1099511627776 x2 = true then (if nb 2147483647 x3 = true then (some ⟨0, [x0], (((nv 4294967295 x1) : Nat) : Int), (gv 1099511627776 x2), (((nv 2147483647 x3) : Nat) : Int), 0, 0, false⟩) else none) else none) else none) else none := rfl
  obtain ⟨hn, _⟩ := hS.len
  have hn' : n = 4 := hn
  subst hn'
  have K0 : ∀ w : World, Calls Tryd.prog 16 #[.string (S x0)] w fun e w' => e = .returned (.bool (key x0)) ∧ w = w' := rkey_any (S x0) (by omega)
  have K1 : ∀ w : World, Calls Tryd.prog 83 #[.string (S x1), .int .u64 4294967295] w fun e w' => e = .returned (.tuple #[.int .u64 (((nv 4294967295 x1 : Nat) : Int)), .bool (nb 4294967295 x1)]) ∧ w = w' := rnumber_any (S x1) 4294967295 (by omega)
  obtain ⟨V1, hV1⟩ : ∃ V : Int, V = ((nv 4294967295 x1 : Nat) : Int) := ⟨_, rfl⟩
  simp only [← hV1] at K1
  have vb1 : 0 ≤ V1 ∧ V1 < 9223372036854775808 := by have := nv_le 4294967295 x1; omega
  obtain ⟨vl1, vh1⟩ := vb1
  have HV1 := Lib.hid hV1
  have K2 : ∀ w : World, Calls Tryd.prog 84 #[.string (S x2), .int .u64 1099511627776] w fun e w' => e = .returned (.tuple #[.int .i64 (gv 1099511627776 x2), .bool (gb 1099511627776 x2)]) ∧ w = w' := rsigned_any (S x2) (by omega) 1099511627776 (by omega)
  obtain ⟨V2, hV2⟩ : ∃ V : Int, V = gv 1099511627776 x2 := ⟨_, rfl⟩
  simp only [← hV2] at K2
  have HV2 := Lib.hid hV2
  have K3 : ∀ w : World, Calls Tryd.prog 83 #[.string (S x3), .int .u64 2147483647] w fun e w' => e = .returned (.tuple #[.int .u64 (((nv 2147483647 x3 : Nat) : Int)), .bool (nb 2147483647 x3)]) ∧ w = w' := rnumber_any (S x3) 2147483647 (by omega)
  obtain ⟨V3, hV3⟩ : ∃ V : Int, V = ((nv 2147483647 x3 : Nat) : Int) := ⟨_, rfl⟩
  simp only [← hV3] at K3
  have vb3 : 0 ≤ V3 ∧ V3 < 9223372036854775808 := by have := nv_le 2147483647 x3; omega
  obtain ⟨vl3, vh3⟩ := vb3
  have HV3 := Lib.hid hV3
  have BU0 : But R w (w.alloc (.cells #[.string (S x0)] 9)) := But.new R (Nat.le_of_lt hR.lt) ((Below.refl _ _).alloc (Nat.le_refl _) _)
  have I0 := hR.up ((Below.refl w.heap.size w).alloc (Nat.le_refl _) (.cells #[.string (S x0)] 9))
  have r0 := hR.at_ 0 rfl
  have t1 := I0.at_ 1 rfl
  have f1 := I0.fz 1
  have I1 : IsR ((w.alloc (.cells #[.string (S x0)] 9)).setCell ⟨R, 1, none⟩ (.slice (some ⟨w.heap.size, 0, none⟩) 1 1)) R [.int .i64 6, .slice (some ⟨w.heap.size, 0, none⟩) 1 1, .int .i64 0, .int .i64 0, .int .i64 0, .int .i64 0, .int .u64 0, .bool q, .string ⟨#[]⟩] := I0.set 1 (.slice (some ⟨w.heap.size, 0, none⟩) 1 1) (by simp)
  have BU1 : But R w ((w.alloc (.cells #[.string (S x0)] 9)).setCell ⟨R, 1, none⟩ (.slice (some ⟨w.heap.size, 0, none⟩) 1 1)) := BU0.trans (But.set R 1 _ _)
  have v1 := I1.at_ 0 rfl
  have s0 : w.cell? ⟨ag, aq, none⟩ = some (.string (S x0)) := by obtain ⟨g', q', e1, e2⟩ := hS.at_ (i := 0) (x := x0) rfl; injection e1 with e1; injection e1 with e1 e3; subst e1 e3; exact e2
  have s1 : ((w.alloc (.cells #[.string (S x0)] 9)).setCell ⟨R, 1, none⟩ (.slice (some ⟨w.heap.size, 0, none⟩) 1 1)).cell? ⟨ag, aq + 1, none⟩ = some (.string (S x1)) := BU1.cell _ _ _ (by omega) (by obtain ⟨g', q', e1, e2⟩ := hS.at_ (i := 1) (x := x1) rfl; injection e1 with e1; injection e1 with e1 e3; subst e1 e3; exact e2)
  have u1 := I1.at_ 2 rfl
  have g1 := I1.fz 2
  have I2 : IsR (((w.alloc (.cells #[.string (S x0)] 9)).setCell ⟨R, 1, none⟩ (.slice (some ⟨w.heap.size, 0, none⟩) 1 1)).setCell ⟨R, 2, none⟩ (.int .i64 V1)) R [.int .i64 6, .slice (some ⟨w.heap.size, 0, none⟩) 1 1, .int .i64 V1, .int .i64 0, .int .i64 0, .int .i64 0, .int .u64 0, .bool q, .string ⟨#[]⟩] := I1.set 2 (.int .i64 V1) (by simp)
  have BU2 : But R w (((w.alloc (.cells #[.string (S x0)] 9)).setCell ⟨R, 1, none⟩ (.slice (some ⟨w.heap.size, 0, none⟩) 1 1)).setCell ⟨R, 2, none⟩ (.int .i64 V1)) := BU1.trans (But.set R 2 _ _)
  have s2 : (((w.alloc (.cells #[.string (S x0)] 9)).setCell ⟨R, 1, none⟩ (.slice (some ⟨w.heap.size, 0, none⟩) 1 1)).setCell ⟨R, 2, none⟩ (.int .i64 V1)).cell? ⟨ag, aq + 2, none⟩ = some (.string (S x2)) := BU2.cell _ _ _ (by omega) (by obtain ⟨g', q', e1, e2⟩ := hS.at_ (i := 2) (x := x2) rfl; injection e1 with e1; injection e1 with e1 e3; subst e1 e3; exact e2)
  have u2 := I2.at_ 3 rfl
  have g2 := I2.fz 3
  have I3 : IsR ((((w.alloc (.cells #[.string (S x0)] 9)).setCell ⟨R, 1, none⟩ (.slice (some ⟨w.heap.size, 0, none⟩) 1 1)).setCell ⟨R, 2, none⟩ (.int .i64 V1)).setCell ⟨R, 3, none⟩ (.int .i64 V2)) R [.int .i64 6, .slice (some ⟨w.heap.size, 0, none⟩) 1 1, .int .i64 V1, .int .i64 V2, .int .i64 0, .int .i64 0, .int .u64 0, .bool q, .string ⟨#[]⟩] := I2.set 3 (.int .i64 V2) (by simp)
  have BU3 : But R w ((((w.alloc (.cells #[.string (S x0)] 9)).setCell ⟨R, 1, none⟩ (.slice (some ⟨w.heap.size, 0, none⟩) 1 1)).setCell ⟨R, 2, none⟩ (.int .i64 V1)).setCell ⟨R, 3, none⟩ (.int .i64 V2)) := BU2.trans (But.set R 3 _ _)
  have s3 : ((((w.alloc (.cells #[.string (S x0)] 9)).setCell ⟨R, 1, none⟩ (.slice (some ⟨w.heap.size, 0, none⟩) 1 1)).setCell ⟨R, 2, none⟩ (.int .i64 V1)).setCell ⟨R, 3, none⟩ (.int .i64 V2)).cell? ⟨ag, aq + 3, none⟩ = some (.string (S x3)) := BU3.cell _ _ _ (by omega) (by obtain ⟨g', q', e1, e2⟩ := hS.at_ (i := 3) (x := x3) rfl; injection e1 with e1; injection e1 with e1 e3; subst e1 e3; exact e2)
  have u3 := I3.at_ 4 rfl
  have g3 := I3.fz 4
  have I4 : IsR (((((w.alloc (.cells #[.string (S x0)] 9)).setCell ⟨R, 1, none⟩ (.slice (some ⟨w.heap.size, 0, none⟩) 1 1)).setCell ⟨R, 2, none⟩ (.int .i64 V1)).setCell ⟨R, 3, none⟩ (.int .i64 V2)).setCell ⟨R, 4, none⟩ (.int .i64 V3)) R [.int .i64 6, .slice (some ⟨w.heap.size, 0, none⟩) 1 1, .int .i64 V1, .int .i64 V2, .int .i64 V3, .int .i64 0, .int .u64 0, .bool q, .string ⟨#[]⟩] := I3.set 4 (.int .i64 V3) (by simp)
  have BU4 : But R w (((((w.alloc (.cells #[.string (S x0)] 9)).setCell ⟨R, 1, none⟩ (.slice (some ⟨w.heap.size, 0, none⟩) 1 1)).setCell ⟨R, 2, none⟩ (.int .i64 V1)).setCell ⟨R, 3, none⟩ (.int .i64 V2)).setCell ⟨R, 4, none⟩ (.int .i64 V3)) := BU3.trans (But.set R 4 _ _)
  have v4 := I4.at_ 0 rfl
  have ne : R ≠ w.heap.size := Nat.ne_of_lt hR.lt
  have q0 : (w.alloc (.cells #[.string (S x0)] 9)).cell? ⟨w.heap.size, 0, none⟩ = some (.string (S x0)) := by rw [World.cell?_alloc_new]; rfl
  have qe : (((((w.alloc (.cells #[.string (S x0)] 9)).setCell ⟨R, 1, none⟩ (.slice (some ⟨w.heap.size, 0, none⟩) 1 1)).setCell ⟨R, 2, none⟩ (.int .i64 V1)).setCell ⟨R, 3, none⟩ (.int .i64 V2)).setCell ⟨R, 4, none⟩ (.int .i64 V3)).cell? ⟨w.heap.size, 0, none⟩ = some (.string (S x0)) := by
    refine ((((But.set R 1 _ _).trans (But.set R 2 _ _)).trans (But.set R 3 _ _)).trans (But.set R 4 _ _)).cell _ _ _ (fun e => ne e.symm) q0
  have HBU1 := Lib.hid BU1.lo
  have HBU2 := Lib.hid BU2.lo
  have HBU3 := Lib.hid BU3.lo
  have HBU4 := Lib.hid BU4.lo
  have HI := Lib.hid I4
  have HQE := Lib.hid qe
  have HRD := Lib.hid hrd
  clear hR hS I0 BU0 qe q0 ne hn hrd I1 BU1 I2 BU2 I3 BU3 I4 BU4 hV1 hV2 hV3
  cases hb0 : key x0 with
  | false =>
    have HE : Hid (rd [0, 1, 2, 3] 0 [x0, x1, x2, x3] Rq.none = none) := Lib.hid (by rw [HRD.out, if_neg (by rw [hb0]; decide)])
    simp only [hb0] at K0
    clear hb0
    go_enter Tryd.func73, Tryd.ntmps73
    go_wp2_with fail
    refine (K0 _).mono ?_
    rintro e w' ⟨rfl, rfl⟩
    go_wp2_with fail
    go_ret
    exact ⟨by rw [HE.out]; rfl, Below.refl _ _, by rw [HE.out]; exact Got.none _ _ _ _ _⟩
  | true =>
    cases hb1 : nb 4294967295 x1 with
    | false =>
      have HE : Hid (rd [0, 1, 2, 3] 0 [x0, x1, x2, x3] Rq.none = none) := Lib.hid (by rw [HRD.out, if_pos hb0, if_neg (by rw [hb1]; decide)])
      simp only [hb0] at K0
      simp only [hb1] at K1
      clear hb0 hb1
      go_enter Tryd.func73, Tryd.ntmps73
      go_wp2_with fail
      refine (K0 _).mono ?_
      rintro e w' ⟨rfl, rfl⟩
      go_wp2_with fail
      refine (K1 _).mono ?_
      rintro e w' ⟨rfl, rfl⟩
      go_wp2_with fail
      go_ret
      exact ⟨by rw [HE.out]; rfl, HBU2.out, by rw [HE.out]; exact Got.none _ _ _ _ _⟩
    | true =>
      cases hb2 : gb 1099511627776 x2 with
      | false =>
        have HE : Hid (rd [0, 1, 2, 3] 0 [x0, x1, x2, x3] Rq.none = none) := Lib.hid (by rw [HRD.out, if_pos hb0, if_pos hb1, if_neg (by rw [hb2]; decide)])
        simp only [hb0] at K0
        simp only [hb1] at K1
        simp only [hb2] at K2
        clear hb0 hb1 hb2
        go_enter Tryd.func73, Tryd.ntmps73
        go_wp2_with fail
        refine (K0 _).mono ?_
        rintro e w' ⟨rfl, rfl⟩
        go_wp2_with fail
        refine (K1 _).mono ?_
        rintro e w' ⟨rfl, rfl⟩
        go_wp2_with fail
        refine (K2 _).mono ?_
        rintro e w' ⟨rfl, rfl⟩
        go_wp2_with fail
        go_ret
        exact ⟨by rw [HE.out]; rfl, HBU3.out, by rw [HE.out]; exact Got.none _ _ _ _ _⟩
      | true =>
        cases hb3 : nb 2147483647 x3 with
        | false =>
          have HE : Hid (rd [0, 1, 2, 3] 0 [x0, x1, x2, x3] Rq.none = none) := Lib.hid (by rw [HRD.out, if_pos hb0, if_pos hb1, if_pos hb2, if_neg (by rw [hb3]; decide)])
          simp only [hb0] at K0
          simp only [hb1] at K1
          simp only [hb2] at K2
          simp only [hb3] at K3
          clear hb0 hb1 hb2 hb3
          go_enter Tryd.func73, Tryd.ntmps73
          go_wp2_with fail
          refine (K0 _).mono ?_
          rintro e w' ⟨rfl, rfl⟩
          go_wp2_with fail
          refine (K1 _).mono ?_
          rintro e w' ⟨rfl, rfl⟩
          go_wp2_with fail
          refine (K2 _).mono ?_
          rintro e w' ⟨rfl, rfl⟩
          go_wp2_with fail
          refine (K3 _).mono ?_
          rintro e w' ⟨rfl, rfl⟩
          go_wp2_with fail
          go_ret
          exact ⟨by rw [HE.out]; rfl, HBU4.out, by rw [HE.out]; exact Got.none _ _ _ _ _⟩
        | true =>
          have HE := Lib.hid (show rd [0, 1, 2, 3] 0 [x0, x1, x2, x3] Rq.none = _ by rw [HRD.out, if_pos hb0, if_pos hb1, if_pos hb2, if_pos hb3])
          simp only [hb0] at K0
          simp only [hb1] at K1
          simp only [hb2] at K2
          simp only [hb3] at K3
          clear hb0 hb1 hb2 hb3
          go_enter Tryd.func73, Tryd.ntmps73
          go_wp2_with fail
          refine (K0 _).mono ?_
          rintro e w' ⟨rfl, rfl⟩
          go_wp2_with fail
          refine (K1 _).mono ?_
          rintro e w' ⟨rfl, rfl⟩
          go_wp2_with fail
          refine (K2 _).mono ?_
          rintro e w' ⟨rfl, rfl⟩
          go_wp2_with fail
          refine (K3 _).mono ?_
          rintro e w' ⟨rfl, rfl⟩
          go_wp2_with fail
          go_ret
          refine ⟨by rw [HE.out]; rfl, HBU4.out, fun r hr => ?_⟩
          rw [HE.out] at hr
          cases hr
          refine ⟨some ⟨w.heap.size, 0, none⟩, 1, 1, ?_, one_strs HQE.out, fun A hA => by cases hA; exact Nat.le_refl _⟩
          have e1 := HV1.out
          subst e1
          have e2 := HV2.out
          subst e2
          have e3 := HV3.out
          subst e3
          exact HI.out.ra
set_option maxRecDepth 100000 in
set_option maxHeartbeats 800000 in
theorem rargs_7 (x0 x1 x2 x3 : B) (q : Bool) (ag aq n c R : Nat) (z0 : (S x0).size ≤ 100000) (_z1 : (S x1).size ≤ 100000) (z2 : (S x2).size ≤ 100000) (_z3 : (S x3).size ≤ 100000) (w : World) (hR : IsR w R [.int .i64 7, .slice none 0 0, .int .i64 0, .int .i64 0, .int .i64 0, .int .i64 0, .int .u64 0, .bool q, .string ⟨#[]⟩]) (hS : Strs w (.slice (some ⟨ag, aq, none⟩) n c) [x0, x1, x2, x3]) (hlt : ag < R) :
    Calls Tryd.prog 73 #[.pointer (some ⟨R, 0, none⟩), .slice (some ⟨ag, aq, none⟩) n c] w fun e w' => e = .returned (.bool (rd [0, 1, 2, 3] 0 [x0, x1, x2, x3] Rq.none).isSome) ∧ Below R w w' ∧ Got w.heap.size R w' (rd [0, 1, 2, 3] 0 [x0, x1, x2, x3] Rq.none) 7 q := by
  have hrd : rd [0, 1, 2, 3] 0 [x0, x1, x2, x3] Rq.none = if key x0 = true then (if nb 4294967295 x1 = true then (if gb 1099511627776 x2 = true then (if nb 2147483647 x3 = true then (some ⟨0, [x0], (((nv 4294967295 x1) : Nat) : Int), (gv 1099511627776 x2), (((nv 2147483647 x3) : Nat) : Int), 0, 0, false⟩) else none) else none) else none) else none := rfl
  obtain ⟨hn, _⟩ := hS.len
  have hn' : n = 4 := hn
  subst hn'
  have K0 : ∀ w : World, Calls Tryd.prog 16 #[.string (S x0)] w fun e w' => e = .returned (.bool (key x0)) ∧ w = w' := rkey_any (S x0) (by omega)
  have K1 : ∀ w : World, Calls Tryd.prog 83 #[.string (S x1), .int .u64 4294967295] w fun e w' => e = .returned (.tuple #[.int .u64 (((nv 4294967295 x1 : Nat) : Int)), .bool (nb 4294967295 x1)]) ∧ w = w' := rnumber_any (S x1) 4294967295 (by omega)
  obtain ⟨V1, hV1⟩ : ∃ V : Int, V = ((nv 4294967295 x1 : Nat) : Int) := ⟨_, rfl⟩
  simp only [← hV1] at K1
  have vb1 : 0 ≤ V1 ∧ V1 < 9223372036854775808 := by have := nv_le 4294967295 x1; omega
  obtain ⟨vl1, vh1⟩ := vb1
  have HV1 := Lib.hid hV1
  have K2 : ∀ w : World, Calls Tryd.prog 84 #[.string (S x2), .int .u64 1099511627776] w fun e w' => e = .returned (.tuple #[.int .i64 (gv 1099511627776 x2), .bool (gb 1099511627776 x2)]) ∧ w = w' := rsigned_any (S x2) (by omega) 1099511627776 (by omega)
  obtain ⟨V2, hV2⟩ : ∃ V : Int, V = gv 1099511627776 x2 := ⟨_, rfl⟩
  simp only [← hV2] at K2
  have HV2 := Lib.hid hV2
  have K3 : ∀ w : World, Calls Tryd.prog 83 #[.string (S x3), .int .u64 2147483647] w fun e w' => e = .returned (.tuple #[.int .u64 (((nv 2147483647 x3 : Nat) : Int)), .bool (nb 2147483647 x3)]) ∧ w = w' := rnumber_any (S x3) 2147483647 (by omega)
  obtain ⟨V3, hV3⟩ : ∃ V : Int, V = ((nv 2147483647 x3 : Nat) : Int) := ⟨_, rfl⟩
  simp only [← hV3] at K3
  have vb3 : 0 ≤ V3 ∧ V3 < 9223372036854775808 := by have := nv_le 2147483647 x3; omega
  obtain ⟨vl3, vh3⟩ := vb3
  have HV3 := Lib.hid hV3
  have BU0 : But R w (w.alloc (.cells #[.string (S x0)] 9)) := But.new R (Nat.le_of_lt hR.lt) ((Below.refl _ _).alloc (Nat.le_refl _) _)
  have I0 := hR.up ((Below.refl w.heap.size w).alloc (Nat.le_refl _) (.cells #[.string (S x0)] 9))
  have r0 := hR.at_ 0 rfl
  have t1 := I0.at_ 1 rfl
  have f1 := I0.fz 1
  have I1 : IsR ((w.alloc (.cells #[.string (S x0)] 9)).setCell ⟨R, 1, none⟩ (.slice (some ⟨w.heap.size, 0, none⟩) 1 1)) R [.int .i64 7, .slice (some ⟨w.heap.size, 0, none⟩) 1 1, .int .i64 0, .int .i64 0, .int .i64 0, .int .i64 0, .int .u64 0, .bool q, .string ⟨#[]⟩] := I0.set 1 (.slice (some ⟨w.heap.size, 0, none⟩) 1 1) (by simp)
  have BU1 : But R w ((w.alloc (.cells #[.string (S x0)] 9)).setCell ⟨R, 1, none⟩ (.slice (some ⟨w.heap.size, 0, none⟩) 1 1)) := BU0.trans (But.set R 1 _ _)
  have v1 := I1.at_ 0 rfl
  have s0 : w.cell? ⟨ag, aq, none⟩ = some (.string (S x0)) := by obtain ⟨g', q', e1, e2⟩ := hS.at_ (i := 0) (x := x0) rfl; injection e1 with e1; injection e1 with e1 e3; subst e1 e3; exact e2
  have s1 : ((w.alloc (.cells #[.string (S x0)] 9)).setCell ⟨R, 1, none⟩ (.slice (some ⟨w.heap.size, 0, none⟩) 1 1)).cell? ⟨ag, aq + 1, none⟩ = some (.string (S x1)) := BU1.cell _ _ _ (by omega) (by obtain ⟨g', q', e1, e2⟩ := hS.at_ (i := 1) (x := x1) rfl; injection e1 with e1; injection e1 with e1 e3; subst e1 e3; exact e2)
  have u1 := I1.at_ 2 rfl
  have g1 := I1.fz 2
  have I2 : IsR (((w.alloc (.cells #[.string (S x0)] 9)).setCell ⟨R, 1, none⟩ (.slice (some ⟨w.heap.size, 0, none⟩) 1 1)).setCell ⟨R, 2, none⟩ (.int .i64 V1)) R [.int .i64 7, .slice (some ⟨w.heap.size, 0, none⟩) 1 1, .int .i64 V1, .int .i64 0, .int .i64 0, .int .i64 0, .int .u64 0, .bool q, .string ⟨#[]⟩] := I1.set 2 (.int .i64 V1) (by simp)
  have BU2 : But R w (((w.alloc (.cells #[.string (S x0)] 9)).setCell ⟨R, 1, none⟩ (.slice (some ⟨w.heap.size, 0, none⟩) 1 1)).setCell ⟨R, 2, none⟩ (.int .i64 V1)) := BU1.trans (But.set R 2 _ _)
  have s2 : (((w.alloc (.cells #[.string (S x0)] 9)).setCell ⟨R, 1, none⟩ (.slice (some ⟨w.heap.size, 0, none⟩) 1 1)).setCell ⟨R, 2, none⟩ (.int .i64 V1)).cell? ⟨ag, aq + 2, none⟩ = some (.string (S x2)) := BU2.cell _ _ _ (by omega) (by obtain ⟨g', q', e1, e2⟩ := hS.at_ (i := 2) (x := x2) rfl; injection e1 with e1; injection e1 with e1 e3; subst e1 e3; exact e2)
  have u2 := I2.at_ 3 rfl
  have g2 := I2.fz 3
  have I3 : IsR ((((w.alloc (.cells #[.string (S x0)] 9)).setCell ⟨R, 1, none⟩ (.slice (some ⟨w.heap.size, 0, none⟩) 1 1)).setCell ⟨R, 2, none⟩ (.int .i64 V1)).setCell ⟨R, 3, none⟩ (.int .i64 V2)) R [.int .i64 7, .slice (some ⟨w.heap.size, 0, none⟩) 1 1, .int .i64 V1, .int .i64 V2, .int .i64 0, .int .i64 0, .int .u64 0, .bool q, .string ⟨#[]⟩] := I2.set 3 (.int .i64 V2) (by simp)
  have BU3 : But R w ((((w.alloc (.cells #[.string (S x0)] 9)).setCell ⟨R, 1, none⟩ (.slice (some ⟨w.heap.size, 0, none⟩) 1 1)).setCell ⟨R, 2, none⟩ (.int .i64 V1)).setCell ⟨R, 3, none⟩ (.int .i64 V2)) := BU2.trans (But.set R 3 _ _)
  have s3 : ((((w.alloc (.cells #[.string (S x0)] 9)).setCell ⟨R, 1, none⟩ (.slice (some ⟨w.heap.size, 0, none⟩) 1 1)).setCell ⟨R, 2, none⟩ (.int .i64 V1)).setCell ⟨R, 3, none⟩ (.int .i64 V2)).cell? ⟨ag, aq + 3, none⟩ = some (.string (S x3)) := BU3.cell _ _ _ (by omega) (by obtain ⟨g', q', e1, e2⟩ := hS.at_ (i := 3) (x := x3) rfl; injection e1 with e1; injection e1 with e1 e3; subst e1 e3; exact e2)
  have u3 := I3.at_ 4 rfl
  have g3 := I3.fz 4
  have I4 : IsR (((((w.alloc (.cells #[.string (S x0)] 9)).setCell ⟨R, 1, none⟩ (.slice (some ⟨w.heap.size, 0, none⟩) 1 1)).setCell ⟨R, 2, none⟩ (.int .i64 V1)).setCell ⟨R, 3, none⟩ (.int .i64 V2)).setCell ⟨R, 4, none⟩ (.int .i64 V3)) R [.int .i64 7, .slice (some ⟨w.heap.size, 0, none⟩) 1 1, .int .i64 V1, .int .i64 V2, .int .i64 V3, .int .i64 0, .int .u64 0, .bool q, .string ⟨#[]⟩] := I3.set 4 (.int .i64 V3) (by simp)
  have BU4 : But R w (((((w.alloc (.cells #[.string (S x0)] 9)).setCell ⟨R, 1, none⟩ (.slice (some ⟨w.heap.size, 0, none⟩) 1 1)).setCell ⟨R, 2, none⟩ (.int .i64 V1)).setCell ⟨R, 3, none⟩ (.int .i64 V2)).setCell ⟨R, 4, none⟩ (.int .i64 V3)) := BU3.trans (But.set R 4 _ _)
  have v4 := I4.at_ 0 rfl
  have ne : R ≠ w.heap.size := Nat.ne_of_lt hR.lt
  have q0 : (w.alloc (.cells #[.string (S x0)] 9)).cell? ⟨w.heap.size, 0, none⟩ = some (.string (S x0)) := by rw [World.cell?_alloc_new]; rfl
  have qe : (((((w.alloc (.cells #[.string (S x0)] 9)).setCell ⟨R, 1, none⟩ (.slice (some ⟨w.heap.size, 0, none⟩) 1 1)).setCell ⟨R, 2, none⟩ (.int .i64 V1)).setCell ⟨R, 3, none⟩ (.int .i64 V2)).setCell ⟨R, 4, none⟩ (.int .i64 V3)).cell? ⟨w.heap.size, 0, none⟩ = some (.string (S x0)) := by
    refine ((((But.set R 1 _ _).trans (But.set R 2 _ _)).trans (But.set R 3 _ _)).trans (But.set R 4 _ _)).cell _ _ _ (fun e => ne e.symm) q0
  have HBU1 := Lib.hid BU1.lo
  have HBU2 := Lib.hid BU2.lo
  have HBU3 := Lib.hid BU3.lo
  have HBU4 := Lib.hid BU4.lo
  have HI := Lib.hid I4
  have HQE := Lib.hid qe
  have HRD := Lib.hid hrd
  clear hR hS I0 BU0 qe q0 ne hn hrd I1 BU1 I2 BU2 I3 BU3 I4 BU4 hV1 hV2 hV3
  cases hb0 : key x0 with
  | false =>
    have HE : Hid (rd [0, 1, 2, 3] 0 [x0, x1, x2, x3] Rq.none = none) := Lib.hid (by rw [HRD.out, if_neg (by rw [hb0]; decide)])
    simp only [hb0] at K0
    clear hb0
    go_enter Tryd.func73, Tryd.ntmps73
    go_wp2_with fail
    refine (K0 _).mono ?_
    rintro e w' ⟨rfl, rfl⟩
    go_wp2_with fail
    go_ret
    exact ⟨by rw [HE.out]; rfl, Below.refl _ _, by rw [HE.out]; exact Got.none _ _ _ _ _⟩
  | true =>
    cases hb1 : nb 4294967295 x1 with
    | false =>
      have HE : Hid (rd [0, 1, 2, 3] 0 [x0, x1, x2, x3] Rq.none = none) := Lib.hid (by rw [HRD.out, if_pos hb0, if_neg (by rw [hb1]; decide)])
      simp only [hb0] at K0
      simp only [hb1] at K1
      clear hb0 hb1
      go_enter Tryd.func73, Tryd.ntmps73
      go_wp2_with fail
      refine (K0 _).mono ?_
      rintro e w' ⟨rfl, rfl⟩
      go_wp2_with fail
      refine (K1 _).mono ?_
      rintro e w' ⟨rfl, rfl⟩
      go_wp2_with fail
      go_ret
      exact ⟨by rw [HE.out]; rfl, HBU2.out, by rw [HE.out]; exact Got.none _ _ _ _ _⟩
    | true =>
      cases hb2 : gb 1099511627776 x2 with
      | false =>
        have HE : Hid (rd [0, 1, 2, 3] 0 [x0, x1, x2, x3] Rq.none = none) := Lib.hid (by rw [HRD.out, if_pos hb0, if_pos hb1, if_neg (by rw [hb2]; decide)])
        simp only [hb0] at K0
        simp only [hb1] at K1
        simp only [hb2] at K2
        clear hb0 hb1 hb2
        go_enter Tryd.func73, Tryd.ntmps73
        go_wp2_with fail
        refine (K0 _).mono ?_
        rintro e w' ⟨rfl, rfl⟩
        go_wp2_with fail
        refine (K1 _).mono ?_
        rintro e w' ⟨rfl, rfl⟩
        go_wp2_with fail
        refine (K2 _).mono ?_
        rintro e w' ⟨rfl, rfl⟩
        go_wp2_with fail
        go_ret
        exact ⟨by rw [HE.out]; rfl, HBU3.out, by rw [HE.out]; exact Got.none _ _ _ _ _⟩
      | true =>
        cases hb3 : nb 2147483647 x3 with
        | false =>
          have HE : Hid (rd [0, 1, 2, 3] 0 [x0, x1, x2, x3] Rq.none = none) := Lib.hid (by rw [HRD.out, if_pos hb0, if_pos hb1, if_pos hb2, if_neg (by rw [hb3]; decide)])
          simp only [hb0] at K0
          simp only [hb1] at K1
          simp only [hb2] at K2
          simp only [hb3] at K3
          clear hb0 hb1 hb2 hb3
          go_enter Tryd.func73, Tryd.ntmps73
          go_wp2_with fail
          refine (K0 _).mono ?_
          rintro e w' ⟨rfl, rfl⟩
          go_wp2_with fail
          refine (K1 _).mono ?_
          rintro e w' ⟨rfl, rfl⟩
          go_wp2_with fail
          refine (K2 _).mono ?_
          rintro e w' ⟨rfl, rfl⟩
          go_wp2_with fail
          refine (K3 _).mono ?_
          rintro e w' ⟨rfl, rfl⟩
          go_wp2_with fail
          go_ret
          exact ⟨by rw [HE.out]; rfl, HBU4.out, by rw [HE.out]; exact Got.none _ _ _ _ _⟩
        | true =>
          have HE := Lib.hid (show rd [0, 1, 2, 3] 0 [x0, x1, x2, x3] Rq.none = _ by rw [HRD.out, if_pos hb0, if_pos hb1, if_pos hb2, if_pos hb3])
          simp only [hb0] at K0
          simp only [hb1] at K1
          simp only [hb2] at K2
          simp only [hb3] at K3
          clear hb0 hb1 hb2 hb3
          go_enter Tryd.func73, Tryd.ntmps73
          go_wp2_with fail
          refine (K0 _).mono ?_
          rintro e w' ⟨rfl, rfl⟩
          go_wp2_with fail
          refine (K1 _).mono ?_
          rintro e w' ⟨rfl, rfl⟩
          go_wp2_with fail
          refine (K2 _).mono ?_
          rintro e w' ⟨rfl, rfl⟩
          go_wp2_with fail
          refine (K3 _).mono ?_
          rintro e w' ⟨rfl, rfl⟩
          go_wp2_with fail
          go_ret
          refine ⟨by rw [HE.out]; rfl, HBU4.out, fun r hr => ?_⟩
          rw [HE.out] at hr
          cases hr
          refine ⟨some ⟨w.heap.size, 0, none⟩, 1, 1, ?_, one_strs HQE.out, fun A hA => by cases hA; exact Nat.le_refl _⟩
          have e1 := HV1.out
          subst e1
          have e2 := HV2.out
          subst e2
          have e3 := HV3.out
          subst e3
          exact HI.out.ra
set_option maxRecDepth 100000 in
set_option maxHeartbeats 800000 in
theorem rargs_8 (x0 x1 x2 x3 x4 : B) (q : Bool) (ag aq n c R : Nat) (z0 : (S x0).size ≤ 100000) (_z1 : (S x1).size ≤ 100000) (z2 : (S x2).size ≤ 100000) (_z3 : (S x3).size ≤ 100000) (_z4 : (S x4).size ≤ 100000) (w : World) (hR : IsR w R [.int .i64 8, .slice none 0 0, .int .i64 0, .int .i64 0, .int .i64 0, .int .i64 0, .int .u64 0, .bool q, .string ⟨#[]⟩]) (hS : Strs w (.slice (some ⟨ag, aq, none⟩) n c) [x0, x1, x2, x3, x4]) (hlt : ag < R) :
    Calls Tryd.prog 73 #[.pointer (some ⟨R, 0, none⟩), .slice (some ⟨ag, aq, none⟩) n c] w fun e w' => e = .returned (.bool (rd [0, 1, 2, 3, 4] 0 [x0, x1, x2, x3, x4] Rq.none).isSome) ∧ Below R w w' ∧ Got w.heap.size R w' (rd [0, 1, 2, 3, 4] 0 [x0, x1, x2, x3, x4] Rq.none) 8 q := by
  have hrd : rd [0, 1, 2, 3, 4] 0 [x0, x1, x2, x3, x4] Rq.none = if key x0 = true then (if nb 4294967295 x1 = true then (if gb 1099511627776 x2 = true then (if nb 2147483647 x3 = true then (if nb 1099511627776 x4 = true then (some ⟨0, [x0], (((nv 4294967295 x1) : Nat) : Int), (gv 1099511627776 x2), (((nv 2147483647 x3) : Nat) : Int), (((nv 1099511627776 x4) : Nat) : Int), 0, false⟩) else none) else none) else none) else none) else none := rfl
  obtain ⟨hn, _⟩ := hS.len
  have hn' : n = 5 := hn
  subst hn'
  have K0 : ∀ w : World, Calls Tryd.prog 16 #[.string (S x0)] w fun e w' => e = .returned (.bool (key x0)) ∧ w = w' := rkey_any (S x0) (by omega)
  have K1 : ∀ w : World, Calls Tryd.prog 83 #[.string (S x1), .int .u64 4294967295] w fun e w' => e = .returned (.tuple #[.int .u64 (((nv 4294967295 x1 : Nat) : Int)), .bool (nb 4294967295 x1)]) ∧ w = w' := rnumber_any (S x1) 4294967295 (by omega)
  obtain ⟨V1, hV1⟩ : ∃ V : Int, V = ((nv 4294967295 x1 : Nat) : Int) := ⟨_, rfl⟩
  simp only [← hV1] at K1
  have vb1 : 0 ≤ V1 ∧ V1 < 9223372036854775808 := by have := nv_le 4294967295 x1; omega
  obtain ⟨vl1, vh1⟩ := vb1
  have HV1 := Lib.hid hV1
  have K2 : ∀ w : World, Calls Tryd.prog 84 #[.string (S x2), .int .u64 1099511627776] w fun e w' => e = .returned (.tuple #[.int .i64 (gv 1099511627776 x2), .bool (gb 1099511627776 x2)]) ∧ w = w' := rsigned_any (S x2) (by omega) 1099511627776 (by omega)
  obtain ⟨V2, hV2⟩ : ∃ V : Int, V = gv 1099511627776 x2 := ⟨_, rfl⟩
  simp only [← hV2] at K2
  have HV2 := Lib.hid hV2
  have K3 : ∀ w : World, Calls Tryd.prog 83 #[.string (S x3), .int .u64 2147483647] w fun e w' => e = .returned (.tuple #[.int .u64 (((nv 2147483647 x3 : Nat) : Int)), .bool (nb 2147483647 x3)]) ∧ w = w' := rnumber_any (S x3) 2147483647 (by omega)
  obtain ⟨V3, hV3⟩ : ∃ V : Int, V = ((nv 2147483647 x3 : Nat) : Int) := ⟨_, rfl⟩
  simp only [← hV3] at K3
  have vb3 : 0 ≤ V3 ∧ V3 < 9223372036854775808 := by have := nv_le 2147483647 x3; omega
  obtain ⟨vl3, vh3⟩ := vb3
  have HV3 := Lib.hid hV3
  have K4 : ∀ w : World, Calls Tryd.prog 83 #[.string (S x4), .int .u64 1099511627776] w fun e w' => e = .returned (.tuple #[.int .u64 (((nv 1099511627776 x4 : Nat) : Int)), .bool (nb 1099511627776 x4)]) ∧ w = w' := rnumber_any (S x4) 1099511627776 (by omega)
  obtain ⟨V4, hV4⟩ : ∃ V : Int, V = ((nv 1099511627776 x4 : Nat) : Int) := ⟨_, rfl⟩
  simp only [← hV4] at K4
  have vb4 : 0 ≤ V4 ∧ V4 < 9223372036854775808 := by have := nv_le 1099511627776 x4; omega
  obtain ⟨vl4, vh4⟩ := vb4
  have HV4 := Lib.hid hV4
  have BU0 : But R w (w.alloc (.cells #[.string (S x0)] 9)) := But.new R (Nat.le_of_lt hR.lt) ((Below.refl _ _).alloc (Nat.le_refl _) _)
  have I0 := hR.up ((Below.refl w.heap.size w).alloc (Nat.le_refl _) (.cells #[.string (S x0)] 9))
  have r0 := hR.at_ 0 rfl
  have t1 := I0.at_ 1 rfl
  have f1 := I0.fz 1
  have I1 : IsR ((w.alloc (.cells #[.string (S x0)] 9)).setCell ⟨R, 1, none⟩ (.slice (some ⟨w.heap.size, 0, none⟩) 1 1)) R [.int .i64 8, .slice (some ⟨w.heap.size, 0, none⟩) 1 1, .int .i64 0, .int .i64 0, .int .i64 0, .int .i64 0, .int .u64 0, .bool q, .string ⟨#[]⟩] := I0.set 1 (.slice (some ⟨w.heap.size, 0, none⟩) 1 1) (by simp)
  have BU1 : But R w ((w.alloc (.cells #[.string (S x0)] 9)).setCell ⟨R, 1, none⟩ (.slice (some ⟨w.heap.size, 0, none⟩) 1 1)) := BU0.trans (But.set R 1 _ _)
  have v1 := I1.at_ 0 rfl
  have s0 : w.cell? ⟨ag, aq, none⟩ = some (.string (S x0)) := by obtain ⟨g', q', e1, e2⟩ := hS.at_ (i := 0) (x := x0) rfl; injection e1 with e1; injection e1 with e1 e3; subst e1 e3; exact e2
  have s1 : ((w.alloc (.cells #[.string (S x0)] 9)).setCell ⟨R, 1, none⟩ (.slice (some ⟨w.heap.size, 0, none⟩) 1 1)).cell? ⟨ag, aq + 1, none⟩ = some (.string (S x1)) := BU1.cell _ _ _ (by omega) (by obtain ⟨g', q', e1, e2⟩ := hS.at_ (i := 1) (x := x1) rfl; injection e1 with e1; injection e1 with e1 e3; subst e1 e3; exact e2)
  have u1 := I1.at_ 2 rfl
  have g1 := I1.fz 2
  have I2 : IsR (((w.alloc (.cells #[.string (S x0)] 9)).setCell ⟨R, 1, none⟩ (.slice (some ⟨w.heap.size, 0, none⟩) 1 1)).setCell ⟨R, 2, none⟩ (.int .i64 V1)) R [.int .i64 8, .slice (some ⟨w.heap.size, 0, none⟩) 1 1, .int .i64 V1, .int .i64 0, .int .i64 0, .int .i64 0, .int .u64 0, .bool q, .string ⟨#[]⟩] := I1.set 2 (.int .i64 V1) (by simp)
  have BU2 : But R w (((w.alloc (.cells #[.string (S x0)] 9)).setCell ⟨R, 1, none⟩ (.slice (some ⟨w.heap.size, 0, none⟩) 1 1)).setCell ⟨R, 2, none⟩ (.int .i64 V1)) := BU1.trans (But.set R 2 _ _)
  have s2 : (((w.alloc (.cells #[.string (S x0)] 9)).setCell ⟨R, 1, none⟩ (.slice (some ⟨w.heap.size, 0, none⟩) 1 1)).setCell ⟨R, 2, none⟩ (.int .i64 V1)).cell? ⟨ag, aq + 2, none⟩ = some (.string (S x2)) := BU2.cell _ _ _ (by omega) (by obtain ⟨g', q', e1, e2⟩ := hS.at_ (i := 2) (x := x2) rfl; injection e1 with e1; injection e1 with e1 e3; subst e1 e3; exact e2)
  have u2 := I2.at_ 3 rfl
  have g2 := I2.fz 3
  have I3 : IsR ((((w.alloc (.cells #[.string (S x0)] 9)).setCell ⟨R, 1, none⟩ (.slice (some ⟨w.heap.size, 0, none⟩) 1 1)).setCell ⟨R, 2, none⟩ (.int .i64 V1)).setCell ⟨R, 3, none⟩ (.int .i64 V2)) R [.int .i64 8, .slice (some ⟨w.heap.size, 0, none⟩) 1 1, .int .i64 V1, .int .i64 V2, .int .i64 0, .int .i64 0, .int .u64 0, .bool q, .string ⟨#[]⟩] := I2.set 3 (.int .i64 V2) (by simp)
  have BU3 : But R w ((((w.alloc (.cells #[.string (S x0)] 9)).setCell ⟨R, 1, none⟩ (.slice (some ⟨w.heap.size, 0, none⟩) 1 1)).setCell ⟨R, 2, none⟩ (.int .i64 V1)).setCell ⟨R, 3, none⟩ (.int .i64 V2)) := BU2.trans (But.set R 3 _ _)
  have s3 : ((((w.alloc (.cells #[.string (S x0)] 9)).setCell ⟨R, 1, none⟩ (.slice (some ⟨w.heap.size, 0, none⟩) 1 1)).setCell ⟨R, 2, none⟩ (.int .i64 V1)).setCell ⟨R, 3, none⟩ (.int .i64 V2)).cell? ⟨ag, aq + 3, none⟩ = some (.string (S x3)) := BU3.cell _ _ _ (by omega) (by obtain ⟨g', q', e1, e2⟩ := hS.at_ (i := 3) (x := x3) rfl; injection e1 with e1; injection e1 with e1 e3; subst e1 e3; exact e2)
  have u3 := I3.at_ 4 rfl
  have g3 := I3.fz 4
  have I4 : IsR (((((w.alloc (.cells #[.string (S x0)] 9)).setCell ⟨R, 1, none⟩ (.slice (some ⟨w.heap.size, 0, none⟩) 1 1)).setCell ⟨R, 2, none⟩ (.int .i64 V1)).setCell ⟨R, 3, none⟩ (.int .i64 V2)).setCell ⟨R, 4, none⟩ (.int .i64 V3)) R [.int .i64 8, .slice (some ⟨w.heap.size, 0, none⟩) 1 1, .int .i64 V1, .int .i64 V2, .int .i64 V3, .int .i64 0, .int .u64 0, .bool q, .string ⟨#[]⟩] := I3.set 4 (.int .i64 V3) (by simp)
  have BU4 : But R w (((((w.alloc (.cells #[.string (S x0)] 9)).setCell ⟨R, 1, none⟩ (.slice (some ⟨w.heap.size, 0, none⟩) 1 1)).setCell ⟨R, 2, none⟩ (.int .i64 V1)).setCell ⟨R, 3, none⟩ (.int .i64 V2)).setCell ⟨R, 4, none⟩ (.int .i64 V3)) := BU3.trans (But.set R 4 _ _)
  have s4 : (((((w.alloc (.cells #[.string (S x0)] 9)).setCell ⟨R, 1, none⟩ (.slice (some ⟨w.heap.size, 0, none⟩) 1 1)).setCell ⟨R, 2, none⟩ (.int .i64 V1)).setCell ⟨R, 3, none⟩ (.int .i64 V2)).setCell ⟨R, 4, none⟩ (.int .i64 V3)).cell? ⟨ag, aq + 4, none⟩ = some (.string (S x4)) := BU4.cell _ _ _ (by omega) (by obtain ⟨g', q', e1, e2⟩ := hS.at_ (i := 4) (x := x4) rfl; injection e1 with e1; injection e1 with e1 e3; subst e1 e3; exact e2)
  have u4 := I4.at_ 5 rfl
  have g4 := I4.fz 5
  have I5 : IsR ((((((w.alloc (.cells #[.string (S x0)] 9)).setCell ⟨R, 1, none⟩ (.slice (some ⟨w.heap.size, 0, none⟩) 1 1)).setCell ⟨R, 2, none⟩ (.int .i64 V1)).setCell ⟨R, 3, none⟩ (.int .i64 V2)).setCell ⟨R, 4, none⟩ (.int .i64 V3)).setCell ⟨R, 5, none⟩ (.int .i64 V4)) R [.int .i64 8, .slice (some ⟨w.heap.size, 0, none⟩) 1 1, .int .i64 V1, .int .i64 V2, .int .i64 V3, .int .i64 V4, .int .u64 0, .bool q, .string ⟨#[]⟩] := I4.set 5 (.int .i64 V4) (by simp)
  have BU5 : But R w ((((((w.alloc (.cells #[.string (S x0)] 9)).setCell ⟨R, 1, none⟩ (.slice (some ⟨w.heap.size, 0, none⟩) 1 1)).setCell ⟨R, 2, none⟩ (.int .i64 V1)).setCell ⟨R, 3, none⟩ (.int .i64 V2)).setCell ⟨R, 4, none⟩ (.int .i64 V3)).setCell ⟨R, 5, none⟩ (.int .i64 V4)) := BU4.trans (But.set R 5 _ _)
  have v4 := I4.at_ 0 rfl
  have ne : R ≠ w.heap.size := Nat.ne_of_lt hR.lt
  have q0 : (w.alloc (.cells #[.string (S x0)] 9)).cell? ⟨w.heap.size, 0, none⟩ = some (.string (S x0)) := by rw [World.cell?_alloc_new]; rfl
  have qe : ((((((w.alloc (.cells #[.string (S x0)] 9)).setCell ⟨R, 1, none⟩ (.slice (some ⟨w.heap.size, 0, none⟩) 1 1)).setCell ⟨R, 2, none⟩ (.int .i64 V1)).setCell ⟨R, 3, none⟩ (.int .i64 V2)).setCell ⟨R, 4, none⟩ (.int .i64 V3)).setCell ⟨R, 5, none⟩ (.int .i64 V4)).cell? ⟨w.heap.size, 0, none⟩ = some (.string (S x0)) := by
    refine (((((But.set R 1 _ _).trans (But.set R 2 _ _)).trans (But.set R 3 _ _)).trans (But.set R 4 _ _)).trans (But.set R 5 _ _)).cell _ _ _ (fun e => ne e.symm) q0
  have HBU1 := Lib.hid BU1.lo
  have HBU2 := Lib.hid BU2.lo
  have HBU3 := Lib.hid BU3.lo
  have HBU4 := Lib.hid BU4.lo
  have HBU5 := Lib.hid BU5.lo
  have HI := Lib.hid I5
  have HQE := Lib.hid qe
  have HRD := Lib.hid hrd
  clear hR hS I0 BU0 qe q0 ne hn hrd I1 BU1 I2 BU2 I3 BU3 I4 BU4 I5 BU5 hV1 hV2 hV3 hV4
  cases hb0 : key x0 with
  | false =>
    have HE : Hid (rd [0, 1, 2, 3, 4] 0 [x0, x1, x2, x3, x4] Rq.none = none) := Lib.hid (by rw [HRD.out, if_neg (by rw [hb0]; decide)])
    simp only [hb0] at K0
    clear hb0
    go_enter Tryd.func73, Tryd.ntmps73
    go_wp2_with fail
    refine (K0 _).mono ?_
    rintro e w' ⟨rfl, rfl⟩
    go_wp2_with fail
    go_ret
    exact ⟨by rw [HE.out]; rfl, Below.refl _ _, by rw [HE.out]; exact Got.none _ _ _ _ _⟩
  | true =>
    cases hb1 : nb 4294967295 x1 with
    | false =>
      have HE : Hid (rd [0, 1, 2, 3, 4] 0 [x0, x1, x2, x3, x4] Rq.none = none) := Lib.hid (by rw [HRD.out, if_pos hb0, if_neg (by rw [hb1]; decide)])
      simp only [hb0] at K0
      simp only [hb1] at K1
      clear hb0 hb1
      go_enter Tryd.func73, Tryd.ntmps73
      go_wp2_with fail
      refine (K0 _).mono ?_
      rintro e w' ⟨rfl, rfl⟩
      go_wp2_with fail
      refine (K1 _).mono ?_
      rintro e w' ⟨rfl, rfl⟩
      go_wp2_with fail
      go_ret
      exact ⟨by rw [HE.out]; rfl, HBU2.out, by rw [HE.out]; exact Got.none _ _ _ _ _⟩
    | true =>
      cases hb2 : gb 1099511627776 x2 with
      | false =>
        have HE : Hid (rd [0, 1, 2, 3, 4] 0 [x0, x1, x2, x3, x4] Rq.none = none) := Lib.hid (by rw [HRD.out, if_pos hb0, if_pos hb1, if_neg (by rw [hb2]; decide)])
        simp only [hb0] at K0
        simp only [hb1] at K1
        simp only [hb2] at K2
        clear hb0 hb1 hb2
        go_enter Tryd.func73, Tryd.ntmps73
        go_wp2_with fail
        refine (K0 _).mono ?_
        rintro e w' ⟨rfl, rfl⟩
        go_wp2_with fail
        refine (K1 _).mono ?_
        rintro e w' ⟨rfl, rfl⟩
        go_wp2_with fail
        refine (K2 _).mono ?_
        rintro e w' ⟨rfl, rfl⟩
        go_wp2_with fail
        go_ret
        exact ⟨by rw [HE.out]; rfl, HBU3.out, by rw [HE.out]; exact Got.none _ _ _ _ _⟩
      | true =>
        cases hb3 : nb 2147483647 x3 with
        | false =>
          have HE : Hid (rd [0, 1, 2, 3, 4] 0 [x0, x1, x2, x3, x4] Rq.none = none) := Lib.hid (by rw [HRD.out, if_pos hb0, if_pos hb1, if_pos hb2, if_neg (by rw [hb3]; decide)])
          simp only [hb0] at K0
          simp only [hb1] at K1
          simp only [hb2] at K2
          simp only [hb3] at K3
          clear hb0 hb1 hb2 hb3
          go_enter Tryd.func73, Tryd.ntmps73
          go_wp2_with fail
          refine (K0 _).mono ?_
          rintro e w' ⟨rfl, rfl⟩
          go_wp2_with fail
          refine (K1 _).mono ?_
          rintro e w' ⟨rfl, rfl⟩
          go_wp2_with fail
          refine (K2 _).mono ?_
          rintro e w' ⟨rfl, rfl⟩
          go_wp2_with fail
          refine (K3 _).mono ?_
          rintro e w' ⟨rfl, rfl⟩
          go_wp2_with fail
          go_ret
          exact ⟨by rw [HE.out]; rfl, HBU4.out, by rw [HE.out]; exact Got.none _ _ _ _ _⟩
        | true =>
          cases hb4 : nb 1099511627776 x4 with
          | false =>
            have HE : Hid (rd [0, 1, 2, 3, 4] 0 [x0, x1, x2, x3, x4] Rq.none = none) := Lib.hid (by rw [HRD.out, if_pos hb0, if_pos hb1, if_pos hb2, if_pos hb3, if_neg (by rw [hb4]; decide)])
            simp only [hb0] at K0
            simp only [hb1] at K1
            simp only [hb2] at K2
            simp only [hb3] at K3
            simp only [hb4] at K4
            clear hb0 hb1 hb2 hb3 hb4
            go_enter Tryd.func73, Tryd.ntmps73
            go_wp2_with fail
            refine (K0 _).mono ?_
            rintro e w' ⟨rfl, rfl⟩
            go_wp2_with fail
            refine (K1 _).mono ?_
            rintro e w' ⟨rfl, rfl⟩
            go_wp2_with fail
            refine (K2 _).mono ?_
            rintro e w' ⟨rfl, rfl⟩
            go_wp2_with fail
            refine (K3 _).mono ?_
            rintro e w' ⟨rfl, rfl⟩
            go_wp2_with fail
            refine (K4 _).mono ?_
            rintro e w' ⟨rfl, rfl⟩
            go_wp2_with fail
            go_ret
            exact ⟨by rw [HE.out]; rfl, HBU5.out, by rw [HE.out]; exact Got.none _ _ _ _ _⟩
          | true =>
            have HE := Lib.hid (show rd [0, 1, 2, 3, 4] 0 [x0, x1, x2, x3, x4] Rq.none = _ by rw [HRD.out, if_pos hb0, if_pos hb1, if_pos hb2, if_pos hb3, if_pos hb4])
            simp only [hb0] at K0
            simp only [hb1] at K1
            simp only [hb2] at K2
            simp only [hb3] at K3
            simp only [hb4] at K4
            clear hb0 hb1 hb2 hb3 hb4
            go_enter Tryd.func73, Tryd.ntmps73
            go_wp2_with fail
            refine (K0 _).mono ?_
            rintro e w' ⟨rfl, rfl⟩
            go_wp2_with fail
            refine (K1 _).mono ?_
            rintro e w' ⟨rfl, rfl⟩
            go_wp2_with fail
            refine (K2 _).mono ?_
            rintro e w' ⟨rfl, rfl⟩
            go_wp2_with fail
            refine (K3 _).mono ?_
            rintro e w' ⟨rfl, rfl⟩
            go_wp2_with fail
            refine (K4 _).mono ?_
            rintro e w' ⟨rfl, rfl⟩
            go_wp2_with fail
            go_ret
            refine ⟨by rw [HE.out]; rfl, HBU5.out, fun r hr => ?_⟩
            rw [HE.out] at hr
            cases hr
            refine ⟨some ⟨w.heap.size, 0, none⟩, 1, 1, ?_, one_strs HQE.out, fun A hA => by cases hA; exact Nat.le_refl _⟩
            have e1 := HV1.out
            subst e1
            have e2 := HV2.out
            subst e2
            have e3 := HV3.out
            subst e3
            have e4 := HV4.out
            subst e4
            exact HI.out.ra
end Go.Proofs.YtedbklipbfbmoaaDoor
