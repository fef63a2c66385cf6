/-
  A REQUEST BEHIND A POINTER; what args of the reference leaves.
-/
import Derived.Test.YtedbklipbfbmoaaDoorRWords
import Derived.Test.YtedbklipbfbmoaaDoorRVerb
import Derived.Test.YtedbklipbfbmoaaDoorLine
namespace Go.Proofs.YtedbklipbfbmoaaDoor
open Go.RowKit

structure IsR (w : World) (R : Nat) (cs : List Value) : Prop where
  ra : w.rangeAt R 0 cs
  fz : ∀ j, w.frozen? ⟨R, j, none⟩ = false
  lt : R < w.heap.size
theorem IsR.set {w : World} {R : Nat} {cs : List Value} (h : IsR w R cs) (i : Nat) (u : Value) (hi : i < cs.length) : IsR (w.setCell ⟨R, i, none⟩ u) R (cs.set i u) :=
  ⟨range_set h.ra hi, fun j => by rw [World.frozen?_setCell]; exact h.fz j, by simpa [World.setCell] using h.lt⟩
theorem IsR.up {w w' : World} {R : Nat} {cs : List Value} (h : IsR w R cs) (b : Below w.heap.size w w') : IsR w' R cs :=
  ⟨fun j v hv => cell_up b (h.ra j v hv), fun j => (World.frozen?_of_block (a := ⟨R, j, none⟩) (b.block R h.lt)).trans (h.fz j), Nat.lt_of_lt_of_le h.lt b.size⟩
theorem IsR.at_ {w : World} {R : Nat} {cs : List Value} (h : IsR w R cs) (i : Nat) {v : Value} (hv : cs[i]? = some v) : w.cell? ⟨R, i, none⟩ = some v := by
  have := h.ra i v hv
  rwa [Nat.zero_add] at this
/-- Of what was there R alone has turned. -/
structure But (R : Nat) (w w' : World) : Prop where
  lo : Below R w w'
  cell : ∀ b off v, b ≠ R → w.cell? ⟨b, off, none⟩ = some v → w'.cell? ⟨b, off, none⟩ = some v
theorem But.refl (R : Nat) (w : World) : But R w w := ⟨Below.refl _ _, fun _ _ _ _ h => h⟩
theorem But.trans {R : Nat} {w1 w2 w3 : World} (h : But R w1 w2) (k : But R w2 w3) : But R w1 w3 := ⟨h.lo.trans k.lo, fun b off v hb hc => k.cell b off v hb (h.cell b off v hb hc)⟩
theorem But.set (R i : Nat) (u : Value) (w : World) : But R w (w.setCell ⟨R, i, none⟩ u) := by
  have f2 : Fr (fun t => t = (9, 9)) (lab (fun _ => (0, 0)) R (9, 9)) (lab (fun _ => (0, 0)) R (9, 9)) w (w.setCell ⟨R, i, none⟩ u) := Fr.set (T := fun t => t = (9, 9)) (a := ⟨R, i, none⟩) (show lab (fun _ => (0, 0)) R (9, 9) R = (9, 9) from lab_same _ _ _) _
  refine ⟨⟨f2.os, f2.tape, f2.output, f2.size, fun b hb => ?_⟩, fun b off v hb hc => f2.cell hc (fun e => by rw [lab_other _ _ _ hb] at e; cases e)⟩
  exact Below.heap_setCell _ _ _ _ (by show b ≠ R; omega)
theorem But.new (R : Nat) {w w' : World} (hR : R ≤ w.heap.size) (b : Below w.heap.size w w') : But R w w' := ⟨b.mono hR, fun _ _ _ _ hc => cell_up b hc⟩
/-- What args leaves where it says yes. -/
def Got (N R : Nat) (w' : World) (ro : Option Rq) (v : Nat) (q : Bool) : Prop := ∀ r, ro = some r → ∃ a n c, w'.rangeAt R 0 (({ r with verb := v, quiet := q } : Rq).cs (.slice a n c)) ∧ Strs w' (.slice a n c) r.keys ∧ ∀ A, a = some A → N ≤ A.block
theorem Got.none (N R : Nat) (w' : World) (v : Nat) (q : Bool) : Got N R w' Option.none v q := fun r h => by cases h
theorem one_strs {w : World} {x : B} {g : Nat} (h : w.cell? ⟨g, 0, none⟩ = some (.string (S x))) : Strs w (.slice (some ⟨g, 0, none⟩) 1 1) [x] :=
  ⟨_, _, rfl, Nat.le_refl _, fun _ => ⟨g, 0, rfl, fun i y hy => by
    rcases i with _ | i
    · simp at hy; subst hy; exact h
    · simp at hy⟩⟩
end Go.Proofs.YtedbklipbfbmoaaDoor


namespace Go.Proofs.YtedbklipbfbmoaaDoor
open Go.RowKit

set_option maxRecDepth 100000 in
set_option maxHeartbeats 800000 in
theorem rargs_9 (x0 : B) (q : Bool) (ag aq n c R : Nat) (z0 : (S x0).size ≤ 100000) (w : World) (hR : IsR w R [.int .i64 9, .slice none 0 0, .int .i64 0, .int .i64 0, .int .i64 0, .int .i64 0, .int .u64 0, .bool q, .string ⟨#[]⟩]) (hS : Strs w (.slice (some ⟨ag, aq, none⟩) n c) [x0]) (_hlt : ag < R) :
    Calls Tryd.prog 73 #[.pointer (some ⟨R, 0, none⟩), .slice (some ⟨ag, aq, none⟩) n c] w fun e w' => e = .returned (.bool (rd [0] 0 [x0] Rq.none).isSome) ∧ Below R w w' ∧ Got w.heap.size R w' (rd [0] 0 [x0] Rq.none) 9 q := by
  have hrd : rd [0] 0 [x0] Rq.none = if key x0 = true then (some ⟨0, [x0], 0, 0, 0, 0, 0, false⟩) else none := rfl
  obtain ⟨hn, _⟩ := hS.len
  have hn' : n = 1 := hn
  subst hn'
  have K0 : ∀ w : World, Calls Tryd.prog 16 #[.string (S x0)] w fun e w' => e = .returned (.bool (key x0)) ∧ w = w' := rkey_any (S x0) (by omega)
  have BU0 : But R w (w.alloc (.cells #[.string (S x0)] 9)) := But.new R (Nat.le_of_lt hR.lt) ((Below.refl _ _).alloc (Nat.le_refl _) _)
  have I0 := hR.up ((Below.refl w.heap.size w).alloc (Nat.le_refl _) (.cells #[.string (S x0)] 9))
  have r0 := hR.at_ 0 rfl
  have t1 := I0.at_ 1 rfl
  have f1 := I0.fz 1
  have I1 : IsR ((w.alloc (.cells #[.string (S x0)] 9)).setCell ⟨R, 1, none⟩ (.slice (some ⟨w.heap.size, 0, none⟩) 1 1)) R [.int .i64 9, .slice (some ⟨w.heap.size, 0, none⟩) 1 1, .int .i64 0, .int .i64 0, .int .i64 0, .int .i64 0, .int .u64 0, .bool q, .string ⟨#[]⟩] := I0.set 1 (.slice (some ⟨w.heap.size, 0, none⟩) 1 1) (by simp)
  have BU1 : But R w ((w.alloc (.cells #[.string (S x0)] 9)).setCell ⟨R, 1, none⟩ (.slice (some ⟨w.heap.size, 0, none⟩) 1 1)) := BU0.trans (But.set R 1 _ _)
  have v1 := I1.at_ 0 rfl
  have s0 : w.cell? ⟨ag, aq, none⟩ = some (.string (S x0)) := by obtain ⟨g', q', e1, e2⟩ := hS.at_ (i := 0) (x := x0) rfl; injection e1 with e1; injection e1 with e1 e3; subst e1 e3; exact e2
  have ne : R ≠ w.heap.size := Nat.ne_of_lt hR.lt
  have q0 : (w.alloc (.cells #[.string (S x0)] 9)).cell? ⟨w.heap.size, 0, none⟩ = some (.string (S x0)) := by rw [World.cell?_alloc_new]; rfl
  have qe : ((w.alloc (.cells #[.string (S x0)] 9)).setCell ⟨R, 1, none⟩ (.slice (some ⟨w.heap.size, 0, none⟩) 1 1)).cell? ⟨w.heap.size, 0, none⟩ = some (.string (S x0)) := by
    refine (But.set R 1 _ _).cell _ _ _ (fun e => ne e.symm) q0
  have HBU1 := Lib.hid BU1.lo
  have HI := Lib.hid I1
  have HQE := Lib.hid qe
  have HRD := Lib.hid hrd
  clear hR hS I0 BU0 qe q0 ne hn hrd I1 BU1 
  cases hb0 : key x0 with
  | false =>
    have HE : Hid (rd [0] 0 [x0] Rq.none = none) := Lib.hid (by rw [HRD.out, if_neg (by rw [hb0]; decide)])
    simp only [hb0] at K0
    clear hb0
    go_enter Tryd.func73, Tryd.ntmps73
    go_wp2_with fail
    refine (K0 _).mono ?_
    rintro e w' ⟨rfl, rfl⟩
    go_wp2_with fail
    go_ret
    exact ⟨by rw [HE.out]; rfl, Below.refl _ _, by rw [HE.out]; exact Got.none _ _ _ _ _⟩
  | true =>
    have HE := Lib.hid (show rd [0] 0 [x0] Rq.none = _ by rw [HRD.out, if_pos hb0])
    simp only [hb0] at K0
    clear hb0
    go_enter Tryd.func73, Tryd.ntmps73
    go_wp2_with fail
    refine (K0 _).mono ?_
    rintro e w' ⟨rfl, rfl⟩
    go_wp2_with fail
    go_ret
    refine ⟨by rw [HE.out]; rfl, HBU1.out, fun r hr => ?_⟩
    rw [HE.out] at hr
    cases hr
    refine ⟨some ⟨w.heap.size, 0, none⟩, 1, 1, ?_, one_strs HQE.out, fun A hA => by cases hA; exact Nat.le_refl _⟩
    exact HI.out.ra
set_option maxRecDepth 100000 in
set_option maxHeartbeats 800000 in
theorem rargs_10 (x0 x1 : B) (q : Bool) (ag aq n c R : Nat) (z0 : (S x0).size ≤ 100000) (_z1 : (S x1).size ≤ 100000) (w : World) (hR : IsR w R [.int .i64 10, .slice none 0 0, .int .i64 0, .int .i64 0, .int .i64 0, .int .i64 0, .int .u64 0, .bool q, .string ⟨#[]⟩]) (hS : Strs w (.slice (some ⟨ag, aq, none⟩) n c) [x0, x1]) (hlt : ag < R) :
    Calls Tryd.prog 73 #[.pointer (some ⟨R, 0, none⟩), .slice (some ⟨ag, aq, none⟩) n c] w fun e w' => e = .returned (.bool (rd [0, 5] 0 [x0, x1] Rq.none).isSome) ∧ Below R w w' ∧ Got w.heap.size R w' (rd [0, 5] 0 [x0, x1] Rq.none) 10 q := by
  have hrd : rd [0, 5] 0 [x0, x1] Rq.none = if key x0 = true then (if nb 18446744073709551615 x1 = true then (some ⟨0, [x0], 0, 0, 0, 0, (nv 18446744073709551615 x1), false⟩) else none) else none := rfl
  obtain ⟨hn, _⟩ := hS.len
  have hn' : n = 2 := hn
  subst hn'
  have K0 : ∀ w : World, Calls Tryd.prog 16 #[.string (S x0)] w fun e w' => e = .returned (.bool (key x0)) ∧ w = w' := rkey_any (S x0) (by omega)
  have K1 : ∀ w : World, Calls Tryd.prog 83 #[.string (S x1), .int .u64 18446744073709551615] w fun e w' => e = .returned (.tuple #[.int .u64 (((nv 18446744073709551615 x1 : Nat) : Int)), .bool (nb 18446744073709551615 x1)]) ∧ w = w' := rnumber_any (S x1) 18446744073709551615 (by omega)
  obtain ⟨V1, hV1⟩ : ∃ V : Int, V = ((nv 18446744073709551615 x1 : Nat) : Int) := ⟨_, rfl⟩
  simp only [← hV1] at K1
  have HV1 := Lib.hid hV1
  have BU0 : But R w (w.alloc (.cells #[.string (S x0)] 9)) := But.new R (Nat.le_of_lt hR.lt) ((Below.refl _ _).alloc (Nat.le_refl _) _)
  have I0 := hR.up ((Below.refl w.heap.size w).alloc (Nat.le_refl _) (.cells #[.string (S x0)] 9))
  have r0 := hR.at_ 0 rfl
  have t1 := I0.at_ 1 rfl
  have f1 := I0.fz 1
  have I1 : IsR ((w.alloc (.cells #[.string (S x0)] 9)).setCell ⟨R, 1, none⟩ (.slice (some ⟨w.heap.size, 0, none⟩) 1 1)) R [.int .i64 10, .slice (some ⟨w.heap.size, 0, none⟩) 1 1, .int .i64 0, .int .i64 0, .int .i64 0, .int .i64 0, .int .u64 0, .bool q, .string ⟨#[]⟩] := I0.set 1 (.slice (some ⟨w.heap.size, 0, none⟩) 1 1) (by simp)
  have BU1 : But R w ((w.alloc (.cells #[.string (S x0)] 9)).setCell ⟨R, 1, none⟩ (.slice (some ⟨w.heap.size, 0, none⟩) 1 1)) := BU0.trans (But.set R 1 _ _)
  have v1 := I1.at_ 0 rfl
  have s0 : w.cell? ⟨ag, aq, none⟩ = some (.string (S x0)) := by obtain ⟨g', q', e1, e2⟩ := hS.at_ (i := 0) (x := x0) rfl; injection e1 with e1; injection e1 with e1 e3; subst e1 e3; exact e2
  have s1 : ((w.alloc (.cells #[.string (S x0)] 9)).setCell ⟨R, 1, none⟩ (.slice (some ⟨w.heap.size, 0, none⟩) 1 1)).cell? ⟨ag, aq + 1, none⟩ = some (.string (S x1)) := BU1.cell _ _ _ (by omega) (by obtain ⟨g', q', e1, e2⟩ := hS.at_ (i := 1) (x := x1) rfl; injection e1 with e1; injection e1 with e1 e3; subst e1 e3; exact e2)
  have u1 := I1.at_ 6 rfl
  have g1 := I1.fz 6
  have I2 : IsR (((w.alloc (.cells #[.string (S x0)] 9)).setCell ⟨R, 1, none⟩ (.slice (some ⟨w.heap.size, 0, none⟩) 1 1)).setCell ⟨R, 6, none⟩ (.int .u64 V1)) R [.int .i64 10, .slice (some ⟨w.heap.size, 0, none⟩) 1 1, .int .i64 0, .int .i64 0, .int .i64 0, .int .i64 0, .int .u64 V1, .bool q, .string ⟨#[]⟩] := I1.set 6 (.int .u64 V1) (by simp)
  have BU2 : But R w (((w.alloc (.cells #[.string (S x0)] 9)).setCell ⟨R, 1, none⟩ (.slice (some ⟨w.heap.size, 0, none⟩) 1 1)).setCell ⟨R, 6, none⟩ (.int .u64 V1)) := BU1.trans (But.set R 6 _ _)
  have ne : R ≠ w.heap.size := Nat.ne_of_lt hR.lt
  have q0 : (w.alloc (.cells #[.string (S x0)] 9)).cell? ⟨w.heap.size, 0, none⟩ = some (.string (S x0)) := by rw [World.cell?_alloc_new]; rfl
  have qe : (((w.alloc (.cells #[.string (S x0)] 9)).setCell ⟨R, 1, none⟩ (.slice (some ⟨w.heap.size, 0, none⟩) 1 1)).setCell ⟨R, 6, none⟩ (.int .u64 V1)).cell? ⟨w.heap.size, 0, none⟩ = some (.string (S x0)) := by
    refine ((But.set R 1 _ _).trans (But.set R 6 _ _)).cell _ _ _ (fun e => ne e.symm) q0
  have HBU1 := Lib.hid BU1.lo
  have HBU2 := Lib.hid BU2.lo
  have HI := Lib.hid I2
  have HQE := Lib.hid qe
  have HRD := Lib.hid hrd
  clear hR hS I0 BU0 qe q0 ne hn hrd I1 BU1 I2 BU2 hV1
  cases hb0 : key x0 with
  | false =>
    have HE : Hid (rd [0, 5] 0 [x0, x1] Rq.none = none) := Lib.hid (by rw [HRD.out, if_neg (by rw [hb0]; decide)])
    simp only [hb0] at K0
    clear hb0
    go_enter Tryd.func73, Tryd.ntmps73
    go_wp2_with fail
    refine (K0 _).mono ?_
    rintro e w' ⟨rfl, rfl⟩
    go_wp2_with fail
    go_ret
    exact ⟨by rw [HE.out]; rfl, Below.refl _ _, by rw [HE.out]; exact Got.none _ _ _ _ _⟩
  | true =>
    cases hb1 : nb 18446744073709551615 x1 with
    | false =>
      have HE : Hid (rd [0, 5] 0 [x0, x1] Rq.none = none) := Lib.hid (by rw [HRD.out, if_pos hb0, if_neg (by rw [hb1]; decide)])
      simp only [hb0] at K0
      simp only [hb1] at K1
      clear hb0 hb1
      go_enter Tryd.func73, Tryd.ntmps73
      go_wp2_with fail
      refine (K0 _).mono ?_
      rintro e w' ⟨rfl, rfl⟩
      go_wp2_with fail
      refine (K1 _).mono ?_
      rintro e w' ⟨rfl, rfl⟩
      go_wp2_with fail
      go_ret
      exact ⟨by rw [HE.out]; rfl, HBU2.out, by rw [HE.out]; exact Got.none _ _ _ _ _⟩
    | true =>
      have HE := Lib.hid (show rd [0, 5] 0 [x0, x1] Rq.none = _ by rw [HRD.out, if_pos hb0, if_pos hb1])
      simp only [hb0] at K0
      simp only [hb1] at K1
      clear hb0 hb1
      go_enter Tryd.func73, Tryd.ntmps73
      go_wp2_with fail
      refine (K0 _).mono ?_
      rintro e w' ⟨rfl, rfl⟩
      go_wp2_with fail
      refine (K1 _).mono ?_
      rintro e w' ⟨rfl, rfl⟩
      go_wp2_with fail
      go_ret
      refine ⟨by rw [HE.out]; rfl, HBU2.out, fun r hr => ?_⟩
      rw [HE.out] at hr
      cases hr
      refine ⟨some ⟨w.heap.size, 0, none⟩, 1, 1, ?_, one_strs HQE.out, fun A hA => by cases hA; exact Nat.le_refl _⟩
      have e1 := HV1.out
      subst e1
      exact HI.out.ra
set_option maxRecDepth 100000 in
set_option maxHeartbeats 800000 in
theorem rargs_11 (x0 x1 : B) (q : Bool) (ag aq n c R : Nat) (z0 : (S x0).size ≤ 100000) (_z1 : (S x1).size ≤ 100000) (w : World) (hR : IsR w R [.int .i64 11, .slice none 0 0, .int .i64 0, .int .i64 0, .int .i64 0, .int .i64 0, .int .u64 0, .bool q, .string ⟨#[]⟩]) (hS : Strs w (.slice (some ⟨ag, aq, none⟩) n c) [x0, x1]) (hlt : ag < R) :
    Calls Tryd.prog 73 #[.pointer (some ⟨R, 0, none⟩), .slice (some ⟨ag, aq, none⟩) n c] w fun e w' => e = .returned (.bool (rd [0, 5] 0 [x0, x1] Rq.none).isSome) ∧ Below R w w' ∧ Got w.heap.size R w' (rd [0, 5] 0 [x0, x1] Rq.none) 11 q := by
  have hrd : rd [0, 5] 0 [x0, x1] Rq.none = if key x0 = true then (if nb 18446744073709551615 x1 = true then (some ⟨0, [x0], 0, 0, 0, 0, (nv 18446744073709551615 x1), false⟩) else none) else none := rfl
  obtain ⟨hn, _⟩ := hS.len
  have hn' : n = 2 := hn
  subst hn'
  have K0 : ∀ w : World, Calls Tryd.prog 16 #[.string (S x0)] w fun e w' => e = .returned (.bool (key x0)) ∧ w = w' := rkey_any (S x0) (by omega)
  have K1 : ∀ w : World, Calls Tryd.prog 83 #[.string (S x1), .int .u64 18446744073709551615] w fun e w' => e = .returned (.tuple #[.int .u64 (((nv 18446744073709551615 x1 : Nat) : Int)), .bool (nb 18446744073709551615 x1)]) ∧ w = w' := rnumber_any (S x1) 18446744073709551615 (by omega)
  obtain ⟨V1, hV1⟩ : ∃ V : Int, V = ((nv 18446744073709551615 x1 : Nat) : Int) := ⟨_, rfl⟩
  simp only [← hV1] at K1
  have HV1 := Lib.hid hV1
  have BU0 : But R w (w.alloc (.cells #[.string (S x0)] 9)) := But.new R (Nat.le_of_lt hR.lt) ((Below.refl _ _).alloc (Nat.le_refl _) _)
  have I0 := hR.up ((Below.refl w.heap.size w).alloc (Nat.le_refl _) (.cells #[.string (S x0)] 9))
  have r0 := hR.at_ 0 rfl
  have t1 := I0.at_ 1 rfl
  have f1 := I0.fz 1
  have I1 : IsR ((w.alloc (.cells #[.string (S x0)] 9)).setCell ⟨R, 1, none⟩ (.slice (some ⟨w.heap.size, 0, none⟩) 1 1)) R [.int .i64 11, .slice (some ⟨w.heap.size, 0, none⟩) 1 1, .int .i64 0, .int .i64 0, .int .i64 0, .int .i64 0, .int .u64 0, .bool q, .string ⟨#[]⟩] := I0.set 1 (.slice (some ⟨w.heap.size, 0, none⟩) 1 1) (by simp)
  have BU1 : But R w ((w.alloc (.cells #[.string (S x0)] 9)).setCell ⟨R, 1, none⟩ (.slice (some ⟨w.heap.size, 0, none⟩) 1 1)) := BU0.trans (But.set R 1 _ _)
  have v1 := I1.at_ 0 rfl
  have s0 : w.cell? ⟨ag, aq, none⟩ = some (.string (S x0)) := by obtain ⟨g', q', e1, e2⟩ := hS.at_ (i := 0) (x := x0) rfl; injection e1 with e1; injection e1 with e1 e3; subst e1 e3; exact e2
  have s1 : ((w.alloc (.cells #[.string (S x0)] 9)).setCell ⟨R, 1, none⟩ (.slice (some ⟨w.heap.size, 0, none⟩) 1 1)).cell? ⟨ag, aq + 1, none⟩ = some (.string (S x1)) := BU1.cell _ _ _ (by omega) (by obtain ⟨g', q', e1, e2⟩ := hS.at_ (i := 1) (x := x1) rfl; injection e1 with e1; injection e1 with e1 e3; subst e1 e3; exact e2)
  have u1 := I1.at_ 6 rfl
  have g1 := I1.fz 6
  have I2 : IsR (((w.alloc (.cells #[.string (S x0)] 9)).setCell ⟨R, 1, none⟩ (.slice (some ⟨w.heap.size, 0, none⟩) 1 1)).setCell ⟨R, 6, none⟩ (.int .u64 V1)) R [.int .i64 11, .slice (some ⟨w.heap.size, 0, none⟩) 1 1, .int .i64 0, .int .i64 0, .int .i64 0, .int .i64 0, .int .u64 V1, .bool q, .string ⟨#[]⟩] := I1.set 6 (.int .u64 V1) (by simp)
  have BU2 : But R w (((w.alloc (.cells #[.string (S x0)] 9)).setCell ⟨R, 1, none⟩ (.slice (some ⟨w.heap.size, 0, none⟩) 1 1)).setCell ⟨R, 6, none⟩ (.int .u64 V1)) := BU1.trans (But.set R 6 _ _)
  have ne : R ≠ w.heap.size := Nat.ne_of_lt hR.lt
  have q0 : (w.alloc (.cells #[.string (S x0)] 9)).cell? ⟨w.heap.size, 0, none⟩ = some (.string (S x0)) := by rw [World.cell?_alloc_new]; rfl
  have qe : (((w.alloc (.cells #[.string (S x0)] 9)).setCell ⟨R, 1, none⟩ (.slice (some ⟨w.heap.size, 0, none⟩) 1 1)).setCell ⟨R, 6, none⟩ (.int .u64 V1)).cell? ⟨w.heap.size, 0, none⟩ = some (.string (S x0)) := by
    refine ((But.set R 1 _ _).trans (But.set R 6 _ _)).cell _ _ _ (fun e => ne e.symm) q0
  have HBU1 := Lib.hid BU1.lo
  have HBU2 := Lib.hid BU2.lo
  have HI := Lib.hid I2
  have HQE := Lib.hid qe
  have HRD := Lib.hid hrd
  clear hR hS I0 BU0 qe q0 ne hn hrd I1 BU1 I2 BU2 hV1
  cases hb0 : key x0 with
  | false =>
    have HE : Hid (rd [0, 5] 0 [x0, x1] Rq.none = none) := Lib.hid (by rw [HRD.out, if_neg (by rw [hb0]; decide)])
    simp only [hb0] at K0
    clear hb0
    go_enter Tryd.func73, Tryd.ntmps73
    go_wp2_with fail
    refine (K0 _).mono ?_
    rintro e w' ⟨rfl, rfl⟩
    go_wp2_with fail
    go_ret
    exact ⟨by rw [HE.out]; rfl, Below.refl _ _, by rw [HE.out]; exact Got.none _ _ _ _ _⟩
  | true =>
    cases hb1 : nb 18446744073709551615 x1 with
    | false =>
      have HE : Hid (rd [0, 5] 0 [x0, x1] Rq.none = none) := Lib.hid (by rw [HRD.out, if_pos hb0, if_neg (by rw [hb1]; decide)])
      simp only [hb0] at K0
      simp only [hb1] at K1
      clear hb0 hb1
      go_enter Tryd.func73, Tryd.ntmps73
      go_wp2_with fail
      refine (K0 _).mono ?_
      rintro e w' ⟨rfl, rfl⟩
      go_wp2_with fail
      refine (K1 _).mono ?_
      rintro e w' ⟨rfl, rfl⟩
      go_wp2_with fail
      go_ret
      exact ⟨by rw [HE.out]; rfl, HBU2.out, by rw [HE.out]; exact Got.none _ _ _ _ _⟩
    | true =>
      have HE := Lib.hid (show rd [0, 5] 0 [x0, x1] Rq.none = _ by rw [HRD.out, if_pos hb0, if_pos hb1])
      simp only [hb0] at K0
      simp only [hb1] at K1
      clear hb0 hb1
      go_enter Tryd.func73, Tryd.ntmps73
      go_wp2_with fail
      refine (K0 _).mono ?_
      rintro e w' ⟨rfl, rfl⟩
      go_wp2_with fail
      refine (K1 _).mono ?_
      rintro e w' ⟨rfl, rfl⟩
      go_wp2_with fail
      go_ret
      refine ⟨by rw [HE.out]; rfl, HBU2.out, fun r hr => ?_⟩
      rw [HE.out] at hr
      cases hr
      refine ⟨some ⟨w.heap.size, 0, none⟩, 1, 1, ?_, one_strs HQE.out, fun A hA => by cases hA; exact Nat.le_refl _⟩
      have e1 := HV1.out
      subst e1
      exact HI.out.ra
set_option maxRecDepth 100000 in
set_option maxHeartbeats 800000 in
theorem rargs_12 (x0 x1 : B) (q : Bool) (ag aq n c R : Nat) (z0 : (S x0).size ≤ 100000) (z1 : (S x1).size ≤ 100000) (w : World) (hR : IsR w R [.int .i64 12, .slice none 0 0, .int .i64 0, .int .i64 0, .int .i64 0, .int .i64 0, .int .u64 0, .bool q, .string ⟨#[]⟩]) (hS : Strs w (.slice (some ⟨ag, aq, none⟩) n c) [x0, x1]) (hlt : ag < R) :
    Calls Tryd.prog 73 #[.pointer (some ⟨R, 0, none⟩), .slice (some ⟨ag, aq, none⟩) n c] w fun e w' => e = .returned (.bool (rd [0, 2] 0 [x0, x1] Rq.none).isSome) ∧ Below R w w' ∧ Got w.heap.size R w' (rd [0, 2] 0 [x0, x1] Rq.none) 12 q := by
  have hrd : rd [0, 2] 0 [x0, x1] Rq.none = if key x0 = true then (if gb 1099511627776 x1 = true then (some ⟨0, [x0], 0, (gv 1099511627776 x1), 0, 0, 0, false⟩) else none) else none := rfl
  obtain ⟨hn, _⟩ := hS.len
  have hn' : n = 2 := hn
  subst hn'
  have K0 : ∀ w : World, Calls Tryd.prog 16 #[.string (S x0)] w fun e w' => e = .returned (.bool (key x0)) ∧ w = w' := rkey_any (S x0) (by omega)
  have K1 : ∀ w : World, Calls Tryd.prog 84 #[.string (S x1), .int .u64 1099511627776] w fun e w' => e = .returned (.tuple #[.int .i64 (gv 1099511627776 x1), .bool (gb 1099511627776 x1)]) ∧ w = w' := rsigned_any (S x1) (by omega) 1099511627776 (by omega)
  obtain ⟨V1, hV1⟩ : ∃ V : Int, V = gv 1099511627776 x1 := ⟨_, rfl⟩
  simp only [← hV1] at K1
  have HV1 := Lib.hid hV1
  have BU0 : But R w (w.alloc (.cells #[.string (S x0)] 9)) := But.new R (Nat.le_of_lt hR.lt) ((Below.refl _ _).alloc (Nat.le_refl _) _)
  have I0 := hR.up ((Below.refl w.heap.size w).alloc (Nat.le_refl _) (.cells #[.string (S x0)] 9))
  have r0 := hR.at_ 0 rfl
  have t1 := I0.at_ 1 rfl
  have f1 := I0.fz 1
  have I1 : IsR ((w.alloc (.cells #[.string (S x0)] 9)).setCell ⟨R, 1, none⟩ (.slice (some ⟨w.heap.size, 0, none⟩) 1 1)) R [.int .i64 12, .slice (some ⟨w.heap.size, 0, none⟩) 1 1, .int .i64 0, .int .i64 0, .int .i64 0, .int .i64 0, .int .u64 0, .bool q, .string ⟨#[]⟩] := I0.set 1 (.slice (some ⟨w.heap.size, 0, none⟩) 1 1) (by simp)
  have BU1 : But R w ((w.alloc (.cells #[.string (S x0)] 9)).setCell ⟨R, 1, none⟩ (.slice (some ⟨w.heap.size, 0, none⟩) 1 1)) := BU0.trans (But.set R 1 _ _)
  have v1 := I1.at_ 0 rfl
  have s0 : w.cell? ⟨ag, aq, none⟩ = some (.string (S x0)) := by obtain ⟨g', q', e1, e2⟩ := hS.at_ (i := 0) (x := x0) rfl; injection e1 with e1; injection e1 with e1 e3; subst e1 e3; exact e2
  have s1 : ((w.alloc (.cells #[.string (S x0)] 9)).setCell ⟨R, 1, none⟩ (.slice (some ⟨w.heap.size, 0, none⟩) 1 1)).cell? ⟨ag, aq + 1, none⟩ = some (.string (S x1)) := BU1.cell _ _ _ (by omega) (by obtain ⟨g', q', e1, e2⟩ := hS.at_ (i := 1) (x := x1) rfl; injection e1 with e1; injection e1 with e1 e3; subst e1 e3; exact e2)
  have u1 := I1.at_ 3 rfl
  have g1 := I1.fz 3
  have I2 : IsR (((w.alloc (.cells #[.string (S x0)] 9)).setCell ⟨R, 1, none⟩ (.slice (some ⟨w.heap.size, 0, none⟩) 1 1)).setCell ⟨R, 3, none⟩ (.int .i64 V1)) R [.int .i64 12, .slice (some ⟨w.heap.size, 0, none⟩) 1 1, .int .i64 0, .int .i64 V1, .int .i64 0, .int .i64 0, .int .u64 0, .bool q, .string ⟨#[]⟩] := I1.set 3 (.int .i64 V1) (by simp)
  have BU2 : But R w (((w.alloc (.cells #[.string (S x0)] 9)).setCell ⟨R, 1, none⟩ (.slice (some ⟨w.heap.size, 0, none⟩) 1 1)).setCell ⟨R, 3, none⟩ (.int .i64 V1)) := BU1.trans (But.set R 3 _ _)
  have ne : R ≠ w.heap.size := Nat.ne_of_lt hR.lt
  have q0 : (w.alloc (.cells #[.string (S x0)] 9)).cell? ⟨w.heap.size, 0, none⟩ = some (.string (S x0)) := by rw [World.cell?_alloc_new]; rfl
  have qe : (((w.alloc (.cells #[.string (S x0)] 9)).setCell ⟨R, 1, none⟩ (.slice (some ⟨w.heap.size, 0, none⟩) 1 1)).setCell ⟨R, 3, none⟩ (.int .i64 V1)).cell? ⟨w.heap.size, 0, none⟩ = some (.string (S x0)) := by
    refine ((But.set R 1 _ _).trans (But.set R 3 _ _)).cell _ _ _ (fun e => ne e.symm) q0
  have HBU1 := Lib.hid BU1.lo
  have HBU2 := Lib.hid BU2.lo
  have HI := Lib.hid I2
  have HQE := Lib.hid qe
  have HRD := Lib.hid hrd
  clear hR hS I0 BU0 qe q0 ne hn hrd I1 BU1 I2 BU2 hV1
  cases hb0 : key x0 with
  | false =>
    have HE : Hid (rd [0, 2] 0 [x0, x1] Rq.none = none) := Lib.hid (by rw [HRD.out, if_neg (by rw [hb0]; decide)])
    simp only [hb0] at K0
    clear hb0
    go_enter Tryd.func73, Tryd.ntmps73
    go_wp2_with fail
    refine (K0 _).mono ?_
    rintro e w' ⟨rfl, rfl⟩
    go_wp2_with fail
    go_ret
    exact ⟨by rw [HE.out]; rfl, Below.refl _ _, by rw [HE.out]; exact Got.none _ _ _ _ _⟩
  | true =>
    cases hb1 : gb 1099511627776 x1 with
    | false =>
      have HE : Hid (rd [0, 2] 0 [x0, x1] Rq.none = none) := Lib.hid (by rw [HRD.out, if_pos hb0, if_neg (by rw [hb1]; decide)])
      simp only [hb0] at K0
      simp only [hb1] at K1
      clear hb0 hb1
      go_enter Tryd.func73, Tryd.ntmps73
      go_wp2_with fail
      refine (K0 _).mono ?_
      rintro e w' ⟨rfl, rfl⟩
      go_wp2_with fail
      refine (K1 _).mono ?_
      rintro e w' ⟨rfl, rfl⟩
      go_wp2_with fail
      go_ret
      exact ⟨by rw [HE.out]; rfl, HBU2.out, by rw [HE.out]; exact Got.none _ _ _ _ _⟩
    | true =>
      have HE := Lib.hid (show rd [0, 2] 0 [x0, x1] Rq.none = _ by rw [HRD.out, if_pos hb0, if_pos hb1])
      simp only [hb0] at K0
      simp only [hb1] at K1
      clear hb0 hb1
      go_enter Tryd.func73, Tryd.ntmps73
      go_wp2_with fail
      refine (K0 _).mono ?_
      rintro e w' ⟨rfl, rfl⟩
      go_wp2_with fail
      refine (K1 _).mono ?_
      rintro e w' ⟨rfl, rfl⟩
      go_wp2_with fail
      go_ret
      refine ⟨by rw [HE.out]; rfl, HBU2.out, fun r hr => ?_⟩
      rw [HE.out] at hr
      cases hr
      refine ⟨some ⟨w.heap.size, 0, none⟩, 1, 1, ?_, one_strs HQE.out, fun A hA => by cases hA; exact Nat.le_refl _⟩
      have e1 := HV1.out
      subst e1
      exact HI.out.ra
end Go.Proofs.YtedbklipbfbmoaaDoor
