/-
  The law ModelNext.
-/
import Derived.Test.YtpkmfckifnomeaaDoorRN9
import Derived.Test.YtpkmfckifnomeaaDoorRuns
import Derived.Test.YtpkmfckifnomeaaDoorSm
namespace Go.Proofs.YtpkmfckifnomeaaDoor
open Go.RowKit

open Go.Lib (TabIs pow10Tab)
/-- Two new blocks written full. -/
theorem two_put (W : World) {A X : List Value} (hA : A.length = 9) (hX : X.length = 5) :
    ((W.alloc (.cells zA.toArray 32)).alloc (.cells e0.cs.toArray 49)).there W.heap.size 0 A.length ∧ (((W.alloc (.cells zA.toArray 32)).alloc (.cells e0.cs.toArray 49)).setCells W.heap.size 0 A).there (W.heap.size + 1) 0 X.length ∧
    ((((W.alloc (.cells zA.toArray 32)).alloc (.cells e0.cs.toArray 49)).setCells W.heap.size 0 A).setCells (W.heap.size + 1) 0 X).rangeAt W.heap.size 0 A ∧ ((((W.alloc (.cells zA.toArray 32)).alloc (.cells e0.cs.toArray 49)).setCells W.heap.size 0 A).setCells (W.heap.size + 1) 0 X).rangeAt (W.heap.size + 1) 0 X ∧
    Below W.heap.size W ((((W.alloc (.cells zA.toArray 32)).alloc (.cells e0.cs.toArray 49)).setCells W.heap.size 0 A).setCells (W.heap.size + 1) 0 X) := by
  obtain ⟨n1, n2, n3⟩ := two_new W (X := zA.toArray) (Y := e0.cs.toArray) rfl rfl
  exact two_fin hA hX (Nat.le_refl _) n3 n1 n2
set_option maxRecDepth 100000 in
set_option maxHeartbeats 4000000 in
theorem next_walk (r : Rq) (e : En) (b : Bool) (now ver : Int) (ka : Option Addr) (kn kc : Nat) (hk : e.key.size ≤ 140737488355328) (hv : e.val.size ≤ 140737488355328) (hdz : r.data.size ≤ 140737488355328) (w : World) (htab : TabIs Tryd.prog w "internal/strconv.uint64pow10" .u64 pow10Tab) :
    Calls Tryd.prog 5 #[.agg (r.cs (.slice ka kn kc)).toArray, .agg e.cs.toArray, .bool b, .int .i64 now, .int .i64 ver] w fun e w' => e = .returned (.bool true) ∧ Below w.heap.size w w' := by
  obtain ⟨R, hR⟩ : ∃ R : List Value, R = r.cs (.slice ka kn kc) := ⟨_, rfl⟩
  obtain ⟨E, hE⟩ : ∃ E : List Value, E = e.cs := ⟨_, rfl⟩
  obtain ⟨q, hq⟩ : ∃ q, nxt r e b now ver = q := ⟨_, rfl⟩
  obtain ⟨A, hA⟩ : ∃ A, A = q.1.cs := ⟨_, rfl⟩
  obtain ⟨X, hX⟩ : ∃ X, X = q.2.1.cs := ⟨_, rfl⟩
  obtain ⟨k, hkk⟩ : ∃ k, k = q.2.2.1 := ⟨_, rfl⟩
  obtain ⟨d, hdk⟩ : ∃ d, d = q.2.2.2 := ⟨_, rfl⟩
  have HLA : Hid (A.length = 9) := Lib.hid (by rw [hA]; rfl)
  have HOA : Hid (∀ u ∈ A, u.oneCell' = true) := Lib.hid (by rw [hA]; exact Ab.one _)
  have HLX : Hid (X.length = 5) := Lib.hid (by rw [hX]; rfl)
  have HOX : Hid (∀ u ∈ X, u.oneCell' = true) := Lib.hid (by rw [hX]; exact En.one _)
  have HLR : Hid (R.length = 9) := Lib.hid (by rw [hR]; rfl)
  have HLE : Hid (E.length = 5) := Lib.hid (by rw [hE]; rfl)
  have NP : Hid (∀ W, TabIs Tryd.prog W "internal/strconv.uint64pow10" .u64 pow10Tab → Calls Tryd.prog 20 #[.agg R.toArray, .agg E.toArray, .bool b, .int .i64 now, .int .i64 ver] W (Out W A X k d)) := Lib.hid (fun W hT => by rw [hR, hE, hA, hX, hkk, hdk, ← hq]; exact next_any r e b now ver ka kn kc (by omega) hv hdz W hT)
  have NR : Hid (∀ W, Calls Tryd.prog 21 #[.agg R.toArray, .agg E.toArray, .bool b, .int .i64 now, .int .i64 ver] W (fun e' w' => ∃ y : En, e' = .returned (.tuple #[.agg A.toArray, .agg y.cs.toArray, .bool k, .bool d]) ∧ (k = true → X = y.cs) ∧ Below W.heap.size W w')) := Lib.hid (fun W => by
    rw [hR, hE, hA, hkk, hdk]
    refine (rnext_any r e b now ver ka kn kc hv hdz W).mono ?_
    rintro e' w' ⟨y, rfl, h2, h3⟩
    rw [hq] at h2 ⊢
    exact ⟨y, rfl, fun h => by rw [hX, h2 h], h3⟩)
  have AN : Hid (∀ W, Calls Tryd.prog 16 #[.agg A.toArray, .agg A.toArray] W fun e w' => e = .returned (.bool true) ∧ Below W.heap.size W w') := Lib.hid (fun W => by rw [hA]; exact answers_any q.1.kind false q.1.num q.1.text [] (by omega) W (Lst.none _ _ _) (Lst.none _ _ _))
  have HX0 := Lib.hid hX
  have RU := Lib.hid (fun W (hT : TabIs Tryd.prog W "internal/strconv.uint64pow10" .u64 pow10Tab) => runs_any W hT)
  have HB0 : Hid (Below w.heap.size w ((w.alloc (.cells R.toArray 27)).alloc (.cells E.toArray 49))) := Lib.hid ((below_alloc _ _).trans ((below_alloc _ _).mono (by simp)))
  have HRE : Hid (((w.alloc (.cells R.toArray 27)).alloc (.cells E.toArray 49)).rangeAt w.heap.size 0 R ∧ ((w.alloc (.cells R.toArray 27)).alloc (.cells E.toArray 49)).rangeAt (w.heap.size + 1) 0 E) := Lib.hid (by
    have r1 := range_new w R 27
    have r2 := range_new (w.alloc (.cells R.toArray 27)) E 49
    rw [World.size_alloc] at r2
    exact ⟨range_below r1 (below_alloc _ _), r2⟩)
  have HTB := Lib.hid htab
  have TB : Hid (∀ W, Below w.heap.size w W → TabIs Tryd.prog W "internal/strconv.uint64pow10" .u64 pow10Tab) := Lib.hid (fun W hb => tabIs_below HTB.out hb)
  have l8 : ((w.alloc (.cells R.toArray 27)).alloc (.cells E.toArray 49)).cell? ⟨w.heap.size, 8, none⟩ = some (.string r.data) := by have := HRE.out.1 8 (.string r.data) (by rw [hR]; rfl); rwa [Nat.zero_add] at this
  have l3 : ((w.alloc (.cells R.toArray 27)).alloc (.cells E.toArray 49)).cell? ⟨w.heap.size + 1, 3, none⟩ = some (.string e.val) := by have := HRE.out.2 3 (.string e.val) (by rw [hE]; rfl); rwa [Nat.zero_add] at this
  have l0 : ((w.alloc (.cells R.toArray 27)).alloc (.cells E.toArray 49)).cell? ⟨w.heap.size + 1, 0, none⟩ = some (.string e.key) := by have := HRE.out.2 0 (.string e.key) (by rw [hE]; rfl); rwa [Nat.zero_add] at this
  rw [← hR, ← hE]
  clear hR hE hA hX hkk hdk hq htab
  go_enter Tryd.func5, Tryd.ntmps5
  by_cases hc : (2000 : Int) < (r.data.size : Int) + (e.val.size : Int) + (e.key.size : Int)
  · have g1 : decide ((2000 : Int) < (r.data.size : Int) + (e.val.size : Int) + (e.key.size : Int)) = true := decide_eq_true hc
    go_wp2_with fail
    refine (RU.out _ (TB.out _ HB0.out)).mono ?_
    rintro e1 w1 ⟨rfl, hb⟩
    go_wp2_with fail
    go_ret
    exact ⟨rfl, HB0.out.trans (hb.mono HB0.out.size)⟩
  have g1 : decide ((2000 : Int) < (r.data.size : Int) + (e.val.size : Int) + (e.key.size : Int)) = false := decide_eq_false hc
  clear hc
  go_wp2_with (first
    | ((with_reducible show wpList _ _ _ (Oper.mk (some _) (Op.load 27 (.tmp 5)) _ _ _ _ :: _) _ _); refine wpList_load_mid (by rfl) 27 (.tmp 5) (by rfl) (w.heap.size) 0 (by rfl) R _ HRE.out.1 Tryd.underlying27 (by rfl) (by rw [HLR.out]; kernel_rfl) ?_)
    | ((with_reducible show wpList _ _ _ (Oper.mk (some _) (Op.load 49 (.tmp 6)) _ _ _ _ :: _) _ _); refine wpList_load_mid (by rfl) 49 (.tmp 6) (by rfl) (w.heap.size + 1) 0 (by rfl) E _ HRE.out.2 Tryd.underlying49 (by rfl) (by rw [HLE.out]; kernel_rfl) ?_))
  refine (NP.out _ (TB.out _ HB0.out)).mono ?_
  rintro e1 w1 ⟨rfl, hb⟩
  have HB1 := Lib.hid (HB0.out.trans (hb.mono HB0.out.size))
  have HRE1 := Lib.hid (And.intro (range_below HRE.out.1 hb) (range_below HRE.out.2 hb))
  have HP1 := Lib.hid (two_put w1 HLA.out HLX.out)
  have HT1 := Lib.hid HP1.out.1
  have HT2 := Lib.hid HP1.out.2.1
  have HRE2 := Lib.hid (And.intro (range_below HRE1.out.1 HP1.out.2.2.2.2) (range_below HRE1.out.2 HP1.out.2.2.2.2))
  clear hb NP l8 l3 l0 HRE HB0
  go_wp2_with (first
    | ((with_reducible show wpList _ _ _ (Oper.mk none (Op.store 32 (.tmp 11) _) _ _ _ _ :: _) _ _); refine wpList_store_mid (by rfl) 32 (.tmp 11) (.tmp 39) (by rfl) (w1.heap.size) 0 A.toArray (by rfl) (by rfl) HT1.out (by rw [List.size_toArray, HLA.out]; kernel_rfl) (all_oneCell_toArray HOA.out) ?_; rw [show A.toArray.toList = A from rfl])
    | ((with_reducible show wpList _ _ _ (Oper.mk none (Op.store 49 (.tmp 12) _) _ _ _ _ :: _) _ _); refine wpList_store_mid (by rfl) 49 (.tmp 12) (.tmp 40) (by rfl) (w1.heap.size + 1) 0 X.toArray (by rfl) (by rfl) HT2.out (by rw [List.size_toArray, HLX.out]; kernel_rfl) (all_oneCell_toArray HOX.out) ?_; rw [show X.toArray.toList = X from rfl])
    | ((with_reducible show wpList _ _ _ (Oper.mk (some _) (Op.load 27 (.tmp 5)) _ _ _ _ :: _) _ _); refine wpList_load_mid (by rfl) 27 (.tmp 5) (by rfl) (w.heap.size) 0 (by rfl) R _ HRE2.out.1 Tryd.underlying27 (by rfl) (by rw [HLR.out]; kernel_rfl) ?_)
    | ((with_reducible show wpList _ _ _ (Oper.mk (some _) (Op.load 49 (.tmp 6)) _ _ _ _ :: _) _ _); refine wpList_load_mid (by rfl) 49 (.tmp 6) (by rfl) (w.heap.size + 1) 0 (by rfl) E _ HRE2.out.2 Tryd.underlying49 (by rfl) (by rw [HLE.out]; kernel_rfl) ?_))
  refine (NR.out _).mono ?_
  rintro e1 w2 ⟨y, rfl, hyk, hb⟩
  obtain ⟨Y, hY⟩ : ∃ Y, Y = y.cs := ⟨_, rfl⟩
  rw [← hY] at hyk ⊢
  have HLY : Hid (Y.length = 5) := Lib.hid (by rw [hY]; rfl)
  have HOY : Hid (∀ u ∈ Y, u.oneCell' = true) := Lib.hid (by rw [hY]; exact En.one _)
  have HB2 := Lib.hid ((HB1.out.trans (HP1.out.2.2.2.2.mono HB1.out.size)).trans (hb.mono (HB1.out.trans (HP1.out.2.2.2.2.mono HB1.out.size)).size))
  have HA2 := Lib.hid (And.intro (range_below HP1.out.2.2.1 hb) (range_below HP1.out.2.2.2.1 hb))
  have HP2 := Lib.hid (two_put w2 HLA.out HLY.out)
  have HT3 := Lib.hid HP2.out.1
  have HT4 := Lib.hid HP2.out.2.1
  have HA3 := Lib.hid (And.intro (range_below HA2.out.1 HP2.out.2.2.2.2) (range_below HA2.out.2 HP2.out.2.2.2.2))
  have HY0 := Lib.hid hY
  clear hb NR hY HT1 HT2 HRE1 HRE2
  have HYK := Lib.hid hyk
  clear hyk
  have dd : (d == d) = true := by simp
  cases k
  · go_wp2_with (first
    | ((with_reducible show wpList _ _ _ (Oper.mk none (Op.store 32 (.tmp 15) _) _ _ _ _ :: _) _ _); refine wpList_store_mid (by rfl) 32 (.tmp 15) (.tmp 50) (by rfl) (w2.heap.size) 0 A.toArray (by rfl) (by rfl) HT3.out (by rw [List.size_toArray, HLA.out]; kernel_rfl) (all_oneCell_toArray HOA.out) ?_; rw [show A.toArray.toList = A from rfl])
    | ((with_reducible show wpList _ _ _ (Oper.mk none (Op.store 49 (.tmp 16) _) _ _ _ _ :: _) _ _); refine wpList_store_mid (by rfl) 49 (.tmp 16) (.tmp 51) (by rfl) (w2.heap.size + 1) 0 Y.toArray (by rfl) (by rfl) HT4.out (by rw [List.size_toArray, HLY.out]; kernel_rfl) (all_oneCell_toArray HOY.out) ?_; rw [show Y.toArray.toList = Y from rfl])
    | ((with_reducible show wpList _ _ _ (Oper.mk (some _) (Op.load 32 (.tmp 11)) _ _ _ _ :: _) _ _); refine wpList_load_mid (by rfl) 32 (.tmp 11) (by rfl) (w1.heap.size) 0 (by rfl) A _ HA3.out.1 Tryd.underlying32 (by rfl) (by rw [HLA.out]; kernel_rfl) ?_)
    | ((with_reducible show wpList _ _ _ (Oper.mk (some _) (Op.load 32 (.tmp 15)) _ _ _ _ :: _) _ _); refine wpList_load_mid (by rfl) 32 (.tmp 15) (by rfl) (w2.heap.size) 0 (by rfl) A _ HP2.out.2.2.1 Tryd.underlying32 (by rfl) (by rw [HLA.out]; kernel_rfl) ?_))
    refine (AN.out _).mono ?_
    rintro e1 w3 ⟨rfl, hb⟩
    have HB3 := Lib.hid ((HB2.out.trans (HP2.out.2.2.2.2.mono HB2.out.size)).trans (hb.mono (HB2.out.trans (HP2.out.2.2.2.2.mono HB2.out.size)).size))
    clear hb
    go_wp2_with fail
    refine (RU.out _ (TB.out _ HB3.out)).mono ?_
    rintro e1 w4 ⟨rfl, hb⟩
    go_wp2_with fail
    go_ret
    exact ⟨rfl, HB3.out.trans (hb.mono HB3.out.size)⟩
  · obtain rfl := HYK.out rfl
    go_wp2_with (first
    | ((with_reducible show wpList _ _ _ (Oper.mk none (Op.store 32 (.tmp 15) _) _ _ _ _ :: _) _ _); refine wpList_store_mid (by rfl) 32 (.tmp 15) (.tmp 50) (by rfl) (w2.heap.size) 0 A.toArray (by rfl) (by rfl) HT3.out (by rw [List.size_toArray, HLA.out]; kernel_rfl) (all_oneCell_toArray HOA.out) ?_; rw [show A.toArray.toList = A from rfl])
    | ((with_reducible show wpList _ _ _ (Oper.mk none (Op.store 49 (.tmp 16) _) _ _ _ _ :: _) _ _); refine wpList_store_mid (by rfl) 49 (.tmp 16) (.tmp 51) (by rfl) (w2.heap.size + 1) 0 X.toArray (by rfl) (by rfl) HT4.out (by rw [List.size_toArray, HLX.out]; kernel_rfl) (all_oneCell_toArray HOX.out) ?_; rw [show X.toArray.toList = X from rfl])
    | ((with_reducible show wpList _ _ _ (Oper.mk (some _) (Op.load 32 (.tmp 11)) _ _ _ _ :: _) _ _); refine wpList_load_mid (by rfl) 32 (.tmp 11) (by rfl) (w1.heap.size) 0 (by rfl) A _ HA3.out.1 Tryd.underlying32 (by rfl) (by rw [HLA.out]; kernel_rfl) ?_)
    | ((with_reducible show wpList _ _ _ (Oper.mk (some _) (Op.load 32 (.tmp 15)) _ _ _ _ :: _) _ _); refine wpList_load_mid (by rfl) 32 (.tmp 15) (by rfl) (w2.heap.size) 0 (by rfl) A _ HP2.out.2.2.1 Tryd.underlying32 (by rfl) (by rw [HLA.out]; kernel_rfl) ?_))
    refine (AN.out _).mono ?_
    rintro e1 w3 ⟨rfl, hb⟩
    have HB3 := Lib.hid ((HB2.out.trans (HP2.out.2.2.2.2.mono HB2.out.size)).trans (hb.mono (HB2.out.trans (HP2.out.2.2.2.2.mono HB2.out.size)).size))
    have HX3 := Lib.hid (And.intro (range_below HA3.out.2 hb) (range_below HP2.out.2.2.2.1 hb))
    clear hb
    have x0 : w3.cell? ⟨w1.heap.size + 1, 0, none⟩ = some (.string y.key) := by have := HX3.out.1 0 (.string y.key) (by rw [HY0.out]; rfl); rwa [Nat.zero_add] at this
    have y0 : w3.cell? ⟨w2.heap.size + 1, 0, none⟩ = some (.string y.key) := by have := HX3.out.2 0 (.string y.key) (by rw [HY0.out]; rfl); rwa [Nat.zero_add] at this
    have x1 : w3.cell? ⟨w1.heap.size + 1, 1, none⟩ = some (.int .i64 y.fl) := by have := HX3.out.1 1 (.int .i64 y.fl) (by rw [HY0.out]; rfl); rwa [Nat.zero_add] at this
    have y1 : w3.cell? ⟨w2.heap.size + 1, 1, none⟩ = some (.int .i64 y.fl) := by have := HX3.out.2 1 (.int .i64 y.fl) (by rw [HY0.out]; rfl); rwa [Nat.zero_add] at this
    have x2 : w3.cell? ⟨w1.heap.size + 1, 2, none⟩ = some (.int .i64 y.dl) := by have := HX3.out.1 2 (.int .i64 y.dl) (by rw [HY0.out]; rfl); rwa [Nat.zero_add] at this
    have y2 : w3.cell? ⟨w2.heap.size + 1, 2, none⟩ = some (.int .i64 y.dl) := by have := HX3.out.2 2 (.int .i64 y.dl) (by rw [HY0.out]; rfl); rwa [Nat.zero_add] at this
    have x3 : w3.cell? ⟨w1.heap.size + 1, 3, none⟩ = some (.string y.val) := by have := HX3.out.1 3 (.string y.val) (by rw [HY0.out]; rfl); rwa [Nat.zero_add] at this
    have y3 : w3.cell? ⟨w2.heap.size + 1, 3, none⟩ = some (.string y.val) := by have := HX3.out.2 3 (.string y.val) (by rw [HY0.out]; rfl); rwa [Nat.zero_add] at this
    have x4 : w3.cell? ⟨w1.heap.size + 1, 4, none⟩ = some (.int .i64 y.cas) := by have := HX3.out.1 4 (.int .i64 y.cas) (by rw [HY0.out]; rfl); rwa [Nat.zero_add] at this
    have y4 : w3.cell? ⟨w2.heap.size + 1, 4, none⟩ = some (.int .i64 y.cas) := by have := HX3.out.2 4 (.int .i64 y.cas) (by rw [HY0.out]; rfl); rwa [Nat.zero_add] at this
    have e49 : ∀ w, (binOp .eql 49 (.agg #[.string y.key, .int .i64 y.fl, .int .i64 y.dl, .string y.val, .int .i64 y.cas]) (.agg #[.string y.key, .int .i64 y.fl, .int .i64 y.dl, .string y.val, .int .i64 y.cas])).run Tryd.prog w = .ok (.bool true) w := fun w => eql49 w y
    go_wp2_with fail
    refine (RU.out _ (TB.out _ HB3.out)).mono ?_
    rintro e1 w4 ⟨rfl, hb⟩
    go_wp2_with fail
    go_ret
    exact ⟨rfl, HB3.out.trans (hb.mono HB3.out.size)⟩
end Go.Proofs.YtpkmfckifnomeaaDoor
