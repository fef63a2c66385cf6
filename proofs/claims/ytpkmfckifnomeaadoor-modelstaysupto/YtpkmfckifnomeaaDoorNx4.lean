/-
  counted.
-/
import Derived.Test.YtpkmfckifnomeaaDoorNx2
namespace Go.Proofs.YtpkmfckifnomeaaDoor
open Go.RowKit

theorem number_c (s : ByteArray) (n : Nat) (b : Bool) (hn : nv 18446744073709551615 (L s) = n) (hb : nb 18446744073709551615 (L s) = b) (w : World) : Calls Tryd.prog 56 #[.string s, .int .u64 18446744073709551615] w fun e w' => e = .returned (.tuple #[.int .u64 (n : Int), .bool b]) ∧ w = w' := by
  rw [← hn, ← hb]; exact number_any s 18446744073709551615 (by omega) w
set_option maxRecDepth 100000 in
set_option maxHeartbeats 1000000 in
theorem counted_no (vb : Int) (ka : Option Addr) (kn kc : Nat) (fl exp by_ cas : Int) (dd : Nat) (qu : Bool) (da : ByteArray) (e : En) (ver : Int) (w : World) : Calls Tryd.prog 40 #[.agg #[Value.int .i64 vb, .slice ka kn kc, .int .i64 fl, .int .i64 exp, .int .i64 by_, .int .i64 cas, .int .u64 (dd : Int), .bool qu, .string da], .agg #[Value.string e.key, .int .i64 e.fl, .int .i64 e.dl, .string e.val, .int .i64 e.cas], .bool false, .int .i64 ver] w (Out w (ab 5).cs (e0).cs false false) := by
  obtain ⟨A, hA⟩ : ∃ A, A = (ab 5).cs := ⟨_, rfl⟩
  obtain ⟨X, hX⟩ : ∃ X, X = (e0).cs := ⟨_, rfl⟩
  have HLA : Hid (A.length = 9) := Lib.hid (by rw [hA]; rfl)
  have HOA : Hid (∀ u ∈ A, u.oneCell' = true) := Lib.hid (by rw [hA]; exact Ab.one _)
  have HLX : Hid (X.length = 5) := Lib.hid (by rw [hX]; rfl)
  have HOX : Hid (∀ u ∈ X, u.oneCell' = true) := Lib.hid (by rw [hX]; exact En.one _)
  rw [← hA, ← hX]
  have TD : Hid (∀ W, Calls Tryd.prog 55 #[] W (Out W A X false false)) := Lib.hid (fun W => by rw [hA, hX]; exact missing_any W)
  have HN : Hid (((((w.alloc (.cells #[Value.int .i64 vb, .slice ka kn kc, .int .i64 fl, .int .i64 exp, .int .i64 by_, .int .i64 cas, .int .u64 (dd : Int), .bool qu, .string da] 27)).alloc (.cells #[Value.string e.key, .int .i64 e.fl, .int .i64 e.dl, .string e.val, .int .i64 e.cas] 49)).alloc (.cells zA.toArray 32)).alloc (.cells e0.cs.toArray 49)).there (w.heap.size + 1 + 1) 0 9 ∧ ((((w.alloc (.cells #[Value.int .i64 vb, .slice ka kn kc, .int .i64 fl, .int .i64 exp, .int .i64 by_, .int .i64 cas, .int .u64 (dd : Int), .bool qu, .string da] 27)).alloc (.cells #[Value.string e.key, .int .i64 e.fl, .int .i64 e.dl, .string e.val, .int .i64 e.cas] 49)).alloc (.cells zA.toArray 32)).alloc (.cells e0.cs.toArray 49)).there (w.heap.size + 1 + 1 + 1) 0 5 ∧ Below w.heap.size w ((((w.alloc (.cells #[Value.int .i64 vb, .slice ka kn kc, .int .i64 fl, .int .i64 exp, .int .i64 by_, .int .i64 cas, .int .u64 (dd : Int), .bool qu, .string da] 27)).alloc (.cells #[Value.string e.key, .int .i64 e.fl, .int .i64 e.dl, .string e.val, .int .i64 e.cas] 49)).alloc (.cells zA.toArray 32)).alloc (.cells e0.cs.toArray 49))) := Lib.hid (by
    obtain ⟨n1, n2, n3⟩ := two_new ((w.alloc (.cells #[Value.int .i64 vb, .slice ka kn kc, .int .i64 fl, .int .i64 exp, .int .i64 by_, .int .i64 cas, .int .u64 (dd : Int), .bool qu, .string da] 27)).alloc (.cells #[Value.string e.key, .int .i64 e.fl, .int .i64 e.dl, .string e.val, .int .i64 e.cas] 49)) (X := zA.toArray) (Y := e0.cs.toArray) rfl rfl
    simp only [World.size_alloc] at n1 n2
    exact ⟨n1, n2, ((below_alloc w _).trans ((((below_alloc (w.alloc (.cells #[Value.int .i64 vb, .slice ka kn kc, .int .i64 fl, .int .i64 exp, .int .i64 by_, .int .i64 cas, .int .u64 (dd : Int), .bool qu, .string da] 27)) _).trans ((n3).mono (by simp only [World.size_alloc]; omega)))).mono (by simp only [World.size_alloc]; omega)))⟩)
  clear hA hX
  go_enter Tryd.func40, Tryd.ntmps40
  go_wp2_with fail
  refine (TD.out _).mono ?_
  rintro e w1 ⟨rfl, hb⟩
  obtain ⟨t1, t2, r1, r2, b2⟩ := two_fin (w := w) (W := w1) (b := w.heap.size + 1 + 1) HLA.out HLX.out (by omega) (HN.out.2.2.trans (hb.mono (by simp only [World.size_alloc]; omega))) (there_below (by first | exact HN.out.1 | exact there_setCell HN.out.1 _ _ | exact there_setCell (there_setCell HN.out.1 _ _) _ _ | exact there_below HN.out.1 (below_alloc _ _)) hb) (there_below (by first | exact HN.out.2.1 | exact there_setCell HN.out.2.1 _ _ | exact there_setCell (there_setCell HN.out.2.1 _ _) _ _ | exact there_below HN.out.2.1 (below_alloc _ _)) hb)
  have HT1 := Lib.hid t1
  have HT2 := Lib.hid t2
  have HR1 := Lib.hid r1
  have HR2 := Lib.hid r2
  have HB2 := Lib.hid b2
  clear t1 t2 r1 r2 b2
  clear hb HN TD
  go_wp2_with (first
    | ((with_reducible show wpList _ _ _ (Oper.mk none (Op.store 32 (.tmp 8) _) _ _ _ _ :: _) _ _); refine wpList_store_mid (by rfl) 32 (.tmp 8) (.tmp 17) (by rfl) (w.heap.size + 1 + 1) 0 A.toArray (by rfl) (by rfl) HT1.out (by rw [List.size_toArray, HLA.out]; kernel_rfl) (all_oneCell_toArray HOA.out) ?_; rw [show A.toArray.toList = A from rfl])
    | ((with_reducible show wpList _ _ _ (Oper.mk none (Op.store 49 (.tmp 9) _) _ _ _ _ :: _) _ _); refine wpList_store_mid (by rfl) 49 (.tmp 9) (.tmp 18) (by rfl) (w.heap.size + 1 + 1 + 1) 0 X.toArray (by rfl) (by rfl) HT2.out (by rw [List.size_toArray, HLX.out]; kernel_rfl) (all_oneCell_toArray HOX.out) ?_; rw [show X.toArray.toList = X from rfl]))
  refine bodyPost_ret (v := .tuple #[.agg A.toArray, .agg X.toArray, .bool false, .bool false]) (res4 Tryd.results40 rfl rfl rfl rfl HR1.out HR2.out HLA.out HLX.out) rfl ⟨rfl, HB2.out⟩
set_option maxRecDepth 100000 in
set_option maxHeartbeats 1000000 in
theorem counted_bad (vb : Int) (ka : Option Addr) (kn kc : Nat) (fl exp by_ cas : Int) (dd : Nat) (qu : Bool) (da : ByteArray) (e : En) (ver : Int) (hb0 : nb 18446744073709551615 (L e.val) = false) (w : World) : Calls Tryd.prog 40 #[.agg #[Value.int .i64 vb, .slice ka kn kc, .int .i64 fl, .int .i64 exp, .int .i64 by_, .int .i64 cas, .int .u64 (dd : Int), .bool qu, .string da], .agg #[Value.string e.key, .int .i64 e.fl, .int .i64 e.dl, .string e.val, .int .i64 e.cas], .bool true, .int .i64 ver] w (Out w (Ab.mk 13 0 noNumber).cs (e0).cs false false) := by
  have NC := Lib.hid (number_c e.val _ _ rfl hb0)
  clear hb0
  obtain ⟨nn, hnn⟩ : ∃ nn, nv 18446744073709551615 (L e.val) = nn := ⟨_, rfl⟩
  rw [hnn] at NC
  clear hnn
  obtain ⟨A, hA⟩ : ∃ A, A = (Ab.mk 13 0 noNumber).cs := ⟨_, rfl⟩
  obtain ⟨X, hX⟩ : ∃ X, X = (e0).cs := ⟨_, rfl⟩
  have HLA : Hid (A.length = 9) := Lib.hid (by rw [hA]; rfl)
  have HOA : Hid (∀ u ∈ A, u.oneCell' = true) := Lib.hid (by rw [hA]; exact Ab.one _)
  have HLX : Hid (X.length = 5) := Lib.hid (by rw [hX]; rfl)
  have HOX : Hid (∀ u ∈ X, u.oneCell' = true) := Lib.hid (by rw [hX]; exact En.one _)
  rw [← hA, ← hX]
  have TD : Hid (∀ W, Calls Tryd.prog 41 #[.agg #[Value.int .i64 13, .slice none 0 0, .bool false, .int .u64 0, .string noNumber, .int .i64 0, .int .i64 0, .int .i64 0, .int .i64 0]] W (Out W A X false false)) := Lib.hid (fun W => by rw [hA, hX]; exact told_any _ rfl (Ab.one _) W)
  have HN : Hid (((((w.alloc (.cells #[Value.int .i64 vb, .slice ka kn kc, .int .i64 fl, .int .i64 exp, .int .i64 by_, .int .i64 cas, .int .u64 (dd : Int), .bool qu, .string da] 27)).alloc (.cells #[Value.string e.key, .int .i64 e.fl, .int .i64 e.dl, .string e.val, .int .i64 e.cas] 49)).alloc (.cells zA.toArray 32)).alloc (.cells e0.cs.toArray 49)).there (w.heap.size + 1 + 1) 0 9 ∧ ((((w.alloc (.cells #[Value.int .i64 vb, .slice ka kn kc, .int .i64 fl, .int .i64 exp, .int .i64 by_, .int .i64 cas, .int .u64 (dd : Int), .bool qu, .string da] 27)).alloc (.cells #[Value.string e.key, .int .i64 e.fl, .int .i64 e.dl, .string e.val, .int .i64 e.cas] 49)).alloc (.cells zA.toArray 32)).alloc (.cells e0.cs.toArray 49)).there (w.heap.size + 1 + 1 + 1) 0 5 ∧ Below w.heap.size w ((((w.alloc (.cells #[Value.int .i64 vb, .slice ka kn kc, .int .i64 fl, .int .i64 exp, .int .i64 by_, .int .i64 cas, .int .u64 (dd : Int), .bool qu, .string da] 27)).alloc (.cells #[Value.string e.key, .int .i64 e.fl, .int .i64 e.dl, .string e.val, .int .i64 e.cas] 49)).alloc (.cells zA.toArray 32)).alloc (.cells e0.cs.toArray 49))) := Lib.hid (by
    obtain ⟨n1, n2, n3⟩ := two_new ((w.alloc (.cells #[Value.int .i64 vb, .slice ka kn kc, .int .i64 fl, .int .i64 exp, .int .i64 by_, .int .i64 cas, .int .u64 (dd : Int), .bool qu, .string da] 27)).alloc (.cells #[Value.string e.key, .int .i64 e.fl, .int .i64 e.dl, .string e.val, .int .i64 e.cas] 49)) (X := zA.toArray) (Y := e0.cs.toArray) rfl rfl
    simp only [World.size_alloc] at n1 n2
    exact ⟨n1, n2, ((below_alloc w _).trans ((((below_alloc (w.alloc (.cells #[Value.int .i64 vb, .slice ka kn kc, .int .i64 fl, .int .i64 exp, .int .i64 by_, .int .i64 cas, .int .u64 (dd : Int), .bool qu, .string da] 27)) _).trans ((n3).mono (by simp only [World.size_alloc]; omega)))).mono (by simp only [World.size_alloc]; omega)))⟩)
  clear hA hX
  go_enter Tryd.func40, Tryd.ntmps40
  go_wp2_with fail
  refine (NC.out _).mono ?_
  rintro e1 w0 ⟨rfl, rfl⟩
  go_wp2_with fail
  refine (TD.out _).mono ?_
  rintro e w1 ⟨rfl, hb⟩
  obtain ⟨t1, t2, r1, r2, b2⟩ := two_fin (w := w) (W := w1) (b := w.heap.size + 1 + 1) HLA.out HLX.out (by omega) (HN.out.2.2.trans (hb.mono (by simp only [World.size_alloc]; omega))) (there_below (by first | exact HN.out.1 | exact there_setCell HN.out.1 _ _ | exact there_setCell (there_setCell HN.out.1 _ _) _ _ | exact there_below HN.out.1 (below_alloc _ _)) hb) (there_below (by first | exact HN.out.2.1 | exact there_setCell HN.out.2.1 _ _ | exact there_setCell (there_setCell HN.out.2.1 _ _) _ _ | exact there_below HN.out.2.1 (below_alloc _ _)) hb)
  have HT1 := Lib.hid t1
  have HT2 := Lib.hid t2
  have HR1 := Lib.hid r1
  have HR2 := Lib.hid r2
  have HB2 := Lib.hid b2
  clear t1 t2 r1 r2 b2
  clear hb HN TD
  go_wp2_with (first
    | ((with_reducible show wpList _ _ _ (Oper.mk none (Op.store 32 (.tmp 8) _) _ _ _ _ :: _) _ _); refine wpList_store_mid (by rfl) 32 (.tmp 8) (.tmp 31) (by rfl) (w.heap.size + 1 + 1) 0 A.toArray (by rfl) (by rfl) HT1.out (by rw [List.size_toArray, HLA.out]; kernel_rfl) (all_oneCell_toArray HOA.out) ?_; rw [show A.toArray.toList = A from rfl])
    | ((with_reducible show wpList _ _ _ (Oper.mk none (Op.store 49 (.tmp 9) _) _ _ _ _ :: _) _ _); refine wpList_store_mid (by rfl) 49 (.tmp 9) (.tmp 32) (by rfl) (w.heap.size + 1 + 1 + 1) 0 X.toArray (by rfl) (by rfl) HT2.out (by rw [List.size_toArray, HLX.out]; kernel_rfl) (all_oneCell_toArray HOX.out) ?_; rw [show X.toArray.toList = X from rfl]))
  refine bodyPost_ret (v := .tuple #[.agg A.toArray, .agg X.toArray, .bool false, .bool false]) (res4 Tryd.results40 rfl rfl rfl rfl HR1.out HR2.out HLA.out HLX.out) rfl ⟨rfl, HB2.out⟩
end Go.Proofs.YtpkmfckifnomeaaDoor
