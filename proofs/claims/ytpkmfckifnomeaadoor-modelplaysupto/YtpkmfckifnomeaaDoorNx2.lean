/-
  storedIf, joined, compared, deleted, touched, counted.
-/
import Derived.Test.YtpkmfckifnomeaaDoorNxt
namespace Go.Proofs.YtpkmfckifnomeaaDoor
open Go.RowKit

set_option maxRecDepth 100000 in
set_option maxHeartbeats 1000000 in
theorem stored_no (x : En) (w : World) : Calls Tryd.prog 35 #[.bool false, .agg #[Value.string x.key, .int .i64 x.fl, .int .i64 x.dl, .string x.val, .int .i64 x.cas]] w (Out w (ab 3).cs (e0).cs false false) := by
  obtain ⟨A, hA⟩ : ∃ A, A = (ab 3).cs := ⟨_, rfl⟩
  obtain ⟨X, hX⟩ : ∃ X, X = (e0).cs := ⟨_, rfl⟩
  have HLA : Hid (A.length = 9) := Lib.hid (by rw [hA]; rfl)
  have HOA : Hid (∀ u ∈ A, u.oneCell' = true) := Lib.hid (by rw [hA]; exact Ab.one _)
  have HLX : Hid (X.length = 5) := Lib.hid (by rw [hX]; rfl)
  have HOX : Hid (∀ u ∈ X, u.oneCell' = true) := Lib.hid (by rw [hX]; exact En.one _)
  rw [← hA, ← hX]
  have TD : Hid (∀ W, Calls Tryd.prog 41 #[.agg #[Value.int .i64 3, .slice none 0 0, .bool false, .int .u64 0, .string ⟨#[]⟩, .int .i64 0, .int .i64 0, .int .i64 0, .int .i64 0]] W (Out W A X false false)) := Lib.hid (fun W => by rw [hA, hX]; exact told_any _ rfl (Ab.one _) W)
  have HN : Hid ((((w.alloc (.cells #[Value.string x.key, .int .i64 x.fl, .int .i64 x.dl, .string x.val, .int .i64 x.cas] 49)).alloc (.cells zA.toArray 32)).alloc (.cells e0.cs.toArray 49)).there (w.heap.size + 1) 0 9 ∧ (((w.alloc (.cells #[Value.string x.key, .int .i64 x.fl, .int .i64 x.dl, .string x.val, .int .i64 x.cas] 49)).alloc (.cells zA.toArray 32)).alloc (.cells e0.cs.toArray 49)).there (w.heap.size + 1 + 1) 0 5 ∧ Below w.heap.size w (((w.alloc (.cells #[Value.string x.key, .int .i64 x.fl, .int .i64 x.dl, .string x.val, .int .i64 x.cas] 49)).alloc (.cells zA.toArray 32)).alloc (.cells e0.cs.toArray 49))) := Lib.hid (by
    obtain ⟨n1, n2, n3⟩ := two_new (w.alloc (.cells #[Value.string x.key, .int .i64 x.fl, .int .i64 x.dl, .string x.val, .int .i64 x.cas] 49)) (X := zA.toArray) (Y := e0.cs.toArray) rfl rfl
    simp only [World.size_alloc] at n1 n2
    exact ⟨n1, n2, ((below_alloc w _).trans ((n3).mono (by simp only [World.size_alloc]; omega)))⟩)
  clear hA hX
  go_enter Tryd.func35, Tryd.ntmps35
  go_wp2_with fail
  refine (TD.out _).mono ?_
  rintro e w1 ⟨rfl, hb⟩
  obtain ⟨t1, t2, r1, r2, b2⟩ := two_fin (w := w) (W := w1) (b := w.heap.size + 1) HLA.out HLX.out (by omega) (HN.out.2.2.trans (hb.mono (by simp only [World.size_alloc]; omega))) (there_below (by first | exact HN.out.1 | exact there_setCell HN.out.1 _ _ | exact there_setCell (there_setCell HN.out.1 _ _) _ _ | exact there_below HN.out.1 (below_alloc _ _)) hb) (there_below (by first | exact HN.out.2.1 | exact there_setCell HN.out.2.1 _ _ | exact there_setCell (there_setCell HN.out.2.1 _ _) _ _ | exact there_below HN.out.2.1 (below_alloc _ _)) hb)
  have HT1 := Lib.hid t1
  have HT2 := Lib.hid t2
  have HR1 := Lib.hid r1
  have HR2 := Lib.hid r2
  have HB2 := Lib.hid b2
  clear t1 t2 r1 r2 b2
  clear hb HN TD
  go_wp2_with (first
    | ((with_reducible show wpList _ _ _ (Oper.mk none (Op.store 32 (.tmp 4) _) _ _ _ _ :: _) _ _); refine wpList_store_mid (by rfl) 32 (.tmp 4) (.tmp 12) (by rfl) (w.heap.size + 1) 0 A.toArray (by rfl) (by rfl) HT1.out (by rw [List.size_toArray, HLA.out]; kernel_rfl) (all_oneCell_toArray HOA.out) ?_; rw [show A.toArray.toList = A from rfl])
    | ((with_reducible show wpList _ _ _ (Oper.mk none (Op.store 49 (.tmp 5) _) _ _ _ _ :: _) _ _); refine wpList_store_mid (by rfl) 49 (.tmp 5) (.tmp 13) (by rfl) (w.heap.size + 1 + 1) 0 X.toArray (by rfl) (by rfl) HT2.out (by rw [List.size_toArray, HLX.out]; kernel_rfl) (all_oneCell_toArray HOX.out) ?_; rw [show X.toArray.toList = X from rfl]))
  refine bodyPost_ret (v := .tuple #[.agg A.toArray, .agg X.toArray, .bool false, .bool false]) (res4 Tryd.results35 rfl rfl rfl rfl HR1.out HR2.out HLA.out HLX.out) rfl ⟨rfl, HB2.out⟩
set_option maxRecDepth 100000 in
set_option maxHeartbeats 1000000 in
theorem stored_yes (x : En) (hk : x.key.size ≤ 281474976710656) (hv : x.val.size ≤ 281474976710656) (w : World) : Calls Tryd.prog 35 #[.bool true, .agg #[Value.string x.key, .int .i64 x.fl, .int .i64 x.dl, .string x.val, .int .i64 x.cas]] w (Out w (ab 2).cs (x).cs true false) := by
  obtain ⟨A, hA⟩ : ∃ A, A = (ab 2).cs := ⟨_, rfl⟩
  obtain ⟨X, hX⟩ : ∃ X, X = (x).cs := ⟨_, rfl⟩
  have HLA : Hid (A.length = 9) := Lib.hid (by rw [hA]; rfl)
  have HOA : Hid (∀ u ∈ A, u.oneCell' = true) := Lib.hid (by rw [hA]; exact Ab.one _)
  have HLX : Hid (X.length = 5) := Lib.hid (by rw [hX]; rfl)
  have HOX : Hid (∀ u ∈ X, u.oneCell' = true) := Lib.hid (by rw [hX]; exact En.one _)
  rw [← hA, ← hX]
  have TD : Hid (∀ W, Calls Tryd.prog 34 #[.agg #[Value.int .i64 2, .slice none 0 0, .bool false, .int .u64 0, .string ⟨#[]⟩, .int .i64 0, .int .i64 0, .int .i64 0, .int .i64 0], .agg #[Value.string x.key, .int .i64 x.fl, .int .i64 x.dl, .string x.val, .int .i64 x.cas]] W (Out W A X true false)) := Lib.hid (fun W => by rw [hA, hX]; exact kept_any _ rfl (Ab.one _) x (by assumption) (by assumption) W)
  have HN : Hid ((((w.alloc (.cells #[Value.string x.key, .int .i64 x.fl, .int .i64 x.dl, .string x.val, .int .i64 x.cas] 49)).alloc (.cells zA.toArray 32)).alloc (.cells e0.cs.toArray 49)).there (w.heap.size + 1) 0 9 ∧ (((w.alloc (.cells #[Value.string x.key, .int .i64 x.fl, .int .i64 x.dl, .string x.val, .int .i64 x.cas] 49)).alloc (.cells zA.toArray 32)).alloc (.cells e0.cs.toArray 49)).there (w.heap.size + 1 + 1) 0 5 ∧ Below w.heap.size w (((w.alloc (.cells #[Value.string x.key, .int .i64 x.fl, .int .i64 x.dl, .string x.val, .int .i64 x.cas] 49)).alloc (.cells zA.toArray 32)).alloc (.cells e0.cs.toArray 49))) := Lib.hid (by
    obtain ⟨n1, n2, n3⟩ := two_new (w.alloc (.cells #[Value.string x.key, .int .i64 x.fl, .int .i64 x.dl, .string x.val, .int .i64 x.cas] 49)) (X := zA.toArray) (Y := e0.cs.toArray) rfl rfl
    simp only [World.size_alloc] at n1 n2
    exact ⟨n1, n2, ((below_alloc w _).trans ((n3).mono (by simp only [World.size_alloc]; omega)))⟩)
  clear hA hX
  go_enter Tryd.func35, Tryd.ntmps35
  go_wp2_with fail
  refine (TD.out _).mono ?_
  rintro e w1 ⟨rfl, hb⟩
  obtain ⟨t1, t2, r1, r2, b2⟩ := two_fin (w := w) (W := w1) (b := w.heap.size + 1) HLA.out HLX.out (by omega) (HN.out.2.2.trans (hb.mono (by simp only [World.size_alloc]; omega))) (there_below (by first | exact HN.out.1 | exact there_setCell HN.out.1 _ _ | exact there_setCell (there_setCell HN.out.1 _ _) _ _ | exact there_below HN.out.1 (below_alloc _ _)) hb) (there_below (by first | exact HN.out.2.1 | exact there_setCell HN.out.2.1 _ _ | exact there_setCell (there_setCell HN.out.2.1 _ _) _ _ | exact there_below HN.out.2.1 (below_alloc _ _)) hb)
  have HT1 := Lib.hid t1
  have HT2 := Lib.hid t2
  have HR1 := Lib.hid r1
  have HR2 := Lib.hid r2
  have HB2 := Lib.hid b2
  clear t1 t2 r1 r2 b2
  clear hb HN TD
  go_wp2_with (first
    | ((with_reducible show wpList _ _ _ (Oper.mk none (Op.store 32 (.tmp 4) _) _ _ _ _ :: _) _ _); refine wpList_store_mid (by rfl) 32 (.tmp 4) (.tmp 19) (by rfl) (w.heap.size + 1) 0 A.toArray (by rfl) (by rfl) HT1.out (by rw [List.size_toArray, HLA.out]; kernel_rfl) (all_oneCell_toArray HOA.out) ?_; rw [show A.toArray.toList = A from rfl])
    | ((with_reducible show wpList _ _ _ (Oper.mk none (Op.store 49 (.tmp 5) _) _ _ _ _ :: _) _ _); refine wpList_store_mid (by rfl) 49 (.tmp 5) (.tmp 20) (by rfl) (w.heap.size + 1 + 1) 0 X.toArray (by rfl) (by rfl) HT2.out (by rw [List.size_toArray, HLX.out]; kernel_rfl) (all_oneCell_toArray HOX.out) ?_; rw [show X.toArray.toList = X from rfl]))
  refine bodyPost_ret (v := .tuple #[.agg A.toArray, .agg X.toArray, .bool true, .bool false]) (res4 Tryd.results35 rfl rfl rfl rfl HR1.out HR2.out HLA.out HLX.out) rfl ⟨rfl, HB2.out⟩
set_option maxRecDepth 100000 in
set_option maxHeartbeats 1000000 in
theorem joined_no (e : En) (s1 s2 : ByteArray) (ver : Int) (w : World) : Calls Tryd.prog 36 #[.agg #[Value.string e.key, .int .i64 e.fl, .int .i64 e.dl, .string e.val, .int .i64 e.cas], .bool false, .string s1, .string s2, .int .i64 ver] w (Out w (ab 3).cs (e0).cs false false) := by
  obtain ⟨A, hA⟩ : ∃ A, A = (ab 3).cs := ⟨_, rfl⟩
  obtain ⟨X, hX⟩ : ∃ X, X = (e0).cs := ⟨_, rfl⟩
  have HLA : Hid (A.length = 9) := Lib.hid (by rw [hA]; rfl)
  have HOA : Hid (∀ u ∈ A, u.oneCell' = true) := Lib.hid (by rw [hA]; exact Ab.one _)
  have HLX : Hid (X.length = 5) := Lib.hid (by rw [hX]; rfl)
  have HOX : Hid (∀ u ∈ X, u.oneCell' = true) := Lib.hid (by rw [hX]; exact En.one _)
  rw [← hA, ← hX]
  have TD : Hid (∀ W, Calls Tryd.prog 41 #[.agg #[Value.int .i64 3, .slice none 0 0, .bool false, .int .u64 0, .string ⟨#[]⟩, .int .i64 0, .int .i64 0, .int .i64 0, .int .i64 0]] W (Out W A X false false)) := Lib.hid (fun W => by rw [hA, hX]; exact told_any _ rfl (Ab.one _) W)
  have HN : Hid ((((w.alloc (.cells #[Value.string e.key, .int .i64 e.fl, .int .i64 e.dl, .string e.val, .int .i64 e.cas] 49)).alloc (.cells zA.toArray 32)).alloc (.cells e0.cs.toArray 49)).there (w.heap.size + 1) 0 9 ∧ (((w.alloc (.cells #[Value.string e.key, .int .i64 e.fl, .int .i64 e.dl, .string e.val, .int .i64 e.cas] 49)).alloc (.cells zA.toArray 32)).alloc (.cells e0.cs.toArray 49)).there (w.heap.size + 1 + 1) 0 5 ∧ Below w.heap.size w (((w.alloc (.cells #[Value.string e.key, .int .i64 e.fl, .int .i64 e.dl, .string e.val, .int .i64 e.cas] 49)).alloc (.cells zA.toArray 32)).alloc (.cells e0.cs.toArray 49))) := Lib.hid (by
    obtain ⟨n1, n2, n3⟩ := two_new (w.alloc (.cells #[Value.string e.key, .int .i64 e.fl, .int .i64 e.dl, .string e.val, .int .i64 e.cas] 49)) (X := zA.toArray) (Y := e0.cs.toArray) rfl rfl
    simp only [World.size_alloc] at n1 n2
    exact ⟨n1, n2, ((below_alloc w _).trans ((n3).mono (by simp only [World.size_alloc]; omega)))⟩)
  clear hA hX
  go_enter Tryd.func36, Tryd.ntmps36
  go_wp2_with fail
  refine (TD.out _).mono ?_
  rintro e w1 ⟨rfl, hb⟩
  obtain ⟨t1, t2, r1, r2, b2⟩ := two_fin (w := w) (W := w1) (b := w.heap.size + 1) HLA.out HLX.out (by omega) (HN.out.2.2.trans (hb.mono (by simp only [World.size_alloc]; omega))) (there_below (by first | exact HN.out.1 | exact there_setCell HN.out.1 _ _ | exact there_setCell (there_setCell HN.out.1 _ _) _ _ | exact there_below HN.out.1 (below_alloc _ _)) hb) (there_below (by first | exact HN.out.2.1 | exact there_setCell HN.out.2.1 _ _ | exact there_setCell (there_setCell HN.out.2.1 _ _) _ _ | exact there_below HN.out.2.1 (below_alloc _ _)) hb)
  have HT1 := Lib.hid t1
  have HT2 := Lib.hid t2
  have HR1 := Lib.hid r1
  have HR2 := Lib.hid r2
  have HB2 := Lib.hid b2
  clear t1 t2 r1 r2 b2
  clear hb HN TD
  go_wp2_with (first
    | ((with_reducible show wpList _ _ _ (Oper.mk none (Op.store 32 (.tmp 10) _) _ _ _ _ :: _) _ _); refine wpList_store_mid (by rfl) 32 (.tmp 10) (.tmp 18) (by rfl) (w.heap.size + 1) 0 A.toArray (by rfl) (by rfl) HT1.out (by rw [List.size_toArray, HLA.out]; kernel_rfl) (all_oneCell_toArray HOA.out) ?_; rw [show A.toArray.toList = A from rfl])
    | ((with_reducible show wpList _ _ _ (Oper.mk none (Op.store 49 (.tmp 11) _) _ _ _ _ :: _) _ _); refine wpList_store_mid (by rfl) 49 (.tmp 11) (.tmp 19) (by rfl) (w.heap.size + 1 + 1) 0 X.toArray (by rfl) (by rfl) HT2.out (by rw [List.size_toArray, HLX.out]; kernel_rfl) (all_oneCell_toArray HOX.out) ?_; rw [show X.toArray.toList = X from rfl]))
  refine bodyPost_ret (v := .tuple #[.agg A.toArray, .agg X.toArray, .bool false, .bool false]) (res4 Tryd.results36 rfl rfl rfl rfl HR1.out HR2.out HLA.out HLX.out) rfl ⟨rfl, HB2.out⟩
set_option maxRecDepth 100000 in
set_option maxHeartbeats 1000000 in
theorem joined_big (e : En) (s1 s2 : ByteArray) (ver : Int) (h1 : s1.size ≤ 140737488355328) (h2 : s2.size ≤ 140737488355328) (hb : 1048576 < s1.size + s2.size) (w : World) : Calls Tryd.prog 36 #[.agg #[Value.string e.key, .int .i64 e.fl, .int .i64 e.dl, .string e.val, .int .i64 e.cas], .bool true, .string s1, .string s2, .int .i64 ver] w (Out w (Ab.mk 14 0 tooLarge).cs (e0).cs false false) := by
  have g1 : decide ((1048576 : Int) < (s1.size : Int) + (s2.size : Int)) = true := decide_eq_true (by omega)
  obtain ⟨A, hA⟩ : ∃ A, A = (Ab.mk 14 0 tooLarge).cs := ⟨_, rfl⟩
  obtain ⟨X, hX⟩ : ∃ X, X = (e0).cs := ⟨_, rfl⟩
  have HLA : Hid (A.length = 9) := Lib.hid (by rw [hA]; rfl)
  have HOA : Hid (∀ u ∈ A, u.oneCell' = true) := Lib.hid (by rw [hA]; exact Ab.one _)
  have HLX : Hid (X.length = 5) := Lib.hid (by rw [hX]; rfl)
  have HOX : Hid (∀ u ∈ X, u.oneCell' = true) := Lib.hid (by rw [hX]; exact En.one _)
  rw [← hA, ← hX]
  have TD : Hid (∀ W, Calls Tryd.prog 41 #[.agg #[Value.int .i64 14, .slice none 0 0, .bool false, .int .u64 0, .string tooLarge, .int .i64 0, .int .i64 0, .int .i64 0, .int .i64 0]] W (Out W A X false false)) := Lib.hid (fun W => by rw [hA, hX]; exact told_any _ rfl (Ab.one _) W)
  have HN : Hid ((((w.alloc (.cells #[Value.string e.key, .int .i64 e.fl, .int .i64 e.dl, .string e.val, .int .i64 e.cas] 49)).alloc (.cells zA.toArray 32)).alloc (.cells e0.cs.toArray 49)).there (w.heap.size + 1) 0 9 ∧ (((w.alloc (.cells #[Value.string e.key, .int .i64 e.fl, .int .i64 e.dl, .string e.val, .int .i64 e.cas] 49)).alloc (.cells zA.toArray 32)).alloc (.cells e0.cs.toArray 49)).there (w.heap.size + 1 + 1) 0 5 ∧ Below w.heap.size w (((w.alloc (.cells #[Value.string e.key, .int .i64 e.fl, .int .i64 e.dl, .string e.val, .int .i64 e.cas] 49)).alloc (.cells zA.toArray 32)).alloc (.cells e0.cs.toArray 49))) := Lib.hid (by
    obtain ⟨n1, n2, n3⟩ := two_new (w.alloc (.cells #[Value.string e.key, .int .i64 e.fl, .int .i64 e.dl, .string e.val, .int .i64 e.cas] 49)) (X := zA.toArray) (Y := e0.cs.toArray) rfl rfl
    simp only [World.size_alloc] at n1 n2
    exact ⟨n1, n2, ((below_alloc w _).trans ((n3).mono (by simp only [World.size_alloc]; omega)))⟩)
  clear hA hX
  go_enter Tryd.func36, Tryd.ntmps36
  go_wp2_with fail
  refine (TD.out _).mono ?_
  rintro e w1 ⟨rfl, hb⟩
  obtain ⟨t1, t2, r1, r2, b2⟩ := two_fin (w := w) (W := w1) (b := w.heap.size + 1) HLA.out HLX.out (by omega) (HN.out.2.2.trans (hb.mono (by simp only [World.size_alloc]; omega))) (there_below (by first | exact HN.out.1 | exact there_setCell HN.out.1 _ _ | exact there_setCell (there_setCell HN.out.1 _ _) _ _ | exact there_below HN.out.1 (below_alloc _ _)) hb) (there_below (by first | exact HN.out.2.1 | exact there_setCell HN.out.2.1 _ _ | exact there_setCell (there_setCell HN.out.2.1 _ _) _ _ | exact there_below HN.out.2.1 (below_alloc _ _)) hb)
  have HT1 := Lib.hid t1
  have HT2 := Lib.hid t2
  have HR1 := Lib.hid r1
  have HR2 := Lib.hid r2
  have HB2 := Lib.hid b2
  clear t1 t2 r1 r2 b2
  clear hb HN TD
  go_wp2_with (first
    | ((with_reducible show wpList _ _ _ (Oper.mk none (Op.store 32 (.tmp 10) _) _ _ _ _ :: _) _ _); refine wpList_store_mid (by rfl) 32 (.tmp 10) (.tmp 30) (by rfl) (w.heap.size + 1) 0 A.toArray (by rfl) (by rfl) HT1.out (by rw [List.size_toArray, HLA.out]; kernel_rfl) (all_oneCell_toArray HOA.out) ?_; rw [show A.toArray.toList = A from rfl])
    | ((with_reducible show wpList _ _ _ (Oper.mk none (Op.store 49 (.tmp 11) _) _ _ _ _ :: _) _ _); refine wpList_store_mid (by rfl) 49 (.tmp 11) (.tmp 31) (by rfl) (w.heap.size + 1 + 1) 0 X.toArray (by rfl) (by rfl) HT2.out (by rw [List.size_toArray, HLX.out]; kernel_rfl) (all_oneCell_toArray HOX.out) ?_; rw [show X.toArray.toList = X from rfl]))
  refine bodyPost_ret (v := .tuple #[.agg A.toArray, .agg X.toArray, .bool false, .bool false]) (res4 Tryd.results36 rfl rfl rfl rfl HR1.out HR2.out HLA.out HLX.out) rfl ⟨rfl, HB2.out⟩
set_option maxRecDepth 100000 in
set_option maxHeartbeats 1000000 in
theorem joined_yes (e : En) (s1 s2 : ByteArray) (ver : Int) (h1 : s1.size ≤ 140737488355328) (h2 : s2.size ≤ 140737488355328) (hb : s1.size + s2.size ≤ 1048576) (hk : e.key.size ≤ 281474976710656) (w : World) : Calls Tryd.prog 36 #[.agg #[Value.string e.key, .int .i64 e.fl, .int .i64 e.dl, .string e.val, .int .i64 e.cas], .bool true, .string s1, .string s2, .int .i64 ver] w (Out w (ab 2).cs (En.mk e.key e.fl e.dl (s1 ++ s2) ver).cs true false) := by
  have g1 : decide ((1048576 : Int) < (s1.size : Int) + (s2.size : Int)) = false := decide_eq_false (by omega)
  obtain ⟨A, hA⟩ : ∃ A, A = (ab 2).cs := ⟨_, rfl⟩
  obtain ⟨X, hX⟩ : ∃ X, X = (En.mk e.key e.fl e.dl (s1 ++ s2) ver).cs := ⟨_, rfl⟩
  have HLA : Hid (A.length = 9) := Lib.hid (by rw [hA]; rfl)
  have HOA : Hid (∀ u ∈ A, u.oneCell' = true) := Lib.hid (by rw [hA]; exact Ab.one _)
  have HLX : Hid (X.length = 5) := Lib.hid (by rw [hX]; rfl)
  have HOX : Hid (∀ u ∈ X, u.oneCell' = true) := Lib.hid (by rw [hX]; exact En.one _)
  rw [← hA, ← hX]
  have TD : Hid (∀ W, Calls Tryd.prog 34 #[.agg #[Value.int .i64 2, .slice none 0 0, .bool false, .int .u64 0, .string ⟨#[]⟩, .int .i64 0, .int .i64 0, .int .i64 0, .int .i64 0], .agg #[Value.string e.key, .int .i64 e.fl, .int .i64 e.dl, .string (s1 ++ s2), .int .i64 ver]] W (Out W A X true false)) := Lib.hid (fun W => by rw [hA, hX]; exact kept_any _ rfl (Ab.one _) ⟨e.key, e.fl, e.dl, s1 ++ s2, ver⟩ hk (by show (s1 ++ s2).size ≤ _; rw [ByteArray.size_append]; omega) W)
  have HN : Hid ((((w.alloc (.cells #[Value.string e.key, .int .i64 e.fl, .int .i64 e.dl, .string (s1 ++ s2), .int .i64 ver] 49)).alloc (.cells zA.toArray 32)).alloc (.cells e0.cs.toArray 49)).there (w.heap.size + 1) 0 9 ∧ (((w.alloc (.cells #[Value.string e.key, .int .i64 e.fl, .int .i64 e.dl, .string (s1 ++ s2), .int .i64 ver] 49)).alloc (.cells zA.toArray 32)).alloc (.cells e0.cs.toArray 49)).there (w.heap.size + 1 + 1) 0 5 ∧ Below w.heap.size w (((w.alloc (.cells #[Value.string e.key, .int .i64 e.fl, .int .i64 e.dl, .string (s1 ++ s2), .int .i64 ver] 49)).alloc (.cells zA.toArray 32)).alloc (.cells e0.cs.toArray 49))) := Lib.hid (by
    obtain ⟨n1, n2, n3⟩ := two_new (w.alloc (.cells #[Value.string e.key, .int .i64 e.fl, .int .i64 e.dl, .string (s1 ++ s2), .int .i64 ver] 49)) (X := zA.toArray) (Y := e0.cs.toArray) rfl rfl
    simp only [World.size_alloc] at n1 n2
    exact ⟨n1, n2, ((below_alloc w _).trans ((n3).mono (by simp only [World.size_alloc]; omega)))⟩)
  clear hA hX
  go_enter Tryd.func36, Tryd.ntmps36
  go_wp2_with fail
  refine (TD.out _).mono ?_
  rintro e w1 ⟨rfl, hb⟩
  obtain ⟨t1, t2, r1, r2, b2⟩ := two_fin (w := w) (W := w1) (b := w.heap.size + 1) HLA.out HLX.out (by omega) (HN.out.2.2.trans (hb.mono (by simp only [World.size_alloc]; omega))) (there_below (by first | exact HN.out.1 | exact there_setCell HN.out.1 _ _ | exact there_setCell (there_setCell HN.out.1 _ _) _ _ | exact there_below HN.out.1 (below_alloc _ _)) hb) (there_below (by first | exact HN.out.2.1 | exact there_setCell HN.out.2.1 _ _ | exact there_setCell (there_setCell HN.out.2.1 _ _) _ _ | exact there_below HN.out.2.1 (below_alloc _ _)) hb)
  have HT1 := Lib.hid t1
  have HT2 := Lib.hid t2
  have HR1 := Lib.hid r1
  have HR2 := Lib.hid r2
  have HB2 := Lib.hid b2
  clear t1 t2 r1 r2 b2
  clear hb HN TD
  go_wp2_with (first
    | ((with_reducible show wpList _ _ _ (Oper.mk none (Op.store 32 (.tmp 10) _) _ _ _ _ :: _) _ _); refine wpList_store_mid (by rfl) 32 (.tmp 10) (.tmp 43) (by rfl) (w.heap.size + 1) 0 A.toArray (by rfl) (by rfl) HT1.out (by rw [List.size_toArray, HLA.out]; kernel_rfl) (all_oneCell_toArray HOA.out) ?_; rw [show A.toArray.toList = A from rfl])
    | ((with_reducible show wpList _ _ _ (Oper.mk none (Op.store 49 (.tmp 11) _) _ _ _ _ :: _) _ _); refine wpList_store_mid (by rfl) 49 (.tmp 11) (.tmp 44) (by rfl) (w.heap.size + 1 + 1) 0 X.toArray (by rfl) (by rfl) HT2.out (by rw [List.size_toArray, HLX.out]; kernel_rfl) (all_oneCell_toArray HOX.out) ?_; rw [show X.toArray.toList = X from rfl]))
  refine bodyPost_ret (v := .tuple #[.agg A.toArray, .agg X.toArray, .bool true, .bool false]) (res4 Tryd.results36 rfl rfl rfl rfl HR1.out HR2.out HLA.out HLX.out) rfl ⟨rfl, HB2.out⟩
set_option maxRecDepth 100000 in
set_option maxHeartbeats 1000000 in
theorem compared_no (cas : Int) (e x : En) (w : World) : Calls Tryd.prog 37 #[.int .i64 cas, .agg #[Value.string e.key, .int .i64 e.fl, .int .i64 e.dl, .string e.val, .int .i64 e.cas], .bool false, .agg #[Value.string x.key, .int .i64 x.fl, .int .i64 x.dl, .string x.val, .int .i64 x.cas]] w (Out w (ab 5).cs (e0).cs false false) := by
  obtain ⟨A, hA⟩ : ∃ A, A = (ab 5).cs := ⟨_, rfl⟩
  obtain ⟨X, hX⟩ : ∃ X, X = (e0).cs := ⟨_, rfl⟩
  have HLA : Hid (A.length = 9) := Lib.hid (by rw [hA]; rfl)
  have HOA : Hid (∀ u ∈ A, u.oneCell' = true) := Lib.hid (by rw [hA]; exact Ab.one _)
  have HLX : Hid (X.length = 5) := Lib.hid (by rw [hX]; rfl)
  have HOX : Hid (∀ u ∈ X, u.oneCell' = true) := Lib.hid (by rw [hX]; exact En.one _)
  rw [← hA, ← hX]
  have TD : Hid (∀ W, Calls Tryd.prog 55 #[] W (Out W A X false false)) := Lib.hid (fun W => by rw [hA, hX]; exact missing_any W)
  have HN : Hid (((((w.alloc (.cells #[Value.string e.key, .int .i64 e.fl, .int .i64 e.dl, .string e.val, .int .i64 e.cas] 49)).alloc (.cells #[Value.string x.key, .int .i64 x.fl, .int .i64 x.dl, .string x.val, .int .i64 x.cas] 49)).alloc (.cells zA.toArray 32)).alloc (.cells e0.cs.toArray 49)).there (w.heap.size + 1 + 1) 0 9 ∧ ((((w.alloc (.cells #[Value.string e.key, .int .i64 e.fl, .int .i64 e.dl, .string e.val, .int .i64 e.cas] 49)).alloc (.cells #[Value.string x.key, .int .i64 x.fl, .int .i64 x.dl, .string x.val, .int .i64 x.cas] 49)).alloc (.cells zA.toArray 32)).alloc (.cells e0.cs.toArray 49)).there (w.heap.size + 1 + 1 + 1) 0 5 ∧ Below w.heap.size w ((((w.alloc (.cells #[Value.string e.key, .int .i64 e.fl, .int .i64 e.dl, .string e.val, .int .i64 e.cas] 49)).alloc (.cells #[Value.string x.key, .int .i64 x.fl, .int .i64 x.dl, .string x.val, .int .i64 x.cas] 49)).alloc (.cells zA.toArray 32)).alloc (.cells e0.cs.toArray 49))) := Lib.hid (by
    obtain ⟨n1, n2, n3⟩ := two_new ((w.alloc (.cells #[Value.string e.key, .int .i64 e.fl, .int .i64 e.dl, .string e.val, .int .i64 e.cas] 49)).alloc (.cells #[Value.string x.key, .int .i64 x.fl, .int .i64 x.dl, .string x.val, .int .i64 x.cas] 49)) (X := zA.toArray) (Y := e0.cs.toArray) rfl rfl
    simp only [World.size_alloc] at n1 n2
    exact ⟨n1, n2, ((below_alloc w _).trans ((((below_alloc (w.alloc (.cells #[Value.string e.key, .int .i64 e.fl, .int .i64 e.dl, .string e.val, .int .i64 e.cas] 49)) _).trans ((n3).mono (by simp only [World.size_alloc]; omega)))).mono (by simp only [World.size_alloc]; omega)))⟩)
  clear hA hX
  go_enter Tryd.func37, Tryd.ntmps37
  go_wp2_with fail
  refine (TD.out _).mono ?_
  rintro e w1 ⟨rfl, hb⟩
  obtain ⟨t1, t2, r1, r2, b2⟩ := two_fin (w := w) (W := w1) (b := w.heap.size + 1 + 1) HLA.out HLX.out (by omega) (HN.out.2.2.trans (hb.mono (by simp only [World.size_alloc]; omega))) (there_below (by first | exact HN.out.1 | exact there_setCell HN.out.1 _ _ | exact there_setCell (there_setCell HN.out.1 _ _) _ _ | exact there_below HN.out.1 (below_alloc _ _)) hb) (there_below (by first | exact HN.out.2.1 | exact there_setCell HN.out.2.1 _ _ | exact there_setCell (there_setCell HN.out.2.1 _ _) _ _ | exact there_below HN.out.2.1 (below_alloc _ _)) hb)
  have HT1 := Lib.hid t1
  have HT2 := Lib.hid t2
  have HR1 := Lib.hid r1
  have HR2 := Lib.hid r2
  have HB2 := Lib.hid b2
  clear t1 t2 r1 r2 b2
  clear hb HN TD
  go_wp2_with (first
    | ((with_reducible show wpList _ _ _ (Oper.mk none (Op.store 32 (.tmp 8) _) _ _ _ _ :: _) _ _); refine wpList_store_mid (by rfl) 32 (.tmp 8) (.tmp 15) (by rfl) (w.heap.size + 1 + 1) 0 A.toArray (by rfl) (by rfl) HT1.out (by rw [List.size_toArray, HLA.out]; kernel_rfl) (all_oneCell_toArray HOA.out) ?_; rw [show A.toArray.toList = A from rfl])
    | ((with_reducible show wpList _ _ _ (Oper.mk none (Op.store 49 (.tmp 9) _) _ _ _ _ :: _) _ _); refine wpList_store_mid (by rfl) 49 (.tmp 9) (.tmp 16) (by rfl) (w.heap.size + 1 + 1 + 1) 0 X.toArray (by rfl) (by rfl) HT2.out (by rw [List.size_toArray, HLX.out]; kernel_rfl) (all_oneCell_toArray HOX.out) ?_; rw [show X.toArray.toList = X from rfl]))
  refine bodyPost_ret (v := .tuple #[.agg A.toArray, .agg X.toArray, .bool false, .bool false]) (res4 Tryd.results37 rfl rfl rfl rfl HR1.out HR2.out HLA.out HLX.out) rfl ⟨rfl, HB2.out⟩
set_option maxRecDepth 100000 in
set_option maxHeartbeats 1000000 in
theorem compared_other (cas : Int) (e x : En) (hc : e.cas ≠ cas) (w : World) : Calls Tryd.prog 37 #[.int .i64 cas, .agg #[Value.string e.key, .int .i64 e.fl, .int .i64 e.dl, .string e.val, .int .i64 e.cas], .bool true, .agg #[Value.string x.key, .int .i64 x.fl, .int .i64 x.dl, .string x.val, .int .i64 x.cas]] w (Out w (ab 4).cs (e0).cs false false) := by
  have g1 : (e.cas == cas) = false := by simp [hc]
  clear hc
  obtain ⟨A, hA⟩ : ∃ A, A = (ab 4).cs := ⟨_, rfl⟩
  obtain ⟨X, hX⟩ : ∃ X, X = (e0).cs := ⟨_, rfl⟩
  have HLA : Hid (A.length = 9) := Lib.hid (by rw [hA]; rfl)
  have HOA : Hid (∀ u ∈ A, u.oneCell' = true) := Lib.hid (by rw [hA]; exact Ab.one _)
  have HLX : Hid (X.length = 5) := Lib.hid (by rw [hX]; rfl)
  have HOX : Hid (∀ u ∈ X, u.oneCell' = true) := Lib.hid (by rw [hX]; exact En.one _)
  rw [← hA, ← hX]
  have TD : Hid (∀ W, Calls Tryd.prog 41 #[.agg #[Value.int .i64 4, .slice none 0 0, .bool false, .int .u64 0, .string ⟨#[]⟩, .int .i64 0, .int .i64 0, .int .i64 0, .int .i64 0]] W (Out W A X false false)) := Lib.hid (fun W => by rw [hA, hX]; exact told_any _ rfl (Ab.one _) W)
  have HN : Hid (((((w.alloc (.cells #[Value.string e.key, .int .i64 e.fl, .int .i64 e.dl, .string e.val, .int .i64 e.cas] 49)).alloc (.cells #[Value.string x.key, .int .i64 x.fl, .int .i64 x.dl, .string x.val, .int .i64 x.cas] 49)).alloc (.cells zA.toArray 32)).alloc (.cells e0.cs.toArray 49)).there (w.heap.size + 1 + 1) 0 9 ∧ ((((w.alloc (.cells #[Value.string e.key, .int .i64 e.fl, .int .i64 e.dl, .string e.val, .int .i64 e.cas] 49)).alloc (.cells #[Value.string x.key, .int .i64 x.fl, .int .i64 x.dl, .string x.val, .int .i64 x.cas] 49)).alloc (.cells zA.toArray 32)).alloc (.cells e0.cs.toArray 49)).there (w.heap.size + 1 + 1 + 1) 0 5 ∧ Below w.heap.size w ((((w.alloc (.cells #[Value.string e.key, .int .i64 e.fl, .int .i64 e.dl, .string e.val, .int .i64 e.cas] 49)).alloc (.cells #[Value.string x.key, .int .i64 x.fl, .int .i64 x.dl, .string x.val, .int .i64 x.cas] 49)).alloc (.cells zA.toArray 32)).alloc (.cells e0.cs.toArray 49))) := Lib.hid (by
    obtain ⟨n1, n2, n3⟩ := two_new ((w.alloc (.cells #[Value.string e.key, .int .i64 e.fl, .int .i64 e.dl, .string e.val, .int .i64 e.cas] 49)).alloc (.cells #[Value.string x.key, .int .i64 x.fl, .int .i64 x.dl, .string x.val, .int .i64 x.cas] 49)) (X := zA.toArray) (Y := e0.cs.toArray) rfl rfl
    simp only [World.size_alloc] at n1 n2
    exact ⟨n1, n2, ((below_alloc w _).trans ((((below_alloc (w.alloc (.cells #[Value.string e.key, .int .i64 e.fl, .int .i64 e.dl, .string e.val, .int .i64 e.cas] 49)) _).trans ((n3).mono (by simp only [World.size_alloc]; omega)))).mono (by simp only [World.size_alloc]; omega)))⟩)
  clear hA hX
  go_enter Tryd.func37, Tryd.ntmps37
  go_wp2_with fail
  refine (TD.out _).mono ?_
  rintro e w1 ⟨rfl, hb⟩
  obtain ⟨t1, t2, r1, r2, b2⟩ := two_fin (w := w) (W := w1) (b := w.heap.size + 1 + 1) HLA.out HLX.out (by omega) (HN.out.2.2.trans (hb.mono (by simp only [World.size_alloc]; omega))) (there_below (by first | exact HN.out.1 | exact there_setCell HN.out.1 _ _ | exact there_setCell (there_setCell HN.out.1 _ _) _ _ | exact there_below HN.out.1 (below_alloc _ _)) hb) (there_below (by first | exact HN.out.2.1 | exact there_setCell HN.out.2.1 _ _ | exact there_setCell (there_setCell HN.out.2.1 _ _) _ _ | exact there_below HN.out.2.1 (below_alloc _ _)) hb)
  have HT1 := Lib.hid t1
  have HT2 := Lib.hid t2
  have HR1 := Lib.hid r1
  have HR2 := Lib.hid r2
  have HB2 := Lib.hid b2
  clear t1 t2 r1 r2 b2
  clear hb HN TD
  go_wp2_with (first
    | ((with_reducible show wpList _ _ _ (Oper.mk none (Op.store 32 (.tmp 8) _) _ _ _ _ :: _) _ _); refine wpList_store_mid (by rfl) 32 (.tmp 8) (.tmp 25) (by rfl) (w.heap.size + 1 + 1) 0 A.toArray (by rfl) (by rfl) HT1.out (by rw [List.size_toArray, HLA.out]; kernel_rfl) (all_oneCell_toArray HOA.out) ?_; rw [show A.toArray.toList = A from rfl])
    | ((with_reducible show wpList _ _ _ (Oper.mk none (Op.store 49 (.tmp 9) _) _ _ _ _ :: _) _ _); refine wpList_store_mid (by rfl) 49 (.tmp 9) (.tmp 26) (by rfl) (w.heap.size + 1 + 1 + 1) 0 X.toArray (by rfl) (by rfl) HT2.out (by rw [List.size_toArray, HLX.out]; kernel_rfl) (all_oneCell_toArray HOX.out) ?_; rw [show X.toArray.toList = X from rfl]))
  refine bodyPost_ret (v := .tuple #[.agg A.toArray, .agg X.toArray, .bool false, .bool false]) (res4 Tryd.results37 rfl rfl rfl rfl HR1.out HR2.out HLA.out HLX.out) rfl ⟨rfl, HB2.out⟩
set_option maxRecDepth 100000 in
set_option maxHeartbeats 1000000 in
theorem compared_yes (e x : En) (hk : x.key.size ≤ 281474976710656) (hv : x.val.size ≤ 281474976710656) (w : World) : Calls Tryd.prog 37 #[.int .i64 e.cas, .agg #[Value.string e.key, .int .i64 e.fl, .int .i64 e.dl, .string e.val, .int .i64 e.cas], .bool true, .agg #[Value.string x.key, .int .i64 x.fl, .int .i64 x.dl, .string x.val, .int .i64 x.cas]] w (Out w (ab 2).cs (x).cs true false) := by
  obtain ⟨A, hA⟩ : ∃ A, A = (ab 2).cs := ⟨_, rfl⟩
  obtain ⟨X, hX⟩ : ∃ X, X = (x).cs := ⟨_, rfl⟩
  have HLA : Hid (A.length = 9) := Lib.hid (by rw [hA]; rfl)
  have HOA : Hid (∀ u ∈ A, u.oneCell' = true) := Lib.hid (by rw [hA]; exact Ab.one _)
  have HLX : Hid (X.length = 5) := Lib.hid (by rw [hX]; rfl)
  have HOX : Hid (∀ u ∈ X, u.oneCell' = true) := Lib.hid (by rw [hX]; exact En.one _)
  rw [← hA, ← hX]
  have TD : Hid (∀ W, Calls Tryd.prog 34 #[.agg #[Value.int .i64 2, .slice none 0 0, .bool false, .int .u64 0, .string ⟨#[]⟩, .int .i64 0, .int .i64 0, .int .i64 0, .int .i64 0], .agg #[Value.string x.key, .int .i64 x.fl, .int .i64 x.dl, .string x.val, .int .i64 x.cas]] W (Out W A X true false)) := Lib.hid (fun W => by rw [hA, hX]; exact kept_any _ rfl (Ab.one _) x (by assumption) (by assumption) W)
  have HN : Hid (((((w.alloc (.cells #[Value.string e.key, .int .i64 e.fl, .int .i64 e.dl, .string e.val, .int .i64 e.cas] 49)).alloc (.cells #[Value.string x.key, .int .i64 x.fl, .int .i64 x.dl, .string x.val, .int .i64 x.cas] 49)).alloc (.cells zA.toArray 32)).alloc (.cells e0.cs.toArray 49)).there (w.heap.size + 1 + 1) 0 9 ∧ ((((w.alloc (.cells #[Value.string e.key, .int .i64 e.fl, .int .i64 e.dl, .string e.val, .int .i64 e.cas] 49)).alloc (.cells #[Value.string x.key, .int .i64 x.fl, .int .i64 x.dl, .string x.val, .int .i64 x.cas] 49)).alloc (.cells zA.toArray 32)).alloc (.cells e0.cs.toArray 49)).there (w.heap.size + 1 + 1 + 1) 0 5 ∧ Below w.heap.size w ((((w.alloc (.cells #[Value.string e.key, .int .i64 e.fl, .int .i64 e.dl, .string e.val, .int .i64 e.cas] 49)).alloc (.cells #[Value.string x.key, .int .i64 x.fl, .int .i64 x.dl, .string x.val, .int .i64 x.cas] 49)).alloc (.cells zA.toArray 32)).alloc (.cells e0.cs.toArray 49))) := Lib.hid (by
    obtain ⟨n1, n2, n3⟩ := two_new ((w.alloc (.cells #[Value.string e.key, .int .i64 e.fl, .int .i64 e.dl, .string e.val, .int .i64 e.cas] 49)).alloc (.cells #[Value.string x.key, .int .i64 x.fl, .int .i64 x.dl, .string x.val, .int .i64 x.cas] 49)) (X := zA.toArray) (Y := e0.cs.toArray) rfl rfl
    simp only [World.size_alloc] at n1 n2
    exact ⟨n1, n2, ((below_alloc w _).trans ((((below_alloc (w.alloc (.cells #[Value.string e.key, .int .i64 e.fl, .int .i64 e.dl, .string e.val, .int .i64 e.cas] 49)) _).trans ((n3).mono (by simp only [World.size_alloc]; omega)))).mono (by simp only [World.size_alloc]; omega)))⟩)
  clear hA hX
  go_enter Tryd.func37, Tryd.ntmps37
  go_wp2_with fail
  refine (TD.out _).mono ?_
  rintro e w1 ⟨rfl, hb⟩
  obtain ⟨t1, t2, r1, r2, b2⟩ := two_fin (w := w) (W := w1) (b := w.heap.size + 1 + 1) HLA.out HLX.out (by omega) (HN.out.2.2.trans (hb.mono (by simp only [World.size_alloc]; omega))) (there_below (by first | exact HN.out.1 | exact there_setCell HN.out.1 _ _ | exact there_setCell (there_setCell HN.out.1 _ _) _ _ | exact there_below HN.out.1 (below_alloc _ _)) hb) (there_below (by first | exact HN.out.2.1 | exact there_setCell HN.out.2.1 _ _ | exact there_setCell (there_setCell HN.out.2.1 _ _) _ _ | exact there_below HN.out.2.1 (below_alloc _ _)) hb)
  have HT1 := Lib.hid t1
  have HT2 := Lib.hid t2
  have HR1 := Lib.hid r1
  have HR2 := Lib.hid r2
  have HB2 := Lib.hid b2
  clear t1 t2 r1 r2 b2
  clear hb HN TD
  go_wp2_with (first
    | ((with_reducible show wpList _ _ _ (Oper.mk none (Op.store 32 (.tmp 8) _) _ _ _ _ :: _) _ _); refine wpList_store_mid (by rfl) 32 (.tmp 8) (.tmp 32) (by rfl) (w.heap.size + 1 + 1) 0 A.toArray (by rfl) (by rfl) HT1.out (by rw [List.size_toArray, HLA.out]; kernel_rfl) (all_oneCell_toArray HOA.out) ?_; rw [show A.toArray.toList = A from rfl])
    | ((with_reducible show wpList _ _ _ (Oper.mk none (Op.store 49 (.tmp 9) _) _ _ _ _ :: _) _ _); refine wpList_store_mid (by rfl) 49 (.tmp 9) (.tmp 33) (by rfl) (w.heap.size + 1 + 1 + 1) 0 X.toArray (by rfl) (by rfl) HT2.out (by rw [List.size_toArray, HLX.out]; kernel_rfl) (all_oneCell_toArray HOX.out) ?_; rw [show X.toArray.toList = X from rfl]))
  refine bodyPost_ret (v := .tuple #[.agg A.toArray, .agg X.toArray, .bool true, .bool false]) (res4 Tryd.results37 rfl rfl rfl rfl HR1.out HR2.out HLA.out HLX.out) rfl ⟨rfl, HB2.out⟩
set_option maxRecDepth 100000 in
set_option maxHeartbeats 1000000 in
theorem deleted_no  (w : World) : Calls Tryd.prog 38 #[.bool false] w (Out w (ab 5).cs (e0).cs false false) := by
  obtain ⟨A, hA⟩ : ∃ A, A = (ab 5).cs := ⟨_, rfl⟩
  obtain ⟨X, hX⟩ : ∃ X, X = (e0).cs := ⟨_, rfl⟩
  have HLA : Hid (A.length = 9) := Lib.hid (by rw [hA]; rfl)
  have HOA : Hid (∀ u ∈ A, u.oneCell' = true) := Lib.hid (by rw [hA]; exact Ab.one _)
  have HLX : Hid (X.length = 5) := Lib.hid (by rw [hX]; rfl)
  have HOX : Hid (∀ u ∈ X, u.oneCell' = true) := Lib.hid (by rw [hX]; exact En.one _)
  rw [← hA, ← hX]
  have TD : Hid (∀ W, Calls Tryd.prog 55 #[] W (Out W A X false false)) := Lib.hid (fun W => by rw [hA, hX]; exact missing_any W)
  have HN : Hid (((w.alloc (.cells zA.toArray 32)).alloc (.cells e0.cs.toArray 49)).there (w.heap.size) 0 9 ∧ ((w.alloc (.cells zA.toArray 32)).alloc (.cells e0.cs.toArray 49)).there (w.heap.size + 1) 0 5 ∧ Below w.heap.size w ((w.alloc (.cells zA.toArray 32)).alloc (.cells e0.cs.toArray 49))) := Lib.hid (by
    obtain ⟨n1, n2, n3⟩ := two_new w (X := zA.toArray) (Y := e0.cs.toArray) rfl rfl
    exact ⟨n1, n2, n3⟩)
  clear hA hX
  go_enter Tryd.func38, Tryd.ntmps38
  go_wp2_with fail
  refine (TD.out _).mono ?_
  rintro e w1 ⟨rfl, hb⟩
  obtain ⟨t1, t2, r1, r2, b2⟩ := two_fin (w := w) (W := w1) (b := w.heap.size) HLA.out HLX.out (by omega) (HN.out.2.2.trans (hb.mono (by simp only [World.size_alloc]; omega))) (there_below (by first | exact HN.out.1 | exact there_setCell HN.out.1 _ _ | exact there_setCell (there_setCell HN.out.1 _ _) _ _ | exact there_below HN.out.1 (below_alloc _ _)) hb) (there_below (by first | exact HN.out.2.1 | exact there_setCell HN.out.2.1 _ _ | exact there_setCell (there_setCell HN.out.2.1 _ _) _ _ | exact there_below HN.out.2.1 (below_alloc _ _)) hb)
  have HT1 := Lib.hid t1
  have HT2 := Lib.hid t2
  have HR1 := Lib.hid r1
  have HR2 := Lib.hid r2
  have HB2 := Lib.hid b2
  clear t1 t2 r1 r2 b2
  clear hb HN TD
  go_wp2_with (first
    | ((with_reducible show wpList _ _ _ (Oper.mk none (Op.store 32 (.tmp 2) _) _ _ _ _ :: _) _ _); refine wpList_store_mid (by rfl) 32 (.tmp 2) (.tmp 9) (by rfl) (w.heap.size) 0 A.toArray (by rfl) (by rfl) HT1.out (by rw [List.size_toArray, HLA.out]; kernel_rfl) (all_oneCell_toArray HOA.out) ?_; rw [show A.toArray.toList = A from rfl])
    | ((with_reducible show wpList _ _ _ (Oper.mk none (Op.store 49 (.tmp 3) _) _ _ _ _ :: _) _ _); refine wpList_store_mid (by rfl) 49 (.tmp 3) (.tmp 10) (by rfl) (w.heap.size + 1) 0 X.toArray (by rfl) (by rfl) HT2.out (by rw [List.size_toArray, HLX.out]; kernel_rfl) (all_oneCell_toArray HOX.out) ?_; rw [show X.toArray.toList = X from rfl]))
  refine bodyPost_ret (v := .tuple #[.agg A.toArray, .agg X.toArray, .bool false, .bool false]) (res4 Tryd.results38 rfl rfl rfl rfl HR1.out HR2.out HLA.out HLX.out) rfl ⟨rfl, HB2.out⟩
set_option maxRecDepth 100000 in
set_option maxHeartbeats 1000000 in
theorem touched_no (e : En) (d : Int) (w : World) : Calls Tryd.prog 39 #[.agg #[Value.string e.key, .int .i64 e.fl, .int .i64 e.dl, .string e.val, .int .i64 e.cas], .bool false, .int .i64 d] w (Out w (ab 5).cs (e0).cs false false) := by
  obtain ⟨A, hA⟩ : ∃ A, A = (ab 5).cs := ⟨_, rfl⟩
  obtain ⟨X, hX⟩ : ∃ X, X = (e0).cs := ⟨_, rfl⟩
  have HLA : Hid (A.length = 9) := Lib.hid (by rw [hA]; rfl)
  have HOA : Hid (∀ u ∈ A, u.oneCell' = true) := Lib.hid (by rw [hA]; exact Ab.one _)
  have HLX : Hid (X.length = 5) := Lib.hid (by rw [hX]; rfl)
  have HOX : Hid (∀ u ∈ X, u.oneCell' = true) := Lib.hid (by rw [hX]; exact En.one _)
  rw [← hA, ← hX]
  have TD : Hid (∀ W, Calls Tryd.prog 55 #[] W (Out W A X false false)) := Lib.hid (fun W => by rw [hA, hX]; exact missing_any W)
  have HN : Hid ((((w.alloc (.cells #[Value.string e.key, .int .i64 e.fl, .int .i64 e.dl, .string e.val, .int .i64 e.cas] 49)).alloc (.cells zA.toArray 32)).alloc (.cells e0.cs.toArray 49)).there (w.heap.size + 1) 0 9 ∧ (((w.alloc (.cells #[Value.string e.key, .int .i64 e.fl, .int .i64 e.dl, .string e.val, .int .i64 e.cas] 49)).alloc (.cells zA.toArray 32)).alloc (.cells e0.cs.toArray 49)).there (w.heap.size + 1 + 1) 0 5 ∧ Below w.heap.size w (((w.alloc (.cells #[Value.string e.key, .int .i64 e.fl, .int .i64 e.dl, .string e.val, .int .i64 e.cas] 49)).alloc (.cells zA.toArray 32)).alloc (.cells e0.cs.toArray 49))) := Lib.hid (by
    obtain ⟨n1, n2, n3⟩ := two_new (w.alloc (.cells #[Value.string e.key, .int .i64 e.fl, .int .i64 e.dl, .string e.val, .int .i64 e.cas] 49)) (X := zA.toArray) (Y := e0.cs.toArray) rfl rfl
    simp only [World.size_alloc] at n1 n2
    exact ⟨n1, n2, ((below_alloc w _).trans ((n3).mono (by simp only [World.size_alloc]; omega)))⟩)
  clear hA hX
  go_enter Tryd.func39, Tryd.ntmps39
  go_wp2_with fail
  refine (TD.out _).mono ?_
  rintro e w1 ⟨rfl, hb⟩
  obtain ⟨t1, t2, r1, r2, b2⟩ := two_fin (w := w) (W := w1) (b := w.heap.size + 1) HLA.out HLX.out (by omega) (HN.out.2.2.trans (hb.mono (by simp only [World.size_alloc]; omega))) (there_below (by first | exact HN.out.1 | exact there_setCell HN.out.1 _ _ | exact there_setCell (there_setCell HN.out.1 _ _) _ _ | exact there_below HN.out.1 (below_alloc _ _)) hb) (there_below (by first | exact HN.out.2.1 | exact there_setCell HN.out.2.1 _ _ | exact there_setCell (there_setCell HN.out.2.1 _ _) _ _ | exact there_below HN.out.2.1 (below_alloc _ _)) hb)
  have HT1 := Lib.hid t1
  have HT2 := Lib.hid t2
  have HR1 := Lib.hid r1
  have HR2 := Lib.hid r2
  have HB2 := Lib.hid b2
  clear t1 t2 r1 r2 b2
  clear hb HN TD
  go_wp2_with (first
    | ((with_reducible show wpList _ _ _ (Oper.mk none (Op.store 32 (.tmp 6) _) _ _ _ _ :: _) _ _); refine wpList_store_mid (by rfl) 32 (.tmp 6) (.tmp 13) (by rfl) (w.heap.size + 1) 0 A.toArray (by rfl) (by rfl) HT1.out (by rw [List.size_toArray, HLA.out]; kernel_rfl) (all_oneCell_toArray HOA.out) ?_; rw [show A.toArray.toList = A from rfl])
    | ((with_reducible show wpList _ _ _ (Oper.mk none (Op.store 49 (.tmp 7) _) _ _ _ _ :: _) _ _); refine wpList_store_mid (by rfl) 49 (.tmp 7) (.tmp 14) (by rfl) (w.heap.size + 1 + 1) 0 X.toArray (by rfl) (by rfl) HT2.out (by rw [List.size_toArray, HLX.out]; kernel_rfl) (all_oneCell_toArray HOX.out) ?_; rw [show X.toArray.toList = X from rfl]))
  refine bodyPost_ret (v := .tuple #[.agg A.toArray, .agg X.toArray, .bool false, .bool false]) (res4 Tryd.results39 rfl rfl rfl rfl HR1.out HR2.out HLA.out HLX.out) rfl ⟨rfl, HB2.out⟩
set_option maxRecDepth 100000 in
set_option maxHeartbeats 1000000 in
theorem touched_yes (e : En) (d : Int) (hk : e.key.size ≤ 281474976710656) (hv : e.val.size ≤ 281474976710656) (w : World) : Calls Tryd.prog 39 #[.agg #[Value.string e.key, .int .i64 e.fl, .int .i64 e.dl, .string e.val, .int .i64 e.cas], .bool true, .int .i64 d] w (Out w (ab 7).cs (En.mk e.key e.fl d e.val e.cas).cs true false) := by
  obtain ⟨A, hA⟩ : ∃ A, A = (ab 7).cs := ⟨_, rfl⟩
  obtain ⟨X, hX⟩ : ∃ X, X = (En.mk e.key e.fl d e.val e.cas).cs := ⟨_, rfl⟩
  have HLA : Hid (A.length = 9) := Lib.hid (by rw [hA]; rfl)
  have HOA : Hid (∀ u ∈ A, u.oneCell' = true) := Lib.hid (by rw [hA]; exact Ab.one _)
  have HLX : Hid (X.length = 5) := Lib.hid (by rw [hX]; rfl)
  have HOX : Hid (∀ u ∈ X, u.oneCell' = true) := Lib.hid (by rw [hX]; exact En.one _)
  rw [← hA, ← hX]
  have TD : Hid (∀ W, Calls Tryd.prog 34 #[.agg #[Value.int .i64 7, .slice none 0 0, .bool false, .int .u64 0, .string ⟨#[]⟩, .int .i64 0, .int .i64 0, .int .i64 0, .int .i64 0], .agg #[Value.string e.key, .int .i64 e.fl, .int .i64 d, .string e.val, .int .i64 e.cas]] W (Out W A X true false)) := Lib.hid (fun W => by rw [hA, hX]; exact kept_any _ rfl (Ab.one _) ⟨e.key, e.fl, d, e.val, e.cas⟩ hk hv W)
  have HN : Hid ((((w.alloc (.cells #[Value.string e.key, .int .i64 e.fl, .int .i64 d, .string e.val, .int .i64 e.cas] 49)).alloc (.cells zA.toArray 32)).alloc (.cells e0.cs.toArray 49)).there (w.heap.size + 1) 0 9 ∧ (((w.alloc (.cells #[Value.string e.key, .int .i64 e.fl, .int .i64 d, .string e.val, .int .i64 e.cas] 49)).alloc (.cells zA.toArray 32)).alloc (.cells e0.cs.toArray 49)).there (w.heap.size + 1 + 1) 0 5 ∧ Below w.heap.size w (((w.alloc (.cells #[Value.string e.key, .int .i64 e.fl, .int .i64 d, .string e.val, .int .i64 e.cas] 49)).alloc (.cells zA.toArray 32)).alloc (.cells e0.cs.toArray 49))) := Lib.hid (by
    obtain ⟨n1, n2, n3⟩ := two_new (w.alloc (.cells #[Value.string e.key, .int .i64 e.fl, .int .i64 d, .string e.val, .int .i64 e.cas] 49)) (X := zA.toArray) (Y := e0.cs.toArray) rfl rfl
    simp only [World.size_alloc] at n1 n2
    exact ⟨n1, n2, ((below_alloc w _).trans ((n3).mono (by simp only [World.size_alloc]; omega)))⟩)
  clear hA hX
  go_enter Tryd.func39, Tryd.ntmps39
  go_wp2_with fail
  refine (TD.out _).mono ?_
  rintro e w1 ⟨rfl, hb⟩
  obtain ⟨t1, t2, r1, r2, b2⟩ := two_fin (w := w) (W := w1) (b := w.heap.size + 1) HLA.out HLX.out (by omega) (HN.out.2.2.trans (hb.mono (by simp only [World.size_alloc]; omega))) (there_below (by first | exact HN.out.1 | exact there_setCell HN.out.1 _ _ | exact there_setCell (there_setCell HN.out.1 _ _) _ _ | exact there_below HN.out.1 (below_alloc _ _)) hb) (there_below (by first | exact HN.out.2.1 | exact there_setCell HN.out.2.1 _ _ | exact there_setCell (there_setCell HN.out.2.1 _ _) _ _ | exact there_below HN.out.2.1 (below_alloc _ _)) hb)
  have HT1 := Lib.hid t1
  have HT2 := Lib.hid t2
  have HR1 := Lib.hid r1
  have HR2 := Lib.hid r2
  have HB2 := Lib.hid b2
  clear t1 t2 r1 r2 b2
  clear hb HN TD
  go_wp2_with (first
    | ((with_reducible show wpList _ _ _ (Oper.mk none (Op.store 32 (.tmp 6) _) _ _ _ _ :: _) _ _); refine wpList_store_mid (by rfl) 32 (.tmp 6) (.tmp 22) (by rfl) (w.heap.size + 1) 0 A.toArray (by rfl) (by rfl) HT1.out (by rw [List.size_toArray, HLA.out]; kernel_rfl) (all_oneCell_toArray HOA.out) ?_; rw [show A.toArray.toList = A from rfl])
    | ((with_reducible show wpList _ _ _ (Oper.mk none (Op.store 49 (.tmp 7) _) _ _ _ _ :: _) _ _); refine wpList_store_mid (by rfl) 49 (.tmp 7) (.tmp 23) (by rfl) (w.heap.size + 1 + 1) 0 X.toArray (by rfl) (by rfl) HT2.out (by rw [List.size_toArray, HLX.out]; kernel_rfl) (all_oneCell_toArray HOX.out) ?_; rw [show X.toArray.toList = X from rfl]))
  refine bodyPost_ret (v := .tuple #[.agg A.toArray, .agg X.toArray, .bool true, .bool false]) (res4 Tryd.results39 rfl rfl rfl rfl HR1.out HR2.out HLA.out HLX.out) rfl ⟨rfl, HB2.out⟩
end Go.Proofs.YtpkmfckifnomeaaDoor
