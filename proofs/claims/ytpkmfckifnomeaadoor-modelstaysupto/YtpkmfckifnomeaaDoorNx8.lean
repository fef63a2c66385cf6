/-
  Next, further.
-/
import Derived.Test.YtpkmfckifnomeaaDoorNx6
namespace Go.Proofs.YtpkmfckifnomeaaDoor
open Go.RowKit

open Go.Lib (TabIs pow10Tab)
set_option maxRecDepth 100000 in
set_option maxHeartbeats 2000000 in
theorem next_pre (b : Bool) (now : Int) (ka : Option Addr) (kn kc : Nat) (fl exp by_ cas : Int) (dd : Nat) (qu : Bool) (da : ByteArray) (e : En) (ver : Int) (hk : e.key.size ≤ 281474976710656) (hv : e.val.size ≤ 140737488355328) (hdz : da.size ≤ 140737488355328) (w : World) : Calls Tryd.prog 20 #[.agg #[Value.int .i64 7, .slice ka kn kc, .int .i64 fl, .int .i64 exp, .int .i64 by_, .int .i64 cas, .int .u64 (dd : Int), .bool qu, .string da], .agg #[Value.string e.key, .int .i64 e.fl, .int .i64 e.dl, .string e.val, .int .i64 e.cas], .bool b, .int .i64 now, .int .i64 ver] w (OutQ w (joi e b (da ++ e.val) ver)) := by
  have hall := And.intro hk (And.intro hv hdz)
  clear hall
  obtain ⟨D, hD⟩ : ∃ D, dl exp now = D := ⟨_, rfl⟩
  have DC := Lib.hid (dead_c exp now D hD)
  try rw [hD]
  clear hD
  obtain ⟨q, hq⟩ : ∃ q, (joi e b (da ++ e.val) ver) = q := ⟨_, rfl⟩
  rw [hq]
  unfold OutQ
  obtain ⟨A, hA⟩ : ∃ A, A = q.1.cs := ⟨_, rfl⟩
  obtain ⟨X, hX⟩ : ∃ X, X = q.2.1.cs := ⟨_, rfl⟩
  obtain ⟨k, hkk⟩ : ∃ k, k = q.2.2.1 := ⟨_, rfl⟩
  obtain ⟨d, hdd⟩ : ∃ d, d = q.2.2.2 := ⟨_, rfl⟩
  have HLA : Hid (A.length = 9) := Lib.hid (by rw [hA]; rfl)
  have HOA : Hid (∀ u ∈ A, u.oneCell' = true) := Lib.hid (by rw [hA]; exact Ab.one _)
  have HLX : Hid (X.length = 5) := Lib.hid (by rw [hX]; rfl)
  have HOX : Hid (∀ u ∈ X, u.oneCell' = true) := Lib.hid (by rw [hX]; exact En.one _)
  rw [← hA, ← hX, ← hkk, ← hdd]
  have HN : Hid (((((w.alloc (.cells #[Value.int .i64 7, .slice ka kn kc, .int .i64 fl, .int .i64 exp, .int .i64 by_, .int .i64 cas, .int .u64 (dd : Int), .bool qu, .string da] 27)).alloc (.cells #[Value.string e.key, .int .i64 e.fl, .int .i64 e.dl, .string e.val, .int .i64 e.cas] 49)).alloc (.cells zA.toArray 32)).alloc (.cells e0.cs.toArray 49)).there (w.heap.size + 1 + 1) 0 9 ∧ ((((w.alloc (.cells #[Value.int .i64 7, .slice ka kn kc, .int .i64 fl, .int .i64 exp, .int .i64 by_, .int .i64 cas, .int .u64 (dd : Int), .bool qu, .string da] 27)).alloc (.cells #[Value.string e.key, .int .i64 e.fl, .int .i64 e.dl, .string e.val, .int .i64 e.cas] 49)).alloc (.cells zA.toArray 32)).alloc (.cells e0.cs.toArray 49)).there (w.heap.size + 1 + 1 + 1) 0 5 ∧ Below w.heap.size w ((((w.alloc (.cells #[Value.int .i64 7, .slice ka kn kc, .int .i64 fl, .int .i64 exp, .int .i64 by_, .int .i64 cas, .int .u64 (dd : Int), .bool qu, .string da] 27)).alloc (.cells #[Value.string e.key, .int .i64 e.fl, .int .i64 e.dl, .string e.val, .int .i64 e.cas] 49)).alloc (.cells zA.toArray 32)).alloc (.cells e0.cs.toArray 49))) := Lib.hid (by
    obtain ⟨n1, n2, n3⟩ := two_new ((w.alloc (.cells #[Value.int .i64 7, .slice ka kn kc, .int .i64 fl, .int .i64 exp, .int .i64 by_, .int .i64 cas, .int .u64 (dd : Int), .bool qu, .string da] 27)).alloc (.cells #[Value.string e.key, .int .i64 e.fl, .int .i64 e.dl, .string e.val, .int .i64 e.cas] 49)) (X := zA.toArray) (Y := e0.cs.toArray) rfl rfl
    simp only [World.size_alloc] at n1 n2
    exact ⟨n1, n2, ((below_alloc w _).trans ((((below_alloc (w.alloc (.cells #[Value.int .i64 7, .slice ka kn kc, .int .i64 fl, .int .i64 exp, .int .i64 by_, .int .i64 cas, .int .u64 (dd : Int), .bool qu, .string da] 27)) _).trans ((n3).mono (by simp only [World.size_alloc]; omega)))).mono (by simp only [World.size_alloc]; omega)))⟩)
  have TD : Hid (∀ W, Calls Tryd.prog 36 #[.agg #[Value.string e.key, .int .i64 e.fl, .int .i64 e.dl, .string e.val, .int .i64 e.cas], .bool b, .string da, .string e.val, .int .i64 ver] W (Out W A X k d)) := Lib.hid (fun W => by rw [hA, hX, hkk, hdd, ← hq]; exact joined_any b e da e.val ver hdz hv hk W)
  clear hA hX hkk hdd hq
  go_enter Tryd.func20, Tryd.ntmps20
  go_wp2_with fail
  refine (DC.out _).mono ?_
  rintro e1 w0 ⟨rfl, rfl⟩
  go_wp2_with fail
  refine (TD.out _).mono ?_
  rintro e1 w1 ⟨rfl, hb⟩
  obtain ⟨t1, t2, r1, r2, b2⟩ := two_fin (w := w) (W := w1) (b := w.heap.size + 1 + 1) HLA.out HLX.out (by omega) (HN.out.2.2.trans (((below_alloc _ _).trans (hb.mono (by simp only [World.size_alloc]; omega))).mono (by simp only [World.size_alloc]; omega))) (there_below (there_below HN.out.1 (below_alloc _ _)) hb) (there_below (there_below HN.out.2.1 (below_alloc _ _)) hb)
  have HT1 := Lib.hid t1
  have HT2 := Lib.hid t2
  have HR1 := Lib.hid r1
  have HR2 := Lib.hid r2
  have HB2 := Lib.hid b2
  clear t1 t2 r1 r2 b2
  clear hb HN TD DC
  go_wp2_with (first
    | ((with_reducible show wpList _ _ _ (Oper.mk none (Op.store 32 (.tmp 10) _) _ _ _ _ :: _) _ _); refine wpList_store_mid (by rfl) 32 (.tmp 10) (.tmp 83) (by rfl) (w.heap.size + 1 + 1) 0 A.toArray (by rfl) (by rfl) HT1.out (by rw [List.size_toArray, HLA.out]; kernel_rfl) (all_oneCell_toArray HOA.out) ?_; rw [show A.toArray.toList = A from rfl])
    | ((with_reducible show wpList _ _ _ (Oper.mk none (Op.store 49 (.tmp 11) _) _ _ _ _ :: _) _ _); refine wpList_store_mid (by rfl) 49 (.tmp 11) (.tmp 84) (by rfl) (w.heap.size + 1 + 1 + 1) 0 X.toArray (by rfl) (by rfl) HT2.out (by rw [List.size_toArray, HLX.out]; kernel_rfl) (all_oneCell_toArray HOX.out) ?_; rw [show X.toArray.toList = X from rfl]))
  refine bodyPost_ret (v := .tuple #[.agg A.toArray, .agg X.toArray, .bool k, .bool d]) (res4 Tryd.results20 rfl rfl rfl rfl HR1.out HR2.out HLA.out HLX.out) rfl ⟨rfl, HB2.out⟩
set_option maxRecDepth 100000 in
set_option maxHeartbeats 2000000 in
theorem next_cas (b : Bool) (now : Int) (ka : Option Addr) (kn kc : Nat) (fl exp by_ cas : Int) (dd : Nat) (qu : Bool) (da : ByteArray) (e : En) (ver : Int) (hk : e.key.size ≤ 281474976710656) (hv : e.val.size ≤ 140737488355328) (hdz : da.size ≤ 140737488355328) (w : World) : Calls Tryd.prog 20 #[.agg #[Value.int .i64 8, .slice ka kn kc, .int .i64 fl, .int .i64 exp, .int .i64 by_, .int .i64 cas, .int .u64 (dd : Int), .bool qu, .string da], .agg #[Value.string e.key, .int .i64 e.fl, .int .i64 e.dl, .string e.val, .int .i64 e.cas], .bool b, .int .i64 now, .int .i64 ver] w (OutQ w (if b = false then tld (ab 5) else if e.cas = cas then kpt (ab 2) ⟨e.key, fl, dl exp now, da, ver⟩ else tld (ab 4))) := by
  have hall := And.intro hk (And.intro hv hdz)
  clear hall
  obtain ⟨D, hD⟩ : ∃ D, dl exp now = D := ⟨_, rfl⟩
  have DC := Lib.hid (dead_c exp now D hD)
  try rw [hD]
  clear hD
  obtain ⟨q, hq⟩ : ∃ q, (if b = false then tld (ab 5) else if e.cas = cas then kpt (ab 2) ⟨e.key, fl, D, da, ver⟩ else tld (ab 4)) = q := ⟨_, rfl⟩
  rw [hq]
  unfold OutQ
  obtain ⟨A, hA⟩ : ∃ A, A = q.1.cs := ⟨_, rfl⟩
  obtain ⟨X, hX⟩ : ∃ X, X = q.2.1.cs := ⟨_, rfl⟩
  obtain ⟨k, hkk⟩ : ∃ k, k = q.2.2.1 := ⟨_, rfl⟩
  obtain ⟨d, hdd⟩ : ∃ d, d = q.2.2.2 := ⟨_, rfl⟩
  have HLA : Hid (A.length = 9) := Lib.hid (by rw [hA]; rfl)
  have HOA : Hid (∀ u ∈ A, u.oneCell' = true) := Lib.hid (by rw [hA]; exact Ab.one _)
  have HLX : Hid (X.length = 5) := Lib.hid (by rw [hX]; rfl)
  have HOX : Hid (∀ u ∈ X, u.oneCell' = true) := Lib.hid (by rw [hX]; exact En.one _)
  rw [← hA, ← hX, ← hkk, ← hdd]
  have HN : Hid (((((w.alloc (.cells #[Value.int .i64 8, .slice ka kn kc, .int .i64 fl, .int .i64 exp, .int .i64 by_, .int .i64 cas, .int .u64 (dd : Int), .bool qu, .string da] 27)).alloc (.cells #[Value.string e.key, .int .i64 e.fl, .int .i64 e.dl, .string e.val, .int .i64 e.cas] 49)).alloc (.cells zA.toArray 32)).alloc (.cells e0.cs.toArray 49)).there (w.heap.size + 1 + 1) 0 9 ∧ ((((w.alloc (.cells #[Value.int .i64 8, .slice ka kn kc, .int .i64 fl, .int .i64 exp, .int .i64 by_, .int .i64 cas, .int .u64 (dd : Int), .bool qu, .string da] 27)).alloc (.cells #[Value.string e.key, .int .i64 e.fl, .int .i64 e.dl, .string e.val, .int .i64 e.cas] 49)).alloc (.cells zA.toArray 32)).alloc (.cells e0.cs.toArray 49)).there (w.heap.size + 1 + 1 + 1) 0 5 ∧ Below w.heap.size w ((((w.alloc (.cells #[Value.int .i64 8, .slice ka kn kc, .int .i64 fl, .int .i64 exp, .int .i64 by_, .int .i64 cas, .int .u64 (dd : Int), .bool qu, .string da] 27)).alloc (.cells #[Value.string e.key, .int .i64 e.fl, .int .i64 e.dl, .string e.val, .int .i64 e.cas] 49)).alloc (.cells zA.toArray 32)).alloc (.cells e0.cs.toArray 49))) := Lib.hid (by
    obtain ⟨n1, n2, n3⟩ := two_new ((w.alloc (.cells #[Value.int .i64 8, .slice ka kn kc, .int .i64 fl, .int .i64 exp, .int .i64 by_, .int .i64 cas, .int .u64 (dd : Int), .bool qu, .string da] 27)).alloc (.cells #[Value.string e.key, .int .i64 e.fl, .int .i64 e.dl, .string e.val, .int .i64 e.cas] 49)) (X := zA.toArray) (Y := e0.cs.toArray) rfl rfl
    simp only [World.size_alloc] at n1 n2
    exact ⟨n1, n2, ((below_alloc w _).trans ((((below_alloc (w.alloc (.cells #[Value.int .i64 8, .slice ka kn kc, .int .i64 fl, .int .i64 exp, .int .i64 by_, .int .i64 cas, .int .u64 (dd : Int), .bool qu, .string da] 27)) _).trans ((n3).mono (by simp only [World.size_alloc]; omega)))).mono (by simp only [World.size_alloc]; omega)))⟩)
  have TD : Hid (∀ W, Calls Tryd.prog 37 #[.int .i64 cas, .agg #[Value.string e.key, .int .i64 e.fl, .int .i64 e.dl, .string e.val, .int .i64 e.cas], .bool b, .agg #[Value.string e.key, .int .i64 fl, .int .i64 D, .string da, .int .i64 ver]] W (Out W A X k d)) := Lib.hid (fun W => by rw [hA, hX, hkk, hdd, ← hq]; exact compared_any b cas e ⟨e.key, fl, D, da, ver⟩ hk (by show da.size ≤ _; omega) W)
  clear hA hX hkk hdd hq
  go_enter Tryd.func20, Tryd.ntmps20
  go_wp2_with fail
  refine (DC.out _).mono ?_
  rintro e1 w0 ⟨rfl, rfl⟩
  go_wp2_with fail
  refine (TD.out _).mono ?_
  rintro e1 w1 ⟨rfl, hb⟩
  obtain ⟨t1, t2, r1, r2, b2⟩ := two_fin (w := w) (W := w1) (b := w.heap.size + 1 + 1) HLA.out HLX.out (by omega) (HN.out.2.2.trans (((below_alloc _ _).trans (hb.mono (by simp only [World.size_alloc]; omega))).mono (by simp only [World.size_alloc]; omega))) (there_below (there_below HN.out.1 (below_alloc _ _)) hb) (there_below (there_below HN.out.2.1 (below_alloc _ _)) hb)
  have HT1 := Lib.hid t1
  have HT2 := Lib.hid t2
  have HR1 := Lib.hid r1
  have HR2 := Lib.hid r2
  have HB2 := Lib.hid b2
  clear t1 t2 r1 r2 b2
  clear hb HN TD DC
  go_wp2_with (first
    | ((with_reducible show wpList _ _ _ (Oper.mk none (Op.store 32 (.tmp 10) _) _ _ _ _ :: _) _ _); refine wpList_store_mid (by rfl) 32 (.tmp 10) (.tmp 95) (by rfl) (w.heap.size + 1 + 1) 0 A.toArray (by rfl) (by rfl) HT1.out (by rw [List.size_toArray, HLA.out]; kernel_rfl) (all_oneCell_toArray HOA.out) ?_; rw [show A.toArray.toList = A from rfl])
    | ((with_reducible show wpList _ _ _ (Oper.mk none (Op.store 49 (.tmp 11) _) _ _ _ _ :: _) _ _); refine wpList_store_mid (by rfl) 49 (.tmp 11) (.tmp 96) (by rfl) (w.heap.size + 1 + 1 + 1) 0 X.toArray (by rfl) (by rfl) HT2.out (by rw [List.size_toArray, HLX.out]; kernel_rfl) (all_oneCell_toArray HOX.out) ?_; rw [show X.toArray.toList = X from rfl]))
  refine bodyPost_ret (v := .tuple #[.agg A.toArray, .agg X.toArray, .bool k, .bool d]) (res4 Tryd.results20 rfl rfl rfl rfl HR1.out HR2.out HLA.out HLX.out) rfl ⟨rfl, HB2.out⟩
set_option maxRecDepth 100000 in
set_option maxHeartbeats 2000000 in
theorem next_del (b : Bool) (now : Int) (ka : Option Addr) (kn kc : Nat) (fl exp by_ cas : Int) (dd : Nat) (qu : Bool) (da : ByteArray) (e : En) (ver : Int) (hk : e.key.size ≤ 281474976710656) (hv : e.val.size ≤ 140737488355328) (hdz : da.size ≤ 140737488355328) (w : World) : Calls Tryd.prog 20 #[.agg #[Value.int .i64 9, .slice ka kn kc, .int .i64 fl, .int .i64 exp, .int .i64 by_, .int .i64 cas, .int .u64 (dd : Int), .bool qu, .string da], .agg #[Value.string e.key, .int .i64 e.fl, .int .i64 e.dl, .string e.val, .int .i64 e.cas], .bool b, .int .i64 now, .int .i64 ver] w (OutQ w (if b = false then tld (ab 5) else (ab 6, e0, false, true))) := by
  have hall := And.intro hk (And.intro hv hdz)
  clear hall
  obtain ⟨D, hD⟩ : ∃ D, dl exp now = D := ⟨_, rfl⟩
  have DC := Lib.hid (dead_c exp now D hD)
  try rw [hD]
  clear hD
  obtain ⟨q, hq⟩ : ∃ q, (if b = false then tld (ab 5) else (ab 6, e0, false, true)) = q := ⟨_, rfl⟩
  rw [hq]
  unfold OutQ
  obtain ⟨A, hA⟩ : ∃ A, A = q.1.cs := ⟨_, rfl⟩
  obtain ⟨X, hX⟩ : ∃ X, X = q.2.1.cs := ⟨_, rfl⟩
  obtain ⟨k, hkk⟩ : ∃ k, k = q.2.2.1 := ⟨_, rfl⟩
  obtain ⟨d, hdd⟩ : ∃ d, d = q.2.2.2 := ⟨_, rfl⟩
  have HLA : Hid (A.length = 9) := Lib.hid (by rw [hA]; rfl)
  have HOA : Hid (∀ u ∈ A, u.oneCell' = true) := Lib.hid (by rw [hA]; exact Ab.one _)
  have HLX : Hid (X.length = 5) := Lib.hid (by rw [hX]; rfl)
  have HOX : Hid (∀ u ∈ X, u.oneCell' = true) := Lib.hid (by rw [hX]; exact En.one _)
  rw [← hA, ← hX, ← hkk, ← hdd]
  have HN : Hid (((((w.alloc (.cells #[Value.int .i64 9, .slice ka kn kc, .int .i64 fl, .int .i64 exp, .int .i64 by_, .int .i64 cas, .int .u64 (dd : Int), .bool qu, .string da] 27)).alloc (.cells #[Value.string e.key, .int .i64 e.fl, .int .i64 e.dl, .string e.val, .int .i64 e.cas] 49)).alloc (.cells zA.toArray 32)).alloc (.cells e0.cs.toArray 49)).there (w.heap.size + 1 + 1) 0 9 ∧ ((((w.alloc (.cells #[Value.int .i64 9, .slice ka kn kc, .int .i64 fl, .int .i64 exp, .int .i64 by_, .int .i64 cas, .int .u64 (dd : Int), .bool qu, .string da] 27)).alloc (.cells #[Value.string e.key, .int .i64 e.fl, .int .i64 e.dl, .string e.val, .int .i64 e.cas] 49)).alloc (.cells zA.toArray 32)).alloc (.cells e0.cs.toArray 49)).there (w.heap.size + 1 + 1 + 1) 0 5 ∧ Below w.heap.size w ((((w.alloc (.cells #[Value.int .i64 9, .slice ka kn kc, .int .i64 fl, .int .i64 exp, .int .i64 by_, .int .i64 cas, .int .u64 (dd : Int), .bool qu, .string da] 27)).alloc (.cells #[Value.string e.key, .int .i64 e.fl, .int .i64 e.dl, .string e.val, .int .i64 e.cas] 49)).alloc (.cells zA.toArray 32)).alloc (.cells e0.cs.toArray 49))) := Lib.hid (by
    obtain ⟨n1, n2, n3⟩ := two_new ((w.alloc (.cells #[Value.int .i64 9, .slice ka kn kc, .int .i64 fl, .int .i64 exp, .int .i64 by_, .int .i64 cas, .int .u64 (dd : Int), .bool qu, .string da] 27)).alloc (.cells #[Value.string e.key, .int .i64 e.fl, .int .i64 e.dl, .string e.val, .int .i64 e.cas] 49)) (X := zA.toArray) (Y := e0.cs.toArray) rfl rfl
    simp only [World.size_alloc] at n1 n2
    exact ⟨n1, n2, ((below_alloc w _).trans ((((below_alloc (w.alloc (.cells #[Value.int .i64 9, .slice ka kn kc, .int .i64 fl, .int .i64 exp, .int .i64 by_, .int .i64 cas, .int .u64 (dd : Int), .bool qu, .string da] 27)) _).trans ((n3).mono (by simp only [World.size_alloc]; omega)))).mono (by simp only [World.size_alloc]; omega)))⟩)
  have TD : Hid (∀ W, Calls Tryd.prog 38 #[.bool b] W (Out W A X k d)) := Lib.hid (fun W => by rw [hA, hX, hkk, hdd, ← hq]; exact deleted_any b W)
  clear hA hX hkk hdd hq
  go_enter Tryd.func20, Tryd.ntmps20
  go_wp2_with fail
  refine (DC.out _).mono ?_
  rintro e1 w0 ⟨rfl, rfl⟩
  go_wp2_with fail
  refine (TD.out _).mono ?_
  rintro e1 w1 ⟨rfl, hb⟩
  obtain ⟨t1, t2, r1, r2, b2⟩ := two_fin (w := w) (W := w1) (b := w.heap.size + 1 + 1) HLA.out HLX.out (by omega) (HN.out.2.2.trans (((below_alloc _ _).trans (hb.mono (by simp only [World.size_alloc]; omega))).mono (by simp only [World.size_alloc]; omega))) (there_below (there_below HN.out.1 (below_alloc _ _)) hb) (there_below (there_below HN.out.2.1 (below_alloc _ _)) hb)
  have HT1 := Lib.hid t1
  have HT2 := Lib.hid t2
  have HR1 := Lib.hid r1
  have HR2 := Lib.hid r2
  have HB2 := Lib.hid b2
  clear t1 t2 r1 r2 b2
  clear hb HN TD DC
  go_wp2_with (first
    | ((with_reducible show wpList _ _ _ (Oper.mk none (Op.store 32 (.tmp 10) _) _ _ _ _ :: _) _ _); refine wpList_store_mid (by rfl) 32 (.tmp 10) (.tmp 103) (by rfl) (w.heap.size + 1 + 1) 0 A.toArray (by rfl) (by rfl) HT1.out (by rw [List.size_toArray, HLA.out]; kernel_rfl) (all_oneCell_toArray HOA.out) ?_; rw [show A.toArray.toList = A from rfl])
    | ((with_reducible show wpList _ _ _ (Oper.mk none (Op.store 49 (.tmp 11) _) _ _ _ _ :: _) _ _); refine wpList_store_mid (by rfl) 49 (.tmp 11) (.tmp 104) (by rfl) (w.heap.size + 1 + 1 + 1) 0 X.toArray (by rfl) (by rfl) HT2.out (by rw [List.size_toArray, HLX.out]; kernel_rfl) (all_oneCell_toArray HOX.out) ?_; rw [show X.toArray.toList = X from rfl]))
  refine bodyPost_ret (v := .tuple #[.agg A.toArray, .agg X.toArray, .bool k, .bool d]) (res4 Tryd.results20 rfl rfl rfl rfl HR1.out HR2.out HLA.out HLX.out) rfl ⟨rfl, HB2.out⟩
set_option maxRecDepth 100000 in
set_option maxHeartbeats 2000000 in
theorem next_tou (b : Bool) (now : Int) (ka : Option Addr) (kn kc : Nat) (fl exp by_ cas : Int) (dd : Nat) (qu : Bool) (da : ByteArray) (e : En) (ver : Int) (hk : e.key.size ≤ 281474976710656) (hv : e.val.size ≤ 140737488355328) (hdz : da.size ≤ 140737488355328) (w : World) : Calls Tryd.prog 20 #[.agg #[Value.int .i64 12, .slice ka kn kc, .int .i64 fl, .int .i64 exp, .int .i64 by_, .int .i64 cas, .int .u64 (dd : Int), .bool qu, .string da], .agg #[Value.string e.key, .int .i64 e.fl, .int .i64 e.dl, .string e.val, .int .i64 e.cas], .bool b, .int .i64 now, .int .i64 ver] w (OutQ w (if b = false then tld (ab 5) else kpt (ab 7) ⟨e.key, e.fl, dl exp now, e.val, e.cas⟩)) := by
  have hall := And.intro hk (And.intro hv hdz)
  clear hall
  obtain ⟨D, hD⟩ : ∃ D, dl exp now = D := ⟨_, rfl⟩
  have DC := Lib.hid (dead_c exp now D hD)
  try rw [hD]
  clear hD
  obtain ⟨q, hq⟩ : ∃ q, (if b = false then tld (ab 5) else kpt (ab 7) ⟨e.key, e.fl, D, e.val, e.cas⟩) = q := ⟨_, rfl⟩
  rw [hq]
  unfold OutQ
  obtain ⟨A, hA⟩ : ∃ A, A = q.1.cs := ⟨_, rfl⟩
  obtain ⟨X, hX⟩ : ∃ X, X = q.2.1.cs := ⟨_, rfl⟩
  obtain ⟨k, hkk⟩ : ∃ k, k = q.2.2.1 := ⟨_, rfl⟩
  obtain ⟨d, hdd⟩ : ∃ d, d = q.2.2.2 := ⟨_, rfl⟩
  have HLA : Hid (A.length = 9) := Lib.hid (by rw [hA]; rfl)
  have HOA : Hid (∀ u ∈ A, u.oneCell' = true) := Lib.hid (by rw [hA]; exact Ab.one _)
  have HLX : Hid (X.length = 5) := Lib.hid (by rw [hX]; rfl)
  have HOX : Hid (∀ u ∈ X, u.oneCell' = true) := Lib.hid (by rw [hX]; exact En.one _)
  rw [← hA, ← hX, ← hkk, ← hdd]
  have HN : Hid (((((w.alloc (.cells #[Value.int .i64 12, .slice ka kn kc, .int .i64 fl, .int .i64 exp, .int .i64 by_, .int .i64 cas, .int .u64 (dd : Int), .bool qu, .string da] 27)).alloc (.cells #[Value.string e.key, .int .i64 e.fl, .int .i64 e.dl, .string e.val, .int .i64 e.cas] 49)).alloc (.cells zA.toArray 32)).alloc (.cells e0.cs.toArray 49)).there (w.heap.size + 1 + 1) 0 9 ∧ ((((w.alloc (.cells #[Value.int .i64 12, .slice ka kn kc, .int .i64 fl, .int .i64 exp, .int .i64 by_, .int .i64 cas, .int .u64 (dd : Int), .bool qu, .string da] 27)).alloc (.cells #[Value.string e.key, .int .i64 e.fl, .int .i64 e.dl, .string e.val, .int .i64 e.cas] 49)).alloc (.cells zA.toArray 32)).alloc (.cells e0.cs.toArray 49)).there (w.heap.size + 1 + 1 + 1) 0 5 ∧ Below w.heap.size w ((((w.alloc (.cells #[Value.int .i64 12, .slice ka kn kc, .int .i64 fl, .int .i64 exp, .int .i64 by_, .int .i64 cas, .int .u64 (dd : Int), .bool qu, .string da] 27)).alloc (.cells #[Value.string e.key, .int .i64 e.fl, .int .i64 e.dl, .string e.val, .int .i64 e.cas] 49)).alloc (.cells zA.toArray 32)).alloc (.cells e0.cs.toArray 49))) := Lib.hid (by
    obtain ⟨n1, n2, n3⟩ := two_new ((w.alloc (.cells #[Value.int .i64 12, .slice ka kn kc, .int .i64 fl, .int .i64 exp, .int .i64 by_, .int .i64 cas, .int .u64 (dd : Int), .bool qu, .string da] 27)).alloc (.cells #[Value.string e.key, .int .i64 e.fl, .int .i64 e.dl, .string e.val, .int .i64 e.cas] 49)) (X := zA.toArray) (Y := e0.cs.toArray) rfl rfl
    simp only [World.size_alloc] at n1 n2
    exact ⟨n1, n2, ((below_alloc w _).trans ((((below_alloc (w.alloc (.cells #[Value.int .i64 12, .slice ka kn kc, .int .i64 fl, .int .i64 exp, .int .i64 by_, .int .i64 cas, .int .u64 (dd : Int), .bool qu, .string da] 27)) _).trans ((n3).mono (by simp only [World.size_alloc]; omega)))).mono (by simp only [World.size_alloc]; omega)))⟩)
  have TD : Hid (∀ W, Calls Tryd.prog 39 #[.agg #[Value.string e.key, .int .i64 e.fl, .int .i64 e.dl, .string e.val, .int .i64 e.cas], .bool b, .int .i64 D] W (Out W A X k d)) := Lib.hid (fun W => by rw [hA, hX, hkk, hdd, ← hq]; exact touched_any b e D hk (by show e.val.size ≤ _; omega) W)
  clear hA hX hkk hdd hq
  go_enter Tryd.func20, Tryd.ntmps20
  go_wp2_with fail
  refine (DC.out _).mono ?_
  rintro e1 w0 ⟨rfl, rfl⟩
  go_wp2_with fail
  refine (TD.out _).mono ?_
  rintro e1 w1 ⟨rfl, hb⟩
  obtain ⟨t1, t2, r1, r2, b2⟩ := two_fin (w := w) (W := w1) (b := w.heap.size + 1 + 1) HLA.out HLX.out (by omega) (HN.out.2.2.trans (((below_alloc _ _).trans (hb.mono (by simp only [World.size_alloc]; omega))).mono (by simp only [World.size_alloc]; omega))) (there_below (there_below HN.out.1 (below_alloc _ _)) hb) (there_below (there_below HN.out.2.1 (below_alloc _ _)) hb)
  have HT1 := Lib.hid t1
  have HT2 := Lib.hid t2
  have HR1 := Lib.hid r1
  have HR2 := Lib.hid r2
  have HB2 := Lib.hid b2
  clear t1 t2 r1 r2 b2
  clear hb HN TD DC
  go_wp2_with (first
    | ((with_reducible show wpList _ _ _ (Oper.mk none (Op.store 32 (.tmp 10) _) _ _ _ _ :: _) _ _); refine wpList_store_mid (by rfl) 32 (.tmp 10) (.tmp 113) (by rfl) (w.heap.size + 1 + 1) 0 A.toArray (by rfl) (by rfl) HT1.out (by rw [List.size_toArray, HLA.out]; kernel_rfl) (all_oneCell_toArray HOA.out) ?_; rw [show A.toArray.toList = A from rfl])
    | ((with_reducible show wpList _ _ _ (Oper.mk none (Op.store 49 (.tmp 11) _) _ _ _ _ :: _) _ _); refine wpList_store_mid (by rfl) 49 (.tmp 11) (.tmp 114) (by rfl) (w.heap.size + 1 + 1 + 1) 0 X.toArray (by rfl) (by rfl) HT2.out (by rw [List.size_toArray, HLX.out]; kernel_rfl) (all_oneCell_toArray HOX.out) ?_; rw [show X.toArray.toList = X from rfl]))
  refine bodyPost_ret (v := .tuple #[.agg A.toArray, .agg X.toArray, .bool k, .bool d]) (res4 Tryd.results20 rfl rfl rfl rfl HR1.out HR2.out HLA.out HLX.out) rfl ⟨rfl, HB2.out⟩
end Go.Proofs.YtpkmfckifnomeaaDoor
