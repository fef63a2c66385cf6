/-
  Next.
-/
import Derived.Test.YtpkmfckifnomeaaDoorNx6
namespace Go.Proofs.YtpkmfckifnomeaaDoor
open Go.RowKit

open Go.Lib (TabIs pow10Tab)
set_option maxRecDepth 100000 in
set_option maxHeartbeats 2000000 in
theorem next_set (b : Bool) (now : Int) (ka : Option Addr) (kn kc : Nat) (fl exp by_ cas : Int) (dd : Nat) (qu : Bool) (da : ByteArray) (e : En) (ver : Int) (hk : e.key.size ≤ 281474976710656) (hv : e.val.size ≤ 140737488355328) (hdz : da.size ≤ 140737488355328) (w : World) : Calls Tryd.prog 20 #[.agg #[Value.int .i64 3, .slice ka kn kc, .int .i64 fl, .int .i64 exp, .int .i64 by_, .int .i64 cas, .int .u64 (dd : Int), .bool qu, .string da], .agg #[Value.string e.key, .int .i64 e.fl, .int .i64 e.dl, .string e.val, .int .i64 e.cas], .bool b, .int .i64 now, .int .i64 ver] w (OutQ w (kpt (ab 2) ⟨e.key, fl, dl exp now, da, ver⟩)) := by
  have hall := And.intro hk (And.intro hv hdz)
  clear hall
  obtain ⟨D, hD⟩ : ∃ D, dl exp now = D := ⟨_, rfl⟩
  have DC := Lib.hid (dead_c exp now D hD)
  try rw [hD]
  clear hD
  obtain ⟨q, hq⟩ : ∃ q, (kpt (ab 2) ⟨e.key, fl, D, da, ver⟩) = q := ⟨_, rfl⟩
  rw [hq]
  unfold OutQ
  obtain ⟨A, hA⟩ : ∃ A, A = q.1.cs := ⟨_, rfl⟩
  obtain ⟨X, hX⟩ : ∃ X, X = q.2.1.cs := ⟨_, rfl⟩
  obtain ⟨k, hkk⟩ : ∃ k, k = q.2.2.1 := ⟨_, rfl⟩
  obtain ⟨d, hdd⟩ : ∃ d, d = q.2.2.2 := ⟨_, rfl⟩
  have HLA : Hid (A.length = 9) := Lib.hid (by rw [hA]; rfl)
  have HOA : Hid (∀ u ∈ A, u.oneCell' = true) := Lib.hid (by rw [hA]; exact Ab.one _)
  have HLX : Hid (X.length = 5) := Lib.hid (by rw [hX]; rfl)
  have HOX : Hid (∀ u ∈ X, u.oneCell' = true) := Lib.hid (by rw [hX]; exact En.one _)
  rw [← hA, ← hX, ← hkk, ← hdd]
  have HN : Hid (((((w.alloc (.cells #[Value.int .i64 3, .slice ka kn kc, .int .i64 fl, .int .i64 exp, .int .i64 by_, .int .i64 cas, .int .u64 (dd : Int), .bool qu, .string da] 27)).alloc (.cells #[Value.string e.key, .int .i64 e.fl, .int .i64 e.dl, .string e.val, .int .i64 e.cas] 49)).alloc (.cells zA.toArray 32)).alloc (.cells e0.cs.toArray 49)).there (w.heap.size + 1 + 1) 0 9 ∧ ((((w.alloc (.cells #[Value.int .i64 3, .slice ka kn kc, .int .i64 fl, .int .i64 exp, .int .i64 by_, .int .i64 cas, .int .u64 (dd : Int), .bool qu, .string da] 27)).alloc (.cells #[Value.string e.key, .int .i64 e.fl, .int .i64 e.dl, .string e.val, .int .i64 e.cas] 49)).alloc (.cells zA.toArray 32)).alloc (.cells e0.cs.toArray 49)).there (w.heap.size + 1 + 1 + 1) 0 5 ∧ Below w.heap.size w ((((w.alloc (.cells #[Value.int .i64 3, .slice ka kn kc, .int .i64 fl, .int .i64 exp, .int .i64 by_, .int .i64 cas, .int .u64 (dd : Int), .bool qu, .string da] 27)).alloc (.cells #[Value.string e.key, .int .i64 e.fl, .int .i64 e.dl, .string e.val, .int .i64 e.cas] 49)).alloc (.cells zA.toArray 32)).alloc (.cells e0.cs.toArray 49))) := Lib.hid (by
    obtain ⟨n1, n2, n3⟩ := two_new ((w.alloc (.cells #[Value.int .i64 3, .slice ka kn kc, .int .i64 fl, .int .i64 exp, .int .i64 by_, .int .i64 cas, .int .u64 (dd : Int), .bool qu, .string da] 27)).alloc (.cells #[Value.string e.key, .int .i64 e.fl, .int .i64 e.dl, .string e.val, .int .i64 e.cas] 49)) (X := zA.toArray) (Y := e0.cs.toArray) rfl rfl
    simp only [World.size_alloc] at n1 n2
    exact ⟨n1, n2, ((below_alloc w _).trans ((((below_alloc (w.alloc (.cells #[Value.int .i64 3, .slice ka kn kc, .int .i64 fl, .int .i64 exp, .int .i64 by_, .int .i64 cas, .int .u64 (dd : Int), .bool qu, .string da] 27)) _).trans ((n3).mono (by simp only [World.size_alloc]; omega)))).mono (by simp only [World.size_alloc]; omega)))⟩)
  have TD : Hid (∀ W, Calls Tryd.prog 34 #[.agg #[Value.int .i64 2, .slice none 0 0, .bool false, .int .u64 0, .string ⟨#[]⟩, .int .i64 0, .int .i64 0, .int .i64 0, .int .i64 0], .agg #[Value.string e.key, .int .i64 fl, .int .i64 D, .string da, .int .i64 ver]] W (Out W A X k d)) := Lib.hid (fun W => by rw [hA, hX, hkk, hdd, ← hq]; exact kept_any _ rfl (Ab.one _) ⟨e.key, fl, D, da, ver⟩ hk (by show da.size ≤ _; omega) W)
  clear hA hX hkk hdd hq
  go_enter Tryd.func20, Tryd.ntmps20
  go_wp2_with fail
  refine (DC.out _).mono ?_
  rintro e1 w0 ⟨rfl, rfl⟩
  go_wp2_with fail
  refine (TD.out _).mono ?_
  rintro e1 w1 ⟨rfl, hb⟩
  obtain ⟨t1, t2, r1, r2, b2⟩ := two_fin (w := w) (W := w1) (b := w.heap.size + 1 + 1) HLA.out HLX.out (by omega) (HN.out.2.2.trans (((below_alloc _ _).trans (hb.mono (by simp only [World.size_alloc]; omega))).mono (by simp only [World.size_alloc]; omega))) (there_below (there_below HN.out.1 (below_alloc _ _)) hb) (there_below (there_below HN.out.2.1 (below_alloc _ _)) hb)
  have HT1 := Lib.hid t1
  have HT2 := Lib.hid t2
  have HR1 := Lib.hid r1
  have HR2 := Lib.hid r2
  have HB2 := Lib.hid b2
  clear t1 t2 r1 r2 b2
  clear hb HN TD DC
  go_wp2_with (first
    | ((with_reducible show wpList _ _ _ (Oper.mk none (Op.store 32 (.tmp 10) _) _ _ _ _ :: _) _ _); refine wpList_store_mid (by rfl) 32 (.tmp 10) (.tmp 36) (by rfl) (w.heap.size + 1 + 1) 0 A.toArray (by rfl) (by rfl) HT1.out (by rw [List.size_toArray, HLA.out]; kernel_rfl) (all_oneCell_toArray HOA.out) ?_; rw [show A.toArray.toList = A from rfl])
    | ((with_reducible show wpList _ _ _ (Oper.mk none (Op.store 49 (.tmp 11) _) _ _ _ _ :: _) _ _); refine wpList_store_mid (by rfl) 49 (.tmp 11) (.tmp 37) (by rfl) (w.heap.size + 1 + 1 + 1) 0 X.toArray (by rfl) (by rfl) HT2.out (by rw [List.size_toArray, HLX.out]; kernel_rfl) (all_oneCell_toArray HOX.out) ?_; rw [show X.toArray.toList = X from rfl]))
  refine bodyPost_ret (v := .tuple #[.agg A.toArray, .agg X.toArray, .bool k, .bool d]) (res4 Tryd.results20 rfl rfl rfl rfl HR1.out HR2.out HLA.out HLX.out) rfl ⟨rfl, HB2.out⟩
set_option maxRecDepth 100000 in
set_option maxHeartbeats 2000000 in
theorem next_add (b : Bool) (now : Int) (ka : Option Addr) (kn kc : Nat) (fl exp by_ cas : Int) (dd : Nat) (qu : Bool) (da : ByteArray) (e : En) (ver : Int) (hk : e.key.size ≤ 281474976710656) (hv : e.val.size ≤ 140737488355328) (hdz : da.size ≤ 140737488355328) (w : World) : Calls Tryd.prog 20 #[.agg #[Value.int .i64 4, .slice ka kn kc, .int .i64 fl, .int .i64 exp, .int .i64 by_, .int .i64 cas, .int .u64 (dd : Int), .bool qu, .string da], .agg #[Value.string e.key, .int .i64 e.fl, .int .i64 e.dl, .string e.val, .int .i64 e.cas], .bool b, .int .i64 now, .int .i64 ver] w (OutQ w (if (!b) = false then tld (ab 3) else kpt (ab 2) ⟨e.key, fl, dl exp now, da, ver⟩)) := by
  have hall := And.intro hk (And.intro hv hdz)
  clear hall
  obtain ⟨D, hD⟩ : ∃ D, dl exp now = D := ⟨_, rfl⟩
  have DC := Lib.hid (dead_c exp now D hD)
  try rw [hD]
  clear hD
  obtain ⟨q, hq⟩ : ∃ q, (if (!b) = false then tld (ab 3) else kpt (ab 2) ⟨e.key, fl, D, da, ver⟩) = q := ⟨_, rfl⟩
  rw [hq]
  unfold OutQ
  obtain ⟨A, hA⟩ : ∃ A, A = q.1.cs := ⟨_, rfl⟩
  obtain ⟨X, hX⟩ : ∃ X, X = q.2.1.cs := ⟨_, rfl⟩
  obtain ⟨k, hkk⟩ : ∃ k, k = q.2.2.1 := ⟨_, rfl⟩
  obtain ⟨d, hdd⟩ : ∃ d, d = q.2.2.2 := ⟨_, rfl⟩
  have HLA : Hid (A.length = 9) := Lib.hid (by rw [hA]; rfl)
  have HOA : Hid (∀ u ∈ A, u.oneCell' = true) := Lib.hid (by rw [hA]; exact Ab.one _)
  have HLX : Hid (X.length = 5) := Lib.hid (by rw [hX]; rfl)
  have HOX : Hid (∀ u ∈ X, u.oneCell' = true) := Lib.hid (by rw [hX]; exact En.one _)
  rw [← hA, ← hX, ← hkk, ← hdd]
  have HN : Hid (((((w.alloc (.cells #[Value.int .i64 4, .slice ka kn kc, .int .i64 fl, .int .i64 exp, .int .i64 by_, .int .i64 cas, .int .u64 (dd : Int), .bool qu, .string da] 27)).alloc (.cells #[Value.string e.key, .int .i64 e.fl, .int .i64 e.dl, .string e.val, .int .i64 e.cas] 49)).alloc (.cells zA.toArray 32)).alloc (.cells e0.cs.toArray 49)).there (w.heap.size + 1 + 1) 0 9 ∧ ((((w.alloc (.cells #[Value.int .i64 4, .slice ka kn kc, .int .i64 fl, .int .i64 exp, .int .i64 by_, .int .i64 cas, .int .u64 (dd : Int), .bool qu, .string da] 27)).alloc (.cells #[Value.string e.key, .int .i64 e.fl, .int .i64 e.dl, .string e.val, .int .i64 e.cas] 49)).alloc (.cells zA.toArray 32)).alloc (.cells e0.cs.toArray 49)).there (w.heap.size + 1 + 1 + 1) 0 5 ∧ Below w.heap.size w ((((w.alloc (.cells #[Value.int .i64 4, .slice ka kn kc, .int .i64 fl, .int .i64 exp, .int .i64 by_, .int .i64 cas, .int .u64 (dd : Int), .bool qu, .string da] 27)).alloc (.cells #[Value.string e.key, .int .i64 e.fl, .int .i64 e.dl, .string e.val, .int .i64 e.cas] 49)).alloc (.cells zA.toArray 32)).alloc (.cells e0.cs.toArray 49))) := Lib.hid (by
    obtain ⟨n1, n2, n3⟩ := two_new ((w.alloc (.cells #[Value.int .i64 4, .slice ka kn kc, .int .i64 fl, .int .i64 exp, .int .i64 by_, .int .i64 cas, .int .u64 (dd : Int), .bool qu, .string da] 27)).alloc (.cells #[Value.string e.key, .int .i64 e.fl, .int .i64 e.dl, .string e.val, .int .i64 e.cas] 49)) (X := zA.toArray) (Y := e0.cs.toArray) rfl rfl
    simp only [World.size_alloc] at n1 n2
    exact ⟨n1, n2, ((below_alloc w _).trans ((((below_alloc (w.alloc (.cells #[Value.int .i64 4, .slice ka kn kc, .int .i64 fl, .int .i64 exp, .int .i64 by_, .int .i64 cas, .int .u64 (dd : Int), .bool qu, .string da] 27)) _).trans ((n3).mono (by simp only [World.size_alloc]; omega)))).mono (by simp only [World.size_alloc]; omega)))⟩)
  have TD : Hid (∀ W, Calls Tryd.prog 35 #[.bool (!b), .agg #[Value.string e.key, .int .i64 fl, .int .i64 D, .string da, .int .i64 ver]] W (Out W A X k d)) := Lib.hid (fun W => by rw [hA, hX, hkk, hdd, ← hq]; exact stored_any (!b) ⟨e.key, fl, D, da, ver⟩ hk (by show da.size ≤ _; omega) W)
  clear hA hX hkk hdd hq
  go_enter Tryd.func20, Tryd.ntmps20
  go_wp2_with fail
  refine (DC.out _).mono ?_
  rintro e1 w0 ⟨rfl, rfl⟩
  go_wp2_with fail
  refine (TD.out _).mono ?_
  rintro e1 w1 ⟨rfl, hb⟩
  obtain ⟨t1, t2, r1, r2, b2⟩ := two_fin (w := w) (W := w1) (b := w.heap.size + 1 + 1) HLA.out HLX.out (by omega) (HN.out.2.2.trans (((below_alloc _ _).trans (hb.mono (by simp only [World.size_alloc]; omega))).mono (by simp only [World.size_alloc]; omega))) (there_below (there_below HN.out.1 (below_alloc _ _)) hb) (there_below (there_below HN.out.2.1 (below_alloc _ _)) hb)
  have HT1 := Lib.hid t1
  have HT2 := Lib.hid t2
  have HR1 := Lib.hid r1
  have HR2 := Lib.hid r2
  have HB2 := Lib.hid b2
  clear t1 t2 r1 r2 b2
  clear hb HN TD DC
  go_wp2_with (first
    | ((with_reducible show wpList _ _ _ (Oper.mk none (Op.store 32 (.tmp 10) _) _ _ _ _ :: _) _ _); refine wpList_store_mid (by rfl) 32 (.tmp 10) (.tmp 46) (by rfl) (w.heap.size + 1 + 1) 0 A.toArray (by rfl) (by rfl) HT1.out (by rw [List.size_toArray, HLA.out]; kernel_rfl) (all_oneCell_toArray HOA.out) ?_; rw [show A.toArray.toList = A from rfl])
    | ((with_reducible show wpList _ _ _ (Oper.mk none (Op.store 49 (.tmp 11) _) _ _ _ _ :: _) _ _); refine wpList_store_mid (by rfl) 49 (.tmp 11) (.tmp 47) (by rfl) (w.heap.size + 1 + 1 + 1) 0 X.toArray (by rfl) (by rfl) HT2.out (by rw [List.size_toArray, HLX.out]; kernel_rfl) (all_oneCell_toArray HOX.out) ?_; rw [show X.toArray.toList = X from rfl]))
  refine bodyPost_ret (v := .tuple #[.agg A.toArray, .agg X.toArray, .bool k, .bool d]) (res4 Tryd.results20 rfl rfl rfl rfl HR1.out HR2.out HLA.out HLX.out) rfl ⟨rfl, HB2.out⟩
set_option maxRecDepth 100000 in
set_option maxHeartbeats 2000000 in
theorem next_rep (b : Bool) (now : Int) (ka : Option Addr) (kn kc : Nat) (fl exp by_ cas : Int) (dd : Nat) (qu : Bool) (da : ByteArray) (e : En) (ver : Int) (hk : e.key.size ≤ 281474976710656) (hv : e.val.size ≤ 140737488355328) (hdz : da.size ≤ 140737488355328) (w : World) : Calls Tryd.prog 20 #[.agg #[Value.int .i64 5, .slice ka kn kc, .int .i64 fl, .int .i64 exp, .int .i64 by_, .int .i64 cas, .int .u64 (dd : Int), .bool qu, .string da], .agg #[Value.string e.key, .int .i64 e.fl, .int .i64 e.dl, .string e.val, .int .i64 e.cas], .bool b, .int .i64 now, .int .i64 ver] w (OutQ w (if b = false then tld (ab 3) else kpt (ab 2) ⟨e.key, fl, dl exp now, da, ver⟩)) := by
  have hall := And.intro hk (And.intro hv hdz)
  clear hall
  obtain ⟨D, hD⟩ : ∃ D, dl exp now = D := ⟨_, rfl⟩
  have DC := Lib.hid (dead_c exp now D hD)
  try rw [hD]
  clear hD
  obtain ⟨q, hq⟩ : ∃ q, (if b = false then tld (ab 3) else kpt (ab 2) ⟨e.key, fl, D, da, ver⟩) = q := ⟨_, rfl⟩
  rw [hq]
  unfold OutQ
  obtain ⟨A, hA⟩ : ∃ A, A = q.1.cs := ⟨_, rfl⟩
  obtain ⟨X, hX⟩ : ∃ X, X = q.2.1.cs := ⟨_, rfl⟩
  obtain ⟨k, hkk⟩ : ∃ k, k = q.2.2.1 := ⟨_, rfl⟩
  obtain ⟨d, hdd⟩ : ∃ d, d = q.2.2.2 := ⟨_, rfl⟩
  have HLA : Hid (A.length = 9) := Lib.hid (by rw [hA]; rfl)
  have HOA : Hid (∀ u ∈ A, u.oneCell' = true) := Lib.hid (by rw [hA]; exact Ab.one _)
  have HLX : Hid (X.length = 5) := Lib.hid (by rw [hX]; rfl)
  have HOX : Hid (∀ u ∈ X, u.oneCell' = true) := Lib.hid (by rw [hX]; exact En.one _)
  rw [← hA, ← hX, ← hkk, ← hdd]
  have HN : Hid (((((w.alloc (.cells #[Value.int .i64 5, .slice ka kn kc, .int .i64 fl, .int .i64 exp, .int .i64 by_, .int .i64 cas, .int .u64 (dd : Int), .bool qu, .string da] 27)).alloc (.cells #[Value.string e.key, .int .i64 e.fl, .int .i64 e.dl, .string e.val, .int .i64 e.cas] 49)).alloc (.cells zA.toArray 32)).alloc (.cells e0.cs.toArray 49)).there (w.heap.size + 1 + 1) 0 9 ∧ ((((w.alloc (.cells #[Value.int .i64 5, .slice ka kn kc, .int .i64 fl, .int .i64 exp, .int .i64 by_, .int .i64 cas, .int .u64 (dd : Int), .bool qu, .string da] 27)).alloc (.cells #[Value.string e.key, .int .i64 e.fl, .int .i64 e.dl, .string e.val, .int .i64 e.cas] 49)).alloc (.cells zA.toArray 32)).alloc (.cells e0.cs.toArray 49)).there (w.heap.size + 1 + 1 + 1) 0 5 ∧ Below w.heap.size w ((((w.alloc (.cells #[Value.int .i64 5, .slice ka kn kc, .int .i64 fl, .int .i64 exp, .int .i64 by_, .int .i64 cas, .int .u64 (dd : Int), .bool qu, .string da] 27)).alloc (.cells #[Value.string e.key, .int .i64 e.fl, .int .i64 e.dl, .string e.val, .int .i64 e.cas] 49)).alloc (.cells zA.toArray 32)).alloc (.cells e0.cs.toArray 49))) := Lib.hid (by
    obtain ⟨n1, n2, n3⟩ := two_new ((w.alloc (.cells #[Value.int .i64 5, .slice ka kn kc, .int .i64 fl, .int .i64 exp, .int .i64 by_, .int .i64 cas, .int .u64 (dd : Int), .bool qu, .string da] 27)).alloc (.cells #[Value.string e.key, .int .i64 e.fl, .int .i64 e.dl, .string e.val, .int .i64 e.cas] 49)) (X := zA.toArray) (Y := e0.cs.toArray) rfl rfl
    simp only [World.size_alloc] at n1 n2
    exact ⟨n1, n2, ((below_alloc w _).trans ((((below_alloc (w.alloc (.cells #[Value.int .i64 5, .slice ka kn kc, .int .i64 fl, .int .i64 exp, .int .i64 by_, .int .i64 cas, .int .u64 (dd : Int), .bool qu, .string da] 27)) _).trans ((n3).mono (by simp only [World.size_alloc]; omega)))).mono (by simp only [World.size_alloc]; omega)))⟩)
  have TD : Hid (∀ W, Calls Tryd.prog 35 #[.bool b, .agg #[Value.string e.key, .int .i64 fl, .int .i64 D, .string da, .int .i64 ver]] W (Out W A X k d)) := Lib.hid (fun W => by rw [hA, hX, hkk, hdd, ← hq]; exact stored_any b ⟨e.key, fl, D, da, ver⟩ hk (by show da.size ≤ _; omega) W)
  clear hA hX hkk hdd hq
  go_enter Tryd.func20, Tryd.ntmps20
  go_wp2_with fail
  refine (DC.out _).mono ?_
  rintro e1 w0 ⟨rfl, rfl⟩
  go_wp2_with fail
  refine (TD.out _).mono ?_
  rintro e1 w1 ⟨rfl, hb⟩
  obtain ⟨t1, t2, r1, r2, b2⟩ := two_fin (w := w) (W := w1) (b := w.heap.size + 1 + 1) HLA.out HLX.out (by omega) (HN.out.2.2.trans (((below_alloc _ _).trans (hb.mono (by simp only [World.size_alloc]; omega))).mono (by simp only [World.size_alloc]; omega))) (there_below (there_below HN.out.1 (below_alloc _ _)) hb) (there_below (there_below HN.out.2.1 (below_alloc _ _)) hb)
  have HT1 := Lib.hid t1
  have HT2 := Lib.hid t2
  have HR1 := Lib.hid r1
  have HR2 := Lib.hid r2
  have HB2 := Lib.hid b2
  clear t1 t2 r1 r2 b2
  clear hb HN TD DC
  go_wp2_with (first
    | ((with_reducible show wpList _ _ _ (Oper.mk none (Op.store 32 (.tmp 10) _) _ _ _ _ :: _) _ _); refine wpList_store_mid (by rfl) 32 (.tmp 10) (.tmp 55) (by rfl) (w.heap.size + 1 + 1) 0 A.toArray (by rfl) (by rfl) HT1.out (by rw [List.size_toArray, HLA.out]; kernel_rfl) (all_oneCell_toArray HOA.out) ?_; rw [show A.toArray.toList = A from rfl])
    | ((with_reducible show wpList _ _ _ (Oper.mk none (Op.store 49 (.tmp 11) _) _ _ _ _ :: _) _ _); refine wpList_store_mid (by rfl) 49 (.tmp 11) (.tmp 56) (by rfl) (w.heap.size + 1 + 1 + 1) 0 X.toArray (by rfl) (by rfl) HT2.out (by rw [List.size_toArray, HLX.out]; kernel_rfl) (all_oneCell_toArray HOX.out) ?_; rw [show X.toArray.toList = X from rfl]))
  refine bodyPost_ret (v := .tuple #[.agg A.toArray, .agg X.toArray, .bool k, .bool d]) (res4 Tryd.results20 rfl rfl rfl rfl HR1.out HR2.out HLA.out HLX.out) rfl ⟨rfl, HB2.out⟩
set_option maxRecDepth 100000 in
set_option maxHeartbeats 2000000 in
theorem next_app (b : Bool) (now : Int) (ka : Option Addr) (kn kc : Nat) (fl exp by_ cas : Int) (dd : Nat) (qu : Bool) (da : ByteArray) (e : En) (ver : Int) (hk : e.key.size ≤ 281474976710656) (hv : e.val.size ≤ 140737488355328) (hdz : da.size ≤ 140737488355328) (w : World) : Calls Tryd.prog 20 #[.agg #[Value.int .i64 6, .slice ka kn kc, .int .i64 fl, .int .i64 exp, .int .i64 by_, .int .i64 cas, .int .u64 (dd : Int), .bool qu, .string da], .agg #[Value.string e.key, .int .i64 e.fl, .int .i64 e.dl, .string e.val, .int .i64 e.cas], .bool b, .int .i64 now, .int .i64 ver] w (OutQ w (joi e b (e.val ++ da) ver)) := by
  have hall := And.intro hk (And.intro hv hdz)
  clear hall
  obtain ⟨D, hD⟩ : ∃ D, dl exp now = D := ⟨_, rfl⟩
  have DC := Lib.hid (dead_c exp now D hD)
  try rw [hD]
  clear hD
  obtain ⟨q, hq⟩ : ∃ q, (joi e b (e.val ++ da) ver) = q := ⟨_, rfl⟩
  rw [hq]
  unfold OutQ
  obtain ⟨A, hA⟩ : ∃ A, A = q.1.cs := ⟨_, rfl⟩
  obtain ⟨X, hX⟩ : ∃ X, X = q.2.1.cs := ⟨_, rfl⟩
  obtain ⟨k, hkk⟩ : ∃ k, k = q.2.2.1 := ⟨_, rfl⟩
  obtain ⟨d, hdd⟩ : ∃ d, d = q.2.2.2 := ⟨_, rfl⟩
  have HLA : Hid (A.length = 9) := Lib.hid (by rw [hA]; rfl)
  have HOA : Hid (∀ u ∈ A, u.oneCell' = true) := Lib.hid (by rw [hA]; exact Ab.one _)
  have HLX : Hid (X.length = 5) := Lib.hid (by rw [hX]; rfl)
  have HOX : Hid (∀ u ∈ X, u.oneCell' = true) := Lib.hid (by rw [hX]; exact En.one _)
  rw [← hA, ← hX, ← hkk, ← hdd]
  have HN : Hid (((((w.alloc (.cells #[Value.int .i64 6, .slice ka kn kc, .int .i64 fl, .int .i64 exp, .int .i64 by_, .int .i64 cas, .int .u64 (dd : Int), .bool qu, .string da] 27)).alloc (.cells #[Value.string e.key, .int .i64 e.fl, .int .i64 e.dl, .string e.val, .int .i64 e.cas] 49)).alloc (.cells zA.toArray 32)).alloc (.cells e0.cs.toArray 49)).there (w.heap.size + 1 + 1) 0 9 ∧ ((((w.alloc (.cells #[Value.int .i64 6, .slice ka kn kc, .int .i64 fl, .int .i64 exp, .int .i64 by_, .int .i64 cas, .int .u64 (dd : Int), .bool qu, .string da] 27)).alloc (.cells #[Value.string e.key, .int .i64 e.fl, .int .i64 e.dl, .string e.val, .int .i64 e.cas] 49)).alloc (.cells zA.toArray 32)).alloc (.cells e0.cs.toArray 49)).there (w.heap.size + 1 + 1 + 1) 0 5 ∧ Below w.heap.size w ((((w.alloc (.cells #[Value.int .i64 6, .slice ka kn kc, .int .i64 fl, .int .i64 exp, .int .i64 by_, .int .i64 cas, .int .u64 (dd : Int), .bool qu, .string da] 27)).alloc (.cells #[Value.string e.key, .int .i64 e.fl, .int .i64 e.dl, .string e.val, .int .i64 e.cas] 49)).alloc (.cells zA.toArray 32)).alloc (.cells e0.cs.toArray 49))) := Lib.hid (by
    obtain ⟨n1, n2, n3⟩ := two_new ((w.alloc (.cells #[Value.int .i64 6, .slice ka kn kc, .int .i64 fl, .int .i64 exp, .int .i64 by_, .int .i64 cas, .int .u64 (dd : Int), .bool qu, .string da] 27)).alloc (.cells #[Value.string e.key, .int .i64 e.fl, .int .i64 e.dl, .string e.val, .int .i64 e.cas] 49)) (X := zA.toArray) (Y := e0.cs.toArray) rfl rfl
    simp only [World.size_alloc] at n1 n2
    exact ⟨n1, n2, ((below_alloc w _).trans ((((below_alloc (w.alloc (.cells #[Value.int .i64 6, .slice ka kn kc, .int .i64 fl, .int .i64 exp, .int .i64 by_, .int .i64 cas, .int .u64 (dd : Int), .bool qu, .string da] 27)) _).trans ((n3).mono (by simp only [World.size_alloc]; omega)))).mono (by simp only [World.size_alloc]; omega)))⟩)
  have TD : Hid (∀ W, Calls Tryd.prog 36 #[.agg #[Value.string e.key, .int .i64 e.fl, .int .i64 e.dl, .string e.val, .int .i64 e.cas], .bool b, .string e.val, .string da, .int .i64 ver] W (Out W A X k d)) := Lib.hid (fun W => by rw [hA, hX, hkk, hdd, ← hq]; exact joined_any b e e.val da ver hv hdz hk W)
  clear hA hX hkk hdd hq
  go_enter Tryd.func20, Tryd.ntmps20
  go_wp2_with fail
  refine (DC.out _).mono ?_
  rintro e1 w0 ⟨rfl, rfl⟩
  go_wp2_with fail
  refine (TD.out _).mono ?_
  rintro e1 w1 ⟨rfl, hb⟩
  obtain ⟨t1, t2, r1, r2, b2⟩ := two_fin (w := w) (W := w1) (b := w.heap.size + 1 + 1) HLA.out HLX.out (by omega) (HN.out.2.2.trans (((below_alloc _ _).trans (hb.mono (by simp only [World.size_alloc]; omega))).mono (by simp only [World.size_alloc]; omega))) (there_below (there_below HN.out.1 (below_alloc _ _)) hb) (there_below (there_below HN.out.2.1 (below_alloc _ _)) hb)
  have HT1 := Lib.hid t1
  have HT2 := Lib.hid t2
  have HR1 := Lib.hid r1
  have HR2 := Lib.hid r2
  have HB2 := Lib.hid b2
  clear t1 t2 r1 r2 b2
  clear hb HN TD DC
  go_wp2_with (first
    | ((with_reducible show wpList _ _ _ (Oper.mk none (Op.store 32 (.tmp 10) _) _ _ _ _ :: _) _ _); refine wpList_store_mid (by rfl) 32 (.tmp 10) (.tmp 69) (by rfl) (w.heap.size + 1 + 1) 0 A.toArray (by rfl) (by rfl) HT1.out (by rw [List.size_toArray, HLA.out]; kernel_rfl) (all_oneCell_toArray HOA.out) ?_; rw [show A.toArray.toList = A from rfl])
    | ((with_reducible show wpList _ _ _ (Oper.mk none (Op.store 49 (.tmp 11) _) _ _ _ _ :: _) _ _); refine wpList_store_mid (by rfl) 49 (.tmp 11) (.tmp 70) (by rfl) (w.heap.size + 1 + 1 + 1) 0 X.toArray (by rfl) (by rfl) HT2.out (by rw [List.size_toArray, HLX.out]; kernel_rfl) (all_oneCell_toArray HOX.out) ?_; rw [show X.toArray.toList = X from rfl]))
  refine bodyPost_ret (v := .tuple #[.agg A.toArray, .agg X.toArray, .bool k, .bool d]) (res4 Tryd.results20 rfl rfl rfl rfl HR1.out HR2.out HLA.out HLX.out) rfl ⟨rfl, HB2.out⟩
end Go.Proofs.YtpkmfckifnomeaaDoor


namespace Go.Proofs.YtpkmfckifnomeaaDoor
open Go.RowKit

open Go.Lib (TabIs pow10Tab)
set_option maxRecDepth 100000 in
set_option maxHeartbeats 2000000 in
theorem next_pre (b : Bool) (now : Int) (ka : Option Addr) (kn kc : Nat) (fl exp by_ cas : Int) (dd : Nat) (qu : Bool) (da : ByteArray) (e : En) (ver : Int) (hk : e.key.size ≤ 281474976710656) (hv : e.val.size ≤ 140737488355328) (hdz : da.size ≤ 140737488355328) (w : World) : Calls Tryd.prog 20 #[.agg #[Value.int .i64 7, .slice ka kn kc, .int .i64 fl, .int .i64 exp, .int .i64 by_, .int .i64 cas, .int .u64 (dd : Int), .bool qu, .string da], .agg #[Value.string e.key, .int .i64 e.fl, .int .i64 e.dl, .string e.val, .int .i64 e.cas], .bool b, .int .i64 now, .int .i64 ver] w (OutQ w (joi e b (da ++ e.val) ver)) := by
  have hall := And.intro hk (And.intro hv hdz)
  clear hall
  obtain ⟨D, hD⟩ : ∃ D, dl exp now = D := ⟨_, rfl⟩
  have DC := Lib.hid (dead_c exp now D hD)
  try rw [hD]
  clear hD
  obtain ⟨q, hq⟩ : ∃ q, (joi e b (da ++ e.val) ver) = q := ⟨_, rfl⟩
  rw [hq]
  unfold OutQ
  obtain ⟨A, hA⟩ : ∃ A, A = q.1.cs := ⟨_, rfl⟩
  obtain ⟨X, hX⟩ : ∃ X, X = q.2.1.cs := ⟨_, rfl⟩
  obtain ⟨k, hkk⟩ : ∃ k, k = q.2.2.1 := ⟨_, rfl⟩
  obtain ⟨d, hdd⟩ : ∃ d, d = q.2.2.2 := ⟨_, rfl⟩
  have HLA : Hid (A.length = 9) := Lib.hid (by rw [hA]; rfl)
  have HOA : Hid (∀ u ∈ A, u.oneCell' = true) := Lib.hid (by rw [hA]; exact Ab.one _)
  have HLX : Hid (X.length = 5) := Lib.hid (by rw [hX]; rfl)
  have HOX : Hid (∀ u ∈ X, u.oneCell' = true) := Lib.hid (by rw [hX]; exact En.one _)
  rw [← hA, ← hX, ← hkk, ← hdd]
  have HN : Hid (((((w.alloc (.cells #[Value.int .i64 7, .slice ka kn kc, .int .i64 fl, .int .i64 exp, .int .i64 by_, .int .i64 cas, .int .u64 (dd : Int), .bool qu, .string da] 27)).alloc (.cells #[Value.string e.key, .int .i64 e.fl, .int .i64 e.dl, .string e.val, .int .i64 e.cas] 49)).alloc (.cells zA.toArray 32)).alloc (.cells e0.cs.toArray 49)).there (w.heap.size + 1 + 1) 0 9 ∧ ((((w.alloc (.cells #[Value.int .i64 7, .slice ka kn kc, .int .i64 fl, .int .i64 exp, .int .i64 by_, .int .i64 cas, .int .u64 (dd : Int), .bool qu, .string da] 27)).alloc (.cells #[Value.string e.key, .int .i64 e.fl, .int .i64 e.dl, .string e.val, .int .i64 e.cas] 49)).alloc (.cells zA.toArray 32)).alloc (.cells e0.cs.toArray 49)).there (w.heap.size + 1 + 1 + 1) 0 5 ∧ Below w.heap.size w ((((w.alloc (.cells #[Value.int .i64 7, .slice ka kn kc, .int .i64 fl, .int .i64 exp, .int .i64 by_, .int .i64 cas, .int .u64 (dd : Int), .bool qu, .string da] 27)).alloc (.cells #[Value.string e.key, .int .i64 e.fl, .int .i64 e.dl, .string e.val, .int .i64 e.cas] 49)).alloc (.cells zA.toArray 32)).alloc (.cells e0.cs.toArray 49))) := Lib.hid (by
    obtain ⟨n1, n2, n3⟩ := two_new ((w.alloc (.cells #[Value.int .i64 7, .slice ka kn kc, .int .i64 fl, .int .i64 exp, .int .i64 by_, .int .i64 cas, .int .u64 (dd : Int), .bool qu, .string da] 27)).alloc (.cells #[Value.string e.key, .int .i64 e.fl, .int .i64 e.dl, .string e.val, .int .i64 e.cas] 49)) (X := zA.toArray) (Y := e0.cs.toArray) rfl rfl
    simp only [World.size_alloc] at n1 n2
    exact ⟨n1, n2, ((below_alloc w _).trans ((((below_alloc (w.alloc (.cells #[Value.int .i64 7, .slice ka kn kc, .int .i64 fl, .int .i64 exp, .int .i64 by_, .int .i64 cas, .int .u64 (dd : Int), .bool qu, .string da] 27)) _).trans ((n3).mono (by simp only [World.size_alloc]; omega)))).mono (by simp only [World.size_alloc]; omega)))⟩)
  have TD : Hid (∀ W, Calls Tryd.prog 36 #[.agg #[Value.string e.key, .int .i64 e.fl, .int .i64 e.dl, .string e.val, .int .i64 e.cas], .bool b, .string da, .string e.val, .int .i64 ver] W (Out W A X k d)) := Lib.hid (fun W => by rw [hA, hX, hkk, hdd, ← hq]; exact joined_any b e da e.val ver hdz hv hk W)
  clear hA hX hkk hdd hq
  go_enter Tryd.func20, Tryd.ntmps20
  go_wp2_with fail
  refine (DC.out _).mono ?_
  rintro e1 w0 ⟨rfl, rfl⟩
  go_wp2_with fail
  refine (TD.out _).mono ?_
  rintro e1 w1 ⟨rfl, hb⟩
  obtain ⟨t1, t2, r1, r2, b2⟩ := two_fin (w := w) (W := w1) (b := w.heap.size + 1 + 1) HLA.out HLX.out (by omega) (HN.out.2.2.trans (((below_alloc _ _).trans (hb.mono (by simp only [World.size_alloc]; omega))).mono (by simp only [World.size_alloc]; omega))) (there_below (there_below HN.out.1 (below_alloc _ _)) hb) (there_below (there_below HN.out.2.1 (below_alloc _ _)) hb)
  have HT1 := Lib.hid t1
  have HT2 := Lib.hid t2
  have HR1 := Lib.hid r1
  have HR2 := Lib.hid r2
  have HB2 := Lib.hid b2
  clear t1 t2 r1 r2 b2
  clear hb HN TD DC
  go_wp2_with (first
    | ((with_reducible show wpList _ _ _ (Oper.mk none (Op.store 32 (.tmp 10) _) _ _ _ _ :: _) _ _); refine wpList_store_mid (by rfl) 32 (.tmp 10) (.tmp 83) (by rfl) (w.heap.size + 1 + 1) 0 A.toArray (by rfl) (by rfl) HT1.out (by rw [List.size_toArray, HLA.out]; kernel_rfl) (all_oneCell_toArray HOA.out) ?_; rw [show A.toArray.toList = A from rfl])
    | ((with_reducible show wpList _ _ _ (Oper.mk none (Op.store 49 (.tmp 11) _) _ _ _ _ :: _) _ _); refine wpList_store_mid (by rfl) 49 (.tmp 11) (.tmp 84) (by rfl) (w.heap.size + 1 + 1 + 1) 0 X.toArray (by rfl) (by rfl) HT2.out (by rw [List.size_toArray, HLX.out]; kernel_rfl) (all_oneCell_toArray HOX.out) ?_; rw [show X.toArray.toList = X from rfl]))
  refine bodyPost_ret (v := .tuple #[.agg A.toArray, .agg X.toArray, .bool k, .bool d]) (res4 Tryd.results20 rfl rfl rfl rfl HR1.out HR2.out HLA.out HLX.out) rfl ⟨rfl, HB2.out⟩
set_option maxRecDepth 100000 in
set_option maxHeartbeats 2000000 in
theorem next_cas (b : Bool) (now : Int) (ka : Option Addr) (kn kc : Nat) (fl exp by_ cas : Int) (dd : Nat) (qu : Bool) (da : ByteArray) (e : En) (ver : Int) (hk : e.key.size ≤ 281474976710656) (hv : e.val.size ≤ 140737488355328) (hdz : da.size ≤ 140737488355328) (w : World) : Calls Tryd.prog 20 #[.agg #[Value.int .i64 8, .slice ka kn kc, .int .i64 fl, .int .i64 exp, .int .i64 by_, .int .i64 cas, .int .u64 (dd : Int), .bool qu, .string da], .agg #[Value.string e.key, .int .i64 e.fl, .int .i64 e.dl, .string e.val, .int .i64 e.cas], .bool b, .int .i64 now, .int .i64 ver] w (OutQ w (if b = false then tld (ab 5) else if e.cas = cas then kpt (ab 2) ⟨e.key, fl, dl exp now, da, ver⟩ else tld (ab 4))) := by
  have hall := And.intro hk (And.intro hv hdz)
  clear hall
  obtain ⟨D, hD⟩ : ∃ D, dl exp now = D := ⟨_, rfl⟩
  have DC := Lib.hid (dead_c exp now D hD)
  try rw [hD]
  clear hD
  obtain ⟨q, hq⟩ : ∃ q, (if b = false then tld (ab 5) else if e.cas = cas then kpt (ab 2) ⟨e.key, fl, D, da, ver⟩ else tld (ab 4)) = q := ⟨_, rfl⟩
  rw [hq]
  unfold OutQ
  obtain ⟨A, hA⟩ : ∃ A, A = q.1.cs := ⟨_, rfl⟩
  obtain ⟨X, hX⟩ : ∃ X, X = q.2.1.cs := ⟨_, rfl⟩
  obtain ⟨k, hkk⟩ : ∃ k, k = q.2.2.1 := ⟨_, rfl⟩
  obtain ⟨d, hdd⟩ : ∃ d, d = q.2.2.2 := ⟨_, rfl⟩
  have HLA : Hid (A.length = 9) := Lib.hid (by rw [hA]; rfl)
  have HOA : Hid (∀ u ∈ A, u.oneCell' = true) := Lib.hid (by rw [hA]; exact Ab.one _)
  have HLX : Hid (X.length = 5) := Lib.hid (by rw [hX]; rfl)
  have HOX : Hid (∀ u ∈ X, u.oneCell' = true) := Lib.hid (by rw [hX]; exact En.one _)
  rw [← hA, ← hX, ← hkk, ← hdd]
  have HN : Hid (((((w.alloc (.cells #[Value.int .i64 8, .slice ka kn kc, .int .i64 fl, .int .i64 exp, .int .i64 by_, .int .i64 cas, .int .u64 (dd : Int), .bool qu, .string da] 27)).alloc (.cells #[Value.string e.key, .int .i64 e.fl, .int .i64 e.dl, .string e.val, .int .i64 e.cas] 49)).alloc (.cells zA.toArray 32)).alloc (.cells e0.cs.toArray 49)).there (w.heap.size + 1 + 1) 0 9 ∧ ((((w.alloc (.cells #[Value.int .i64 8, .slice ka kn kc, .int .i64 fl, .int .i64 exp, .int .i64 by_, .int .i64 cas, .int .u64 (dd : Int), .bool qu, .string da] 27)).alloc (.cells #[Value.string e.key, .int .i64 e.fl, .int .i64 e.dl, .string e.val, .int .i64 e.cas] 49)).alloc (.cells zA.toArray 32)).alloc (.cells e0.cs.toArray 49)).there (w.heap.size + 1 + 1 + 1) 0 5 ∧ Below w.heap.size w ((((w.alloc (.cells #[Value.int .i64 8, .slice ka kn kc, .int .i64 fl, .int .i64 exp, .int .i64 by_, .int .i64 cas, .int .u64 (dd : Int), .bool qu, .string da] 27)).alloc (.cells #[Value.string e.key, .int .i64 e.fl, .int .i64 e.dl, .string e.val, .int .i64 e.cas] 49)).alloc (.cells zA.toArray 32)).alloc (.cells e0.cs.toArray 49))) := Lib.hid (by
    obtain ⟨n1, n2, n3⟩ := two_new ((w.alloc (.cells #[Value.int .i64 8, .slice ka kn kc, .int .i64 fl, .int .i64 exp, .int .i64 by_, .int .i64 cas, .int .u64 (dd : Int), .bool qu, .string da] 27)).alloc (.cells #[Value.string e.key, .int .i64 e.fl, .int .i64 e.dl, .string e.val, .int .i64 e.cas] 49)) (X := zA.toArray) (Y := e0.cs.toArray) rfl rfl
    simp only [World.size_alloc] at n1 n2
    exact ⟨n1, n2, ((below_alloc w _).trans ((((below_alloc (w.alloc (.cells #[Value.int .i64 8, .slice ka kn kc, .int .i64 fl, .int .i64 exp, .int .i64 by_, .int .i64 cas, .int .u64 (dd : Int), .bool qu, .string da] 27)) _).trans ((n3).mono (by simp only [World.size_alloc]; omega)))).mono (by simp only [World.size_alloc]; omega)))⟩)
  have TD : Hid (∀ W, Calls Tryd.prog 37 #[.int .i64 cas, .agg #[Value.string e.key, .int .i64 e.fl, .int .i64 e.dl, .string e.val, .int .i64 e.cas], .bool b, .agg #[Value.string e.key, .int .i64 fl, .int .i64 D, .string da, .int .i64 ver]] W (Out W A X k d)) := Lib.hid (fun W => by rw [hA, hX, hkk, hdd, ← hq]; exact compared_any b cas e ⟨e.key, fl, D, da, ver⟩ hk (by show da.size ≤ _; omega) W)
  clear hA hX hkk hdd hq
  go_enter Tryd.func20, Tryd.ntmps20
  go_wp2_with fail
  refine (DC.out _).mono ?_
  rintro e1 w0 ⟨rfl, rfl⟩
  go_wp2_with fail
  refine (TD.out _).mono ?_
  rintro e1 w1 ⟨rfl, hb⟩
  obtain ⟨t1, t2, r1, r2, b2⟩ := two_fin (w := w) (W := w1) (b := w.heap.size + 1 + 1) HLA.out HLX.out (by omega) (HN.out.2.2.trans (((below_alloc _ _).trans (hb.mono (by simp only [World.size_alloc]; omega))).mono (by simp only [World.size_alloc]; omega))) (there_below (there_below HN.out.1 (below_alloc _ _)) hb) (there_below (there_below HN.out.2.1 (below_alloc _ _)) hb)
  have HT1 := Lib.hid t1
  have HT2 := Lib.hid t2
  have HR1 := Lib.hid r1
  have HR2 := Lib.hid r2
  have HB2 := Lib.hid b2
  clear t1 t2 r1 r2 b2
  clear hb HN TD DC
  go_wp2_with (first
    | ((with_reducible show wpList _ _ _ (Oper.mk none (Op.store 32 (.tmp 10) _) _ _ _ _ :: _) _ _); refine wpList_store_mid (by rfl) 32 (.tmp 10) (.tmp 95) (by rfl) (w.heap.size + 1 + 1) 0 A.toArray (by rfl) (by rfl) HT1.out (by rw [List.size_toArray, HLA.out]; kernel_rfl) (all_oneCell_toArray HOA.out) ?_; rw [show A.toArray.toList = A from rfl])
    | ((with_reducible show wpList _ _ _ (Oper.mk none (Op.store 49 (.tmp 11) _) _ _ _ _ :: _) _ _); refine wpList_store_mid (by rfl) 49 (.tmp 11) (.tmp 96) (by rfl) (w.heap.size + 1 + 1 + 1) 0 X.toArray (by rfl) (by rfl) HT2.out (by rw [List.size_toArray, HLX.out]; kernel_rfl) (all_oneCell_toArray HOX.out) ?_; rw [show X.toArray.toList = X from rfl]))
  refine bodyPost_ret (v := .tuple #[.agg A.toArray, .agg X.toArray, .bool k, .bool d]) (res4 Tryd.results20 rfl rfl rfl rfl HR1.out HR2.out HLA.out HLX.out) rfl ⟨rfl, HB2.out⟩
set_option maxRecDepth 100000 in
set_option maxHeartbeats 2000000 in
theorem next_del (b : Bool) (now : Int) (ka : Option Addr) (kn kc : Nat) (fl exp by_ cas : Int) (dd : Nat) (qu : Bool) (da : ByteArray) (e : En) (ver : Int) (hk : e.key.size ≤ 281474976710656) (hv : e.val.size ≤ 140737488355328) (hdz : da.size ≤ 140737488355328) (w : World) : Calls Tryd.prog 20 #[.agg #[Value.int .i64 9, .slice ka kn kc, .int .i64 fl, .int .i64 exp, .int .i64 by_, .int .i64 cas, .int .u64 (dd : Int), .bool qu, .string da], .agg #[Value.string e.key, .int .i64 e.fl, .int .i64 e.dl, .string e.val, .int .i64 e.cas], .bool b, .int .i64 now, .int .i64 ver] w (OutQ w (if b = false then tld (ab 5) else (ab 6, e0, false, true))) := by
  have hall := And.intro hk (And.intro hv hdz)
  clear hall
  obtain ⟨D, hD⟩ : ∃ D, dl exp now = D := ⟨_, rfl⟩
  have DC := Lib.hid (dead_c exp now D hD)
  try rw [hD]
  clear hD
  obtain ⟨q, hq⟩ : ∃ q, (if b = false then tld (ab 5) else (ab 6, e0, false, true)) = q := ⟨_, rfl⟩
  rw [hq]
  unfold OutQ
  obtain ⟨A, hA⟩ : ∃ A, A = q.1.cs := ⟨_, rfl⟩
  obtain ⟨X, hX⟩ : ∃ X, X = q.2.1.cs := ⟨_, rfl⟩
  obtain ⟨k, hkk⟩ : ∃ k, k = q.2.2.1 := ⟨_, rfl⟩
  obtain ⟨d, hdd⟩ : ∃ d, d = q.2.2.2 := ⟨_, rfl⟩
  have HLA : Hid (A.length = 9) := Lib.hid (by rw [hA]; rfl)
  have HOA : Hid (∀ u ∈ A, u.oneCell' = true) := Lib.hid (by rw [hA]; exact Ab.one _)
  have HLX : Hid (X.length = 5) := Lib.hid (by rw [hX]; rfl)
  have HOX : Hid (∀ u ∈ X, u.oneCell' = true) := Lib.hid (by rw [hX]; exact En.one _)
  rw [← hA, ← hX, ← hkk, ← hdd]
  have HN : Hid (((((w.alloc (.cells #[Value.int .i64 9, .slice ka kn kc, .int .i64 fl, .int .i64 exp, .int .i64 by_, .int .i64 cas, .int .u64 (dd : Int), .bool qu, .string da] 27)).alloc (.cells #[Value.string e.key, .int .i64 e.fl, .int .i64 e.dl, .string e.val, .int .i64 e.cas] 49)).alloc (.cells zA.toArray 32)).alloc (.cells e0.cs.toArray 49)).there (w.heap.size + 1 + 1) 0 9 ∧ ((((w.alloc (.cells #[Value.int .i64 9, .slice ka kn kc, .int .i64 fl, .int .i64 exp, .int .i64 by_, .int .i64 cas, .int .u64 (dd : Int), .bool qu, .string da] 27)).alloc (.cells #[Value.string e.key, .int .i64 e.fl, .int .i64 e.dl, .string e.val, .int .i64 e.cas] 49)).alloc (.cells zA.toArray 32)).alloc (.cells e0.cs.toArray 49)).there (w.heap.size + 1 + 1 + 1) 0 5 ∧ Below w.heap.size w ((((w.alloc (.cells #[Value.int .i64 9, .slice ka kn kc, .int .i64 fl, .int .i64 exp, .int .i64 by_, .int .i64 cas, .int .u64 (dd : Int), .bool qu, .string da] 27)).alloc (.cells #[Value.string e.key, .int .i64 e.fl, .int .i64 e.dl, .string e.val, .int .i64 e.cas] 49)).alloc (.cells zA.toArray 32)).alloc (.cells e0.cs.toArray 49))) := Lib.hid (by
    obtain ⟨n1, n2, n3⟩ := two_new ((w.alloc (.cells #[Value.int .i64 9, .slice ka kn kc, .int .i64 fl, .int .i64 exp, .int .i64 by_, .int .i64 cas, .int .u64 (dd : Int), .bool qu, .string da] 27)).alloc (.cells #[Value.string e.key, .int .i64 e.fl, .int .i64 e.dl, .string e.val, .int .i64 e.cas] 49)) (X := zA.toArray) (Y := e0.cs.toArray) rfl rfl
    simp only [World.size_alloc] at n1 n2
    exact ⟨n1, n2, ((below_alloc w _).trans ((((below_alloc (w.alloc (.cells #[Value.int .i64 9, .slice ka kn kc, .int .i64 fl, .int .i64 exp, .int .i64 by_, .int .i64 cas, .int .u64 (dd : Int), .bool qu, .string da] 27)) _).trans ((n3).mono (by simp only [World.size_alloc]; omega)))).mono (by simp only [World.size_alloc]; omega)))⟩)
  have TD : Hid (∀ W, Calls Tryd.prog 38 #[.bool b] W (Out W A X k d)) := Lib.hid (fun W => by rw [hA, hX, hkk, hdd, ← hq]; exact deleted_any b W)
  clear hA hX hkk hdd hq
  go_enter Tryd.func20, Tryd.ntmps20
  go_wp2_with fail
  refine (DC.out _).mono ?_
  rintro e1 w0 ⟨rfl, rfl⟩
  go_wp2_with fail
  refine (TD.out _).mono ?_
  rintro e1 w1 ⟨rfl, hb⟩
  obtain ⟨t1, t2, r1, r2, b2⟩ := two_fin (w := w) (W := w1) (b := w.heap.size + 1 + 1) HLA.out HLX.out (by omega) (HN.out.2.2.trans (((below_alloc _ _).trans (hb.mono (by simp only [World.size_alloc]; omega))).mono (by simp only [World.size_alloc]; omega))) (there_below (there_below HN.out.1 (below_alloc _ _)) hb) (there_below (there_below HN.out.2.1 (below_alloc _ _)) hb)
  have HT1 := Lib.hid t1
  have HT2 := Lib.hid t2
  have HR1 := Lib.hid r1
  have HR2 := Lib.hid r2
  have HB2 := Lib.hid b2
  clear t1 t2 r1 r2 b2
  clear hb HN TD DC
  go_wp2_with (first
    | ((with_reducible show wpList _ _ _ (Oper.mk none (Op.store 32 (.tmp 10) _) _ _ _ _ :: _) _ _); refine wpList_store_mid (by rfl) 32 (.tmp 10) (.tmp 103) (by rfl) (w.heap.size + 1 + 1) 0 A.toArray (by rfl) (by rfl) HT1.out (by rw [List.size_toArray, HLA.out]; kernel_rfl) (all_oneCell_toArray HOA.out) ?_; rw [show A.toArray.toList = A from rfl])
    | ((with_reducible show wpList _ _ _ (Oper.mk none (Op.store 49 (.tmp 11) _) _ _ _ _ :: _) _ _); refine wpList_store_mid (by rfl) 49 (.tmp 11) (.tmp 104) (by rfl) (w.heap.size + 1 + 1 + 1) 0 X.toArray (by rfl) (by rfl) HT2.out (by rw [List.size_toArray, HLX.out]; kernel_rfl) (all_oneCell_toArray HOX.out) ?_; rw [show X.toArray.toList = X from rfl]))
  refine bodyPost_ret (v := .tuple #[.agg A.toArray, .agg X.toArray, .bool k, .bool d]) (res4 Tryd.results20 rfl rfl rfl rfl HR1.out HR2.out HLA.out HLX.out) rfl ⟨rfl, HB2.out⟩
set_option maxRecDepth 100000 in
set_option maxHeartbeats 2000000 in
theorem next_tou (b : Bool) (now : Int) (ka : Option Addr) (kn kc : Nat) (fl exp by_ cas : Int) (dd : Nat) (qu : Bool) (da : ByteArray) (e : En) (ver : Int) (hk : e.key.size ≤ 281474976710656) (hv : e.val.size ≤ 140737488355328) (hdz : da.size ≤ 140737488355328) (w : World) : Calls Tryd.prog 20 #[.agg #[Value.int .i64 12, .slice ka kn kc, .int .i64 fl, .int .i64 exp, .int .i64 by_, .int .i64 cas, .int .u64 (dd : Int), .bool qu, .string da], .agg #[Value.string e.key, .int .i64 e.fl, .int .i64 e.dl, .string e.val, .int .i64 e.cas], .bool b, .int .i64 now, .int .i64 ver] w (OutQ w (if b = false then tld (ab 5) else kpt (ab 7) ⟨e.key, e.fl, dl exp now, e.val, e.cas⟩)) := by
  have hall := And.intro hk (And.intro hv hdz)
  clear hall
  obtain ⟨D, hD⟩ : ∃ D, dl exp now = D := ⟨_, rfl⟩
  have DC := Lib.hid (dead_c exp now D hD)
  try rw [hD]
  clear hD
  obtain ⟨q, hq⟩ : ∃ q, (if b = false then tld (ab 5) else kpt (ab 7) ⟨e.key, e.fl, D, e.val, e.cas⟩) = q := ⟨_, rfl⟩
  rw [hq]
  unfold OutQ
  obtain ⟨A, hA⟩ : ∃ A, A = q.1.cs := ⟨_, rfl⟩
  obtain ⟨X, hX⟩ : ∃ X, X = q.2.1.cs := ⟨_, rfl⟩
  obtain ⟨k, hkk⟩ : ∃ k, k = q.2.2.1 := ⟨_, rfl⟩
  obtain ⟨d, hdd⟩ : ∃ d, d = q.2.2.2 := ⟨_, rfl⟩
  have HLA : Hid (A.length = 9) := Lib.hid (by rw [hA]; rfl)
  have HOA : Hid (∀ u ∈ A, u.oneCell' = true) := Lib.hid (by rw [hA]; exact Ab.one _)
  have HLX : Hid (X.length = 5) := Lib.hid (by rw [hX]; rfl)
  have HOX : Hid (∀ u ∈ X, u.oneCell' = true) := Lib.hid (by rw [hX]; exact En.one _)
  rw [← hA, ← hX, ← hkk, ← hdd]
  have HN : Hid (((((w.alloc (.cells #[Value.int .i64 12, .slice ka kn kc, .int .i64 fl, .int .i64 exp, .int .i64 by_, .int .i64 cas, .int .u64 (dd : Int), .bool qu, .string da] 27)).alloc (.cells #[Value.string e.key, .int .i64 e.fl, .int .i64 e.dl, .string e.val, .int .i64 e.cas] 49)).alloc (.cells zA.toArray 32)).alloc (.cells e0.cs.toArray 49)).there (w.heap.size + 1 + 1) 0 9 ∧ ((((w.alloc (.cells #[Value.int .i64 12, .slice ka kn kc, .int .i64 fl, .int .i64 exp, .int .i64 by_, .int .i64 cas, .int .u64 (dd : Int), .bool qu, .string da] 27)).alloc (.cells #[Value.string e.key, .int .i64 e.fl, .int .i64 e.dl, .string e.val, .int .i64 e.cas] 49)).alloc (.cells zA.toArray 32)).alloc (.cells e0.cs.toArray 49)).there (w.heap.size + 1 + 1 + 1) 0 5 ∧ Below w.heap.size w ((((w.alloc (.cells #[Value.int .i64 12, .slice ka kn kc, .int .i64 fl, .int .i64 exp, .int .i64 by_, .int .i64 cas, .int .u64 (dd : Int), .bool qu, .string da] 27)).alloc (.cells #[Value.string e.key, .int .i64 e.fl, .int .i64 e.dl, .string e.val, .int .i64 e.cas] 49)).alloc (.cells zA.toArray 32)).alloc (.cells e0.cs.toArray 49))) := Lib.hid (by
    obtain ⟨n1, n2, n3⟩ := two_new ((w.alloc (.cells #[Value.int .i64 12, .slice ka kn kc, .int .i64 fl, .int .i64 exp, .int .i64 by_, .int .i64 cas, .int .u64 (dd : Int), .bool qu, .string da] 27)).alloc (.cells #[Value.string e.key, .int .i64 e.fl, .int .i64 e.dl, .string e.val, .int .i64 e.cas] 49)) (X := zA.toArray) (Y := e0.cs.toArray) rfl rfl
    simp only [World.size_alloc] at n1 n2
    exact ⟨n1, n2, ((below_alloc w _).trans ((((below_alloc (w.alloc (.cells #[Value.int .i64 12, .slice ka kn kc, .int .i64 fl, .int .i64 exp, .int .i64 by_, .int .i64 cas, .int .u64 (dd : Int), .bool qu, .string da] 27)) _).trans ((n3).mono (by simp only [World.size_alloc]; omega)))).mono (by simp only [World.size_alloc]; omega)))⟩)
  have TD : Hid (∀ W, Calls Tryd.prog 39 #[.agg #[Value.string e.key, .int .i64 e.fl, .int .i64 e.dl, .string e.val, .int .i64 e.cas], .bool b, .int .i64 D] W (Out W A X k d)) := Lib.hid (fun W => by rw [hA, hX, hkk, hdd, ← hq]; exact touched_any b e D hk (by show e.val.size ≤ _; omega) W)
  clear hA hX hkk hdd hq
  go_enter Tryd.func20, Tryd.ntmps20
  go_wp2_with fail
  refine (DC.out _).mono ?_
  rintro e1 w0 ⟨rfl, rfl⟩
  go_wp2_with fail
  refine (TD.out _).mono ?_
  rintro e1 w1 ⟨rfl, hb⟩
  obtain ⟨t1, t2, r1, r2, b2⟩ := two_fin (w := w) (W := w1) (b := w.heap.size + 1 + 1) HLA.out HLX.out (by omega) (HN.out.2.2.trans (((below_alloc _ _).trans (hb.mono (by simp only [World.size_alloc]; omega))).mono (by simp only [World.size_alloc]; omega))) (there_below (there_below HN.out.1 (below_alloc _ _)) hb) (there_below (there_below HN.out.2.1 (below_alloc _ _)) hb)
  have HT1 := Lib.hid t1
  have HT2 := Lib.hid t2
  have HR1 := Lib.hid r1
  have HR2 := Lib.hid r2
  have HB2 := Lib.hid b2
  clear t1 t2 r1 r2 b2
  clear hb HN TD DC
  go_wp2_with (first
    | ((with_reducible show wpList _ _ _ (Oper.mk none (Op.store 32 (.tmp 10) _) _ _ _ _ :: _) _ _); refine wpList_store_mid (by rfl) 32 (.tmp 10) (.tmp 113) (by rfl) (w.heap.size + 1 + 1) 0 A.toArray (by rfl) (by rfl) HT1.out (by rw [List.size_toArray, HLA.out]; kernel_rfl) (all_oneCell_toArray HOA.out) ?_; rw [show A.toArray.toList = A from rfl])
    | ((with_reducible show wpList _ _ _ (Oper.mk none (Op.store 49 (.tmp 11) _) _ _ _ _ :: _) _ _); refine wpList_store_mid (by rfl) 49 (.tmp 11) (.tmp 114) (by rfl) (w.heap.size + 1 + 1 + 1) 0 X.toArray (by rfl) (by rfl) HT2.out (by rw [List.size_toArray, HLX.out]; kernel_rfl) (all_oneCell_toArray HOX.out) ?_; rw [show X.toArray.toList = X from rfl]))
  refine bodyPost_ret (v := .tuple #[.agg A.toArray, .agg X.toArray, .bool k, .bool d]) (res4 Tryd.results20 rfl rfl rfl rfl HR1.out HR2.out HLA.out HLX.out) rfl ⟨rfl, HB2.out⟩
end Go.Proofs.YtpkmfckifnomeaaDoor


namespace Go.Proofs.YtpkmfckifnomeaaDoor
open Go.RowKit

open Go.Lib (TabIs pow10Tab)
set_option maxRecDepth 100000 in
set_option maxHeartbeats 2000000 in
theorem next_up (b : Bool) (now : Int) (ka : Option Addr) (kn kc : Nat) (fl exp by_ cas : Int) (dd : Nat) (qu : Bool) (da : ByteArray) (e : En) (ver : Int) (hk : e.key.size ≤ 281474976710656) (hv : e.val.size ≤ 140737488355328) (hdz : da.size ≤ 140737488355328) (w : World) (htab : TabIs Tryd.prog w "internal/strconv.uint64pow10" .u64 pow10Tab) : Calls Tryd.prog 20 #[.agg #[Value.int .i64 10, .slice ka kn kc, .int .i64 fl, .int .i64 exp, .int .i64 by_, .int .i64 cas, .int .u64 (dd : Int), .bool qu, .string da], .agg #[Value.string e.key, .int .i64 e.fl, .int .i64 e.dl, .string e.val, .int .i64 e.cas], .bool b, .int .i64 now, .int .i64 ver] w (OutQ w (cou true e b dd ver)) := by
  have hall := And.intro hk (And.intro hv hdz)
  clear hall
  obtain ⟨D, hD⟩ : ∃ D, dl exp now = D := ⟨_, rfl⟩
  have DC := Lib.hid (dead_c exp now D hD)
  try rw [hD]
  clear hD
  obtain ⟨q, hq⟩ : ∃ q, (cou true e b dd ver) = q := ⟨_, rfl⟩
  rw [hq]
  unfold OutQ
  obtain ⟨A, hA⟩ : ∃ A, A = q.1.cs := ⟨_, rfl⟩
  obtain ⟨X, hX⟩ : ∃ X, X = q.2.1.cs := ⟨_, rfl⟩
  obtain ⟨k, hkk⟩ : ∃ k, k = q.2.2.1 := ⟨_, rfl⟩
  obtain ⟨d, hdd⟩ : ∃ d, d = q.2.2.2 := ⟨_, rfl⟩
  have HLA : Hid (A.length = 9) := Lib.hid (by rw [hA]; rfl)
  have HOA : Hid (∀ u ∈ A, u.oneCell' = true) := Lib.hid (by rw [hA]; exact Ab.one _)
  have HLX : Hid (X.length = 5) := Lib.hid (by rw [hX]; rfl)
  have HOX : Hid (∀ u ∈ X, u.oneCell' = true) := Lib.hid (by rw [hX]; exact En.one _)
  rw [← hA, ← hX, ← hkk, ← hdd]
  have HN : Hid (((((w.alloc (.cells #[Value.int .i64 10, .slice ka kn kc, .int .i64 fl, .int .i64 exp, .int .i64 by_, .int .i64 cas, .int .u64 (dd : Int), .bool qu, .string da] 27)).alloc (.cells #[Value.string e.key, .int .i64 e.fl, .int .i64 e.dl, .string e.val, .int .i64 e.cas] 49)).alloc (.cells zA.toArray 32)).alloc (.cells e0.cs.toArray 49)).there (w.heap.size + 1 + 1) 0 9 ∧ ((((w.alloc (.cells #[Value.int .i64 10, .slice ka kn kc, .int .i64 fl, .int .i64 exp, .int .i64 by_, .int .i64 cas, .int .u64 (dd : Int), .bool qu, .string da] 27)).alloc (.cells #[Value.string e.key, .int .i64 e.fl, .int .i64 e.dl, .string e.val, .int .i64 e.cas] 49)).alloc (.cells zA.toArray 32)).alloc (.cells e0.cs.toArray 49)).there (w.heap.size + 1 + 1 + 1) 0 5 ∧ Below w.heap.size w ((((w.alloc (.cells #[Value.int .i64 10, .slice ka kn kc, .int .i64 fl, .int .i64 exp, .int .i64 by_, .int .i64 cas, .int .u64 (dd : Int), .bool qu, .string da] 27)).alloc (.cells #[Value.string e.key, .int .i64 e.fl, .int .i64 e.dl, .string e.val, .int .i64 e.cas] 49)).alloc (.cells zA.toArray 32)).alloc (.cells e0.cs.toArray 49))) := Lib.hid (by
    obtain ⟨n1, n2, n3⟩ := two_new ((w.alloc (.cells #[Value.int .i64 10, .slice ka kn kc, .int .i64 fl, .int .i64 exp, .int .i64 by_, .int .i64 cas, .int .u64 (dd : Int), .bool qu, .string da] 27)).alloc (.cells #[Value.string e.key, .int .i64 e.fl, .int .i64 e.dl, .string e.val, .int .i64 e.cas] 49)) (X := zA.toArray) (Y := e0.cs.toArray) rfl rfl
    simp only [World.size_alloc] at n1 n2
    exact ⟨n1, n2, ((below_alloc w _).trans ((((below_alloc (w.alloc (.cells #[Value.int .i64 10, .slice ka kn kc, .int .i64 fl, .int .i64 exp, .int .i64 by_, .int .i64 cas, .int .u64 (dd : Int), .bool qu, .string da] 27)) _).trans ((n3).mono (by simp only [World.size_alloc]; omega)))).mono (by simp only [World.size_alloc]; omega)))⟩)
  have TD : Hid (Calls Tryd.prog 40 #[.agg #[Value.int .i64 10, .slice ka kn kc, .int .i64 fl, .int .i64 exp, .int .i64 by_, .int .i64 cas, .int .u64 (dd : Int), .bool qu, .string da], .agg #[Value.string e.key, .int .i64 e.fl, .int .i64 e.dl, .string e.val, .int .i64 e.cas], .bool b, .int .i64 ver] (((((w.alloc (.cells #[Value.int .i64 10, .slice ka kn kc, .int .i64 fl, .int .i64 exp, .int .i64 by_, .int .i64 cas, .int .u64 (dd : Int), .bool qu, .string da] 27)).alloc (.cells #[Value.string e.key, .int .i64 e.fl, .int .i64 e.dl, .string e.val, .int .i64 e.cas] 49)).alloc (.cells zA.toArray 32)).alloc (.cells e0.cs.toArray 49)).alloc (.cells #[Value.string e.key, .int .i64 fl, .int .i64 D, .string da, .int .i64 ver] 49)) (Out (((((w.alloc (.cells #[Value.int .i64 10, .slice ka kn kc, .int .i64 fl, .int .i64 exp, .int .i64 by_, .int .i64 cas, .int .u64 (dd : Int), .bool qu, .string da] 27)).alloc (.cells #[Value.string e.key, .int .i64 e.fl, .int .i64 e.dl, .string e.val, .int .i64 e.cas] 49)).alloc (.cells zA.toArray 32)).alloc (.cells e0.cs.toArray 49)).alloc (.cells #[Value.string e.key, .int .i64 fl, .int .i64 D, .string da, .int .i64 ver] 49)) A X k d)) := Lib.hid (by rw [hA, hX, hkk, hdd, ← hq]; exact count_up b ka kn kc fl exp by_ cas dd qu da e ver hk _ (tabIs_below (tabIs_below htab HN.out.2.2) (below_alloc _ _)))
  clear htab
  clear hA hX hkk hdd hq
  go_enter Tryd.func20, Tryd.ntmps20
  go_wp2_with fail
  refine (DC.out _).mono ?_
  rintro e1 w0 ⟨rfl, rfl⟩
  go_wp2_with fail
  refine TD.out.mono ?_
  rintro e1 w1 ⟨rfl, hb⟩
  obtain ⟨t1, t2, r1, r2, b2⟩ := two_fin (w := w) (W := w1) (b := w.heap.size + 1 + 1) HLA.out HLX.out (by omega) (HN.out.2.2.trans (((below_alloc _ _).trans (hb.mono (by simp only [World.size_alloc]; omega))).mono (by simp only [World.size_alloc]; omega))) (there_below (there_below HN.out.1 (below_alloc _ _)) hb) (there_below (there_below HN.out.2.1 (below_alloc _ _)) hb)
  have HT1 := Lib.hid t1
  have HT2 := Lib.hid t2
  have HR1 := Lib.hid r1
  have HR2 := Lib.hid r2
  have HB2 := Lib.hid b2
  clear t1 t2 r1 r2 b2
  clear hb HN TD DC
  go_wp2_with (first
    | ((with_reducible show wpList _ _ _ (Oper.mk none (Op.store 32 (.tmp 10) _) _ _ _ _ :: _) _ _); refine wpList_store_mid (by rfl) 32 (.tmp 10) (.tmp 125) (by rfl) (w.heap.size + 1 + 1) 0 A.toArray (by rfl) (by rfl) HT1.out (by rw [List.size_toArray, HLA.out]; kernel_rfl) (all_oneCell_toArray HOA.out) ?_; rw [show A.toArray.toList = A from rfl])
    | ((with_reducible show wpList _ _ _ (Oper.mk none (Op.store 49 (.tmp 11) _) _ _ _ _ :: _) _ _); refine wpList_store_mid (by rfl) 49 (.tmp 11) (.tmp 126) (by rfl) (w.heap.size + 1 + 1 + 1) 0 X.toArray (by rfl) (by rfl) HT2.out (by rw [List.size_toArray, HLX.out]; kernel_rfl) (all_oneCell_toArray HOX.out) ?_; rw [show X.toArray.toList = X from rfl]))
  refine bodyPost_ret (v := .tuple #[.agg A.toArray, .agg X.toArray, .bool k, .bool d]) (res4 Tryd.results20 rfl rfl rfl rfl HR1.out HR2.out HLA.out HLX.out) rfl ⟨rfl, HB2.out⟩
set_option maxRecDepth 100000 in
set_option maxHeartbeats 2000000 in
theorem next_down (b : Bool) (now : Int) (ka : Option Addr) (kn kc : Nat) (fl exp by_ cas : Int) (dd : Nat) (qu : Bool) (da : ByteArray) (e : En) (ver : Int) (hk : e.key.size ≤ 281474976710656) (hv : e.val.size ≤ 140737488355328) (hdz : da.size ≤ 140737488355328) (w : World) (htab : TabIs Tryd.prog w "internal/strconv.uint64pow10" .u64 pow10Tab) : Calls Tryd.prog 20 #[.agg #[Value.int .i64 11, .slice ka kn kc, .int .i64 fl, .int .i64 exp, .int .i64 by_, .int .i64 cas, .int .u64 (dd : Int), .bool qu, .string da], .agg #[Value.string e.key, .int .i64 e.fl, .int .i64 e.dl, .string e.val, .int .i64 e.cas], .bool b, .int .i64 now, .int .i64 ver] w (OutQ w (cou false e b dd ver)) := by
  have hall := And.intro hk (And.intro hv hdz)
  clear hall
  obtain ⟨D, hD⟩ : ∃ D, dl exp now = D := ⟨_, rfl⟩
  have DC := Lib.hid (dead_c exp now D hD)
  try rw [hD]
  clear hD
  obtain ⟨q, hq⟩ : ∃ q, (cou false e b dd ver) = q := ⟨_, rfl⟩
  rw [hq]
  unfold OutQ
  obtain ⟨A, hA⟩ : ∃ A, A = q.1.cs := ⟨_, rfl⟩
  obtain ⟨X, hX⟩ : ∃ X, X = q.2.1.cs := ⟨_, rfl⟩
  obtain ⟨k, hkk⟩ : ∃ k, k = q.2.2.1 := ⟨_, rfl⟩
  obtain ⟨d, hdd⟩ : ∃ d, d = q.2.2.2 := ⟨_, rfl⟩
  have HLA : Hid (A.length = 9) := Lib.hid (by rw [hA]; rfl)
  have HOA : Hid (∀ u ∈ A, u.oneCell' = true) := Lib.hid (by rw [hA]; exact Ab.one _)
  have HLX : Hid (X.length = 5) := Lib.hid (by rw [hX]; rfl)
  have HOX : Hid (∀ u ∈ X, u.oneCell' = true) := Lib.hid (by rw [hX]; exact En.one _)
  rw [← hA, ← hX, ← hkk, ← hdd]
  have HN : Hid (((((w.alloc (.cells #[Value.int .i64 11, .slice ka kn kc, .int .i64 fl, .int .i64 exp, .int .i64 by_, .int .i64 cas, .int .u64 (dd : Int), .bool qu, .string da] 27)).alloc (.cells #[Value.string e.key, .int .i64 e.fl, .int .i64 e.dl, .string e.val, .int .i64 e.cas] 49)).alloc (.cells zA.toArray 32)).alloc (.cells e0.cs.toArray 49)).there (w.heap.size + 1 + 1) 0 9 ∧ ((((w.alloc (.cells #[Value.int .i64 11, .slice ka kn kc, .int .i64 fl, .int .i64 exp, .int .i64 by_, .int .i64 cas, .int .u64 (dd : Int), .bool qu, .string da] 27)).alloc (.cells #[Value.string e.key, .int .i64 e.fl, .int .i64 e.dl, .string e.val, .int .i64 e.cas] 49)).alloc (.cells zA.toArray 32)).alloc (.cells e0.cs.toArray 49)).there (w.heap.size + 1 + 1 + 1) 0 5 ∧ Below w.heap.size w ((((w.alloc (.cells #[Value.int .i64 11, .slice ka kn kc, .int .i64 fl, .int .i64 exp, .int .i64 by_, .int .i64 cas, .int .u64 (dd : Int), .bool qu, .string da] 27)).alloc (.cells #[Value.string e.key, .int .i64 e.fl, .int .i64 e.dl, .string e.val, .int .i64 e.cas] 49)).alloc (.cells zA.toArray 32)).alloc (.cells e0.cs.toArray 49))) := Lib.hid (by
    obtain ⟨n1, n2, n3⟩ := two_new ((w.alloc (.cells #[Value.int .i64 11, .slice ka kn kc, .int .i64 fl, .int .i64 exp, .int .i64 by_, .int .i64 cas, .int .u64 (dd : Int), .bool qu, .string da] 27)).alloc (.cells #[Value.string e.key, .int .i64 e.fl, .int .i64 e.dl, .string e.val, .int .i64 e.cas] 49)) (X := zA.toArray) (Y := e0.cs.toArray) rfl rfl
    simp only [World.size_alloc] at n1 n2
    exact ⟨n1, n2, ((below_alloc w _).trans ((((below_alloc (w.alloc (.cells #[Value.int .i64 11, .slice ka kn kc, .int .i64 fl, .int .i64 exp, .int .i64 by_, .int .i64 cas, .int .u64 (dd : Int), .bool qu, .string da] 27)) _).trans ((n3).mono (by simp only [World.size_alloc]; omega)))).mono (by simp only [World.size_alloc]; omega)))⟩)
  have TD : Hid (Calls Tryd.prog 40 #[.agg #[Value.int .i64 11, .slice ka kn kc, .int .i64 fl, .int .i64 exp, .int .i64 by_, .int .i64 cas, .int .u64 (dd : Int), .bool qu, .string da], .agg #[Value.string e.key, .int .i64 e.fl, .int .i64 e.dl, .string e.val, .int .i64 e.cas], .bool b, .int .i64 ver] (((((w.alloc (.cells #[Value.int .i64 11, .slice ka kn kc, .int .i64 fl, .int .i64 exp, .int .i64 by_, .int .i64 cas, .int .u64 (dd : Int), .bool qu, .string da] 27)).alloc (.cells #[Value.string e.key, .int .i64 e.fl, .int .i64 e.dl, .string e.val, .int .i64 e.cas] 49)).alloc (.cells zA.toArray 32)).alloc (.cells e0.cs.toArray 49)).alloc (.cells #[Value.string e.key, .int .i64 fl, .int .i64 D, .string da, .int .i64 ver] 49)) (Out (((((w.alloc (.cells #[Value.int .i64 11, .slice ka kn kc, .int .i64 fl, .int .i64 exp, .int .i64 by_, .int .i64 cas, .int .u64 (dd : Int), .bool qu, .string da] 27)).alloc (.cells #[Value.string e.key, .int .i64 e.fl, .int .i64 e.dl, .string e.val, .int .i64 e.cas] 49)).alloc (.cells zA.toArray 32)).alloc (.cells e0.cs.toArray 49)).alloc (.cells #[Value.string e.key, .int .i64 fl, .int .i64 D, .string da, .int .i64 ver] 49)) A X k d)) := Lib.hid (by rw [hA, hX, hkk, hdd, ← hq]; exact count_down b ka kn kc fl exp by_ cas dd qu da e ver hk _ (tabIs_below (tabIs_below htab HN.out.2.2) (below_alloc _ _)))
  clear htab
  clear hA hX hkk hdd hq
  go_enter Tryd.func20, Tryd.ntmps20
  go_wp2_with fail
  refine (DC.out _).mono ?_
  rintro e1 w0 ⟨rfl, rfl⟩
  go_wp2_with fail
  refine TD.out.mono ?_
  rintro e1 w1 ⟨rfl, hb⟩
  obtain ⟨t1, t2, r1, r2, b2⟩ := two_fin (w := w) (W := w1) (b := w.heap.size + 1 + 1) HLA.out HLX.out (by omega) (HN.out.2.2.trans (((below_alloc _ _).trans (hb.mono (by simp only [World.size_alloc]; omega))).mono (by simp only [World.size_alloc]; omega))) (there_below (there_below HN.out.1 (below_alloc _ _)) hb) (there_below (there_below HN.out.2.1 (below_alloc _ _)) hb)
  have HT1 := Lib.hid t1
  have HT2 := Lib.hid t2
  have HR1 := Lib.hid r1
  have HR2 := Lib.hid r2
  have HB2 := Lib.hid b2
  clear t1 t2 r1 r2 b2
  clear hb HN TD DC
  go_wp2_with (first
    | ((with_reducible show wpList _ _ _ (Oper.mk none (Op.store 32 (.tmp 10) _) _ _ _ _ :: _) _ _); refine wpList_store_mid (by rfl) 32 (.tmp 10) (.tmp 125) (by rfl) (w.heap.size + 1 + 1) 0 A.toArray (by rfl) (by rfl) HT1.out (by rw [List.size_toArray, HLA.out]; kernel_rfl) (all_oneCell_toArray HOA.out) ?_; rw [show A.toArray.toList = A from rfl])
    | ((with_reducible show wpList _ _ _ (Oper.mk none (Op.store 49 (.tmp 11) _) _ _ _ _ :: _) _ _); refine wpList_store_mid (by rfl) 49 (.tmp 11) (.tmp 126) (by rfl) (w.heap.size + 1 + 1 + 1) 0 X.toArray (by rfl) (by rfl) HT2.out (by rw [List.size_toArray, HLX.out]; kernel_rfl) (all_oneCell_toArray HOX.out) ?_; rw [show X.toArray.toList = X from rfl]))
  refine bodyPost_ret (v := .tuple #[.agg A.toArray, .agg X.toArray, .bool k, .bool d]) (res4 Tryd.results20 rfl rfl rfl rfl HR1.out HR2.out HLA.out HLX.out) rfl ⟨rfl, HB2.out⟩
set_option maxRecDepth 100000 in
set_option maxHeartbeats 2000000 in
theorem next_oth (b : Bool) (now : Int) (ka : Option Addr) (kn kc : Nat) (fl exp by_ cas : Int) (dd : Nat) (qu : Bool) (da : ByteArray) (e : En) (ver : Int) (hk : e.key.size ≤ 281474976710656) (hv : e.val.size ≤ 140737488355328) (hdz : da.size ≤ 140737488355328) (vb : Int) (h3 : (vb == 3) = false) (h4 : (vb == 4) = false) (h5 : (vb == 5) = false) (h6 : (vb == 6) = false) (h7 : (vb == 7) = false) (h8 : (vb == 8) = false) (h9 : (vb == 9) = false) (h12 : (vb == 12) = false) (h10 : (vb == 10) = false) (h11 : (vb == 11) = false) (w : World) : Calls Tryd.prog 20 #[.agg #[Value.int .i64 vb, .slice ka kn kc, .int .i64 fl, .int .i64 exp, .int .i64 by_, .int .i64 cas, .int .u64 (dd : Int), .bool qu, .string da], .agg #[Value.string e.key, .int .i64 e.fl, .int .i64 e.dl, .string e.val, .int .i64 e.cas], .bool b, .int .i64 now, .int .i64 ver] w (OutQ w (tld (ab 0))) := by
  have hall := And.intro hk (And.intro hv hdz)
  clear hall
  obtain ⟨D, hD⟩ : ∃ D, dl exp now = D := ⟨_, rfl⟩
  have DC := Lib.hid (dead_c exp now D hD)
  try rw [hD]
  clear hD
  obtain ⟨q, hq⟩ : ∃ q, (tld (ab 0)) = q := ⟨_, rfl⟩
  rw [hq]
  unfold OutQ
  obtain ⟨A, hA⟩ : ∃ A, A = q.1.cs := ⟨_, rfl⟩
  obtain ⟨X, hX⟩ : ∃ X, X = q.2.1.cs := ⟨_, rfl⟩
  obtain ⟨k, hkk⟩ : ∃ k, k = q.2.2.1 := ⟨_, rfl⟩
  obtain ⟨d, hdd⟩ : ∃ d, d = q.2.2.2 := ⟨_, rfl⟩
  have HLA : Hid (A.length = 9) := Lib.hid (by rw [hA]; rfl)
  have HOA : Hid (∀ u ∈ A, u.oneCell' = true) := Lib.hid (by rw [hA]; exact Ab.one _)
  have HLX : Hid (X.length = 5) := Lib.hid (by rw [hX]; rfl)
  have HOX : Hid (∀ u ∈ X, u.oneCell' = true) := Lib.hid (by rw [hX]; exact En.one _)
  rw [← hA, ← hX, ← hkk, ← hdd]
  have HN : Hid (((((w.alloc (.cells #[Value.int .i64 vb, .slice ka kn kc, .int .i64 fl, .int .i64 exp, .int .i64 by_, .int .i64 cas, .int .u64 (dd : Int), .bool qu, .string da] 27)).alloc (.cells #[Value.string e.key, .int .i64 e.fl, .int .i64 e.dl, .string e.val, .int .i64 e.cas] 49)).alloc (.cells zA.toArray 32)).alloc (.cells e0.cs.toArray 49)).there (w.heap.size + 1 + 1) 0 9 ∧ ((((w.alloc (.cells #[Value.int .i64 vb, .slice ka kn kc, .int .i64 fl, .int .i64 exp, .int .i64 by_, .int .i64 cas, .int .u64 (dd : Int), .bool qu, .string da] 27)).alloc (.cells #[Value.string e.key, .int .i64 e.fl, .int .i64 e.dl, .string e.val, .int .i64 e.cas] 49)).alloc (.cells zA.toArray 32)).alloc (.cells e0.cs.toArray 49)).there (w.heap.size + 1 + 1 + 1) 0 5 ∧ Below w.heap.size w ((((w.alloc (.cells #[Value.int .i64 vb, .slice ka kn kc, .int .i64 fl, .int .i64 exp, .int .i64 by_, .int .i64 cas, .int .u64 (dd : Int), .bool qu, .string da] 27)).alloc (.cells #[Value.string e.key, .int .i64 e.fl, .int .i64 e.dl, .string e.val, .int .i64 e.cas] 49)).alloc (.cells zA.toArray 32)).alloc (.cells e0.cs.toArray 49))) := Lib.hid (by
    obtain ⟨n1, n2, n3⟩ := two_new ((w.alloc (.cells #[Value.int .i64 vb, .slice ka kn kc, .int .i64 fl, .int .i64 exp, .int .i64 by_, .int .i64 cas, .int .u64 (dd : Int), .bool qu, .string da] 27)).alloc (.cells #[Value.string e.key, .int .i64 e.fl, .int .i64 e.dl, .string e.val, .int .i64 e.cas] 49)) (X := zA.toArray) (Y := e0.cs.toArray) rfl rfl
    simp only [World.size_alloc] at n1 n2
    exact ⟨n1, n2, ((below_alloc w _).trans ((((below_alloc (w.alloc (.cells #[Value.int .i64 vb, .slice ka kn kc, .int .i64 fl, .int .i64 exp, .int .i64 by_, .int .i64 cas, .int .u64 (dd : Int), .bool qu, .string da] 27)) _).trans ((n3).mono (by simp only [World.size_alloc]; omega)))).mono (by simp only [World.size_alloc]; omega)))⟩)
  have TD : Hid (∀ W, Calls Tryd.prog 41 #[.agg #[Value.int .i64 0, .slice none 0 0, .bool false, .int .u64 0, .string ⟨#[]⟩, .int .i64 0, .int .i64 0, .int .i64 0, .int .i64 0]] W (Out W A X k d)) := Lib.hid (fun W => by rw [hA, hX, hkk, hdd, ← hq]; exact told_any _ rfl (Ab.one _) W)
  clear hA hX hkk hdd hq
  go_enter Tryd.func20, Tryd.ntmps20
  go_wp2_with fail
  refine (DC.out _).mono ?_
  rintro e1 w0 ⟨rfl, rfl⟩
  go_wp2_with fail
  refine (TD.out _).mono ?_
  rintro e1 w1 ⟨rfl, hb⟩
  obtain ⟨t1, t2, r1, r2, b2⟩ := two_fin (w := w) (W := w1) (b := w.heap.size + 1 + 1) HLA.out HLX.out (by omega) (HN.out.2.2.trans (((below_alloc _ _).trans (hb.mono (by simp only [World.size_alloc]; omega))).mono (by simp only [World.size_alloc]; omega))) (there_below (there_below HN.out.1 (below_alloc _ _)) hb) (there_below (there_below HN.out.2.1 (below_alloc _ _)) hb)
  have HT1 := Lib.hid t1
  have HT2 := Lib.hid t2
  have HR1 := Lib.hid r1
  have HR2 := Lib.hid r2
  have HB2 := Lib.hid b2
  clear t1 t2 r1 r2 b2
  clear hb HN TD DC
  go_wp2_with (first
    | ((with_reducible show wpList _ _ _ (Oper.mk none (Op.store 32 (.tmp 10) _) _ _ _ _ :: _) _ _); refine wpList_store_mid (by rfl) 32 (.tmp 10) (.tmp 131) (by rfl) (w.heap.size + 1 + 1) 0 A.toArray (by rfl) (by rfl) HT1.out (by rw [List.size_toArray, HLA.out]; kernel_rfl) (all_oneCell_toArray HOA.out) ?_; rw [show A.toArray.toList = A from rfl])
    | ((with_reducible show wpList _ _ _ (Oper.mk none (Op.store 49 (.tmp 11) _) _ _ _ _ :: _) _ _); refine wpList_store_mid (by rfl) 49 (.tmp 11) (.tmp 132) (by rfl) (w.heap.size + 1 + 1 + 1) 0 X.toArray (by rfl) (by rfl) HT2.out (by rw [List.size_toArray, HLX.out]; kernel_rfl) (all_oneCell_toArray HOX.out) ?_; rw [show X.toArray.toList = X from rfl]))
  refine bodyPost_ret (v := .tuple #[.agg A.toArray, .agg X.toArray, .bool k, .bool d]) (res4 Tryd.results20 rfl rfl rfl rfl HR1.out HR2.out HLA.out HLX.out) rfl ⟨rfl, HB2.out⟩
end Go.Proofs.YtpkmfckifnomeaaDoor


namespace Go.Proofs.YtpkmfckifnomeaaDoor
open Go.RowKit

open Go.Lib (TabIs pow10Tab)
theorem nxt_3 {r : Rq} {e : En} {b : Bool} {now ver : Int} (h : r.verb = 3) : nxt r e b now ver = (kpt (ab 2) (fre r e now ver)) := by
  unfold nxt
  rw [if_pos h]
theorem nxt_4 {r : Rq} {e : En} {b : Bool} {now ver : Int} (h : r.verb = 4) : nxt r e b now ver = (if (!b) = false then tld (ab 3) else kpt (ab 2) (fre r e now ver)) := by
  unfold nxt
  rw [if_neg (by omega), if_pos h]; cases b <;> rfl
theorem nxt_5 {r : Rq} {e : En} {b : Bool} {now ver : Int} (h : r.verb = 5) : nxt r e b now ver = (if b = false then tld (ab 3) else kpt (ab 2) (fre r e now ver)) := by
  unfold nxt
  rw [if_neg (by omega), if_neg (by omega), if_pos h]
theorem nxt_6 {r : Rq} {e : En} {b : Bool} {now ver : Int} (h : r.verb = 6) : nxt r e b now ver = (joi e b (e.val ++ r.data) ver) := by
  unfold nxt
  rw [if_neg (by omega), if_neg (by omega), if_neg (by omega), if_pos h]
theorem nxt_7 {r : Rq} {e : En} {b : Bool} {now ver : Int} (h : r.verb = 7) : nxt r e b now ver = (joi e b (r.data ++ e.val) ver) := by
  unfold nxt
  rw [if_neg (by omega), if_neg (by omega), if_neg (by omega), if_neg (by omega), if_pos h]
theorem nxt_8 {r : Rq} {e : En} {b : Bool} {now ver : Int} (h : r.verb = 8) : nxt r e b now ver = (if b = false then tld (ab 5) else if e.cas = r.cas then kpt (ab 2) (fre r e now ver) else tld (ab 4)) := by
  unfold nxt
  rw [if_neg (by omega), if_neg (by omega), if_neg (by omega), if_neg (by omega), if_neg (by omega), if_pos h]
theorem nxt_9 {r : Rq} {e : En} {b : Bool} {now ver : Int} (h : r.verb = 9) : nxt r e b now ver = (if b = false then tld (ab 5) else (ab 6, e0, false, true)) := by
  unfold nxt
  rw [if_neg (by omega), if_neg (by omega), if_neg (by omega), if_neg (by omega), if_neg (by omega), if_neg (by omega), if_pos h]
theorem nxt_12 {r : Rq} {e : En} {b : Bool} {now ver : Int} (h : r.verb = 12) : nxt r e b now ver = (if b = false then tld (ab 5) else kpt (ab 7) ⟨e.key, e.fl, dl r.exp now, e.val, e.cas⟩) := by
  unfold nxt
  rw [if_neg (by omega), if_neg (by omega), if_neg (by omega), if_neg (by omega), if_neg (by omega), if_neg (by omega), if_neg (by omega), if_pos h]
theorem nxt_10 {r : Rq} {e : En} {b : Bool} {now ver : Int} (h : r.verb = 10) : nxt r e b now ver = (cou true e b r.delta ver) := by
  unfold nxt
  rw [if_neg (by omega), if_neg (by omega), if_neg (by omega), if_neg (by omega), if_neg (by omega), if_neg (by omega), if_neg (by omega), if_neg (by omega), if_pos h]
theorem nxt_11 {r : Rq} {e : En} {b : Bool} {now ver : Int} (h : r.verb = 11) : nxt r e b now ver = (cou false e b r.delta ver) := by
  unfold nxt
  rw [if_neg (by omega), if_neg (by omega), if_neg (by omega), if_neg (by omega), if_neg (by omega), if_neg (by omega), if_neg (by omega), if_neg (by omega), if_neg (by omega), if_pos h]
theorem nxt_oth {r : Rq} {e : En} {b : Bool} {now ver : Int} (h3 : r.verb ≠ 3) (h4 : r.verb ≠ 4) (h5 : r.verb ≠ 5) (h6 : r.verb ≠ 6) (h7 : r.verb ≠ 7) (h8 : r.verb ≠ 8) (h9 : r.verb ≠ 9) (h12 : r.verb ≠ 12) (h10 : r.verb ≠ 10) (h11 : r.verb ≠ 11) : nxt r e b now ver = tld (ab 0) := by
  unfold nxt
  rw [if_neg h3, if_neg h4, if_neg h5, if_neg h6, if_neg h7, if_neg h8, if_neg h9, if_neg h12, if_neg h10, if_neg h11]
/-- Next: what it comes to. -/
theorem next_any (r : Rq) (e : En) (b : Bool) (now ver : Int) (ka : Option Addr) (kn kc : Nat) (hk : e.key.size ≤ 281474976710656) (hv : e.val.size ≤ 140737488355328) (hdz : r.data.size ≤ 140737488355328) (w : World) (htab : TabIs Tryd.prog w "internal/strconv.uint64pow10" .u64 pow10Tab) :
    Calls Tryd.prog 20 #[.agg (r.cs (.slice ka kn kc)).toArray, .agg e.cs.toArray, .bool b, .int .i64 now, .int .i64 ver] w (OutQ w (nxt r e b now ver)) := by
  show Calls Tryd.prog 20 #[.agg #[.int .i64 r.verb, .slice ka kn kc, .int .i64 r.fl, .int .i64 r.exp, .int .i64 r.bytes, .int .i64 r.cas, .int .u64 (r.delta : Int), .bool r.quiet, .string r.data], _, _, _, _] w _
  by_cases h3 : r.verb = 3
  · rw [show nxt r e b now ver = _ from nxt_3 h3]
    rw [h3]
    exact next_set b now ka kn kc r.fl r.exp r.bytes r.cas r.delta r.quiet r.data e ver hk hv hdz w
  by_cases h4 : r.verb = 4
  · rw [show nxt r e b now ver = _ from nxt_4 h4]
    rw [h4]
    exact next_add b now ka kn kc r.fl r.exp r.bytes r.cas r.delta r.quiet r.data e ver hk hv hdz w
  by_cases h5 : r.verb = 5
  · rw [show nxt r e b now ver = _ from nxt_5 h5]
    rw [h5]
    exact next_rep b now ka kn kc r.fl r.exp r.bytes r.cas r.delta r.quiet r.data e ver hk hv hdz w
  by_cases h6 : r.verb = 6
  · rw [show nxt r e b now ver = _ from nxt_6 h6]
    rw [h6]
    exact next_app b now ka kn kc r.fl r.exp r.bytes r.cas r.delta r.quiet r.data e ver hk hv hdz w
  by_cases h7 : r.verb = 7
  · rw [show nxt r e b now ver = _ from nxt_7 h7]
    rw [h7]
    exact next_pre b now ka kn kc r.fl r.exp r.bytes r.cas r.delta r.quiet r.data e ver hk hv hdz w
  by_cases h8 : r.verb = 8
  · rw [show nxt r e b now ver = _ from nxt_8 h8]
    rw [h8]
    exact next_cas b now ka kn kc r.fl r.exp r.bytes r.cas r.delta r.quiet r.data e ver hk hv hdz w
  by_cases h9 : r.verb = 9
  · rw [show nxt r e b now ver = _ from nxt_9 h9]
    rw [h9]
    exact next_del b now ka kn kc r.fl r.exp r.bytes r.cas r.delta r.quiet r.data e ver hk hv hdz w
  by_cases h12 : r.verb = 12
  · rw [show nxt r e b now ver = _ from nxt_12 h12]
    rw [h12]
    exact next_tou b now ka kn kc r.fl r.exp r.bytes r.cas r.delta r.quiet r.data e ver hk hv hdz w
  by_cases h10 : r.verb = 10
  · rw [show nxt r e b now ver = _ from nxt_10 h10]
    rw [h10]
    exact next_up b now ka kn kc r.fl r.exp r.bytes r.cas r.delta r.quiet r.data e ver hk hv hdz w htab
  by_cases h11 : r.verb = 11
  · rw [show nxt r e b now ver = _ from nxt_11 h11]
    rw [h11]
    exact next_down b now ka kn kc r.fl r.exp r.bytes r.cas r.delta r.quiet r.data e ver hk hv hdz w htab
  rw [nxt_oth h3 h4 h5 h6 h7 h8 h9 h12 h10 h11]
  exact next_oth b now ka kn kc r.fl r.exp r.bytes r.cas r.delta r.quiet r.data e ver hk hv hdz r.verb (by simp [h3]) (by simp [h4]) (by simp [h5]) (by simp [h6]) (by simp [h7]) (by simp [h8]) (by simp [h9]) (by simp [h12]) (by simp [h10]) (by simp [h11]) w
end Go.Proofs.YtpkmfckifnomeaaDoor
