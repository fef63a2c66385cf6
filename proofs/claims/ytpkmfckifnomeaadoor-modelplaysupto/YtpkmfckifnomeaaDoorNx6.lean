/-
  counted.
-/
import Derived.Test.YtpkmfckifnomeaaDoorNx2
namespace Go.Proofs.YtpkmfckifnomeaaDoor
open Go.RowKit

theorem number_c (s : ByteArray) (n : Nat) (b : Bool) (hn : nv 18446744073709551615 (L s) = n) (hb : nb 18446744073709551615 (L s) = b) (w : World) : Calls Tryd.prog 56 #[.string s, .int .u64 18446744073709551615] w fun e w' => e = .returned (.tuple #[.int .u64 (n : Int), .bool b]) ∧ w = w' := by
  rw [← hn, ← hb]; exact number_any s 18446744073709551615 (by omega) w
set_option maxRecDepth 100000 in
set_option maxHeartbeats 1000000 in
theorem counted_no (vb : Int) (ka : Option Addr) (kn kc : Nat) (fl exp by_ cas : Int) (dd : Nat) (qu : Bool) (da : ByteArray) (e : En) (ver : Int) (w : World) : Calls Tryd.prog 40 #[.agg #[Value.int .i64 vb, .slice ka kn kc, .int .i64 fl, .int .i64 exp, .int .i64 by_, .int .i64 cas, .int .u64 (dd : Int), .bool qu, .string da], .agg #[Value.string e.key, .int .i64 e.fl, .int .i64 e.dl, .string e.val, .int .i64 e.cas], .bool false, .int .i64 ver] w (Out w (ab 5).cs (e0).cs false false) := by
  obtain ⟨A, hA⟩ : ∃ A, A = (ab 5).cs := ⟨_, rfl⟩
  obtain ⟨X, hX⟩ : ∃ X, X = (e0).cs := ⟨_, rfl⟩
  have HLA : Hid (A.length = 9) := Lib.hid (by rw [hA]; rfl)
  have HOA : Hid (∀ u ∈ A, u.oneCell' = true) := Lib.hid (by rw [hA]; exact Ab.one _)
  have HLX : Hid (X.length = 5) := Lib.hid (by rw [hX]; rfl)
  have HOX : Hid (∀ u ∈ X, u.oneCell' = true) := Lib.hid (by rw [hX]; exact En.one _)
  rw [← hA, ← hX]
  have TD : Hid (∀ W, Calls Tryd.prog 55 #[] W (Out W A X false false)) := Lib.hid (fun W => by rw [hA, hX]; exact missing_any W)
  have HN : Hid (((((w.alloc (.cells #[Value.int .i64 vb, .slice ka kn kc, .int .i64 fl, .int .i64 exp, .int .i64 by_, .int .i64 cas, .int .u64 (dd : Int), .bool qu, .string da] 27)).alloc (.cells #[Value.string e.key, .int .i64 e.fl, .int .i64 e.dl, .string e.val, .int .i64 e.cas] 49)).alloc (.cells zA.toArray 32)).alloc (.cells e0.cs.toArray 49)).there (w.heap.size + 1 + 1) 0 9 ∧ ((((w.alloc (.cells #[Value.int .i64 vb, .slice ka kn kc, .int .i64 fl, .int .i64 exp, .int .i64 by_, .int .i64 cas, .int .u64 (dd : Int), .bool qu, .string da] 27)).alloc (.cells #[Value.string e.key, .int .i64 e.fl, .int .i64 e.dl, .string e.val, .int .i64 e.cas] 49)).alloc (.cells zA.toArray 32)).alloc (.cells e0.cs.toArray 49)).there (w.heap.size + 1 + 1 + 1) 0 5 ∧ Below w.heap.size w ((((w.alloc (.cells #[Value.int .i64 vb, .slice ka kn kc, .int .i64 fl, .int .i64 exp, .int .i64 by_, .int .i64 cas, .int .u64 (dd : Int), .bool qu, .string da] 27)).alloc (.cells #[Value.string e.key, .int .i64 e.fl, .int .i64 e.dl, .string e.val, .int .i64 e.cas] 49)).alloc (.cells zA.toArray 32)).alloc (.cells e0.cs.toArray 49))) := Lib.hid (by
    obtain ⟨n1, n2, n3⟩ := two_new ((w.alloc (.cells #[Value.int .i64 vb, .slice ka kn kc, .int .i64 fl, .int .i64 exp, .int .i64 by_, .int .i64 cas, .int .u64 (dd : Int), .bool qu, .string da] 27)).alloc (.cells #[Value.string e.key, .int .i64 e.fl, .int .i64 e.dl, .string e.val, .int .i64 e.cas] 49)) (X := zA.toArray) (Y := e0.cs.toArray) rfl rfl
    simp only [World.size_alloc] at n1 n2
    exact ⟨n1, n2, ((below_alloc w _).trans ((((below_alloc (w.alloc (.cells #[Value.int .i64 vb, .slice ka kn kc, .int .i64 fl, .int .i64 exp, .int .i64 by_, .int .i64 cas, .int .u64 (dd : Int), .bool qu, .string da] 27)) _).trans ((n3).mono (by simp only [World.size_alloc]; omega)))).mono (by simp only [World.size_alloc]; omega)))⟩)
  clear hA hX
  go_enter Tryd.func40, Tryd.ntmps40
  go_wp2_with fail
  refine (TD.out _).mono ?_
  rintro e w1 ⟨rfl, hb⟩
  obtain ⟨t1, t2, r1, r2, b2⟩ := two_fin (w := w) (W := w1) (b := w.heap.size + 1 + 1) HLA.out HLX.out (by omega) (HN.out.2.2.trans (hb.mono (by simp only [World.size_alloc]; omega))) (there_below (by first | exact HN.out.1 | exact there_setCell HN.out.1 _ _ | exact there_setCell (there_setCell HN.out.1 _ _) _ _ | exact there_below HN.out.1 (below_alloc _ _)) hb) (there_below (by first | exact HN.out.2.1 | exact there_setCell HN.out.2.1 _ _ | exact there_setCell (there_setCell HN.out.2.1 _ _) _ _ | exact there_below HN.out.2.1 (below_alloc _ _)) hb)
  have HT1 := Lib.hid t1
  have HT2 := Lib.hid t2
  have HR1 := Lib.hid r1
  have HR2 := Lib.hid r2
  have HB2 := Lib.hid b2
  clear t1 t2 r1 r2 b2
  clear hb HN TD
  go_wp2_with (first
    | ((with_reducible show wpList _ _ _ (Oper.mk none (Op.store 32 (.tmp 8) _) _ _ _ _ :: _) _ _); refine wpList_store_mid (by rfl) 32 (.tmp 8) (.tmp 17) (by rfl) (w.heap.size + 1 + 1) 0 A.toArray (by rfl) (by rfl) HT1.out (by rw [List.size_toArray, HLA.out]; kernel_rfl) (all_oneCell_toArray HOA.out) ?_; rw [show A.toArray.toList = A from rfl])
    | ((with_reducible show wpList _ _ _ (Oper.mk none (Op.store 49 (.tmp 9) _) _ _ _ _ :: _) _ _); refine wpList_store_mid (by rfl) 49 (.tmp 9) (.tmp 18) (by rfl) (w.heap.size + 1 + 1 + 1) 0 X.toArray (by rfl) (by rfl) HT2.out (by rw [List.size_toArray, HLX.out]; kernel_rfl) (all_oneCell_toArray HOX.out) ?_; rw [show X.toArray.toList = X from rfl]))
  refine bodyPost_ret (v := .tuple #[.agg A.toArray, .agg X.toArray, .bool false, .bool false]) (res4 Tryd.results40 rfl rfl rfl rfl HR1.out HR2.out HLA.out HLX.out) rfl ⟨rfl, HB2.out⟩
set_option maxRecDepth 100000 in
set_option maxHeartbeats 1000000 in
theorem counted_bad (vb : Int) (ka : Option Addr) (kn kc : Nat) (fl exp by_ cas : Int) (dd : Nat) (qu : Bool) (da : ByteArray) (e : En) (ver : Int) (hb0 : nb 18446744073709551615 (L e.val) = false) (w : World) : Calls Tryd.prog 40 #[.agg #[Value.int .i64 vb, .slice ka kn kc, .int .i64 fl, .int .i64 exp, .int .i64 by_, .int .i64 cas, .int .u64 (dd : Int), .bool qu, .string da], .agg #[Value.string e.key, .int .i64 e.fl, .int .i64 e.dl, .string e.val, .int .i64 e.cas], .bool true, .int .i64 ver] w (Out w (Ab.mk 13 0 noNumber).cs (e0).cs false false) := by
  have NC := Lib.hid (number_c e.val _ _ rfl hb0)
  clear hb0
  obtain ⟨nn, hnn⟩ : ∃ nn, nv 18446744073709551615 (L e.val) = nn := ⟨_, rfl⟩
  rw [hnn] at NC
  clear hnn
  obtain ⟨A, hA⟩ : ∃ A, A = (Ab.mk 13 0 noNumber).cs := ⟨_, rfl⟩
  obtain ⟨X, hX⟩ : ∃ X, X = (e0).cs := ⟨_, rfl⟩
  have HLA : Hid (A.length = 9) := Lib.hid (by rw [hA]; rfl)
  have HOA : Hid (∀ u ∈ A, u.oneCell' = true) := Lib.hid (by rw [hA]; exact Ab.one _)
  have HLX : Hid (X.length = 5) := Lib.hid (by rw [hX]; rfl)
  have HOX : Hid (∀ u ∈ X, u.oneCell' = true) := Lib.hid (by rw [hX]; exact En.one _)
  rw [← hA, ← hX]
  have TD : Hid (∀ W, Calls Tryd.prog 41 #[.agg #[Value.int .i64 13, .slice none 0 0, .bool false, .int .u64 0, .string noNumber, .int .i64 0, .int .i64 0, .int .i64 0, .int .i64 0]] W (Out W A X false false)) := Lib.hid (fun W => by rw [hA, hX]; exact told_any _ rfl (Ab.one _) W)
  have HN : Hid (((((w.alloc (.cells #[Value.int .i64 vb, .slice ka kn kc, .int .i64 fl, .int .i64 exp, .int .i64 by_, .int .i64 cas, .int .u64 (dd : Int), .bool qu, .string da] 27)).alloc (.cells #[Value.string e.key, .int .i64 e.fl, .int .i64 e.dl, .string e.val, .int .i64 e.cas] 49)).alloc (.cells zA.toArray 32)).alloc (.cells e0.cs.toArray 49)).there (w.heap.size + 1 + 1) 0 9 ∧ ((((w.alloc (.cells #[Value.int .i64 vb, .slice ka kn kc, .int .i64 fl, .int .i64 exp, .int .i64 by_, .int .i64 cas, .int .u64 (dd : Int), .bool qu, .string da] 27)).alloc (.cells #[Value.string e.key, .int .i64 e.fl, .int .i64 e.dl, .string e.val, .int .i64 e.cas] 49)).alloc (.cells zA.toArray 32)).alloc (.cells e0.cs.toArray 49)).there (w.heap.size + 1 + 1 + 1) 0 5 ∧ Below w.heap.size w ((((w.alloc (.cells #[Value.int .i64 vb, .slice ka kn kc, .int .i64 fl, .int .i64 exp, .int .i64 by_, .int .i64 cas, .int .u64 (dd : Int), .bool qu, .string da] 27)).alloc (.cells #[Value.string e.key, .int .i64 e.fl, .int .i64 e.dl, .string e.val, .int .i64 e.cas] 49)).alloc (.cells zA.toArray 32)).alloc (.cells e0.cs.toArray 49))) := Lib.hid (by
    obtain ⟨n1, n2, n3⟩ := two_new ((w.alloc (.cells #[Value.int .i64 vb, .slice ka kn kc, .int .i64 fl, .int .i64 exp, .int .i64 by_, .int .i64 cas, .int .u64 (dd : Int), .bool qu, .string da] 27)).alloc (.cells #[Value.string e.key, .int .i64 e.fl, .int .i64 e.dl, .string e.val, .int .i64 e.cas] 49)) (X := zA.toArray) (Y := e0.cs.toArray) rfl rfl
    simp only [World.size_alloc] at n1 n2
    exact ⟨n1, n2, ((below_alloc w _).trans ((((below_alloc (w.alloc (.cells #[Value.int .i64 vb, .slice ka kn kc, .int .i64 fl, .int .i64 exp, .int .i64 by_, .int .i64 cas, .int .u64 (dd : Int), .bool qu, .string da] 27)) _).trans ((n3).mono (by simp only [World.size_alloc]; omega)))).mono (by simp only [World.size_alloc]; omega)))⟩)
  clear hA hX
  go_enter Tryd.func40, Tryd.ntmps40
  go_wp2_with fail
  refine (NC.out _).mono ?_
  rintro e1 w0 ⟨rfl, rfl⟩
  go_wp2_with fail
  refine (TD.out _).mono ?_
  rintro e w1 ⟨rfl, hb⟩
  obtain ⟨t1, t2, r1, r2, b2⟩ := two_fin (w := w) (W := w1) (b := w.heap.size + 1 + 1) HLA.out HLX.out (by omega) (HN.out.2.2.trans (hb.mono (by simp only [World.size_alloc]; omega))) (there_below (by first | exact HN.out.1 | exact there_setCell HN.out.1 _ _ | exact there_setCell (there_setCell HN.out.1 _ _) _ _ | exact there_below HN.out.1 (below_alloc _ _)) hb) (there_below (by first | exact HN.out.2.1 | exact there_setCell HN.out.2.1 _ _ | exact there_setCell (there_setCell HN.out.2.1 _ _) _ _ | exact there_below HN.out.2.1 (below_alloc _ _)) hb)
  have HT1 := Lib.hid t1
  have HT2 := Lib.hid t2
  have HR1 := Lib.hid r1
  have HR2 := Lib.hid r2
  have HB2 := Lib.hid b2
  clear t1 t2 r1 r2 b2
  clear hb HN TD
  go_wp2_with (first
    | ((with_reducible show wpList _ _ _ (Oper.mk none (Op.store 32 (.tmp 8) _) _ _ _ _ :: _) _ _); refine wpList_store_mid (by rfl) 32 (.tmp 8) (.tmp 31) (by rfl) (w.heap.size + 1 + 1) 0 A.toArray (by rfl) (by rfl) HT1.out (by rw [List.size_toArray, HLA.out]; kernel_rfl) (all_oneCell_toArray HOA.out) ?_; rw [show A.toArray.toList = A from rfl])
    | ((with_reducible show wpList _ _ _ (Oper.mk none (Op.store 49 (.tmp 9) _) _ _ _ _ :: _) _ _); refine wpList_store_mid (by rfl) 49 (.tmp 9) (.tmp 32) (by rfl) (w.heap.size + 1 + 1 + 1) 0 X.toArray (by rfl) (by rfl) HT2.out (by rw [List.size_toArray, HLX.out]; kernel_rfl) (all_oneCell_toArray HOX.out) ?_; rw [show X.toArray.toList = X from rfl]))
  refine bodyPost_ret (v := .tuple #[.agg A.toArray, .agg X.toArray, .bool false, .bool false]) (res4 Tryd.results40 rfl rfl rfl rfl HR1.out HR2.out HLA.out HLX.out) rfl ⟨rfl, HB2.out⟩
end Go.Proofs.YtpkmfckifnomeaaDoor


namespace Go.Proofs.YtpkmfckifnomeaaDoor
open Go.RowKit

open Go.Lib (TabIs pow10Tab)
set_option maxRecDepth 100000 in
set_option maxHeartbeats 2000000 in
theorem counted_up (ka : Option Addr) (kn kc : Nat) (fl exp by_ cas : Int) (dd : Nat) (qu : Bool) (da : ByteArray) (e : En) (ver : Int) (n c : Nat) (hn : nv 18446744073709551615 (L e.val) = n) (hb0 : nb 18446744073709551615 (L e.val) = true) (hn2 : n < 18446744073709551616) (hc : cnt true n dd = c) (hk : e.key.size ≤ 281474976710656) (w : World) (htab : TabIs Tryd.prog w "internal/strconv.uint64pow10" .u64 pow10Tab) :
    Calls Tryd.prog 40 #[.agg #[Value.int .i64 10, .slice ka kn kc, .int .i64 fl, .int .i64 exp, .int .i64 by_, .int .i64 cas, .int .u64 (dd : Int), .bool qu, .string da], .agg #[Value.string e.key, .int .i64 e.fl, .int .i64 e.dl, .string e.val, .int .i64 e.cas], .bool true, .int .i64 ver] w (Out w (Ab.mk 8 (c : Int) ⟨#[]⟩).cs (En.mk e.key e.fl e.dl (S (Lib.decDigits c)) ver).cs true false) := by
  have hc2 : c < 18446744073709551616 := by rw [← hc]; exact cnt_lt _ _ _ hn2
  have g1 : IntKind.u64.wrap ((n : Int) + (dd : Int)) = (c : Int) := by rw [IntKind.wrap_u64, ← hc]; simp only [cnt, if_true]; omega
  have NC := Lib.hid (number_c e.val n true hn hb0)
  clear hb0 hn hc
  have zd := (dec_len hc2).2
  obtain ⟨A, hA⟩ : ∃ A, A = (Ab.mk 8 (c : Int) ⟨#[]⟩).cs := ⟨_, rfl⟩
  obtain ⟨X, hX⟩ : ∃ X, X = (En.mk e.key e.fl e.dl (S (Lib.decDigits c)) ver).cs := ⟨_, rfl⟩
  have HLA : Hid (A.length = 9) := Lib.hid (by rw [hA]; rfl)
  have HOA : Hid (∀ u ∈ A, u.oneCell' = true) := Lib.hid (by rw [hA]; exact Ab.one _)
  have HLX : Hid (X.length = 5) := Lib.hid (by rw [hX]; rfl)
  have HOX : Hid (∀ u ∈ X, u.oneCell' = true) := Lib.hid (by rw [hX]; exact En.one _)
  rw [← hA, ← hX]
  obtain ⟨ds, hds⟩ : ∃ ds, S (Lib.decDigits c) = ds := ⟨_, rfl⟩
  have TD : Hid (∀ W, Calls Tryd.prog 34 #[.agg #[Value.int .i64 8, .slice none 0 0, .bool false, .int .u64 (c : Int), .string ⟨#[]⟩, .int .i64 0, .int .i64 0, .int .i64 0, .int .i64 0], .agg #[Value.string e.key, .int .i64 e.fl, .int .i64 e.dl, .string ds, .int .i64 ver]] W (Out W A X true false)) := Lib.hid (fun W => by rw [hA, hX, ← hds]; exact kept_any _ rfl (Ab.one _) ⟨e.key, e.fl, e.dl, S (Lib.decDigits c), ver⟩ hk (by show (S _).size ≤ _; rw [S_size]; omega) W)
  have HN : Hid (((((w.alloc (.cells #[Value.int .i64 10, .slice ka kn kc, .int .i64 fl, .int .i64 exp, .int .i64 by_, .int .i64 cas, .int .u64 (dd : Int), .bool qu, .string da] 27)).alloc (.cells #[Value.string e.key, .int .i64 e.fl, .int .i64 e.dl, .string e.val, .int .i64 e.cas] 49)).alloc (.cells zA.toArray 32)).alloc (.cells e0.cs.toArray 49)).there (w.heap.size + 1 + 1) 0 9 ∧ ((((w.alloc (.cells #[Value.int .i64 10, .slice ka kn kc, .int .i64 fl, .int .i64 exp, .int .i64 by_, .int .i64 cas, .int .u64 (dd : Int), .bool qu, .string da] 27)).alloc (.cells #[Value.string e.key, .int .i64 e.fl, .int .i64 e.dl, .string e.val, .int .i64 e.cas] 49)).alloc (.cells zA.toArray 32)).alloc (.cells e0.cs.toArray 49)).there (w.heap.size + 1 + 1 + 1) 0 5 ∧ Below w.heap.size w ((((w.alloc (.cells #[Value.int .i64 10, .slice ka kn kc, .int .i64 fl, .int .i64 exp, .int .i64 by_, .int .i64 cas, .int .u64 (dd : Int), .bool qu, .string da] 27)).alloc (.cells #[Value.string e.key, .int .i64 e.fl, .int .i64 e.dl, .string e.val, .int .i64 e.cas] 49)).alloc (.cells zA.toArray 32)).alloc (.cells e0.cs.toArray 49))) := Lib.hid (by
    obtain ⟨n1, n2, n3⟩ := two_new ((w.alloc (.cells #[Value.int .i64 10, .slice ka kn kc, .int .i64 fl, .int .i64 exp, .int .i64 by_, .int .i64 cas, .int .u64 (dd : Int), .bool qu, .string da] 27)).alloc (.cells #[Value.string e.key, .int .i64 e.fl, .int .i64 e.dl, .string e.val, .int .i64 e.cas] 49)) (X := zA.toArray) (Y := e0.cs.toArray) rfl rfl
    simp only [World.size_alloc] at n1 n2
    exact ⟨n1, n2, ((below_alloc w _).trans ((((below_alloc (w.alloc (.cells #[Value.int .i64 10, .slice ka kn kc, .int .i64 fl, .int .i64 exp, .int .i64 by_, .int .i64 cas, .int .u64 (dd : Int), .bool qu, .string da] 27)) _).trans ((n3).mono (by simp only [World.size_alloc]; omega)))).mono (by simp only [World.size_alloc]; omega)))⟩)
  have HE : Hid (((((w.alloc (.cells #[Value.int .i64 10, .slice ka kn kc, .int .i64 fl, .int .i64 exp, .int .i64 by_, .int .i64 cas, .int .u64 (dd : Int), .bool qu, .string da] 27)).alloc (.cells #[Value.string e.key, .int .i64 e.fl, .int .i64 e.dl, .string e.val, .int .i64 e.cas] 49)).alloc (.cells zA.toArray 32)).alloc (.cells e0.cs.toArray 49)).rangeAt (w.heap.size + 1) 0 e.cs ∧ ((((w.alloc (.cells #[Value.int .i64 10, .slice ka kn kc, .int .i64 fl, .int .i64 exp, .int .i64 by_, .int .i64 cas, .int .u64 (dd : Int), .bool qu, .string da] 27)).alloc (.cells #[Value.string e.key, .int .i64 e.fl, .int .i64 e.dl, .string e.val, .int .i64 e.cas] 49)).alloc (.cells zA.toArray 32)).alloc (.cells e0.cs.toArray 49)).there (w.heap.size + 1) 0 5) := Lib.hid (by
    have r := range_new (w.alloc (.cells #[Value.int .i64 10, .slice ka kn kc, .int .i64 fl, .int .i64 exp, .int .i64 by_, .int .i64 cas, .int .u64 (dd : Int), .bool qu, .string da] 27)) e.cs 49
    have r' := there_new (w.alloc (.cells #[Value.int .i64 10, .slice ka kn kc, .int .i64 fl, .int .i64 exp, .int .i64 by_, .int .i64 cas, .int .u64 (dd : Int), .bool qu, .string da] 27)) e.cs 49
    simp only [World.size_alloc] at r r'
    have n3 := (two_new ((w.alloc (.cells #[Value.int .i64 10, .slice ka kn kc, .int .i64 fl, .int .i64 exp, .int .i64 by_, .int .i64 cas, .int .u64 (dd : Int), .bool qu, .string da] 27)).alloc (.cells #[Value.string e.key, .int .i64 e.fl, .int .i64 e.dl, .string e.val, .int .i64 e.cas] 49)) (X := zA.toArray) (Y := e0.cs.toArray) rfl rfl).2.2
    exact ⟨range_below r n3, there_below r' n3⟩)
  have FM := Lib.hid (fmt_any c hc2 ((((w.alloc (.cells #[Value.int .i64 10, .slice ka kn kc, .int .i64 fl, .int .i64 exp, .int .i64 by_, .int .i64 cas, .int .u64 (dd : Int), .bool qu, .string da] 27)).alloc (.cells #[Value.string e.key, .int .i64 e.fl, .int .i64 e.dl, .string e.val, .int .i64 e.cas] 49)).alloc (.cells zA.toArray 32)).alloc (.cells e0.cs.toArray 49)) (tabIs_below htab HN.out.2.2))
  rw [hds] at FM
  have HD0 := Lib.hid hds
  clear hA hX hds htab hc2 zd
  go_enter Tryd.func40, Tryd.ntmps40
  go_wp2_with fail
  refine (NC.out _).mono ?_
  rintro e1 w0 ⟨rfl, rfl⟩
  go_wp2_with fail
  refine FM.out.mono ?_
  rintro e1 w2 ⟨rfl, hb2⟩
  have r2 := range_below HE.out.1 hb2
  have t2 := there_below HE.out.2 hb2
  have c0 := r2 0 _ rfl
  have c1 := r2 1 _ rfl
  have c2 := r2 2 _ rfl
  have c3 := r2 3 _ rfl
  have c4 := r2 4 _ rfl
  have z3 := (t2 3 (by omega)).2
  have z4 := (t2 4 (by omega)).2
  simp only [Nat.zero_add] at c0 c1 c2 c3 c4 z3 z4
  have HM := Lib.hid (And.intro (there_below HN.out.1 hb2) (And.intro (there_below HN.out.2.1 hb2) (HN.out.2.2.trans (hb2.mono (by simp only [World.size_alloc]; omega)))))
  have HZ : Hid (w.heap.size + 1 + 1 + 1 + 1 ≤ w2.heap.size) := Lib.hid (by have := hb2.size; simpa only [World.size_alloc] using this)
  clear hb2 HN HE FM NC r2 t2
  go_wp2_with fail
  refine (TD.out _).mono ?_
  rintro e1 w1 ⟨rfl, hb⟩
  obtain ⟨t1, t2, r1, r2, b2⟩ := two_fin (w := w) (W := w1) (b := w.heap.size + 1 + 1) HLA.out HLX.out (by omega) ((((HM.out.2.2).setCell (p := ⟨w.heap.size + 1, 3, none⟩) (by show w.heap.size ≤ w.heap.size + 1; omega) (.string ds)).setCell (p := ⟨w.heap.size + 1, 4, none⟩) (by show w.heap.size ≤ w.heap.size + 1; omega) (.int .i64 ver)).trans (hb.mono (by have := HZ.out; simp [World.setCell]; omega))) (there_below (there_setCell (there_setCell HM.out.1 _ _) _ _) hb) (there_below (there_setCell (there_setCell HM.out.2.1 _ _) _ _) hb)
  have HT1 := Lib.hid t1
  have HT2 := Lib.hid t2
  have HR1 := Lib.hid r1
  have HR2 := Lib.hid r2
  have HB2 := Lib.hid b2
  clear t1 t2 r1 r2 b2
  clear hb HM TD HZ
  go_wp2_with (first
    | ((with_reducible show wpList _ _ _ (Oper.mk none (Op.store 32 (.tmp 8) _) _ _ _ _ :: _) _ _); refine wpList_store_mid (by rfl) 32 (.tmp 8) (.tmp 57) (by rfl) (w.heap.size + 1 + 1) 0 A.toArray (by rfl) (by rfl) HT1.out (by rw [List.size_toArray, HLA.out]; kernel_rfl) (all_oneCell_toArray HOA.out) ?_; rw [show A.toArray.toList = A from rfl])
    | ((with_reducible show wpList _ _ _ (Oper.mk none (Op.store 49 (.tmp 9) _) _ _ _ _ :: _) _ _); refine wpList_store_mid (by rfl) 49 (.tmp 9) (.tmp 58) (by rfl) (w.heap.size + 1 + 1 + 1) 0 X.toArray (by rfl) (by rfl) HT2.out (by rw [List.size_toArray, HLX.out]; kernel_rfl) (all_oneCell_toArray HOX.out) ?_; rw [show X.toArray.toList = X from rfl]))
  refine bodyPost_ret (v := .tuple #[.agg A.toArray, .agg X.toArray, .bool true, .bool false]) (res4 Tryd.results40 rfl rfl rfl rfl HR1.out HR2.out HLA.out HLX.out) rfl ⟨rfl, HB2.out⟩
set_option maxRecDepth 100000 in
set_option maxHeartbeats 2000000 in
theorem counted_down (ka : Option Addr) (kn kc : Nat) (fl exp by_ cas : Int) (dd : Nat) (qu : Bool) (da : ByteArray) (e : En) (ver : Int) (n c : Nat) (hn : nv 18446744073709551615 (L e.val) = n) (hb0 : nb 18446744073709551615 (L e.val) = true) (hn2 : n < 18446744073709551616) (hc : cnt false n dd = c) (hk : e.key.size ≤ 281474976710656) (w : World) (htab : TabIs Tryd.prog w "internal/strconv.uint64pow10" .u64 pow10Tab) :
    Calls Tryd.prog 40 #[.agg #[Value.int .i64 11, .slice ka kn kc, .int .i64 fl, .int .i64 exp, .int .i64 by_, .int .i64 cas, .int .u64 (dd : Int), .bool qu, .string da], .agg #[Value.string e.key, .int .i64 e.fl, .int .i64 e.dl, .string e.val, .int .i64 e.cas], .bool true, .int .i64 ver] w (Out w (Ab.mk 8 (c : Int) ⟨#[]⟩).cs (En.mk e.key e.fl e.dl (S (Lib.decDigits c)) ver).cs true false) := by
  have hc2 : c < 18446744073709551616 := by rw [← hc]; exact cnt_lt _ _ _ hn2
  obtain ⟨m, hm⟩ : ∃ m : Nat, min n dd = m := ⟨_, rfl⟩
  have g0 : min (n : Int) (dd : Int) = (m : Int) := by omega
  have g1 : IntKind.u64.wrap ((n : Int) - (m : Int)) = (c : Int) := by rw [IntKind.wrap_u64, ← hc]; simp only [cnt]; simp only [Bool.false_eq_true, if_false]; omega
  clear hm
  have NC := Lib.hid (number_c e.val n true hn hb0)
  clear hb0 hn hc
  have zd := (dec_len hc2).2
  obtain ⟨A, hA⟩ : ∃ A, A = (Ab.mk 8 (c : Int) ⟨#[]⟩).cs := ⟨_, rfl⟩
  obtain ⟨X, hX⟩ : ∃ X, X = (En.mk e.key e.fl e.dl (S (Lib.decDigits c)) ver).cs := ⟨_, rfl⟩
  have HLA : Hid (A.length = 9) := Lib.hid (by rw [hA]; rfl)
  have HOA : Hid (∀ u ∈ A, u.oneCell' = true) := Lib.hid (by rw [hA]; exact Ab.one _)
  have HLX : Hid (X.length = 5) := Lib.hid (by rw [hX]; rfl)
  have HOX : Hid (∀ u ∈ X, u.oneCell' = true) := Lib.hid (by rw [hX]; exact En.one _)
  rw [← hA, ← hX]
  obtain ⟨ds, hds⟩ : ∃ ds, S (Lib.decDigits c) = ds := ⟨_, rfl⟩
  have TD : Hid (∀ W, Calls Tryd.prog 34 #[.agg #[Value.int .i64 8, .slice none 0 0, .bool false, .int .u64 (c : Int), .string ⟨#[]⟩, .int .i64 0, .int .i64 0, .int .i64 0, .int .i64 0], .agg #[Value.string e.key, .int .i64 e.fl, .int .i64 e.dl, .string ds, .int .i64 ver]] W (Out W A X true false)) := Lib.hid (fun W => by rw [hA, hX, ← hds]; exact kept_any _ rfl (Ab.one _) ⟨e.key, e.fl, e.dl, S (Lib.decDigits c), ver⟩ hk (by show (S _).size ≤ _; rw [S_size]; omega) W)
  have HN : Hid (((((w.alloc (.cells #[Value.int .i64 11, .slice ka kn kc, .int .i64 fl, .int .i64 exp, .int .i64 by_, .int .i64 cas, .int .u64 (dd : Int), .bool qu, .string da] 27)).alloc (.cells #[Value.string e.key, .int .i64 e.fl, .int .i64 e.dl, .string e.val, .int .i64 e.cas] 49)).alloc (.cells zA.toArray 32)).alloc (.cells e0.cs.toArray 49)).there (w.heap.size + 1 + 1) 0 9 ∧ ((((w.alloc (.cells #[Value.int .i64 11, .slice ka kn kc, .int .i64 fl, .int .i64 exp, .int .i64 by_, .int .i64 cas, .int .u64 (dd : Int), .bool qu, .string da] 27)).alloc (.cells #[Value.string e.key, .int .i64 e.fl, .int .i64 e.dl, .string e.val, .int .i64 e.cas] 49)).alloc (.cells zA.toArray 32)).alloc (.cells e0.cs.toArray 49)).there (w.heap.size + 1 + 1 + 1) 0 5 ∧ Below w.heap.size w ((((w.alloc (.cells #[Value.int .i64 11, .slice ka kn kc, .int .i64 fl, .int .i64 exp, .int .i64 by_, .int .i64 cas, .int .u64 (dd : Int), .bool qu, .string da] 27)).alloc (.cells #[Value.string e.key, .int .i64 e.fl, .int .i64 e.dl, .string e.val, .int .i64 e.cas] 49)).alloc (.cells zA.toArray 32)).alloc (.cells e0.cs.toArray 49))) := Lib.hid (by
    obtain ⟨n1, n2, n3⟩ := two_new ((w.alloc (.cells #[Value.int .i64 11, .slice ka kn kc, .int .i64 fl, .int .i64 exp, .int .i64 by_, .int .i64 cas, .int .u64 (dd : Int), .bool qu, .string da] 27)).alloc (.cells #[Value.string e.key, .int .i64 e.fl, .int .i64 e.dl, .string e.val, .int .i64 e.cas] 49)) (X := zA.toArray) (Y := e0.cs.toArray) rfl rfl
    simp only [World.size_alloc] at n1 n2
    exact ⟨n1, n2, ((below_alloc w _).trans ((((below_alloc (w.alloc (.cells #[Value.int .i64 11, .slice ka kn kc, .int .i64 fl, .int .i64 exp, .int .i64 by_, .int .i64 cas, .int .u64 (dd : Int), .bool qu, .string da] 27)) _).trans ((n3).mono (by simp only [World.size_alloc]; omega)))).mono (by simp only [World.size_alloc]; omega)))⟩)
  have HE : Hid (((((w.alloc (.cells #[Value.int .i64 11, .slice ka kn kc, .int .i64 fl, .int .i64 exp, .int .i64 by_, .int .i64 cas, .int .u64 (dd : Int), .bool qu, .string da] 27)).alloc (.cells #[Value.string e.key, .int .i64 e.fl, .int .i64 e.dl, .string e.val, .int .i64 e.cas] 49)).alloc (.cells zA.toArray 32)).alloc (.cells e0.cs.toArray 49)).rangeAt (w.heap.size + 1) 0 e.cs ∧ ((((w.alloc (.cells #[Value.int .i64 11, .slice ka kn kc, .int .i64 fl, .int .i64 exp, .int .i64 by_, .int .i64 cas, .int .u64 (dd : Int), .bool qu, .string da] 27)).alloc (.cells #[Value.string e.key, .int .i64 e.fl, .int .i64 e.dl, .string e.val, .int .i64 e.cas] 49)).alloc (.cells zA.toArray 32)).alloc (.cells e0.cs.toArray 49)).there (w.heap.size + 1) 0 5) := Lib.hid (by
    have r := range_new (w.alloc (.cells #[Value.int .i64 11, .slice ka kn kc, .int .i64 fl, .int .i64 exp, .int .i64 by_, .int .i64 cas, .int .u64 (dd : Int), .bool qu, .string da] 27)) e.cs 49
    have r' := there_new (w.alloc (.cells #[Value.int .i64 11, .slice ka kn kc, .int .i64 fl, .int .i64 exp, .int .i64 by_, .int .i64 cas, .int .u64 (dd : Int), .bool qu, .string da] 27)) e.cs 49
    simp only [World.size_alloc] at r r'
    have n3 := (two_new ((w.alloc (.cells #[Value.int .i64 11, .slice ka kn kc, .int .i64 fl, .int .i64 exp, .int .i64 by_, .int .i64 cas, .int .u64 (dd : Int), .bool qu, .string da] 27)).alloc (.cells #[Value.string e.key, .int .i64 e.fl, .int .i64 e.dl, .string e.val, .int .i64 e.cas] 49)) (X := zA.toArray) (Y := e0.cs.toArray) rfl rfl).2.2
    exact ⟨range_below r n3, there_below r' n3⟩)
  have FM := Lib.hid (fmt_any c hc2 ((((w.alloc (.cells #[Value.int .i64 11, .slice ka kn kc, .int .i64 fl, .int .i64 exp, .int .i64 by_, .int .i64 cas, .int .u64 (dd : Int), .bool qu, .string da] 27)).alloc (.cells #[Value.string e.key, .int .i64 e.fl, .int .i64 e.dl, .string e.val, .int .i64 e.cas] 49)).alloc (.cells zA.toArray 32)).alloc (.cells e0.cs.toArray 49)) (tabIs_below htab HN.out.2.2))
  rw [hds] at FM
  have HD0 := Lib.hid hds
  clear hA hX hds htab hc2 zd
  go_enter Tryd.func40, Tryd.ntmps40
  go_wp2_with fail
  refine (NC.out _).mono ?_
  rintro e1 w0 ⟨rfl, rfl⟩
  go_wp2_with fail
  refine FM.out.mono ?_
  rintro e1 w2 ⟨rfl, hb2⟩
  have r2 := range_below HE.out.1 hb2
  have t2 := there_below HE.out.2 hb2
  have c0 := r2 0 _ rfl
  have c1 := r2 1 _ rfl
  have c2 := r2 2 _ rfl
  have c3 := r2 3 _ rfl
  have c4 := r2 4 _ rfl
  have z3 := (t2 3 (by omega)).2
  have z4 := (t2 4 (by omega)).2
  simp only [Nat.zero_add] at c0 c1 c2 c3 c4 z3 z4
  have HM := Lib.hid (And.intro (there_below HN.out.1 hb2) (And.intro (there_below HN.out.2.1 hb2) (HN.out.2.2.trans (hb2.mono (by simp only [World.size_alloc]; omega)))))
  have HZ : Hid (w.heap.size + 1 + 1 + 1 + 1 ≤ w2.heap.size) := Lib.hid (by have := hb2.size; simpa only [World.size_alloc] using this)
  clear hb2 HN HE FM NC r2 t2
  go_wp2_with fail
  refine (TD.out _).mono ?_
  rintro e1 w1 ⟨rfl, hb⟩
  obtain ⟨t1, t2, r1, r2, b2⟩ := two_fin (w := w) (W := w1) (b := w.heap.size + 1 + 1) HLA.out HLX.out (by omega) ((((HM.out.2.2).setCell (p := ⟨w.heap.size + 1, 3, none⟩) (by show w.heap.size ≤ w.heap.size + 1; omega) (.string ds)).setCell (p := ⟨w.heap.size + 1, 4, none⟩) (by show w.heap.size ≤ w.heap.size + 1; omega) (.int .i64 ver)).trans (hb.mono (by have := HZ.out; simp [World.setCell]; omega))) (there_below (there_setCell (there_setCell HM.out.1 _ _) _ _) hb) (there_below (there_setCell (there_setCell HM.out.2.1 _ _) _ _) hb)
  have HT1 := Lib.hid t1
  have HT2 := Lib.hid t2
  have HR1 := Lib.hid r1
  have HR2 := Lib.hid r2
  have HB2 := Lib.hid b2
  clear t1 t2 r1 r2 b2
  clear hb HM TD HZ
  go_wp2_with (first
    | ((with_reducible show wpList _ _ _ (Oper.mk none (Op.store 32 (.tmp 8) _) _ _ _ _ :: _) _ _); refine wpList_store_mid (by rfl) 32 (.tmp 8) (.tmp 57) (by rfl) (w.heap.size + 1 + 1) 0 A.toArray (by rfl) (by rfl) HT1.out (by rw [List.size_toArray, HLA.out]; kernel_rfl) (all_oneCell_toArray HOA.out) ?_; rw [show A.toArray.toList = A from rfl])
    | ((with_reducible show wpList _ _ _ (Oper.mk none (Op.store 49 (.tmp 9) _) _ _ _ _ :: _) _ _); refine wpList_store_mid (by rfl) 49 (.tmp 9) (.tmp 58) (by rfl) (w.heap.size + 1 + 1 + 1) 0 X.toArray (by rfl) (by rfl) HT2.out (by rw [List.size_toArray, HLX.out]; kernel_rfl) (all_oneCell_toArray HOX.out) ?_; rw [show X.toArray.toList = X from rfl]))
  refine bodyPost_ret (v := .tuple #[.agg A.toArray, .agg X.toArray, .bool true, .bool false]) (res4 Tryd.results40 rfl rfl rfl rfl HR1.out HR2.out HLA.out HLX.out) rfl ⟨rfl, HB2.out⟩
end Go.Proofs.YtpkmfckifnomeaaDoor


namespace Go.Proofs.YtpkmfckifnomeaaDoor
open Go.RowKit

open Go.Lib (TabIs pow10Tab)
set_option maxRecDepth 100000 in
set_option maxHeartbeats 1000000 in
theorem deleted_yes (w : World) : Calls Tryd.prog 38 #[.bool true] w (Out w (ab 6).cs e0.cs false true) := by
  obtain ⟨A, hA⟩ : ∃ A, A = (ab 6).cs := ⟨_, rfl⟩
  obtain ⟨X, hX⟩ : ∃ X, X = (e0).cs := ⟨_, rfl⟩
  have HLA : Hid (A.length = 9) := Lib.hid (by rw [hA]; rfl)
  have HOA : Hid (∀ u ∈ A, u.oneCell' = true) := Lib.hid (by rw [hA]; exact Ab.one _)
  have HLX : Hid (X.length = 5) := Lib.hid (by rw [hX]; rfl)
  have HOX : Hid (∀ u ∈ X, u.oneCell' = true) := Lib.hid (by rw [hX]; exact En.one _)
  rw [← hA, ← hX]
  have HA0 := Lib.hid hA
  have HX0 := Lib.hid hX
  have HN : Hid (((w.alloc (.cells zA.toArray 32)).alloc (.cells e0.cs.toArray 49)).there (w.heap.size) 0 9 ∧ ((w.alloc (.cells zA.toArray 32)).alloc (.cells e0.cs.toArray 49)).there (w.heap.size + 1) 0 5 ∧ Below w.heap.size w ((w.alloc (.cells zA.toArray 32)).alloc (.cells e0.cs.toArray 49))) := Lib.hid (by
    obtain ⟨n1, n2, n3⟩ := two_new w (X := zA.toArray) (Y := e0.cs.toArray) rfl rfl
    exact ⟨n1, n2, n3⟩)
  obtain ⟨t1, t2, r1, r2, b2⟩ := two_fin (w := w) (W := ((w.alloc (.cells zA.toArray 32)).alloc (.cells e0.cs.toArray 49))) (b := w.heap.size) HLA.out HLX.out (by omega) HN.out.2.2 HN.out.1 HN.out.2.1
  have HT1 := Lib.hid t1
  have HT2 := Lib.hid t2
  have HR1 := Lib.hid r1
  have HR2 := Lib.hid r2
  have HB2 := Lib.hid b2
  clear t1 t2 r1 r2 b2
  clear hA hX HN
  go_enter Tryd.func38, Tryd.ntmps38
  go_wp2_with (first
    | ((with_reducible show wpList _ _ _ (Oper.mk none (Op.store 32 (.tmp 2) _) _ _ _ _ :: _) _ _); refine wpList_store_mid (by rfl) 32 (.tmp 2) (.tmp 13) (by rfl) (w.heap.size) 0 A.toArray (by rfl) (by rw [HA0.out]; rfl) HT1.out (by rw [List.size_toArray, HLA.out]; kernel_rfl) (all_oneCell_toArray HOA.out) ?_; rw [show A.toArray.toList = A from rfl])
    | ((with_reducible show wpList _ _ _ (Oper.mk none (Op.store 49 (.tmp 3) _) _ _ _ _ :: _) _ _); refine wpList_store_mid (by rfl) 49 (.tmp 3) (.tmp 14) (by rfl) (w.heap.size + 1) 0 X.toArray (by rfl) (by rw [HX0.out]; rfl) HT2.out (by rw [List.size_toArray, HLX.out]; kernel_rfl) (all_oneCell_toArray HOX.out) ?_; rw [show X.toArray.toList = X from rfl]))
  refine bodyPost_ret (v := .tuple #[.agg A.toArray, .agg X.toArray, .bool false, .bool true]) (res4 Tryd.results38 rfl rfl rfl rfl HR1.out HR2.out HLA.out HLX.out) rfl ⟨rfl, HB2.out⟩
theorem stored_any (b : Bool) (x : En) (hk : x.key.size ≤ 281474976710656) (hv : x.val.size ≤ 281474976710656) (w : World) : Calls Tryd.prog 35 #[.bool b, .agg #[Value.string x.key, .int .i64 x.fl, .int .i64 x.dl, .string x.val, .int .i64 x.cas]] w (OutQ w (if b = false then tld (ab 3) else kpt (ab 2) x)) := by
  cases b
  · exact stored_no x w
  · exact stored_yes x hk hv w
theorem joined_any (b : Bool) (e : En) (s1 s2 : ByteArray) (ver : Int) (h1 : s1.size ≤ 140737488355328) (h2 : s2.size ≤ 140737488355328) (hk : e.key.size ≤ 281474976710656) (w : World) : Calls Tryd.prog 36 #[.agg #[Value.string e.key, .int .i64 e.fl, .int .i64 e.dl, .string e.val, .int .i64 e.cas], .bool b, .string s1, .string s2, .int .i64 ver] w (OutQ w (joi e b (s1 ++ s2) ver)) := by
  cases b
  · exact joined_no e s1 s2 ver w
  · by_cases hb : 1048576 < s1.size + s2.size
    · rw [show joi e true (s1 ++ s2) ver = tld ⟨14, 0, tooLarge⟩ by unfold joi; rw [if_neg (by simp), if_pos (by rw [ByteArray.size_append]; exact hb)]]
      exact joined_big e s1 s2 ver h1 h2 hb w
    · rw [show joi e true (s1 ++ s2) ver = kpt (ab 2) ⟨e.key, e.fl, e.dl, s1 ++ s2, ver⟩ by unfold joi; rw [if_neg (by simp), if_neg (by rw [ByteArray.size_append]; exact hb)]]
      exact joined_yes e s1 s2 ver h1 h2 (by omega) hk w
theorem compared_any (b : Bool) (cas : Int) (e x : En) (hk : x.key.size ≤ 281474976710656) (hv : x.val.size ≤ 281474976710656) (w : World) : Calls Tryd.prog 37 #[.int .i64 cas, .agg #[Value.string e.key, .int .i64 e.fl, .int .i64 e.dl, .string e.val, .int .i64 e.cas], .bool b, .agg #[Value.string x.key, .int .i64 x.fl, .int .i64 x.dl, .string x.val, .int .i64 x.cas]] w (OutQ w (if b = false then tld (ab 5) else if e.cas = cas then kpt (ab 2) x else tld (ab 4))) := by
  cases b
  · exact compared_no cas e x w
  · by_cases hc : e.cas = cas
    · subst hc
      rw [if_neg (by simp), if_pos rfl]
      exact compared_yes e x hk hv w
    · rw [if_neg (by simp), if_neg hc]
      exact compared_other cas e x hc w
theorem deleted_any (b : Bool) (w : World) : Calls Tryd.prog 38 #[.bool b] w (OutQ w (if b = false then tld (ab 5) else (ab 6, e0, false, true))) := by
  cases b
  · exact deleted_no w
  · exact deleted_yes w
theorem touched_any (b : Bool) (e : En) (d : Int) (hk : e.key.size ≤ 281474976710656) (hv : e.val.size ≤ 281474976710656) (w : World) : Calls Tryd.prog 39 #[.agg #[Value.string e.key, .int .i64 e.fl, .int .i64 e.dl, .string e.val, .int .i64 e.cas], .bool b, .int .i64 d] w (OutQ w (if b = false then tld (ab 5) else kpt (ab 7) ⟨e.key, e.fl, d, e.val, e.cas⟩)) := by
  cases b
  · exact touched_no e d w
  · exact touched_yes e d hk hv w
theorem nv_lt (s : B) : nv 18446744073709551615 s < 18446744073709551616 := by
  unfold nv
  cases h : num 18446744073709551615 s with
  | none => simp
  | some v =>
    unfold num at h
    split at h
    · have := ng_le (by omega) h
      simp only [Option.getD_some]; omega
    · cases h
theorem count_up (b : Bool) (ka : Option Addr) (kn kc : Nat) (fl exp by_ cas : Int) (dd : Nat) (qu : Bool) (da : ByteArray) (e : En) (ver : Int) (hk : e.key.size ≤ 281474976710656) (w : World) (htab : TabIs Tryd.prog w "internal/strconv.uint64pow10" .u64 pow10Tab) : Calls Tryd.prog 40 #[.agg #[Value.int .i64 10, .slice ka kn kc, .int .i64 fl, .int .i64 exp, .int .i64 by_, .int .i64 cas, .int .u64 (dd : Int), .bool qu, .string da], .agg #[Value.string e.key, .int .i64 e.fl, .int .i64 e.dl, .string e.val, .int .i64 e.cas], .bool b, .int .i64 ver] w (OutQ w (cou true e b dd ver)) := by
  cases b
  · exact counted_no _ ka kn kc fl exp by_ cas dd qu da e ver w
  · cases h : nb 18446744073709551615 (L e.val) with
    | false =>
      rw [show cou true e true dd ver = tld ⟨13, 0, noNumber⟩ by unfold cou; rw [if_neg (by simp), if_pos h]]
      exact counted_bad _ ka kn kc fl exp by_ cas dd qu da e ver h w
    | true =>
      rw [show cou true e true dd ver = kpt ⟨8, ((cnt true (nv 18446744073709551615 (L e.val)) dd : Nat) : Int), ⟨#[]⟩⟩ ⟨e.key, e.fl, e.dl, S (Lib.decDigits (cnt true (nv 18446744073709551615 (L e.val)) dd)), ver⟩ by unfold cou; rw [if_neg (by simp), if_neg (by rw [h]; simp)]]
      exact counted_up ka kn kc fl exp by_ cas dd qu da e ver _ _ rfl h (nv_lt _) rfl hk w htab
theorem count_down (b : Bool) (ka : Option Addr) (kn kc : Nat) (fl exp by_ cas : Int) (dd : Nat) (qu : Bool) (da : ByteArray) (e : En) (ver : Int) (hk : e.key.size ≤ 281474976710656) (w : World) (htab : TabIs Tryd.prog w "internal/strconv.uint64pow10" .u64 pow10Tab) : Calls Tryd.prog 40 #[.agg #[Value.int .i64 11, .slice ka kn kc, .int .i64 fl, .int .i64 exp, .int .i64 by_, .int .i64 cas, .int .u64 (dd : Int), .bool qu, .string da], .agg #[Value.string e.key, .int .i64 e.fl, .int .i64 e.dl, .string e.val, .int .i64 e.cas], .bool b, .int .i64 ver] w (OutQ w (cou false e b dd ver)) := by
  cases b
  · exact counted_no _ ka kn kc fl exp by_ cas dd qu da e ver w
  · cases h : nb 18446744073709551615 (L e.val) with
    | false =>
      rw [show cou false e true dd ver = tld ⟨13, 0, noNumber⟩ by unfold cou; rw [if_neg (by simp), if_pos h]]
      exact counted_bad _ ka kn kc fl exp by_ cas dd qu da e ver h w
    | true =>
      rw [show cou false e true dd ver = kpt ⟨8, ((cnt false (nv 18446744073709551615 (L e.val)) dd : Nat) : Int), ⟨#[]⟩⟩ ⟨e.key, e.fl, e.dl, S (Lib.decDigits (cnt false (nv 18446744073709551615 (L e.val)) dd)), ver⟩ by unfold cou; rw [if_neg (by simp), if_neg (by rw [h]; simp)]]
      exact counted_down ka kn kc fl exp by_ cas dd qu da e ver _ _ rfl h (nv_lt _) rfl hk w htab
end Go.Proofs.YtpkmfckifnomeaaDoor
