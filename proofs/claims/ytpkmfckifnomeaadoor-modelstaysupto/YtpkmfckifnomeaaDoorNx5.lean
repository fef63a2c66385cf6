/-
  counted, where there is a number.
-/
import Derived.Test.YtpkmfckifnomeaaDoorNx4
namespace Go.Proofs.YtpkmfckifnomeaaDoor
open Go.RowKit

open Go.Lib (TabIs pow10Tab)
set_option maxRecDepth 100000 in
set_option maxHeartbeats 2000000 in
theorem counted_up (ka : Option Addr) (kn kc : Nat) (fl exp by_ cas : Int) (dd : Nat) (qu : Bool) (da : ByteArray) (e : En) (ver : Int) (n c : Nat) (hn : nv 18446744073709551615 (L e.val) = n) (hb0 : nb 18446744073709551615 (L e.val) = true) (hn2 : n < 18446744073709551616) (hc : cnt true n dd = c) (hk : e.key.size ≤ 281474976710656) (w : World) (htab : TabIs Tryd.prog w "internal/strconv.uint64pow10" .u64 pow10Tab) :
    Calls Tryd.prog 40 #[.agg #[Value.int .i64 10, .slice ka kn kc, .int .i64 fl, .int .i64 exp, .int .i64 by_, .int .i64 cas, .int .u64 (dd : Int), .bool qu, .string da], .agg #[Value.string e.key, .int .i64 e.fl, .int .i64 e.dl, .string e.val, .int .i64 e.cas], .bool true, .int .i64 ver] w (Out w (Ab.mk 8 (c : Int) ⟨#[]⟩).cs (En.mk e.key e.fl e.dl (S (Lib.decDigits c)) ver).cs true false) := by
  have hc2 : c < 18446744073709551616 := by rw [← hc]; exact cnt_lt _ _ _ hn2
  have g1 : IntKind.u64.wrap ((n : Int) + (dd : Int)) = (c : Int) := by rw [IntKind.wrap_u64, ← hc]; simp only [cnt, if_true]; omega
  have NC := Lib.hid (number_c e.val n true hn hb0)
  clear hb0 hn hc
  have zd := (dec_len hc2).2
  obtain ⟨A, hA⟩ : ∃ A, A = (Ab.mk 8 (c : Int) ⟨#[]⟩).cs := ⟨_, rfl⟩
  obtain ⟨X, hX⟩ : ∃ X, X = (En.mk e.key e.fl e.dl (S (Lib.decDigits c)) ver).cs := ⟨_, rfl⟩
  have HLA : Hid (A.length = 9) := Lib.hid (by rw [hA]; rfl)
  have HOA : Hid (∀ u ∈ A, u.oneCell' = true) := Lib.hid (by rw [hA]; exact Ab.one _)
  have HLX : Hid (X.length = 5) := Lib.hid (by rw [hX]; rfl)
  have HOX : Hid (∀ u ∈ X, u.oneCell' = true) := Lib.hid (by rw [hX]; exact En.one _)
  rw [← hA, ← hX]
  obtain ⟨ds, hds⟩ : ∃ ds, S (Lib.decDigits c) = ds := ⟨_, rfl⟩
  have TD : Hid (∀ W, Calls Tryd.prog 34 #[.agg #[Value.int .i64 8, .slice none 0 0, .bool false, .int .u64 (c : Int), .string ⟨#[]⟩, .int .i64 0, .int .i64 0, .int .i64 0, .int .i64 0], .agg #[Value.string e.key, .int .i64 e.fl, .int .i64 e.dl, .string ds, .int .i64 ver]] W (Out W A X true false)) := Lib.hid (fun W => by rw [hA, hX, ← hds]; exact kept_any _ rfl (Ab.one _) ⟨e.key, e.fl, e.dl, S (Lib.decDigits c), ver⟩ hk (by show (S _).size ≤ _; rw [S_size]; omega) W)
  have HN : Hid (((((w.alloc (.cells #[Value.int .i64 10, .slice ka kn kc, .int .i64 fl, .int .i64 exp, .int .i64 by_, .int .i64 cas, .int .u64 (dd : Int), .bool qu, .string da] 27)).alloc (.cells #[Value.string e.key, .int .i64 e.fl, .int .i64 e.dl, .string e.val, .int .i64 e.cas] 49)).alloc (.cells zA.toArray 32)).alloc (.cells e0.cs.toArray 49)).there (w.heap.size + 1 + 1) 0 9 ∧ ((((w.alloc (.cells #[Value.int .i64 10, .slice ka kn kc, .int .i64 fl, .int .i64 exp, .int .i64 by_, .int .i64 cas, .int .u64 (dd : Int), .bool qu, .string da] 27)).alloc (.cells #[Value.string e.key, .int .i64 e.fl, .int .i64 e.dl, .string e.val, .int .i64 e.cas] 49)).alloc (.cells zA.toArray 32)).alloc (.cells e0.cs.toArray 49)).there (w.heap.size + 1 + 1 + 1) 0 5 ∧ Below w.heap.size w ((((w.alloc (.cells #[Value.int .i64 10, .slice ka kn kc, .int .i64 fl, .int .i64 exp, .int .i64 by_, .int .i64 cas, .int .u64 (dd : Int), .bool qu, .string da] 27)).alloc (.cells #[Value.string e.key, .int .i64 e.fl, .int .i64 e.dl, .string e.val, .int .i64 e.cas] 49)).alloc (.cells zA.toArray 32)).alloc (.cells e0.cs.toArray 49))) := Lib.hid (by
    obtain ⟨n1, n2, n3⟩ := two_new ((w.alloc (.cells #[Value.int .i64 10, .slice ka kn kc, .int .i64 fl, .int .i64 exp, .int .i64 by_, .int .i64 cas, .int .u64 (dd : Int), .bool qu, .string da] 27)).alloc (.cells #[Value.string e.key, .int .i64 e.fl, .int .i64 e.dl, .string e.val, .int .i64 e.cas] 49)) (X := zA.toArray) (Y := e0.cs.toArray) rfl rfl
    simp only [World.size_alloc] at n1 n2
    exact ⟨n1, n2, ((below_alloc w _).trans ((((below_alloc (w.alloc (.cells #[Value.int .i64 10, .slice ka kn kc, .int .i64 fl, .int .i64 exp, .int .i64 by_, .int .i64 cas, .int .u64 (dd : Int), .bool qu, .string da] 27)) _).trans ((n3).mono (by simp only [World.size_alloc]; omega)))).mono (by simp only [World.size_alloc]; omega)))⟩)
  have HE : Hid (((((w.alloc (.cells #[Value.int .i64 10, .slice ka kn kc, .int .i64 fl, .int .i64 exp, .int .i64 by_, .int .i64 cas, .int .u64 (dd : Int), .bool qu, .string da] 27)).alloc (.cells #[Value.string e.key, .int .i64 e.fl, .int .i64 e.dl, .string e.val, .int .i64 e.cas] 49)).alloc (.cells zA.toArray 32)).alloc (.cells e0.cs.toArray 49)).rangeAt (w.heap.size + 1) 0 e.cs ∧ ((((w.alloc (.cells #[Value.int .i64 10, .slice ka kn kc, .int .i64 fl, .int .i64 exp, .int .i64 by_, .int .i64 cas, .int .u64 (dd : Int), .bool qu, .string da] 27)).alloc (.cells #[Value.string e.key, .int .i64 e.fl, .int .i64 e.dl, .string e.val, .int .i64 e.cas] 49)).alloc (.cells zA.toArray 32)).alloc (.cells e0.cs.toArray 49)).there (w.heap.size + 1) 0 5) := Lib.hid (by
    have r := range_new (w.alloc (.cells #[Value.int .i64 10, .slice ka kn kc, .int .i64 fl, .int .i64 exp, .int .i64 by_, .int .i64 cas, .int .u64 (dd : Int), .bool qu, .string da] 27)) e.cs 49
    have r' := there_new (w.alloc (.cells #[Value.int .i64 10, .slice ka kn kc, .int .i64 fl, .int .i64 exp, .int .i64 by_, .int .i64 cas, .int .u64 (dd : Int), .bool qu, .string da] 27)) e.cs 49
    simp only [World.size_alloc] at r r'
    have n3 := (two_new ((w.alloc (.cells #[Value.int .i64 10, .slice ka kn kc, .int .i64 fl, .int .i64 exp, .int .i64 by_, .int .i64 cas, .int .u64 (dd : Int), .bool qu, .string da] 27)).alloc (.cells #[Value.string e.key, .int .i64 e.fl, .int .i64 e.dl, .string e.val, .int .i64 e.cas] 49)) (X := zA.toArray) (Y := e0.cs.toArray) rfl rfl).2.2
    exact ⟨range_below r n3, there_below r' n3⟩)
  have FM := Lib.hid (fmt_any c hc2 ((((w.alloc (.cells #[Value.int .i64 10, .slice ka kn kc, .int .i64 fl, .int .i64 exp, .int .i64 by_, .int .i64 cas, .int .u64 (dd : Int), .bool qu, .string da] 27)).alloc (.cells #[Value.string e.key, .int .i64 e.fl, .int .i64 e.dl, .string e.val, .int .i64 e.cas] 49)).alloc (.cells zA.toArray 32)).alloc (.cells e0.cs.toArray 49)) (tabIs_below htab HN.out.2.2))
  rw [hds] at FM
  have HD0 := Lib.hid hds
  clear hA hX hds htab hc2 zd
  go_enter Tryd.func40, Tryd.ntmps40
  go_wp2_with fail
  refine (NC.out _).mono ?_
  rintro e1 w0 ⟨rfl, rfl⟩
  go_wp2_with fail
  refine FM.out.mono ?_
  rintro e1 w2 ⟨rfl, hb2⟩
  have r2 := range_below HE.out.1 hb2
  have t2 := there_below HE.out.2 hb2
  have c0 := r2 0 _ rfl
  have c1 := r2 1 _ rfl
  have c2 := r2 2 _ rfl
  have c3 := r2 3 _ rfl
  have c4 := r2 4 _ rfl
  have z3 := (t2 3 (by omega)).2
  have z4 := (t2 4 (by omega)).2
  simp only [Nat.zero_add] at c0 c1 c2 c3 c4 z3 z4
  have HM := Lib.hid (And.intro (there_below HN.out.1 hb2) (And.intro (there_below HN.out.2.1 hb2) (HN.out.2.2.trans (hb2.mono (by simp only [World.size_alloc]; omega)))))
  have HZ : Hid (w.heap.size + 1 + 1 + 1 + 1 ≤ w2.heap.size) := Lib.hid (by have := hb2.size; simpa only [World.size_alloc] using this)
  clear hb2 HN HE FM NC r2 t2
  go_wp2_with fail
  refine (TD.out _).mono ?_
  rintro e1 w1 ⟨rfl, hb⟩
  obtain ⟨t1, t2, r1, r2, b2⟩ := two_fin (w := w) (W := w1) (b := w.heap.size + 1 + 1) HLA.out HLX.out (by omega) ((((HM.out.2.2).setCell (p := ⟨w.heap.size + 1, 3, none⟩) (by show w.heap.size ≤ w.heap.size + 1; omega) (.string ds)).setCell (p := ⟨w.heap.size + 1, 4, none⟩) (by show w.heap.size ≤ w.heap.size + 1; omega) (.int .i64 ver)).trans (hb.mono (by have := HZ.out; simp [World.setCell]; omega))) (there_below (there_setCell (there_setCell HM.out.1 _ _) _ _) hb) (there_below (there_setCell (there_setCell HM.out.2.1 _ _) _ _) hb)
  have HT1 := Lib.hid t1
  have HT2 := Lib.hid t2
  have HR1 := Lib.hid r1
  have HR2 := Lib.hid r2
  have HB2 := Lib.hid b2
  clear t1 t2 r1 r2 b2
  clear hb HM TD HZ
  go_wp2_with (first
    | ((with_reducible show wpList _ _ _ (Oper.mk none (Op.store 32 (.tmp 8) _) _ _ _ _ :: _) _ _); refine wpList_store_mid (by rfl) 32 (.tmp 8) (.tmp 57) (by rfl) (w.heap.size + 1 + 1) 0 A.toArray (by rfl) (by rfl) HT1.out (by rw [List.size_toArray, HLA.out]; kernel_rfl) (all_oneCell_toArray HOA.out) ?_; rw [show A.toArray.toList = A from rfl])
    | ((with_reducible show wpList _ _ _ (Oper.mk none (Op.store 49 (.tmp 9) _) _ _ _ _ :: _) _ _); refine wpList_store_mid (by rfl) 49 (.tmp 9) (.tmp 58) (by rfl) (w.heap.size + 1 + 1 + 1) 0 X.toArray (by rfl) (by rfl) HT2.out (by rw [List.size_toArray, HLX.out]; kernel_rfl) (all_oneCell_toArray HOX.out) ?_; rw [show X.toArray.toList = X from rfl]))
  refine bodyPost_ret (v := .tuple #[.agg A.toArray, .agg X.toArray, .bool true, .bool false]) (res4 Tryd.results40 rfl rfl rfl rfl HR1.out HR2.out HLA.out HLX.out) rfl ⟨rfl, HB2.out⟩
set_option maxRecDepth 100000 in
set_option maxHeartbeats 2000000 in
theorem counted_down (ka : Option Addr) (kn kc : Nat) (fl exp by_ cas : Int) (dd : Nat) (qu : Bool) (da : ByteArray) (e : En) (ver : Int) (n c : Nat) (hn : nv 18446744073709551615 (L e.val) = n) (hb0 : nb 18446744073709551615 (L e.val) = true) (hn2 : n < 18446744073709551616) (hc : cnt false n dd = c) (hk : e.key.size ≤ 281474976710656) (w : World) (htab : TabIs Tryd.prog w "internal/strconv.uint64pow10" .u64 pow10Tab) :
    Calls Tryd.prog 40 #[.agg #[Value.int .i64 11, .slice ka kn kc, .int .i64 fl, .int .i64 exp, .int .i64 by_, .int .i64 cas, .int .u64 (dd : Int), .bool qu, .string da], .agg #[Value.string e.key, .int .i64 e.fl, .int .i64 e.dl, .string e.val, .int .i64 e.cas], .bool true, .int .i64 ver] w (Out w (Ab.mk 8 (c : Int) ⟨#[]⟩).cs (En.mk e.key e.fl e.dl (S (Lib.decDigits c)) ver).cs true false) := by
  have hc2 : c < 18446744073709551616 := by rw [← hc]; exact cnt_lt _ _ _ hn2
  obtain ⟨m, hm⟩ : ∃ m : Nat, min n dd = m := ⟨_, rfl⟩
  have g0 : min (n : Int) (dd : Int) = (m : Int) := by omega
  have g1 : IntKind.u64.wrap ((n : Int) - (m : Int)) = (c : Int) := by rw [IntKind.wrap_u64, ← hc]; simp only [cnt]; simp only [Bool.false_eq_true, if_false]; omega
  clear hm
  have NC := Lib.hid (number_c e.val n true hn hb0)
  clear hb0 hn hc
  have zd := (dec_len hc2).2
  obtain ⟨A, hA⟩ : ∃ A, A = (Ab.mk 8 (c : Int) ⟨#[]⟩).cs := ⟨_, rfl⟩
  obtain ⟨X, hX⟩ : ∃ X, X = (En.mk e.key e.fl e.dl (S (Lib.decDigits c)) ver).cs := ⟨_, rfl⟩
  have HLA : Hid (A.length = 9) := Lib.hid (by rw [hA]; rfl)
  have HOA : Hid (∀ u ∈ A, u.oneCell' = true) := Lib.hid (by rw [hA]; exact Ab.one _)
  have HLX : Hid (X.length = 5) := Lib.hid (by rw [hX]; rfl)
  have HOX : Hid (∀ u ∈ X, u.oneCell' = true) := Lib.hid (by rw [hX]; exact En.one _)
  rw [← hA, ← hX]
  obtain ⟨ds, hds⟩ : ∃ ds, S (Lib.decDigits c) = ds := ⟨_, rfl⟩
  have TD : Hid (∀ W, Calls Tryd.prog 34 #[.agg #[Value.int .i64 8, .slice none 0 0, .bool false, .int .u64 (c : Int), .string ⟨#[]⟩, .int .i64 0, .int .i64 0, .int .i64 0, .int .i64 0], .agg #[Value.string e.key, .int .i64 e.fl, .int .i64 e.dl, .string ds, .int .i64 ver]] W (Out W A X true false)) := Lib.hid (fun W => by rw [hA, hX, ← hds]; exact kept_any _ rfl (Ab.one _) ⟨e.key, e.fl, e.dl, S (Lib.decDigits c), ver⟩ hk (by show (S _).size ≤ _; rw [S_size]; omega) W)
  have HN : Hid (((((w.alloc (.cells #[Value.int .i64 11, .slice ka kn kc, .int .i64 fl, .int .i64 exp, .int .i64 by_, .int .i64 cas, .int .u64 (dd : Int), .bool qu, .string da] 27)).alloc (.cells #[Value.string e.key, .int .i64 e.fl, .int .i64 e.dl, .string e.val, .int .i64 e.cas] 49)).alloc (.cells zA.toArray 32)).alloc (.cells e0.cs.toArray 49)).there (w.heap.size + 1 + 1) 0 9 ∧ ((((w.alloc (.cells #[Value.int .i64 11, .slice ka kn kc, .int .i64 fl, .int .i64 exp, .int .i64 by_, .int .i64 cas, .int .u64 (dd : Int), .bool qu, .string da] 27)).alloc (.cells #[Value.string e.key, .int .i64 e.fl, .int .i64 e.dl, .string e.val, .int .i64 e.cas] 49)).alloc (.cells zA.toArray 32)).alloc (.cells e0.cs.toArray 49)).there (w.heap.size + 1 + 1 + 1) 0 5 ∧ Below w.heap.size w ((((w.alloc (.cells #[Value.int .i64 11, .slice ka kn kc, .int .i64 fl, .int .i64 exp, .int .i64 by_, .int .i64 cas, .int .u64 (dd : Int), .bool qu, .string da] 27)).alloc (.cells #[Value.string e.key, .int .i64 e.fl, .int .i64 e.dl, .string e.val, .int .i64 e.cas] 49)).alloc (.cells zA.toArray 32)).alloc (.cells e0.cs.toArray 49))) := Lib.hid (by
    obtain ⟨n1, n2, n3⟩ := two_new ((w.alloc (.cells #[Value.int .i64 11, .slice ka kn kc, .int .i64 fl, .int .i64 exp, .int .i64 by_, .int .i64 cas, .int .u64 (dd : Int), .bool qu, .string da] 27)).alloc (.cells #[Value.string e.key, .int .i64 e.fl, .int .i64 e.dl, .string e.val, .int .i64 e.cas] 49)) (X := zA.toArray) (Y := e0.cs.toArray) rfl rfl
    simp only [World.size_alloc] at n1 n2
    exact ⟨n1, n2, ((below_alloc w _).trans ((((below_alloc (w.alloc (.cells #[Value.int .i64 11, .slice ka kn kc, .int .i64 fl, .int .i64 exp, .int .i64 by_, .int .i64 cas, .int .u64 (dd : Int), .bool qu, .string da] 27)) _).trans ((n3).mono (by simp only [World.size_alloc]; omega)))).mono (by simp only [World.size_alloc]; omega)))⟩)
  have HE : Hid (((((w.alloc (.cells #[Value.int .i64 11, .slice ka kn kc, .int .i64 fl, .int .i64 exp, .int .i64 by_, .int .i64 cas, .int .u64 (dd : Int), .bool qu, .string da] 27)).alloc (.cells #[Value.string e.key, .int .i64 e.fl, .int .i64 e.dl, .string e.val, .int .i64 e.cas] 49)).alloc (.cells zA.toArray 32)).alloc (.cells e0.cs.toArray 49)).rangeAt (w.heap.size + 1) 0 e.cs ∧ ((((w.alloc (.cells #[Value.int .i64 11, .slice ka kn kc, .int .i64 fl, .int .i64 exp, .int .i64 by_, .int .i64 cas, .int .u64 (dd : Int), .bool qu, .string da] 27)).alloc (.cells #[Value.string e.key, .int .i64 e.fl, .int .i64 e.dl, .string e.val, .int .i64 e.cas] 49)).alloc (.cells zA.toArray 32)).alloc (.cells e0.cs.toArray 49)).there (w.heap.size + 1) 0 5) := Lib.hid (by
    have r := range_new (w.alloc (.cells #[Value.int .i64 11, .slice ka kn kc, .int .i64 fl, .int .i64 exp, .int .i64 by_, .int .i64 cas, .int .u64 (dd : Int), .bool qu, .string da] 27)) e.cs 49
    have r' := there_new (w.alloc (.cells #[Value.int .i64 11, .slice ka kn kc, .int .i64 fl, .int .i64 exp, .int .i64 by_, .int .i64 cas, .int .u64 (dd : Int), .bool qu, .string da] 27)) e.cs 49
    simp only [World.size_alloc] at r r'
    have n3 := (two_new ((w.alloc (.cells #[Value.int .i64 11, .slice ka kn kc, .int .i64 fl, .int .i64 exp, .int .i64 by_, .int .i64 cas, .int .u64 (dd : Int), .bool qu, .string da] 27)).alloc (.cells #[Value.string e.key, .int .i64 e.fl, .int .i64 e.dl, .string e.val, .int .i64 e.cas] 49)) (X := zA.toArray) (Y := e0.cs.toArray) rfl rfl).2.2
    exact ⟨range_below r n3, there_below r' n3⟩)
  have FM := Lib.hid (fmt_any c hc2 ((((w.alloc (.cells #[Value.int .i64 11, .slice ka kn kc, .int .i64 fl, .int .i64 exp, .int .i64 by_, .int .i64 cas, .int .u64 (dd : Int), .bool qu, .string da] 27)).alloc (.cells #[Value.string e.key, .int .i64 e.fl, .int .i64 e.dl, .string e.val, .int .i64 e.cas] 49)).alloc (.cells zA.toArray 32)).alloc (.cells e0.cs.toArray 49)) (tabIs_below htab HN.out.2.2))
  rw [hds] at FM
  have HD0 := Lib.hid hds
  clear hA hX hds htab hc2 zd
  go_enter Tryd.func40, Tryd.ntmps40
  go_wp2_with fail
  refine (NC.out _).mono ?_
  rintro e1 w0 ⟨rfl, rfl⟩
  go_wp2_with fail
  refine FM.out.mono ?_
  rintro e1 w2 ⟨rfl, hb2⟩
  have r2 := range_below HE.out.1 hb2
  have t2 := there_below HE.out.2 hb2
  have c0 := r2 0 _ rfl
  have c1 := r2 1 _ rfl
  have c2 := r2 2 _ rfl
  have c3 := r2 3 _ rfl
  have c4 := r2 4 _ rfl
  have z3 := (t2 3 (by omega)).2
  have z4 := (t2 4 (by omega)).2
  simp only [Nat.zero_add] at c0 c1 c2 c3 c4 z3 z4
  have HM := Lib.hid (And.intro (there_below HN.out.1 hb2) (And.intro (there_below HN.out.2.1 hb2) (HN.out.2.2.trans (hb2.mono (by simp only [World.size_alloc]; omega)))))
  have HZ : Hid (w.heap.size + 1 + 1 + 1 + 1 ≤ w2.heap.size) := Lib.hid (by have := hb2.size; simpa only [World.size_alloc] using this)
  clear hb2 HN HE FM NC r2 t2
  go_wp2_with fail
  refine (TD.out _).mono ?_
  rintro e1 w1 ⟨rfl, hb⟩
  obtain ⟨t1, t2, r1, r2, b2⟩ := two_fin (w := w) (W := w1) (b := w.heap.size + 1 + 1) HLA.out HLX.out (by omega) ((((HM.out.2.2).setCell (p := ⟨w.heap.size + 1, 3, none⟩) (by show w.heap.size ≤ w.heap.size + 1; omega) (.string ds)).setCell (p := ⟨w.heap.size + 1, 4, none⟩) (by show w.heap.size ≤ w.heap.size + 1; omega) (.int .i64 ver)).trans (hb.mono (by have := HZ.out; simp [World.setCell]; omega))) (there_below (there_setCell (there_setCell HM.out.1 _ _) _ _) hb) (there_below (there_setCell (there_setCell HM.out.2.1 _ _) _ _) hb)
  have HT1 := Lib.hid t1
  have HT2 := Lib.hid t2
  have HR1 := Lib.hid r1
  have HR2 := Lib.hid r2
  have HB2 := Lib.hid b2
  clear t1 t2 r1 r2 b2
  clear hb HM TD HZ
  go_wp2_with (first
    | ((with_reducible show wpList _ _ _ (Oper.mk none (Op.store 32 (.tmp 8) _) _ _ _ _ :: _) _ _); refine wpList_store_mid (by rfl) 32 (.tmp 8) (.tmp 57) (by rfl) (w.heap.size + 1 + 1) 0 A.toArray (by rfl) (by rfl) HT1.out (by rw [List.size_toArray, HLA.out]; kernel_rfl) (all_oneCell_toArray HOA.out) ?_; rw [show A.toArray.toList = A from rfl])
    | ((with_reducible show wpList _ _ _ (Oper.mk none (Op.store 49 (.tmp 9) _) _ _ _ _ :: _) _ _); refine wpList_store_mid (by rfl) 49 (.tmp 9) (.tmp 58) (by rfl) (w.heap.size + 1 + 1 + 1) 0 X.toArray (by rfl) (by rfl) HT2.out (by rw [List.size_toArray, HLX.out]; kernel_rfl) (all_oneCell_toArray HOX.out) ?_; rw [show X.toArray.toList = X from rfl]))
  refine bodyPost_ret (v := .tuple #[.agg A.toArray, .agg X.toArray, .bool true, .bool false]) (res4 Tryd.results40 rfl rfl rfl rfl HR1.out HR2.out HLA.out HLX.out) rfl ⟨rfl, HB2.out⟩
end Go.Proofs.YtpkmfckifnomeaaDoor
