/-
  told, missing, kept.
-/
import Derived.Test.YtpkmfckifnomeaaDoorEnt
namespace Go.Proofs.YtpkmfckifnomeaaDoor
open Go.RowKit

set_option maxRecDepth 100000 in
set_option maxHeartbeats 1000000 in
theorem told_any (A : List Value) (hl : A.length = 9) (h1 : ∀ u ∈ A, u.oneCell' = true) (w : World) : Calls Tryd.prog 41 #[.agg A.toArray] w (Out w A e0.cs false false) := by
  have HLA := Lib.hid hl
  have HOA := Lib.hid h1
  obtain ⟨X, hX⟩ : ∃ X, X = e0.cs := ⟨_, rfl⟩
  rw [← hX]
  have HX0 := Lib.hid hX
  have HLX : Hid (X.length = 5) := Lib.hid (by rw [hX]; rfl)
  have HOX : Hid (∀ u ∈ X, u.oneCell' = true) := Lib.hid (by rw [hX]; exact e0.one)
  obtain ⟨n1, n2, n3⟩ := two_new (w.alloc (.cells A.toArray 32)) (X := zA.toArray) (Y := e0.cs.toArray) rfl rfl
  rw [World.size_alloc] at n1 n2
  have HL1 : Hid (((w.alloc (.cells A.toArray 32)).alloc (.cells zA.toArray 32)).alloc (.cells e0.cs.toArray 49) |>.rangeAt w.heap.size 0 A) := Lib.hid (range_below (range_new w A 32) n3)
  obtain ⟨t1, t2, r1, r2, b2⟩ := two_fin (w := w) (W := ((w.alloc (.cells A.toArray 32)).alloc (.cells zA.toArray 32)).alloc (.cells e0.cs.toArray 49)) (b := w.heap.size + 1) HLA.out HLX.out (by omega) ((below_alloc w _).trans (n3.mono (by simp))) n1 n2
  have HT1 := Lib.hid t1
  have HT2 := Lib.hid t2
  have HR1 := Lib.hid r1
  have HR2 := Lib.hid r2
  have HB2 := Lib.hid b2
  clear t1 t2 r1 r2 b2
  clear hl h1 hX n1 n2 n3
  go_enter Tryd.func41, Tryd.ntmps41
  go_wp2_with (first
    | ((with_reducible show wpList _ _ _ (Oper.mk (some _) (Op.load 32 (.tmp 1)) _ _ _ _ :: _) _ _); refine wpList_load_mid (by rfl) 32 (.tmp 1) (by rfl) w.heap.size 0 (by rfl) A _ HL1.out Tryd.underlying32 (by rfl) (by rw [HLA.out]; kernel_rfl) ?_)
    | ((with_reducible show wpList _ _ _ (Oper.mk none (Op.store 32 (.tmp 2) _) _ _ _ _ :: _) _ _); refine wpList_store_mid (by rfl) 32 (.tmp 2) (.tmp 6) (by rfl) (w.heap.size + 1) 0 A.toArray (by rfl) (by rfl) HT1.out (by rw [List.size_toArray, HLA.out]; kernel_rfl) (all_oneCell_toArray HOA.out) ?_; rw [show A.toArray.toList = A from rfl])
    | ((with_reducible show wpList _ _ _ (Oper.mk none (Op.store 49 (.tmp 3) _) _ _ _ _ :: _) _ _); refine wpList_store_mid (by rfl) 49 (.tmp 3) (.tmp 7) (by rfl) (w.heap.size + 1 + 1) 0 X.toArray (by rfl) (by rw [HX0.out]; rfl) HT2.out (by rw [List.size_toArray, HLX.out]; kernel_rfl) (all_oneCell_toArray HOX.out) ?_; rw [show X.toArray.toList = X from rfl]))
  refine bodyPost_ret (v := .tuple #[.agg A.toArray, .agg X.toArray, .bool false, .bool false]) (res4 Tryd.results41 rfl rfl rfl rfl HR1.out HR2.out HLA.out HLX.out) rfl ⟨rfl, HB2.out⟩
set_option maxRecDepth 100000 in
set_option maxHeartbeats 1000000 in
theorem missing_any (w : World) : Calls Tryd.prog 55 #[] w (Out w (ab 5).cs e0.cs false false) := by
  obtain ⟨A, hA⟩ : ∃ A, A = (ab 5).cs := ⟨_, rfl⟩
  have HA0 := Lib.hid hA
  have HLA : Hid (A.length = 9) := Lib.hid (by rw [hA]; rfl)
  have HOA : Hid (∀ u ∈ A, u.oneCell' = true) := Lib.hid (by rw [hA]; exact Ab.one _)
  obtain ⟨X, hX⟩ : ∃ X, X = e0.cs := ⟨_, rfl⟩
  have HX0 := Lib.hid hX
  have HLX : Hid (X.length = 5) := Lib.hid (by rw [hX]; rfl)
  have HOX : Hid (∀ u ∈ X, u.oneCell' = true) := Lib.hid (by rw [hX]; exact e0.one)
  rw [← hA, ← hX]
  have TD := Lib.hid (fun W => told_any A HLA.out HOA.out W)
  obtain ⟨n1, n2, n3⟩ := two_new w (X := zA.toArray) (Y := e0.cs.toArray) rfl rfl
  have HN := Lib.hid (And.intro n1 (And.intro n2 n3))
  clear hA n1 n2 n3 hX
  go_enter Tryd.func55, Tryd.ntmps55
  go_wp2_with fail
  rw [show (#[Value.int .i64 5, .slice none 0 0, .bool false, .int .u64 0, .string ⟨#[]⟩, .int .i64 0, .int .i64 0, .int .i64 0, .int .i64 0] : Array Value) = A.toArray by rw [HA0.out]; rfl]
  refine (TD.out _).mono ?_
  rintro e w1 ⟨rfl, hb⟩
  rw [← HX0.out]
  obtain ⟨t1, t2, r1, r2, b2⟩ := two_fin (w := w) (W := w1) (b := w.heap.size) HLA.out HLX.out (by omega) (HN.out.2.2.trans (hb.mono (by simp only [World.size_alloc]; omega))) (there_below HN.out.1 hb) (there_below HN.out.2.1 hb)
  have HT1 := Lib.hid t1
  have HT2 := Lib.hid t2
  have HR1 := Lib.hid r1
  have HR2 := Lib.hid r2
  have HB2 := Lib.hid b2
  clear t1 t2 r1 r2 b2
  clear hb HN TD
  go_wp2_with (first
    | ((with_reducible show wpList _ _ _ (Oper.mk none (Op.store 32 (.tmp 0) _) _ _ _ _ :: _) _ _); refine wpList_store_mid (by rfl) 32 (.tmp 0) (.tmp 6) (by rfl) (w.heap.size) 0 A.toArray (by rfl) (by rfl) HT1.out (by rw [List.size_toArray, HLA.out]; kernel_rfl) (all_oneCell_toArray HOA.out) ?_; rw [show A.toArray.toList = A from rfl])
    | ((with_reducible show wpList _ _ _ (Oper.mk none (Op.store 49 (.tmp 1) _) _ _ _ _ :: _) _ _); refine wpList_store_mid (by rfl) 49 (.tmp 1) (.tmp 7) (by rfl) (w.heap.size + 1) 0 X.toArray (by rfl) (by rfl) HT2.out (by rw [List.size_toArray, HLX.out]; kernel_rfl) (all_oneCell_toArray HOX.out) ?_; rw [show X.toArray.toList = X from rfl]))
  refine bodyPost_ret (v := .tuple #[.agg A.toArray, .agg X.toArray, .bool false, .bool false]) (res4 Tryd.results55 rfl rfl rfl rfl HR1.out HR2.out HLA.out HLX.out) rfl ⟨rfl, HB2.out⟩
end Go.Proofs.YtpkmfckifnomeaaDoor
