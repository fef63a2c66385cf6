/-
  SlotRuns.
-/
import Derived.Test.YtfinaichajbnkaaGreatDoorPla
import Derived.Test.YtfinaichajbnkaaGreatDoorSpl
namespace Go.Proofs.YtfinaichajbnkaaGreatDoor
open Go.RowKit
open Wi (F)

set_option maxRecDepth 100000 in
set_option maxHeartbeats 4000000 in
theorem runs_any (w : World) : Calls Tryz.prog 9 #[] w fun e w' => e = .returned (.bool true) ∧ Below w.heap.size w w' := by
  go_enter Tryz.func9, Tryz.ntmps9
  go_wp2_with fail
  refine (lw_new _).mono ?_
  rintro e w0 ⟨X, o0, n, rfl, _, l0⟩
  have L0 := hid l0
  have ok : OkSp ⟨St.new 4 1024 n, []⟩ := by
    obtain ⟨C, D, d, I⟩ := l0.I
    exact I.st.ok
  obtain ⟨s1, s2, s3, t1, t2, t3, t4, t5, t6, t7, t8, t9, n1, n2, n3⟩ := runs_plain ok
  have T1 := hid t1
  have T2 := hid t2
  have T3 := hid t3
  have T4 := hid t4
  have T5 := hid t5
  have T6 := hid t6
  have T7 := hid t7
  have T8 := hid (And.intro t8 t9)
  clear l0 ok t1 t2 t3 t4 t5 t6 t7 t8 t9
  go_wp2_with fail
  refine (ask5_any 1 ⟨#[]⟩ ⟨#[]⟩ 0 _).mono ?_
  rintro e w1 ⟨rfl, b1⟩
  have L1 := hid (L0.out.below b1)
  clear b1
  have TK : Hid (Calls Tryz.prog 5 #[.pointer (some ⟨X, 0, none⟩), .agg #[.int .i64 5, .int .i64 1, .int .i64 3, .int .i64 1, .int .i64 0, .int .i64 0, .string ⟨#[]⟩, .int .i64 0, .string ⟨#[]⟩]] w1 fun e w' => e = .returned (.tuple #[.agg #[.int .i64 6, .int .i64 1, .int .i64 3, .int .i64 1, .int .i64 0, .int .i64 0, .string ⟨#[]⟩, .int .i64 0, .string ⟨#[]⟩], .bool true]) ∧ ∃ o', Lw w w' o' X s1 ∧ Kept w1 o0 w' o') := hid (lw_take L1.out (Nat.zero_le _) (⟨5, 1, 3, 1, 0, 0, ⟨#[]⟩, 0, ⟨#[]⟩⟩ : F) T1.out rfl rfl)
  go_wp2_with fail
  refine TK.out.mono ?_
  rintro e w2 ⟨rfl, o2, l2, k2⟩
  have L2 := hid l2
  clear TK k2 l2
  go_wp2_with fail
  obtain ⟨V3, hV3⟩ : ∃ V, V = w2.alloc (.cells #[.int .i64 6, .int .i64 1, .int .i64 3, .int .i64 1, .int .i64 0, .int .i64 0, .string ⟨#[]⟩, .int .i64 0, .string ⟨#[]⟩] 28) := ⟨_, rfl⟩
  obtain ⟨o3, ho3⟩ : ∃ o, o = nwl o2 w2.heap.size := ⟨_, rfl⟩
  obtain ⟨B3, hB3⟩ : ∃ B, B = w2.heap.size := ⟨_, rfl⟩
  have q3 := L2.out.box (⟨6, 1, 3, 1, 0, 0, ⟨#[]⟩, 0, ⟨#[]⟩⟩ : F)
  rw [show (⟨6, 1, 3, 1, 0, 0, ⟨#[]⟩, 0, ⟨#[]⟩⟩ : F).cs.toArray = #[.int .i64 6, .int .i64 1, .int .i64 3, .int .i64 1, .int .i64 0, .int .i64 0, .string ⟨#[]⟩, .int .i64 0, .string ⟨#[]⟩] from rfl, ← hV3, ← ho3, ← hB3] at q3
  rw [← hV3, ← hB3]
  have L3 := hid q3.1
  have A_3 := hid q3.2.1.k
  clear q3 hV3 ho3 hB3 
  go_wp2_with fail
  refine (ask5_any 1 ⟨#[]⟩ ⟨#[]⟩ 0 _).mono ?_
  rintro e w4 ⟨rfl, b4⟩
  have L4 := hid (L3.out.below b4)
  have A_4 := hid (A_3.out.below b4)
  clear A_3
  clear b4
  have TK : Hid (Calls Tryz.prog 5 #[.pointer (some ⟨X, 0, none⟩), .agg #[.int .i64 5, .int .i64 1, .int .i64 3, .int .i64 1, .int .i64 0, .int .i64 0, .string ⟨#[]⟩, .int .i64 0, .string ⟨#[]⟩]] w4 fun e w' => e = .returned (.tuple #[.agg #[.int .i64 6, .int .i64 1, .int .i64 3, .int .i64 1, .int .i64 0, .int .i64 0, .string ⟨#[]⟩, .int .i64 0, .string ⟨#[]⟩], .bool true]) ∧ ∃ o', Lw w w' o' X s1 ∧ Kept w4 o3 w' o') := hid (lw_take L4.out n1 (⟨5, 1, 3, 1, 0, 0, ⟨#[]⟩, 0, ⟨#[]⟩⟩ : F) T2.out rfl rfl)
  go_wp2_with fail
  refine TK.out.mono ?_
  rintro e w5 ⟨rfl, o5, l5, k5⟩
  have L5 := hid l5
  have A_5 := hid (k5 _ _ A_4.out)
  clear A_4
  clear TK k5 l5
  go_wp2_with fail
  obtain ⟨V6, hV6⟩ : ∃ V, V = w5.alloc (.cells #[.int .i64 6, .int .i64 1, .int .i64 3, .int .i64 1, .int .i64 0, .int .i64 0, .string ⟨#[]⟩, .int .i64 0, .string ⟨#[]⟩] 28) := ⟨_, rfl⟩
  obtain ⟨o6, ho6⟩ : ∃ o, o = nwl o5 w5.heap.size := ⟨_, rfl⟩
  obtain ⟨B6, hB6⟩ : ∃ B, B = w5.heap.size := ⟨_, rfl⟩
  have q6 := L5.out.box (⟨6, 1, 3, 1, 0, 0, ⟨#[]⟩, 0, ⟨#[]⟩⟩ : F)
  rw [show (⟨6, 1, 3, 1, 0, 0, ⟨#[]⟩, 0, ⟨#[]⟩⟩ : F).cs.toArray = #[.int .i64 6, .int .i64 1, .int .i64 3, .int .i64 1, .int .i64 0, .int .i64 0, .string ⟨#[]⟩, .int .i64 0, .string ⟨#[]⟩] from rfl, ← hV6, ← ho6, ← hB6] at q6
  rw [← hV6, ← hB6]
  have L6 := hid q6.1
  have Bb_6 := hid q6.2.1.k
  have A_6 := hid (q6.2.2 _ _ A_5.out)
  clear A_5
  clear q6 hV6 ho6 hB6 
  go_wp2_with fail
  refine (ask5_any 1 ⟨#[]⟩ ⟨#[]⟩ 0 _).mono ?_
  rintro e w7 ⟨rfl, b7⟩
  have L7 := hid (L6.out.below b7)
  have A_7 := hid (A_6.out.below b7)
  clear A_6
  have Bb_7 := hid (Bb_6.out.below b7)
  clear Bb_6
  clear b7
  go_wp2_with fail
  obtain ⟨V8, hV8⟩ : ∃ V, V = w7.alloc (.cells #[.int .i64 5, .int .i64 1, .int .i64 2, .int .i64 1, .int .i64 0, .int .i64 0, .string ⟨#[]⟩, .int .i64 0, .string ⟨#[]⟩] 28) := ⟨_, rfl⟩
  obtain ⟨o8, ho8⟩ : ∃ o, o = nwl o6 w7.heap.size := ⟨_, rfl⟩
  obtain ⟨B8, hB8⟩ : ∃ B, B = w7.heap.size := ⟨_, rfl⟩
  have q8 := L7.out.box (⟨5, 1, 2, 1, 0, 0, ⟨#[]⟩, 0, ⟨#[]⟩⟩ : F)
  rw [show (⟨5, 1, 2, 1, 0, 0, ⟨#[]⟩, 0, ⟨#[]⟩⟩ : F).cs.toArray = #[.int .i64 5, .int .i64 1, .int .i64 2, .int .i64 1, .int .i64 0, .int .i64 0, .string ⟨#[]⟩, .int .i64 0, .string ⟨#[]⟩] from rfl, ← hV8, ← ho8, ← hB8] at q8
  rw [← hV8, ← hB8]
  have L8 := hid q8.1
  have El_8 := hid q8.2.1.k
  have A_8 := hid (q8.2.2 _ _ A_7.out)
  clear A_7
  have Bb_8 := hid (q8.2.2 _ _ Bb_7.out)
  clear Bb_7
  clear q8 hV8 ho8 hB8 
  have TK : Hid (Calls Tryz.prog 5 #[.pointer (some ⟨X, 0, none⟩), .agg #[.int .i64 5, .int .i64 1, .int .i64 2, .int .i64 1, .int .i64 0, .int .i64 0, .string ⟨#[]⟩, .int .i64 0, .string ⟨#[]⟩]] V8 fun e w' => e = .returned (.tuple #[.agg #[.int .i64 0, .int .i64 0, .int .i64 0, .int .i64 0, .int .i64 0, .int .i64 0, .string ⟨#[]⟩, .int .i64 0, .string ⟨#[]⟩], .bool false]) ∧ ∃ o', Lw w w' o' X s1 ∧ Kept V8 o8 w' o') := hid (lw_take L8.out n1 (⟨5, 1, 2, 1, 0, 0, ⟨#[]⟩, 0, ⟨#[]⟩⟩ : F) T3.out rfl rfl)
  go_wp2_with fail
  refine TK.out.mono ?_
  rintro e w9 ⟨rfl, o9, l9, k9⟩
  have L9 := hid l9
  have A_9 := hid (k9 _ _ A_8.out)
  clear A_8
  have Bb_9 := hid (k9 _ _ Bb_8.out)
  clear Bb_8
  clear TK k9 l9
  go_wp2_with fail
  obtain ⟨V10, hV10⟩ : ∃ V, V = w9.alloc (.cells #[.int .i64 0, .int .i64 0, .int .i64 0, .int .i64 0, .int .i64 0, .int .i64 0, .string ⟨#[]⟩, .int .i64 0, .string ⟨#[]⟩] 28) := ⟨_, rfl⟩
  obtain ⟨o10, ho10⟩ : ∃ o, o = nwl o9 w9.heap.size := ⟨_, rfl⟩
  obtain ⟨B10, hB10⟩ : ∃ B, B = w9.heap.size := ⟨_, rfl⟩
  have q10 := L9.out.box (⟨0, 0, 0, 0, 0, 0, ⟨#[]⟩, 0, ⟨#[]⟩⟩ : F)
  rw [show (⟨0, 0, 0, 0, 0, 0, ⟨#[]⟩, 0, ⟨#[]⟩⟩ : F).cs.toArray = #[.int .i64 0, .int .i64 0, .int .i64 0, .int .i64 0, .int .i64 0, .int .i64 0, .string ⟨#[]⟩, .int .i64 0, .string ⟨#[]⟩] from rfl, ← hV10, ← ho10, ← hB10] at q10
  rw [← hV10, ← hB10]
  have L10 := hid q10.1
  have Zz_10 := hid q10.2.1.k
  have A_10 := hid (q10.2.2 _ _ A_9.out)
  clear A_9
  have Bb_10 := hid (q10.2.2 _ _ Bb_9.out)
  clear Bb_9
  clear q10 hV10 ho10 hB10 
  go_wp2_with fail
  refine (askn_any 1 2 ⟨#[97]⟩ ⟨#[120]⟩ 5 rfl _).mono ?_
  rintro e w11 ⟨rfl, b11⟩
  have L11 := hid (L10.out.below b11)
  have A_11 := hid (A_10.out.below b11)
  clear A_10
  have Bb_11 := hid (Bb_10.out.below b11)
  clear Bb_10
  clear b11
  have TK : Hid (Calls Tryz.prog 5 #[.pointer (some ⟨X, 0, none⟩), .agg #[.int .i64 1, .int .i64 1, .int .i64 3, .int .i64 2, .int .i64 0, .int .i64 1, .string ⟨#[97]⟩, .int .i64 5, .string ⟨#[120]⟩]] w11 fun e w' => e = .returned (.tuple #[.agg #[.int .i64 6, .int .i64 1, .int .i64 3, .int .i64 2, .int .i64 0, .int .i64 1, .string ⟨#[97]⟩, .int .i64 5, .string ⟨#[]⟩], .bool true]) ∧ ∃ o', Lw w w' o' X s2 ∧ Kept w11 o10 w' o') := hid (lw_take L11.out n1 (⟨1, 1, 3, 2, 0, 1, ⟨#[97]⟩, 5, ⟨#[120]⟩⟩ : F) T4.out rfl rfl)
  go_wp2_with fail
  refine TK.out.mono ?_
  rintro e w12 ⟨rfl, o12, l12, k12⟩
  have L12 := hid l12
  have A_12 := hid (k12 _ _ A_11.out)
  clear A_11
  have Bb_12 := hid (k12 _ _ Bb_11.out)
  clear Bb_11
  clear TK k12 l12
  go_wp2_with fail
  obtain ⟨V13, hV13⟩ : ∃ V, V = w12.alloc (.cells #[.int .i64 6, .int .i64 1, .int .i64 3, .int .i64 2, .int .i64 0, .int .i64 1, .string ⟨#[97]⟩, .int .i64 5, .string ⟨#[]⟩] 28) := ⟨_, rfl⟩
  obtain ⟨o13, ho13⟩ : ∃ o, o = nwl o12 w12.heap.size := ⟨_, rfl⟩
  obtain ⟨B13, hB13⟩ : ∃ B, B = w12.heap.size := ⟨_, rfl⟩
  have q13 := L12.out.box (⟨6, 1, 3, 2, 0, 1, ⟨#[97]⟩, 5, ⟨#[]⟩⟩ : F)
  rw [show (⟨6, 1, 3, 2, 0, 1, ⟨#[97]⟩, 5, ⟨#[]⟩⟩ : F).cs.toArray = #[.int .i64 6, .int .i64 1, .int .i64 3, .int .i64 2, .int .i64 0, .int .i64 1, .string ⟨#[97]⟩, .int .i64 5, .string ⟨#[]⟩] from rfl, ← hV13, ← ho13, ← hB13] at q13
  rw [← hV13, ← hB13]
  have L13 := hid q13.1
  have Cc_13 := hid q13.2.1.k
  have A_13 := hid (q13.2.2 _ _ A_12.out)
  clear A_12
  have Bb_13 := hid (q13.2.2 _ _ Bb_12.out)
  clear Bb_12
  clear q13 hV13 ho13 hB13 
  go_wp2_with fail
  refine (askn_any 2 3 ⟨#[97]⟩ ⟨#[]⟩ 0 rfl _).mono ?_
  rintro e w14 ⟨rfl, b14⟩
  have L14 := hid (L13.out.below b14)
  have A_14 := hid (A_13.out.below b14)
  clear A_13
  have Bb_14 := hid (Bb_13.out.below b14)
  clear Bb_13
  have Cc_14 := hid (Cc_13.out.below b14)
  clear Cc_13
  clear b14
  have TK : Hid (Calls Tryz.prog 5 #[.pointer (some ⟨X, 0, none⟩), .agg #[.int .i64 2, .int .i64 1, .int .i64 3, .int .i64 3, .int .i64 0, .int .i64 1, .string ⟨#[97]⟩, .int .i64 0, .string ⟨#[]⟩]] w14 fun e w' => e = .returned (.tuple #[.agg #[.int .i64 6, .int .i64 1, .int .i64 3, .int .i64 3, .int .i64 0, .int .i64 1, .string ⟨#[97]⟩, .int .i64 5, .string ⟨#[120]⟩], .bool true]) ∧ ∃ o', Lw w w' o' X s3 ∧ Kept w14 o13 w' o') := hid (lw_take L14.out n2 (⟨2, 1, 3, 3, 0, 1, ⟨#[97]⟩, 0, ⟨#[]⟩⟩ : F) T5.out rfl rfl)
  go_wp2_with fail
  refine TK.out.mono ?_
  rintro e w15 ⟨rfl, o15, l15, k15⟩
  have L15 := hid l15
  have A_15 := hid (k15 _ _ A_14.out)
  clear A_14
  have Bb_15 := hid (k15 _ _ Bb_14.out)
  clear Bb_14
  have Cc_15 := hid (k15 _ _ Cc_14.out)
  clear Cc_14
  clear TK k15 l15
  go_wp2_with fail
  obtain ⟨V16, hV16⟩ : ∃ V, V = w15.alloc (.cells #[.int .i64 6, .int .i64 1, .int .i64 3, .int .i64 3, .int .i64 0, .int .i64 1, .string ⟨#[97]⟩, .int .i64 5, .string ⟨#[120]⟩] 28) := ⟨_, rfl⟩
  obtain ⟨o16, ho16⟩ : ∃ o, o = nwl o15 w15.heap.size := ⟨_, rfl⟩
  obtain ⟨B16, hB16⟩ : ∃ B, B = w15.heap.size := ⟨_, rfl⟩
  have q16 := L15.out.box (⟨6, 1, 3, 3, 0, 1, ⟨#[97]⟩, 5, ⟨#[120]⟩⟩ : F)
  rw [show (⟨6, 1, 3, 3, 0, 1, ⟨#[97]⟩, 5, ⟨#[120]⟩⟩ : F).cs.toArray = #[.int .i64 6, .int .i64 1, .int .i64 3, .int .i64 3, .int .i64 0, .int .i64 1, .string ⟨#[97]⟩, .int .i64 5, .string ⟨#[120]⟩] from rfl, ← hV16, ← ho16, ← hB16] at q16
  rw [← hV16, ← hB16]
  have L16 := hid q16.1
  have Dd_16 := hid q16.2.1.k
  have A_16 := hid (q16.2.2 _ _ A_15.out)
  clear A_15
  have Bb_16 := hid (q16.2.2 _ _ Bb_15.out)
  clear Bb_15
  have Cc_16 := hid (q16.2.2 _ _ Cc_15.out)
  clear Cc_15
  clear q16 hV16 ho16 hB16 
  go_wp2_with fail
  refine (lw_wipe L16.out).mono ?_
  rintro e w17 ⟨rfl, o17, l17, k17⟩
  have L17 := hid l17
  have A_17 := hid (k17 _ _ A_16.out)
  clear A_16
  have Bb_17 := hid (k17 _ _ Bb_16.out)
  clear Bb_16
  have Cc_17 := hid (k17 _ _ Cc_16.out)
  clear Cc_16
  have Dd_17 := hid (k17 _ _ Dd_16.out)
  clear Dd_16
  clear k17 l17
  go_wp2_with fail
  refine (askn_any 2 4 ⟨#[97]⟩ ⟨#[]⟩ 0 rfl _).mono ?_
  rintro e w18 ⟨rfl, b18⟩
  have L18 := hid (L17.out.below b18)
  have A_18 := hid (A_17.out.below b18)
  clear A_17
  have Bb_18 := hid (Bb_17.out.below b18)
  clear Bb_17
  have Cc_18 := hid (Cc_17.out.below b18)
  clear Cc_17
  have Dd_18 := hid (Dd_17.out.below b18)
  clear Dd_17
  clear b18
  have TK : Hid (Calls Tryz.prog 5 #[.pointer (some ⟨X, 0, none⟩), .agg #[.int .i64 2, .int .i64 1, .int .i64 3, .int .i64 4, .int .i64 0, .int .i64 1, .string ⟨#[97]⟩, .int .i64 0, .string ⟨#[]⟩]] w18 fun e w' => e = .returned (.tuple #[.agg #[.int .i64 0, .int .i64 0, .int .i64 0, .int .i64 0, .int .i64 0, .int .i64 0, .string ⟨#[]⟩, .int .i64 0, .string ⟨#[]⟩], .bool false]) ∧ ∃ o', Lw w w' o' X s3.wipe ∧ Kept w18 o17 w' o') := hid (lw_take L18.out (Nat.zero_le _) (⟨2, 1, 3, 4, 0, 1, ⟨#[97]⟩, 0, ⟨#[]⟩⟩ : F) T6.out rfl rfl)
  go_wp2_with fail
  refine TK.out.mono ?_
  rintro e w19 ⟨rfl, o19, l19, k19⟩
  have L19 := hid l19
  have A_19 := hid (k19 _ _ A_18.out)
  clear A_18
  have Bb_19 := hid (k19 _ _ Bb_18.out)
  clear Bb_18
  have Cc_19 := hid (k19 _ _ Cc_18.out)
  clear Cc_18
  have Dd_19 := hid (k19 _ _ Dd_18.out)
  clear Dd_18
  clear TK k19 l19
  go_wp2_with fail
  obtain ⟨V20, hV20⟩ : ∃ V, V = w19.alloc (.cells #[.int .i64 0, .int .i64 0, .int .i64 0, .int .i64 0, .int .i64 0, .int .i64 0, .string ⟨#[]⟩, .int .i64 0, .string ⟨#[]⟩] 28) := ⟨_, rfl⟩
  obtain ⟨o20, ho20⟩ : ∃ o, o = nwl o19 w19.heap.size := ⟨_, rfl⟩
  obtain ⟨B20, hB20⟩ : ∃ B, B = w19.heap.size := ⟨_, rfl⟩
  have q20 := L19.out.box (⟨0, 0, 0, 0, 0, 0, ⟨#[]⟩, 0, ⟨#[]⟩⟩ : F)
  rw [show (⟨0, 0, 0, 0, 0, 0, ⟨#[]⟩, 0, ⟨#[]⟩⟩ : F).cs.toArray = #[.int .i64 0, .int .i64 0, .int .i64 0, .int .i64 0, .int .i64 0, .int .i64 0, .string ⟨#[]⟩, .int .i64 0, .string ⟨#[]⟩] from rfl, ← hV20, ← ho20, ← hB20] at q20
  rw [← hV20, ← hB20]
  have L20 := hid q20.1
  have Zy_20 := hid q20.2.1.k
  have A_20 := hid (q20.2.2 _ _ A_19.out)
  clear A_19
  have Bb_20 := hid (q20.2.2 _ _ Bb_19.out)
  clear Bb_19
  have Cc_20 := hid (q20.2.2 _ _ Cc_19.out)
  clear Cc_19
  have Dd_20 := hid (q20.2.2 _ _ Dd_19.out)
  clear Dd_19
  clear q20 hV20 ho20 hB20 
  go_wp2_with fail
  refine (ask5_any 5 ⟨#[]⟩ ⟨#[]⟩ 0 _).mono ?_
  rintro e w21 ⟨rfl, b21⟩
  have L21 := hid (L20.out.below b21)
  have A_21 := hid (A_20.out.below b21)
  clear A_20
  have Bb_21 := hid (Bb_20.out.below b21)
  clear Bb_20
  have Cc_21 := hid (Cc_20.out.below b21)
  clear Cc_20
  have Dd_21 := hid (Dd_20.out.below b21)
  clear Dd_20
  clear b21
  have TK : Hid (Calls Tryz.prog 5 #[.pointer (some ⟨X, 0, none⟩), .agg #[.int .i64 5, .int .i64 1, .int .i64 3, .int .i64 5, .int .i64 0, .int .i64 0, .string ⟨#[]⟩, .int .i64 0, .string ⟨#[]⟩]] w21 fun e w' => e = .returned (.tuple #[.agg #[.int .i64 0, .int .i64 0, .int .i64 0, .int .i64 0, .int .i64 0, .int .i64 0, .string ⟨#[]⟩, .int .i64 0, .string ⟨#[]⟩], .bool false]) ∧ ∃ o', Lw w w' o' X s3.wipe ∧ Kept w21 o20 w' o') := hid (lw_take L21.out (Nat.zero_le _) (⟨5, 1, 3, 5, 0, 0, ⟨#[]⟩, 0, ⟨#[]⟩⟩ : F) T7.out rfl rfl)
  go_wp2_with fail
  refine TK.out.mono ?_
  rintro e w22 ⟨rfl, o22, l22, k22⟩
  have L22 := hid l22
  have A_22 := hid (k22 _ _ A_21.out)
  clear A_21
  have Bb_22 := hid (k22 _ _ Bb_21.out)
  clear Bb_21
  have Cc_22 := hid (k22 _ _ Cc_21.out)
  clear Cc_21
  have Dd_22 := hid (k22 _ _ Dd_21.out)
  clear Dd_21
  clear TK k22 l22
  go_upto_region 14 with fail
  obtain ⟨V, hV⟩ : ∃ V, V = w22.alloc (.cells #[.int .i64 0, .int .i64 0, .int .i64 0, .int .i64 0, .int .i64 0, .int .i64 0, .string ⟨#[]⟩, .int .i64 0, .string ⟨#[]⟩] 28) := ⟨_, rfl⟩
  have bV : Below w22.heap.size w22 V := by rw [hV]; exact bel_alloc _ _
  rw [← hV]
  have LV := hid (L22.out.below bV)
  have ac0 := (A_22.out.below bV).q 0 (.int .i64 6) rfl
  have ac1 := (A_22.out.below bV).q 1 (.int .i64 1) rfl
  have ac2 := (A_22.out.below bV).q 2 (.int .i64 3) rfl
  have ac3 := (A_22.out.below bV).q 3 (.int .i64 1) rfl
  have ac4 := (A_22.out.below bV).q 4 (.int .i64 0) rfl
  have ac5 := (A_22.out.below bV).q 5 (.int .i64 0) rfl
  have ac6 := (A_22.out.below bV).q 6 (.string ⟨#[]⟩) rfl
  have ac7 := (A_22.out.below bV).q 7 (.int .i64 0) rfl
  have ac8 := (A_22.out.below bV).q 8 (.string ⟨#[]⟩) rfl
  have bbc0 := (Bb_22.out.below bV).q 0 (.int .i64 6) rfl
  have bbc1 := (Bb_22.out.below bV).q 1 (.int .i64 1) rfl
  have bbc2 := (Bb_22.out.below bV).q 2 (.int .i64 3) rfl
  have bbc3 := (Bb_22.out.below bV).q 3 (.int .i64 1) rfl
  have bbc4 := (Bb_22.out.below bV).q 4 (.int .i64 0) rfl
  have bbc5 := (Bb_22.out.below bV).q 5 (.int .i64 0) rfl
  have bbc6 := (Bb_22.out.below bV).q 6 (.string ⟨#[]⟩) rfl
  have bbc7 := (Bb_22.out.below bV).q 7 (.int .i64 0) rfl
  have bbc8 := (Bb_22.out.below bV).q 8 (.string ⟨#[]⟩) rfl
  have ccc0 := (Cc_22.out.below bV).q 0 (.int .i64 6) rfl
  have ccc1 := (Cc_22.out.below bV).q 1 (.int .i64 1) rfl
  have ccc2 := (Cc_22.out.below bV).q 2 (.int .i64 3) rfl
  have ccc3 := (Cc_22.out.below bV).q 3 (.int .i64 2) rfl
  have ccc4 := (Cc_22.out.below bV).q 4 (.int .i64 0) rfl
  have ccc5 := (Cc_22.out.below bV).q 5 (.int .i64 1) rfl
  have ccc6 := (Cc_22.out.below bV).q 6 (.string ⟨#[97]⟩) rfl
  have ccc7 := (Cc_22.out.below bV).q 7 (.int .i64 5) rfl
  have ccc8 := (Cc_22.out.below bV).q 8 (.string ⟨#[]⟩) rfl
  have ddc0 := (Dd_22.out.below bV).q 0 (.int .i64 6) rfl
  have ddc1 := (Dd_22.out.below bV).q 1 (.int .i64 1) rfl
  have ddc2 := (Dd_22.out.below bV).q 2 (.int .i64 3) rfl
  have ddc3 := (Dd_22.out.below bV).q 3 (.int .i64 3) rfl
  have ddc4 := (Dd_22.out.below bV).q 4 (.int .i64 0) rfl
  have ddc5 := (Dd_22.out.below bV).q 5 (.int .i64 1) rfl
  have ddc6 := (Dd_22.out.below bV).q 6 (.string ⟨#[97]⟩) rfl
  have ddc7 := (Dd_22.out.below bV).q 7 (.int .i64 5) rfl
  have ddc8 := (Dd_22.out.below bV).q 8 (.string ⟨#[120]⟩) rfl
  have eqA : ∀ w, (binOp .eql 28 (.agg #[.int .i64 6, .int .i64 1, .int .i64 3, .int .i64 1, .int .i64 0, .int .i64 0, .string ⟨#[]⟩, .int .i64 0, .string ⟨#[]⟩]) (.agg #[.int .i64 6, .int .i64 1, .int .i64 3, .int .i64 1, .int .i64 0, .int .i64 0, .string ⟨#[]⟩, .int .i64 0, .string ⟨#[]⟩])).run Tryz.prog w = .ok (.bool true) w := fun w => eqz w (⟨6, 1, 3, 1, 0, 0, ⟨#[]⟩, 0, ⟨#[]⟩⟩ : F) (⟨6, 1, 3, 1, 0, 0, ⟨#[]⟩, 0, ⟨#[]⟩⟩ : F) true (by simp)
  have HF := hid LV.out.fin
  obtain ⟨C, D, d, IV⟩ := LV.out.I
  have ONV := hid (on_any X s3.wipe C D V IV.c)
  have INV := hid (inc_any X s3.wipe C D V IV.c)
  rw [T8.out.1] at ONV
  rw [T8.out.2] at INV
  clear IV LV hV bV
  go_wp2_with (first
    | (go_at_call 17; refine ONV.out.mono ?_; rintro e w' ⟨rfl, rfl⟩)
    | (go_at_call 18; refine INV.out.mono ?_; rintro e w' ⟨rfl, rfl⟩))
  go_ret
  exact ⟨rfl, HF.out⟩
end Go.Proofs.YtfinaichajbnkaaGreatDoor
