/-
  TEXT of the program: what is said of an answer.
-/
import Derived.Test.YtjlcnfafjblmkaaDoorStat
namespace Go.Proofs.YtjlcnfafjblmkaaDoor
open Go.RowKit
open Go.Lib (TabIs pow10Tab OthersKept)

theorem Ws.new2 (w : World) (q : Nat) (hq : q = w.heap.size) (xs : List ByteArray) (vs : Array Value) (hv : vs = (xs.map Value.string).toArray) : Ws (w.alloc (.cells vs 9)) q 0 xs := by
  subst hq
  exact Ws.new w xs vs hv
theorem up1 {w w' : World} {ob : Obj} (h : Below (w.alloc ob).heap.size (w.alloc ob) w') : Below w.heap.size w w' := (below_alloc w ob).trans (h.mono (by simp))
theorem up2 {w w' : World} {ob ob' : Obj} (h : Below ((w.alloc ob).alloc ob').heap.size ((w.alloc ob).alloc ob') w') : Below w.heap.size w w' := up1 (up1 h)
theorem tb_up {w w' : World} (h : Tb w) (hb : Below w.heap.size w w') : Tb w' := tabIs_below h hb
set_option maxRecDepth 100000 in
set_option maxHeartbeats 1000000 in
theorem text_2 (g : Bool) (num : Nat) (text : ByteArray) (s0 s1 s2 s3 : Int) (a : Option Addr) (n cap : Nat) (w : World) :
    Calls Tryd.prog 7 #[.agg #[.int .i64 2, .slice a n cap, .bool g, .int .u64 (num : Int), .string text, .int .i64 s0, .int .i64 s1, .int .i64 s2, .int .i64 s3]] w fun e w' => e = .returned (.string ⟨#[83, 84, 79, 82, 69, 68, 13, 10]⟩) ∧ Below w.heap.size w w' := by
  go_enter Tryd.func7, Tryd.ntmps7
  go_wp2_with fail
  refine (line_c (n := 1) (c := 1) (R := ⟨#[83, 84, 79, 82, 69, 68, 13, 10]⟩) (Ws.new2 _ _ (by simp) [⟨#[83, 84, 79, 82, 69, 68]⟩] _ rfl) rfl (Nat.le_refl _) (by decide) (by decide)).mono ?_
  rintro e w2 ⟨rfl, b2⟩
  go_wp2_with fail
  go_ret
  exact ⟨rfl, up2 b2⟩
set_option maxRecDepth 100000 in
set_option maxHeartbeats 1000000 in
theorem text_3 (g : Bool) (num : Nat) (text : ByteArray) (s0 s1 s2 s3 : Int) (a : Option Addr) (n cap : Nat) (w : World) :
    Calls Tryd.prog 7 #[.agg #[.int .i64 3, .slice a n cap, .bool g, .int .u64 (num : Int), .string text, .int .i64 s0, .int .i64 s1, .int .i64 s2, .int .i64 s3]] w fun e w' => e = .returned (.string ⟨#[78, 79, 84, 95, 83, 84, 79, 82, 69, 68, 13, 10]⟩) ∧ Below w.heap.size w w' := by
  go_enter Tryd.func7, Tryd.ntmps7
  go_wp2_with fail
  refine (line_c (n := 1) (c := 1) (R := ⟨#[78, 79, 84, 95, 83, 84, 79, 82, 69, 68, 13, 10]⟩) (Ws.new2 _ _ (by simp) [⟨#[78, 79, 84, 95, 83, 84, 79, 82, 69, 68]⟩] _ rfl) rfl (Nat.le_refl _) (by decide) (by decide)).mono ?_
  rintro e w2 ⟨rfl, b2⟩
  go_wp2_with fail
  go_ret
  exact ⟨rfl, up2 b2⟩
set_option maxRecDepth 100000 in
set_option maxHeartbeats 1000000 in
theorem text_4 (g : Bool) (num : Nat) (text : ByteArray) (s0 s1 s2 s3 : Int) (a : Option Addr) (n cap : Nat) (w : World) :
    Calls Tryd.prog 7 #[.agg #[.int .i64 4, .slice a n cap, .bool g, .int .u64 (num : Int), .string text, .int .i64 s0, .int .i64 s1, .int .i64 s2, .int .i64 s3]] w fun e w' => e = .returned (.string ⟨#[69, 88, 73, 83, 84, 83, 13, 10]⟩) ∧ Below w.heap.size w w' := by
  go_enter Tryd.func7, Tryd.ntmps7
  go_wp2_with fail
  refine (line_c (n := 1) (c := 1) (R := ⟨#[69, 88, 73, 83, 84, 83, 13, 10]⟩) (Ws.new2 _ _ (by simp) [⟨#[69, 88, 73, 83, 84, 83]⟩] _ rfl) rfl (Nat.le_refl _) (by decide) (by decide)).mono ?_
  rintro e w2 ⟨rfl, b2⟩
  go_wp2_with fail
  go_ret
  exact ⟨rfl, up2 b2⟩
set_option maxRecDepth 100000 in
set_option maxHeartbeats 1000000 in
theorem text_5 (g : Bool) (num : Nat) (text : ByteArray) (s0 s1 s2 s3 : Int) (a : Option Addr) (n cap : Nat) (w : World) :
    Calls Tryd.prog 7 #[.agg #[.int .i64 5, .slice a n cap, .bool g, .int .u64 (num : Int), .string text, .int .i64 s0, .int .i64 s1, .int .i64 s2, .int .i64 s3]] w fun e w' => e = .returned (.string ⟨#[78, 79, 84, 95, 70, 79, 85, 78, 68, 13, 10]⟩) ∧ Below w.heap.size w w' := by
  go_enter Tryd.func7, Tryd.ntmps7
  go_wp2_with fail
  refine (line_c (n := 1) (c := 1) (R := ⟨#[78, 79, 84, 95, 70, 79, 85, 78, 68, 13, 10]⟩) (Ws.new2 _ _ (by simp) [⟨#[78, 79, 84, 95, 70, 79, 85, 78, 68]⟩] _ rfl) rfl (Nat.le_refl _) (by decide) (by decide)).mono ?_
  rintro e w2 ⟨rfl, b2⟩
  go_wp2_with fail
  go_ret
  exact ⟨rfl, up2 b2⟩
set_option maxRecDepth 100000 in
set_option maxHeartbeats 1000000 in
theorem text_6 (g : Bool) (num : Nat) (text : ByteArray) (s0 s1 s2 s3 : Int) (a : Option Addr) (n cap : Nat) (w : World) :
    Calls Tryd.prog 7 #[.agg #[.int .i64 6, .slice a n cap, .bool g, .int .u64 (num : Int), .string text, .int .i64 s0, .int .i64 s1, .int .i64 s2, .int .i64 s3]] w fun e w' => e = .returned (.string ⟨#[68, 69, 76, 69, 84, 69, 68, 13, 10]⟩) ∧ Below w.heap.size w w' := by
  go_enter Tryd.func7, Tryd.ntmps7
  go_wp2_with fail
  refine (line_c (n := 1) (c := 1) (R := ⟨#[68, 69, 76, 69, 84, 69, 68, 13, 10]⟩) (Ws.new2 _ _ (by simp) [⟨#[68, 69, 76, 69, 84, 69, 68]⟩] _ rfl) rfl (Nat.le_refl _) (by decide) (by decide)).mono ?_
  rintro e w2 ⟨rfl, b2⟩
  go_wp2_with fail
  go_ret
  exact ⟨rfl, up2 b2⟩
set_option maxRecDepth 100000 in
set_option maxHeartbeats 1000000 in
theorem text_7 (g : Bool) (num : Nat) (text : ByteArray) (s0 s1 s2 s3 : Int) (a : Option Addr) (n cap : Nat) (w : World) :
    Calls Tryd.prog 7 #[.agg #[.int .i64 7, .slice a n cap, .bool g, .int .u64 (num : Int), .string text, .int .i64 s0, .int .i64 s1, .int .i64 s2, .int .i64 s3]] w fun e w' => e = .returned (.string ⟨#[84, 79, 85, 67, 72, 69, 68, 13, 10]⟩) ∧ Below w.heap.size w w' := by
  go_enter Tryd.func7, Tryd.ntmps7
  go_wp2_with fail
  refine (line_c (n := 1) (c := 1) (R := ⟨#[84, 79, 85, 67, 72, 69, 68, 13, 10]⟩) (Ws.new2 _ _ (by simp) [⟨#[84, 79, 85, 67, 72, 69, 68]⟩] _ rfl) rfl (Nat.le_refl _) (by decide) (by decide)).mono ?_
  rintro e w2 ⟨rfl, b2⟩
  go_wp2_with fail
  go_ret
  exact ⟨rfl, up2 b2⟩
set_option maxRecDepth 100000 in
set_option maxHeartbeats 1000000 in
theorem text_9 (g : Bool) (num : Nat) (text : ByteArray) (s0 s1 s2 s3 : Int) (a : Option Addr) (n cap : Nat) (w : World) :
    Calls Tryd.prog 7 #[.agg #[.int .i64 9, .slice a n cap, .bool g, .int .u64 (num : Int), .string text, .int .i64 s0, .int .i64 s1, .int .i64 s2, .int .i64 s3]] w fun e w' => e = .returned (.string ⟨#[79, 75, 13, 10]⟩) ∧ Below w.heap.size w w' := by
  go_enter Tryd.func7, Tryd.ntmps7
  go_wp2_with fail
  refine (line_c (n := 1) (c := 1) (R := ⟨#[79, 75, 13, 10]⟩) (Ws.new2 _ _ (by simp) [⟨#[79, 75]⟩] _ rfl) rfl (Nat.le_refl _) (by decide) (by decide)).mono ?_
  rintro e w2 ⟨rfl, b2⟩
  go_wp2_with fail
  go_ret
  exact ⟨rfl, up2 b2⟩
set_option maxRecDepth 100000 in
set_option maxHeartbeats 1000000 in
theorem text_10 (g : Bool) (num : Nat) (text : ByteArray) (s0 s1 s2 s3 : Int) (a : Option Addr) (n cap : Nat) (w : World) :
    Calls Tryd.prog 7 #[.agg #[.int .i64 10, .slice a n cap, .bool g, .int .u64 (num : Int), .string text, .int .i64 s0, .int .i64 s1, .int .i64 s2, .int .i64 s3]] w fun e w' => e = .returned (.string ⟨#[86, 69, 82, 83, 73, 79, 78, 32, 100, 101, 112, 111, 116, 13, 10]⟩) ∧ Below w.heap.size w w' := by
  go_enter Tryd.func7, Tryd.ntmps7
  go_wp2_with fail
  refine (line_c (n := 2) (c := 2) (R := ⟨#[86, 69, 82, 83, 73, 79, 78, 32, 100, 101, 112, 111, 116, 13, 10]⟩) (Ws.new2 _ _ (by simp) [⟨#[86, 69, 82, 83, 73, 79, 78]⟩, ⟨#[100, 101, 112, 111, 116]⟩] _ rfl) rfl (Nat.le_refl _) (by decide) (by decide)).mono ?_
  rintro e w2 ⟨rfl, b2⟩
  go_wp2_with fail
  go_ret
  exact ⟨rfl, up2 b2⟩
set_option maxRecDepth 100000 in
set_option maxHeartbeats 1000000 in
theorem text_12 (g : Bool) (num : Nat) (text : ByteArray) (s0 s1 s2 s3 : Int) (a : Option Addr) (n cap : Nat) (w : World) :
    Calls Tryd.prog 7 #[.agg #[.int .i64 12, .slice a n cap, .bool g, .int .u64 (num : Int), .string text, .int .i64 s0, .int .i64 s1, .int .i64 s2, .int .i64 s3]] w fun e w' => e = .returned (.string ⟨#[69, 82, 82, 79, 82, 13, 10]⟩) ∧ Below w.heap.size w w' := by
  go_enter Tryd.func7, Tryd.ntmps7
  go_wp2_with fail
  refine (line_c (n := 1) (c := 1) (R := ⟨#[69, 82, 82, 79, 82, 13, 10]⟩) (Ws.new2 _ _ (by simp) [⟨#[69, 82, 82, 79, 82]⟩] _ rfl) rfl (Nat.le_refl _) (by decide) (by decide)).mono ?_
  rintro e w2 ⟨rfl, b2⟩
  go_wp2_with fail
  go_ret
  exact ⟨rfl, up2 b2⟩
set_option maxRecDepth 100000 in
set_option maxHeartbeats 1000000 in
theorem text_8 (g : Bool) (num : Nat) (text : ByteArray) (s0 s1 s2 s3 : Int) (a : Option Addr) (n cap : Nat) (w : World) (hn : num < 18446744073709551616) (ht : Tb w) :
    Calls Tryd.prog 7 #[.agg #[.int .i64 8, .slice a n cap, .bool g, .int .u64 (num : Int), .string text, .int .i64 s0, .int .i64 s1, .int .i64 s2, .int .i64 s3]] w fun e w' => e = .returned (.string (S (ln [Lib.decDigits num]))) ∧ Below w.heap.size w w' := by
  have HT := Lib.hid ht
  have HN := Lib.hid hn
  obtain ⟨D, hD⟩ : ∃ D, S (Lib.decDigits num) = D := ⟨_, rfl⟩
  have HD := Lib.hid hD
  obtain ⟨R, hR⟩ : ∃ R, S (ln [Lib.decDigits num]) = R := ⟨_, rfl⟩
  rw [hR]
  have HR : Hid (S (ln ([D].map L)) = R) := Lib.hid (by rw [← hR, ← hD]; rfl)
  have HL : Hid (Lib.lens ([D].map L) + 1 ≤ 100000) := Lib.hid (by
    have := (dec_len hn).2
    rw [← hD]
    show ([Lib.decDigits num].map List.length).sum + 1 ≤ _
    simp
    omega)
  clear hD hR ht hn
  go_enter Tryd.func7, Tryd.ntmps7
  go_wp2_with fail
  refine (fmt_any num HN.out _ (tb_up HT.out (below_alloc _ _))).mono ?_
  rintro e w1 ⟨rfl, b1⟩
  rw [HD.out]
  have HB := Lib.hid (up1 b1)
  clear b1
  go_wp2_with fail
  refine (line_c (n := 1) (c := 1) (R := R) (Ws.new2 _ _ rfl [D] _ rfl) rfl (Nat.le_refl _) HL.out HR.out).mono ?_
  rintro e w2 ⟨rfl, b2⟩
  go_wp2_with fail
  go_ret
  exact ⟨rfl, HB.out.trans ((up1 b2).mono HB.out.size)⟩
set_option maxRecDepth 100000 in
set_option maxHeartbeats 1000000 in
theorem text_13 (g : Bool) (num : Nat) (text : ByteArray) (s0 s1 s2 s3 : Int) (a : Option Addr) (n cap : Nat) (w : World) (hl : text.size ≤ 3000) :
    Calls Tryd.prog 7 #[.agg #[.int .i64 13, .slice a n cap, .bool g, .int .u64 (num : Int), .string text, .int .i64 s0, .int .i64 s1, .int .i64 s2, .int .i64 s3]] w fun e w' => e = .returned (.string (S (ln [[67, 76, 73, 69, 78, 84, 95, 69, 82, 82, 79, 82], L text]))) ∧ Below w.heap.size w w' := by
  obtain ⟨R, hR⟩ : ∃ R, S (ln [[67, 76, 73, 69, 78, 84, 95, 69, 82, 82, 79, 82], L text]) = R := ⟨_, rfl⟩
  rw [hR]
  have HR : Hid (S (ln ([⟨#[67, 76, 73, 69, 78, 84, 95, 69, 82, 82, 79, 82]⟩, text].map L)) = R) := Lib.hid (by rw [← hR]; rfl)
  have HL : Hid (Lib.lens ([⟨#[67, 76, 73, 69, 78, 84, 95, 69, 82, 82, 79, 82]⟩, text].map L) + 2 ≤ 100000) := Lib.hid (by
    have := L_len text
    show ([[67, 76, 73, 69, 78, 84, 95, 69, 82, 82, 79, 82], L text].map List.length).sum + 2 ≤ _
    simp
    omega)
  clear hR hl
  go_enter Tryd.func7, Tryd.ntmps7
  go_wp2_with fail
  refine (line_c (n := 2) (c := 2) (R := R) (Ws.new2 _ _ (by simp) [⟨#[67, 76, 73, 69, 78, 84, 95, 69, 82, 82, 79, 82]⟩, text] _ rfl) rfl (Nat.le_refl _) HL.out HR.out).mono ?_
  rintro e w2 ⟨rfl, b2⟩
  go_wp2_with fail
  go_ret
  exact ⟨rfl, up2 b2⟩
set_option maxRecDepth 100000 in
set_option maxHeartbeats 1000000 in
theorem text_14 (g : Bool) (num : Nat) (text : ByteArray) (s0 s1 s2 s3 : Int) (a : Option Addr) (n cap : Nat) (w : World) (hl : text.size ≤ 3000) :
    Calls Tryd.prog 7 #[.agg #[.int .i64 14, .slice a n cap, .bool g, .int .u64 (num : Int), .string text, .int .i64 s0, .int .i64 s1, .int .i64 s2, .int .i64 s3]] w fun e w' => e = .returned (.string (S (ln [[83, 69, 82, 86, 69, 82, 95, 69, 82, 82, 79, 82], L text]))) ∧ Below w.heap.size w w' := by
  obtain ⟨R, hR⟩ : ∃ R, S (ln [[83, 69, 82, 86, 69, 82, 95, 69, 82, 82, 79, 82], L text]) = R := ⟨_, rfl⟩
  rw [hR]
  have HR : Hid (S (ln ([⟨#[83, 69, 82, 86, 69, 82, 95, 69, 82, 82, 79, 82]⟩, text].map L)) = R) := Lib.hid (by rw [← hR]; rfl)
  have HL : Hid (Lib.lens ([⟨#[83, 69, 82, 86, 69, 82, 95, 69, 82, 82, 79, 82]⟩, text].map L) + 2 ≤ 100000) := Lib.hid (by
    have := L_len text
    show ([[83, 69, 82, 86, 69, 82, 95, 69, 82, 82, 79, 82], L text].map List.length).sum + 2 ≤ _
    simp
    omega)
  clear hR hl
  go_enter Tryd.func7, Tryd.ntmps7
  go_wp2_with fail
  refine (line_c (n := 2) (c := 2) (R := R) (Ws.new2 _ _ (by simp) [⟨#[83, 69, 82, 86, 69, 82, 95, 69, 82, 82, 79, 82]⟩, text] _ rfl) rfl (Nat.le_refl _) HL.out HR.out).mono ?_
  rintro e w2 ⟨rfl, b2⟩
  go_wp2_with fail
  go_ret
  exact ⟨rfl, up2 b2⟩
set_option maxRecDepth 100000 in
set_option maxHeartbeats 1000000 in
theorem text_11 (g : Bool) (num : Nat) (text : ByteArray) (s0 s1 s2 s3 : Int) (a : Option Addr) (n cap : Nat) (w : World) (h0 : s0 ≤ 9223372036854775807) (h1 : s1 ≤ 9223372036854775807) (h2 : s2 ≤ 9223372036854775807) (h3 : s3 ≤ 9223372036854775807) (ht : Tb w) :
    Calls Tryd.prog 7 #[.agg #[.int .i64 11, .slice a n cap, .bool g, .int .u64 (num : Int), .string text, .int .i64 s0, .int .i64 s1, .int .i64 s2, .int .i64 s3]] w fun e w' => e = .returned (.string (S (stats (four s0 s1 s2 s3)))) ∧ Below w.heap.size w w' := by
  have HC : ∀ W, Tb W → _ := fun W hW => stats_any s0 s1 s2 s3 h0 h1 h2 h3 W hW
  have HC := Lib.hid HC
  have HT := Lib.hid ht
  clear h0 h1 h2 h3 ht
  go_enter Tryd.func7, Tryd.ntmps7
  go_wp2_with fail
  refine (HC.out _ (tb_up HT.out (below_alloc _ _))).mono ?_
  rintro e w2 ⟨rfl, b2⟩
  go_wp2_with fail
  go_ret
  exact ⟨rfl, up1 b2⟩
set_option maxRecDepth 100000 in
set_option maxHeartbeats 1000000 in
theorem text_1 (fs : List Fd) (g : Bool) (num : Nat) (text : ByteArray) (s0 s1 s2 s3 : Int) (a : Option Addr) (n cap : Nat) (w : World) (hn : fs.length = n) (hF : FdF w a fs) (hok : ∀ f ∈ fs, FdOk f) (hlen : n ≤ 8000) (ht : Tb w) :
    Calls Tryd.prog 7 #[.agg #[.int .i64 1, .slice a n cap, .bool g, .int .u64 (num : Int), .string text, .int .i64 s0, .int .i64 s1, .int .i64 s2, .int .i64 s3]] w fun e w' => e = .returned (.string (S (vals g fs))) ∧ Below w.heap.size w w' := by
  have HF := Lib.hid hF
  have HO := Lib.hid hok
  have HN := Lib.hid hn
  have HT := Lib.hid ht
  clear hF hok hn ht
  go_enter Tryd.func7, Tryd.ntmps7
  go_wp2_with fail
  refine (values_any g fs a cap n HN.out _ (HF.out.up (below_alloc _ _)) HO.out hlen (tb_up HT.out (below_alloc _ _))).mono ?_
  rintro e w2 ⟨rfl, b2⟩
  go_wp2_with fail
  go_ret
  exact ⟨rfl, up1 b2⟩
set_option maxRecDepth 100000 in
set_option maxHeartbeats 1000000 in
theorem text_other (kind : Int) (g : Bool) (num : Nat) (text : ByteArray) (s0 s1 s2 s3 : Int) (a : Option Addr) (n cap : Nat) (w : World) (h1 : kind ≠ 1) (h2 : kind ≠ 2) (h3 : kind ≠ 3) (h4 : kind ≠ 4) (h5 : kind ≠ 5) (h6 : kind ≠ 6) (h7 : kind ≠ 7) (h8 : kind ≠ 8) (h9 : kind ≠ 9) (h10 : kind ≠ 10) (h11 : kind ≠ 11) (h12 : kind ≠ 12) (h13 : kind ≠ 13) (h14 : kind ≠ 14) :
    Calls Tryd.prog 7 #[.agg #[.int .i64 kind, .slice a n cap, .bool g, .int .u64 (num : Int), .string text, .int .i64 s0, .int .i64 s1, .int .i64 s2, .int .i64 s3]] w fun e w' => e = .returned (.string ⟨#[]⟩) ∧ Below w.heap.size w w' := by
  have d1 : (kind == 1) = false := beq_eq_false_iff_ne.2 h1
  have d2 : (kind == 2) = false := beq_eq_false_iff_ne.2 h2
  have d3 : (kind == 3) = false := beq_eq_false_iff_ne.2 h3
  have d4 : (kind == 4) = false := beq_eq_false_iff_ne.2 h4
  have d5 : (kind == 5) = false := beq_eq_false_iff_ne.2 h5
  have d6 : (kind == 6) = false := beq_eq_false_iff_ne.2 h6
  have d7 : (kind == 7) = false := beq_eq_false_iff_ne.2 h7
  have d8 : (kind == 8) = false := beq_eq_false_iff_ne.2 h8
  have d9 : (kind == 9) = false := beq_eq_false_iff_ne.2 h9
  have d10 : (kind == 10) = false := beq_eq_false_iff_ne.2 h10
  have d11 : (kind == 11) = false := beq_eq_false_iff_ne.2 h11
  have d12 : (kind == 12) = false := beq_eq_false_iff_ne.2 h12
  have d13 : (kind == 13) = false := beq_eq_false_iff_ne.2 h13
  have d14 : (kind == 14) = false := beq_eq_false_iff_ne.2 h14
  clear h1 h2 h3 h4 h5 h6 h7 h8 h9 h10 h11 h12 h13 h14
  go_enter Tryd.func7, Tryd.ntmps7
  go_wp2_with fail

  go_ret
  exact ⟨rfl, below_alloc _ _⟩
theorem text_any (x : An) (a : Option Addr) (cap : Nat) (w : World) (hF : FdF w a x.fs) (hok : AnOk x) (ht : Tb w) :
    Calls Tryd.prog 7 #[x.v a cap] w fun e w' => e = .returned (.string (S (txt x))) ∧ Below w.heap.size w w' := by
  obtain ⟨kind, fs, g, num, text, s0, s1, s2, s3⟩ := x
  obtain ⟨o1, o2, o3, o4, o5, o6, o7, o8⟩ := hok
  unfold An.v
  simp only at o1 o2 o3 o4 o5 o6 o7 o8 hF ⊢
  by_cases k1 : kind = 1
  · subst k1
    exact text_1 fs g num text s0 s1 s2 s3 a _ cap w rfl hF o2 o1 ht
  by_cases k2 : kind = 2
  · subst k2
    exact text_2 g num text s0 s1 s2 s3 a _ cap w
  by_cases k3 : kind = 3
  · subst k3
    exact text_3 g num text s0 s1 s2 s3 a _ cap w
  by_cases k4 : kind = 4
  · subst k4
    exact text_4 g num text s0 s1 s2 s3 a _ cap w
  by_cases k5 : kind = 5
  · subst k5
    exact text_5 g num text s0 s1 s2 s3 a _ cap w
  by_cases k6 : kind = 6
  · subst k6
    exact text_6 g num text s0 s1 s2 s3 a _ cap w
  by_cases k7 : kind = 7
  · subst k7
    exact text_7 g num text s0 s1 s2 s3 a _ cap w
  by_cases k8 : kind = 8
  · subst k8
    exact text_8 g num text s0 s1 s2 s3 a _ cap w o4 ht
  by_cases k9 : kind = 9
  · subst k9
    exact text_9 g num text s0 s1 s2 s3 a _ cap w
  by_cases k10 : kind = 10
  · subst k10
    exact text_10 g num text s0 s1 s2 s3 a _ cap w
  by_cases k11 : kind = 11
  · subst k11
    exact text_11 g num text s0 s1 s2 s3 a _ cap w o5 o6 o7 o8 ht
  by_cases k12 : kind = 12
  · subst k12
    exact text_12 g num text s0 s1 s2 s3 a _ cap w
  by_cases k13 : kind = 13
  · subst k13
    exact text_13 g num text s0 s1 s2 s3 a _ cap w o3
  by_cases k14 : kind = 14
  · subst k14
    exact text_14 g num text s0 s1 s2 s3 a _ cap w o3
  have e : txt ⟨kind, fs, g, num, text, s0, s1, s2, s3⟩ = [] := by
    unfold txt
    simp only
    rw [if_neg k1, if_neg k2, if_neg k3, if_neg k4, if_neg k5, if_neg k6, if_neg k7, if_neg k8, if_neg k9, if_neg k10, if_neg k11, if_neg k12, if_neg k13, if_neg k14]
  rw [e]
  exact text_other kind g num text s0 s1 s2 s3 a _ cap w k1 k2 k3 k4 k5 k6 k7 k8 k9 k10 k11 k12 k13 k14
end Go.Proofs.YtjlcnfafjblmkaaDoor
