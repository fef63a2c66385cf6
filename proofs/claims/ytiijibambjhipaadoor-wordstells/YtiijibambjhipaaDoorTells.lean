/-
  WORDSTELLS walked.
-/
import Derived.Test.YtiijibambjhipaaDoorRLine
import Derived.Test.YtiijibambjhipaaDoorQuiet
namespace Go.Proofs.YtiijibambjhipaaDoor
open Go.RowKit

theorem rline_c (s : ByteArray) (hs : s.size ≤ 100000) {v : Nat} {ks : List B} {f x b c : Int} {d : Nat} {q : Bool} {er : Nat} (h : line (L s) = (⟨v, ks, f, x, b, c, d, q⟩, er)) (V D E : Int) (hV : ((v : Nat) : Int) = V) (hD : ((d : Nat) : Int) = D) (hE : ((er : Nat) : Int) = E) (w : World) :
    Calls Tryd.prog 13 #[.string s] w fun e w' => ∃ a n cp, e = .returned (.tuple #[.agg #[.int .i64 V, .slice a n cp, .int .i64 f, .int .i64 x, .int .i64 b, .int .i64 c, .int .u64 D, .bool q, .string ⟨#[]⟩], .int .i64 E]) ∧ Strs w' (.slice a n cp) ks ∧ Below w.heap.size w w' := by
  have := rline_any s hs w
  rw [h] at this
  subst hV hD hE
  exact this
set_option maxRecDepth 100000 in
set_option maxHeartbeats 2000000 in
theorem tells_walk (s n : ByteArray) (most : Nat) (hm : most < 18446744073709551616) (vb : Int) (w : World) (ht : HasTab w) :
    Calls Tryd.prog 4 #[.string s, .string n, .int .u64 (most : Int), .int .i64 vb] w fun e w' => e = .returned (.bool true) ∧ Below w.heap.size w w' := by
  have SH := short_any s
  have SH2 := short_any n
  obtain ⟨t, htt⟩ : ∃ t, t = shr (L s) := ⟨_, rfl⟩
  obtain ⟨u, hu⟩ : ∃ u, u = shr (L n) := ⟨_, rfl⟩
  have tl : t.length ≤ 500 := by rw [htt]; exact shr_len _
  have ul : u.length ≤ 500 := by rw [hu]; exact shr_len _
  simp only [← htt] at SH
  simp only [← hu] at SH2
  clear htt hu
  obtain ⟨⟨v, ks, f, x, b, c, d, q⟩, er, hL⟩ : ∃ r er, line t = (r, er) := ⟨_, _, rfl⟩
  have kl := keys_len hL
  have LA := line_c (S t) (by rw [S_size]; omega) hL ((v : Nat) : Int) ((d : Nat) : Int) ((er : Nat) : Int) rfl rfl rfl
  have LB := rline_c (S t) (by rw [S_size]; omega) hL ((v : Nat) : Int) ((d : Nat) : Int) ((er : Nat) : Int) rfl rfl rfl
  have NA := number_any (S u) most hm
  have NB := rnumber_any (S u) most hm
  have KA := key_any (S u)
  have KB := rkey_any (S u) (by rw [S_size]; omega)
  have SA := storing_any vb
  rw [L_S] at NA NB KA KB
  have HKL := Lib.hid (Nat.le_trans kl (Nat.le_trans tl (show 500 ≤ 100000 by omega)))
  obtain ⟨V, hV⟩ : ∃ V : Int, ((v : Nat) : Int) = V := ⟨_, rfl⟩
  obtain ⟨D, hD⟩ : ∃ D : Int, ((d : Nat) : Int) = D := ⟨_, rfl⟩
  obtain ⟨E, hE⟩ : ∃ E : Int, ((er : Nat) : Int) = E := ⟨_, rfl⟩
  simp only [hV, hD, hE] at LA LB
  obtain ⟨M, hM⟩ : ∃ M : Int, ((most : Nat) : Int) = M := ⟨_, rfl⟩
  obtain ⟨nn, hnn⟩ : ∃ nn : Int, ((nv most u : Nat) : Int) = nn := ⟨_, rfl⟩
  obtain ⟨bb, hbb⟩ : ∃ bb : Bool, nb most u = bb := ⟨_, rfl⟩
  obtain ⟨kk, hkk⟩ : ∃ kk : Bool, key u = kk := ⟨_, rfl⟩
  simp only [hM, hnn, hbb] at NA NB
  simp only [hkk] at KA KB
  rw [hM]
  have HT := Lib.hid ht
  have bq : (bb == bb) = true := by simp
  have kq : (kk == kk) = true := by simp
  clear hL kl hV hD hE ht tl ul hM hnn hbb hkk hm
  generalize S t = T1 at *
  generalize S u = U1 at *
  have MAIN : ∀ (g1 g2 : Bool), decide (3 ≤ vb) = g1 → decide (vb ≤ 8) = g2 → Calls Tryd.prog 4 #[.string s, .string n, .int .u64 M, .int .i64 vb] w fun e w' => e = .returned (.bool true) ∧ Below w.heap.size w w' := fun g1 g2 h1 h2 => by
    rw [h1, h2] at SA
    have gq : ((g1 && g2) == (g1 && g2)) = true := by simp
    have h1' : decide (vb ≥ 3) = g1 := h1
    go_enter Tryd.func4, Tryd.ntmps4
    go_wp2_with fail
    refine (SH _).mono ?_
    rintro e w' ⟨rfl, rfl⟩
    go_wp2_with fail
    refine (SH2 _).mono ?_
    rintro e w' ⟨rfl, rfl⟩
    go_wp2_with fail
    refine (LA _ HT.out).mono ?_
    rintro e w2 ⟨a2, n2, c2, rfl, S2, b2⟩
    obtain ⟨X2, hX2⟩ : ∃ X, X = w2.alloc (.cells #[.int .i64 V, .slice a2 n2 c2, .int .i64 f, .int .i64 x, .int .i64 b, .int .i64 c, .int .u64 D, .bool q, .string ⟨#[]⟩] 25) := ⟨_, rfl⟩
    obtain ⟨G2, hG2⟩ : ∃ G, G = w2.heap.size := ⟨_, rfl⟩
    have bx2 : Below w2.heap.size w2 X2 := by rw [hX2]; exact (Below.refl _ _).alloc (Nat.le_refl _) _
    have BB2 : Hid (Below w.heap.size w X2) := Lib.hid (b2.trans (bx2.mono b2.size))
    have HF2 : Hid (X2.rangeAt G2 0 [.int .i64 V, .slice a2 n2 c2, .int .i64 f, .int .i64 x, .int .i64 b, .int .i64 c, .int .u64 D, .bool q, .string ⟨#[]⟩] ∧ Strs X2 (.slice a2 n2 c2) ks) := Lib.hid ⟨by rw [hX2, hG2]; exact lay_new _ _, S2.below bx2⟩
    have HX2 := Lib.hid hX2
    have HG2 := Lib.hid hG2
    clear S2 b2 bx2 hX2 hG2 SH SH2
    go_wp2_with fail
    rw [← HX2.out, ← HG2.out]
    refine (LB _).mono ?_
    rintro e w3 ⟨a3, n3, c3, rfl, S3, b3⟩
    have bx3 : Below w3.heap.size w3 (w3.alloc (.cells #[.int .i64 V, .slice a3 n3 c3, .int .i64 f, .int .i64 x, .int .i64 b, .int .i64 c, .int .u64 D, .bool q, .string ⟨#[]⟩] 25)) := (Below.refl _ _).alloc (Nat.le_refl _) _
    have bb3 := BB2.out.trans (b3.mono BB2.out.size)
    have BB3 : Hid (Below w.heap.size w (w3.alloc (.cells #[.int .i64 V, .slice a3 n3 c3, .int .i64 f, .int .i64 x, .int .i64 b, .int .i64 c, .int .u64 D, .bool q, .string ⟨#[]⟩] 25))) := Lib.hid (bb3.trans (bx3.mono bb3.size))
    have L3 := lay_up bx3 (lay_up b3 HF2.out.1)
    have L4 := lay_new w3 [.int .i64 V, .slice a3 n3 c3, .int .i64 f, .int .i64 x, .int .i64 b, .int .i64 c, .int .u64 D, .bool q, .string ⟨#[]⟩]
    have RA := reqs_any V f x b c D q ks a2 a3 n2 n3 c2 c3 HKL.out _ ((HF2.out.2.below b3).below bx3) (S3.below bx3)
    have p0 : (w3.alloc (.cells #[.int .i64 V, .slice a3 n3 c3, .int .i64 f, .int .i64 x, .int .i64 b, .int .i64 c, .int .u64 D, .bool q, .string ⟨#[]⟩] 25)).cell? ⟨G2, 0, none⟩ = some (.int .i64 V) := L3 0 _ rfl
    have r0 : (w3.alloc (.cells #[.int .i64 V, .slice a3 n3 c3, .int .i64 f, .int .i64 x, .int .i64 b, .int .i64 c, .int .u64 D, .bool q, .string ⟨#[]⟩] 25)).cell? ⟨w3.heap.size, 0, none⟩ = some (.int .i64 V) := L4 0 _ rfl
    have p1 : (w3.alloc (.cells #[.int .i64 V, .slice a3 n3 c3, .int .i64 f, .int .i64 x, .int .i64 b, .int .i64 c, .int .u64 D, .bool q, .string ⟨#[]⟩] 25)).cell? ⟨G2, 1, none⟩ = some (.slice a2 n2 c2) := L3 1 _ rfl
    have r1 : (w3.alloc (.cells #[.int .i64 V, .slice a3 n3 c3, .int .i64 f, .int .i64 x, .int .i64 b, .int .i64 c, .int .u64 D, .bool q, .string ⟨#[]⟩] 25)).cell? ⟨w3.heap.size, 1, none⟩ = some (.slice a3 n3 c3) := L4 1 _ rfl
    have p2 : (w3.alloc (.cells #[.int .i64 V, .slice a3 n3 c3, .int .i64 f, .int .i64 x, .int .i64 b, .int .i64 c, .int .u64 D, .bool q, .string ⟨#[]⟩] 25)).cell? ⟨G2, 2, none⟩ = some (.int .i64 f) := L3 2 _ rfl
    have r2 : (w3.alloc (.cells #[.int .i64 V, .slice a3 n3 c3, .int .i64 f, .int .i64 x, .int .i64 b, .int .i64 c, .int .u64 D, .bool q, .string ⟨#[]⟩] 25)).cell? ⟨w3.heap.size, 2, none⟩ = some (.int .i64 f) := L4 2 _ rfl
    have p3 : (w3.alloc (.cells #[.int .i64 V, .slice a3 n3 c3, .int .i64 f, .int .i64 x, .int .i64 b, .int .i64 c, .int .u64 D, .bool q, .string ⟨#[]⟩] 25)).cell? ⟨G2, 3, none⟩ = some (.int .i64 x) := L3 3 _ rfl
    have r3 : (w3.alloc (.cells #[.int .i64 V, .slice a3 n3 c3, .int .i64 f, .int .i64 x, .int .i64 b, .int .i64 c, .int .u64 D, .bool q, .string ⟨#[]⟩] 25)).cell? ⟨w3.heap.size, 3, none⟩ = some (.int .i64 x) := L4 3 _ rfl
    have p4 : (w3.alloc (.cells #[.int .i64 V, .slice a3 n3 c3, .int .i64 f, .int .i64 x, .int .i64 b, .int .i64 c, .int .u64 D, .bool q, .string ⟨#[]⟩] 25)).cell? ⟨G2, 4, none⟩ = some (.int .i64 b) := L3 4 _ rfl
    have r4 : (w3.alloc (.cells #[.int .i64 V, .slice a3 n3 c3, .int .i64 f, .int .i64 x, .int .i64 b, .int .i64 c, .int .u64 D, .bool q, .string ⟨#[]⟩] 25)).cell? ⟨w3.heap.size, 4, none⟩ = some (.int .i64 b) := L4 4 _ rfl
    have p5 : (w3.alloc (.cells #[.int .i64 V, .slice a3 n3 c3, .int .i64 f, .int .i64 x, .int .i64 b, .int .i64 c, .int .u64 D, .bool q, .string ⟨#[]⟩] 25)).cell? ⟨G2, 5, none⟩ = some (.int .i64 c) := L3 5 _ rfl
    have r5 : (w3.alloc (.cells #[.int .i64 V, .slice a3 n3 c3, .int .i64 f, .int .i64 x, .int .i64 b, .int .i64 c, .int .u64 D, .bool q, .string ⟨#[]⟩] 25)).cell? ⟨w3.heap.size, 5, none⟩ = some (.int .i64 c) := L4 5 _ rfl
    have p6 : (w3.alloc (.cells #[.int .i64 V, .slice a3 n3 c3, .int .i64 f, .int .i64 x, .int .i64 b, .int .i64 c, .int .u64 D, .bool q, .string ⟨#[]⟩] 25)).cell? ⟨G2, 6, none⟩ = some (.int .u64 D) := L3 6 _ rfl
    have r6 : (w3.alloc (.cells #[.int .i64 V, .slice a3 n3 c3, .int .i64 f, .int .i64 x, .int .i64 b, .int .i64 c, .int .u64 D, .bool q, .string ⟨#[]⟩] 25)).cell? ⟨w3.heap.size, 6, none⟩ = some (.int .u64 D) := L4 6 _ rfl
    have p7 : (w3.alloc (.cells #[.int .i64 V, .slice a3 n3 c3, .int .i64 f, .int .i64 x, .int .i64 b, .int .i64 c, .int .u64 D, .bool q, .string ⟨#[]⟩] 25)).cell? ⟨G2, 7, none⟩ = some (.bool q) := L3 7 _ rfl
    have r7 : (w3.alloc (.cells #[.int .i64 V, .slice a3 n3 c3, .int .i64 f, .int .i64 x, .int .i64 b, .int .i64 c, .int .u64 D, .bool q, .string ⟨#[]⟩] 25)).cell? ⟨w3.heap.size, 7, none⟩ = some (.bool q) := L4 7 _ rfl
    have p8 : (w3.alloc (.cells #[.int .i64 V, .slice a3 n3 c3, .int .i64 f, .int .i64 x, .int .i64 b, .int .i64 c, .int .u64 D, .bool q, .string ⟨#[]⟩] 25)).cell? ⟨G2, 8, none⟩ = some (.string ⟨#[]⟩) := L3 8 _ rfl
    have r8 : (w3.alloc (.cells #[.int .i64 V, .slice a3 n3 c3, .int .i64 f, .int .i64 x, .int .i64 b, .int .i64 c, .int .u64 D, .bool q, .string ⟨#[]⟩] 25)).cell? ⟨w3.heap.size, 8, none⟩ = some (.string ⟨#[]⟩) := L4 8 _ rfl
    clear L3 L4 S3 b3 bx3 bb3 HX2 HG2 HF2 BB2
    go_wp2_with fail
    refine (NA _).mono ?_
    rintro e w' ⟨rfl, rfl⟩
    go_wp2_with fail
    refine (NB _).mono ?_
    rintro e w' ⟨rfl, rfl⟩
    go_wp2_with fail
    refine RA.mono ?_
    rintro e w5 ⟨rfl, b6⟩
    have B5 := Lib.hid (BB3.out.trans (b6.mono BB3.out.size))
    clear b6 RA
    go_wp2_with fail
    refine (KA _).mono ?_
    rintro e w' ⟨rfl, rfl⟩
    go_wp2_with fail
    refine (KB _).mono ?_
    rintro e w' ⟨rfl, rfl⟩
    go_wp2_with fail
    refine (SA _).mono ?_
    rintro e w' ⟨rfl, rfl⟩
    cases g1 <;> cases g2
    all_goals
      go_wp2_with fail
      refine (runs_any _ (HT.out.below B5.out)).mono ?_
      rintro e w9 ⟨rfl, b9⟩
      have HB9 := Lib.hid (B5.out.trans (b9.mono B5.out.size))
      clear b9
      go_wp2_with fail
      go_ret
      exact ⟨rfl, HB9.out⟩
  exact MAIN _ _ rfl rfl
end Go.Proofs.YtiijibambjhipaaDoor
