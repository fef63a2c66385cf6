/-
  WORDSKEYS walked.
-/
import Derived.Test.YtiijibambjhipaaDoorGets
namespace Go.Proofs.YtiijibambjhipaaDoor
open Go.RowKit

theorem app_key (ln : B) (t : ByteArray) : S ln ++ (⟨#[32]⟩ : ByteArray) ++ t = S (ln ++ 32 :: L t) := L_inj (by
  rw [L_append, L_append, L_S, L_S]
  show ln ++ [32] ++ L t = _
  simp)
/-- The line, and the keys that it names. -/
structure Kys (ln : B) (l : List B) (j : Nat) : Prop where
  sp : split ln = getW :: l
  ks : ∀ x ∈ l, key x = true
  ln : ln.length ≤ 3 + 251 * j
  le : l.length ≤ j
theorem Kys.start : Kys getW [] 0 := ⟨by decide, (fun x hx => by cases hx), by decide, by decide⟩
theorem Kys.skip {ln : B} {l : List B} {j : Nat} (h : Kys ln l j) : Kys ln l (j + 1) := ⟨h.sp, h.ks, by have := h.ln; omega, by have := h.le; omega⟩
theorem Kys.step {ln : B} {l : List B} {j : Nat} (h : Kys ln l j) {x : B} (hx : key x = true) : Kys (ln ++ 32 :: x) (l ++ [x]) (j + 1) := by
  obtain ⟨k1, k2⟩ := key_word hx
  refine ⟨by rw [split_app, h.sp, split_word x k2 k1]; rfl, fun y hy => ?_, ?_, ?_⟩
  · rcases List.mem_append.1 hy with hy | hy
    · exact h.ks y hy
    · simp at hy; subst hy; exact hx
  · have := h.ln; have := key_len hx; simp; omega
  · have := h.le; simp; omega
set_option maxRecDepth 100000 in
set_option maxHeartbeats 1000000 in
theorem keys_walk (a : Option Addr) (len cap : Nat) (T : Nat → ByteArray) (hlen : len ≤ 9223372036854775807) (bad : ByteArray) (w : World) (hT : StrF w a T len) (ht : HasTab w) :
    Calls Tryd.prog 8 #[.slice a len cap, .string bad] w fun e w' => e = .returned (.bool true) ∧ Below w.heap.size w w' := by
  have HT := Lib.hid ht
  have HTT := Lib.hid hT
  have HG0 := Lib.hid (Grow.start w)
  clear ht hT
  go_enter Tryd.func8, Tryd.ntmps8
  go_wp2_with fail
  go_loopw [5, 6, 7] (fun sv pv i wr => ∃ (j : Nat) (lb : ByteArray) (ln : B) (l : List B) (a' : Option Addr) (n' c' : Nat) (o : Nat → Nat × Nat), j ≤ 70 ∧ j ≤ len ∧ i = .int .i64 (j : Int) ∧ sv = .string lb ∧ pv = .slice a' n' c' ∧ Hid (lb = S ln) ∧ Hid (Kys ln l j) ∧ Hid (Grow w wr l a' n' c' o)) (fun _ _ i _ => 70 - (intOf i).toNat)
  case atStart => exact ⟨0, _, getW, [], none, 0, 0, o0, by omega, by omega, rfl, rfl, rfl, Lib.hid rfl, Lib.hid Kys.start, HG0⟩
  case round =>
    obtain ⟨j, lb, ln, l, a', n', c', o, hj, hjl, rfl, rfl, rfl, HLB, HK, HG⟩ := hrel
    have lbz : lb.size ≤ 20000 := by
      have h1 := HLB.out
      rw [h1, S_size]; have := HK.out.ln; omega
    have nz : n' ≤ 70 := by have := HK.out.le; have := HG.out.len; omega
    by_cases hgo : j < len ∧ j < 70
    · obtain ⟨g1, g2⟩ := hgo
      have i1 : (j : Int) < (len : Int) := by omega
      have i2 : (j : Int) < 70 := by omega
      rcases (HTT.out.below HG.out.below) with h0 | ⟨p, off, ha, hc⟩
      · omega
      subst ha
      have cx := hc j g1
      have HC := key_any (T j)
      have cy : ∀ A : Obj, (wr.alloc A).cell? ⟨p, off + j, none⟩ = some (.string (T j)) := fun A => cell_up ((Below.refl _ _).alloc (Nat.le_refl _) A) cx
      obtain ⟨t, htt⟩ : ∃ t, t = T j := ⟨_, rfl⟩
      rw [← htt] at cx HC
      simp only [← htt] at cy
      cases hk : key (L t) with
      | true =>
        simp only [hk] at HC
        have tz : t.size ≤ 250 := by rw [← L_len]; exact key_len hk
        have ak := app_key ln t
        rw [← HLB.out] at ak
        obtain ⟨a5, c5, w5, o5, hr5, G5⟩ := HG.out.step (by omega) t
        have HG5 := Lib.hid G5
        have c5x : w5.cell? ⟨p, off + j, none⟩ = some (.string t) := by
          have := hc j g1
          rw [← htt] at this
          have b5 := G5.below
          rcases HTT.out.below b5 with h0 | ⟨p', off', ha', hc'⟩
          · omega
          injection ha' with ha'
          injection ha' with e1 e2
          subst e1 e2
          rw [htt]; exact hc' j g1
        have HK5 := Lib.hid (HK.out.step hk)
        obtain ⟨lb2, hb2⟩ : ∃ lb2, lb2 = S (ln ++ 32 :: L t) := ⟨_, rfl⟩
        rw [← hb2] at ak
        have HB2 := Lib.hid hb2
        obtain ⟨lb1, hlb1⟩ : ∃ lb1, lb ++ (⟨#[32]⟩ : ByteArray) = lb1 := ⟨_, rfl⟩
        rw [hlb1] at ak
        have l1z : lb1.size ≤ 20001 := by rw [← hlb1, ByteArray.size_append]; have : (⟨#[32]⟩ : ByteArray).size = 1 := rfl; omega
        clear G5 hk htt hc hb2 cy
        go_wp2_with (first | (go_at_call 17; refine (HC _).mono ?_; rintro e w' ⟨rfl, rfl⟩) | (at_builtin; refine wpList_append_run rfl (.tmp 28) (.tmp 33) 22 22 rfl _ _ _ rfl rfl hr5 ?_))
        exact ⟨⟨j + 1, lb2, ln ++ 32 :: L t, l ++ [L t], a5, n' + 1, c5, o5, by omega, by omega, by go_num, rfl, rfl, HB2, HK5, HG5⟩, by simp [intOf]; omega⟩
      | false =>
        simp only [hk] at HC
        clear hk htt hc cy
        go_wp2_with (first | (go_at_call 17; refine (HC _).mono ?_; rintro e w' ⟨rfl, rfl⟩))
        exact ⟨⟨j + 1, lb, ln, l, a', n', c', o, by omega, by omega, by go_num, rfl, rfl, HLB, Lib.hid HK.out.skip, HG⟩, by simp [intOf]; omega⟩
    · have HBG := Lib.hid HG.out.below
      have HS := Lib.hid HG.out.strs
      have HSP : Hid (line ln = if l.length = 0 ∨ 64 < l.length then (Rq.none, 4) else (⟨1, l, 0, 0, 0, 0, 0, false⟩, 0)) := Lib.hid (get_line HK.out.sp HK.out.ks)
      have hnl : n' = l.length := HG.out.len
      have HNL := Lib.hid hnl
      have l70 : l.length ≤ 100000 := by omega
      have hll : L lb = ln := by rw [HLB.out, L_S]
      clear HG HG0
      by_cases g1 : j < len
      · have i1 : (j : Int) < (len : Int) := by omega
        have i2 : decide ((j : Int) < 70) = false := decide_eq_false (by omega)
        by_cases hcnt : l.length = 0 ∨ 64 < l.length
        · have hL : line (L lb) = (⟨0, [], 0, 0, 0, 0, 0, false⟩, 4) := by rw [hll, HSP.out, if_pos hcnt]; rfl
          have LC := line_c lb (by omega) hL 0 0 4 rfl rfl rfl
          clear hL hll
          rcases hcnt with h0 | h0
          · have n0 : n' = 0 := by omega
            subst n0
            clear hnl h0
            go_wp2_with fail
            refine (LC _ (HT.out.below HBG.out)).mono ?_
            rintro e w2 ⟨a2, n2, c2, rfl, _, b2⟩
            have BB := Lib.hid ((HBG.out.trans (b2.mono HBG.out.size)).alloc (HBG.out.trans (b2.mono HBG.out.size)).size (.cells #[.int .i64 0, .slice a2 n2 c2, .int .i64 0, .int .i64 0, .int .i64 0, .int .i64 0, .int .u64 0, .bool false, .string ⟨#[]⟩] 25))
            clear b2 LC
            go_wp2_with fail
            refine (runs_any _ (HT.out.below BB.out)).mono ?_
            rintro e w9 ⟨rfl, b9⟩
            have HB9 := Lib.hid (BB.out.trans (b9.mono BB.out.size))
            clear b9
            go_wp2_with fail
            go_ret
            exact ⟨rfl, HB9.out⟩
          · have n0 : ¬ (n' = 0) := by omega
            have n1 : ¬ ((n' : Int) = 0) := by omega
            have n2' : (64 : Int) < (n' : Int) := by omega
            clear hnl h0
            go_wp2_with fail
            refine (LC _ (HT.out.below HBG.out)).mono ?_
            rintro e w2 ⟨a2, n2, c2, rfl, _, b2⟩
            have BB := Lib.hid ((HBG.out.trans (b2.mono HBG.out.size)).alloc (HBG.out.trans (b2.mono HBG.out.size)).size (.cells #[.int .i64 0, .slice a2 n2 c2, .int .i64 0, .int .i64 0, .int .i64 0, .int .i64 0, .int .u64 0, .bool false, .string ⟨#[]⟩] 25))
            clear b2 LC
            go_wp2_with fail
            refine (runs_any _ (HT.out.below BB.out)).mono ?_
            rintro e w9 ⟨rfl, b9⟩
            have HB9 := Lib.hid (BB.out.trans (b9.mono BB.out.size))
            clear b9
            go_wp2_with fail
            go_ret
            exact ⟨rfl, HB9.out⟩
        · have hL : line (L lb) = (⟨1, l, 0, 0, 0, 0, 0, false⟩, 0) := by rw [hll, HSP.out, if_neg hcnt]
          have LC := line_c lb (by omega) hL 1 0 0 rfl rfl rfl
          have n0 : ¬ (n' = 0) := by omega
          have n1 : ¬ ((n' : Int) = 0) := by omega
          have n2' : decide ((64 : Int) < (n' : Int)) = false := decide_eq_false (by omega)
          have HCN := Lib.hid hcnt
          clear hL hll hcnt hnl
          go_wp2_with fail
          refine (LC _ (HT.out.below HBG.out)).mono ?_
          rintro e w2 ⟨a2, n2, c2, rfl, S2, b2⟩
          obtain ⟨X2, hX2⟩ : ∃ X, X = w2.alloc (.cells #[.int .i64 1, .slice a2 n2 c2, .int .i64 0, .int .i64 0, .int .i64 0, .int .i64 0, .int .u64 0, .bool false, .string ⟨#[]⟩] 25) := ⟨_, rfl⟩
          have bx2 : Below w2.heap.size w2 X2 := by rw [hX2]; exact (Below.refl _ _).alloc (Nat.le_refl _) _
          have b3 := b2.trans (bx2.mono b2.size)
          have BB2 : Hid (Below w.heap.size w X2) := Lib.hid (HBG.out.trans (b3.mono HBG.out.size))
          have HL2 : Hid (X2.rangeAt w2.heap.size 0 [.int .i64 1, .slice a2 n2 c2, .int .i64 0, .int .i64 0, .int .i64 0, .int .i64 0, .int .u64 0, .bool false, .string ⟨#[]⟩]) := Lib.hid (by rw [hX2]; exact lay_new _ _)
          have SM := same_any l a2 a' n2 n' c2 c' l70 X2 (S2.below bx2) (HS.out.below b3)
          rw [hX2] at SM
          have HX2 := Lib.hid hX2
          clear b2 b3 bx2 hX2 S2 LC HS
          go_wp2_with fail
          refine SM.mono ?_
          rintro e w4 ⟨rfl, b4⟩
          rw [← HX2.out] at b4
          have B4 : Hid (Below w.heap.size w w4) := Lib.hid (BB2.out.trans (b4.mono BB2.out.size))
          have d0 : w4.cell? ⟨w2.heap.size, 0, none⟩ = some (.int .i64 1) := lay_up b4 HL2.out 0 _ rfl
          clear b4 SM HL2 HX2 BB2
          have SH := short_any bad
          obtain ⟨t, htt⟩ : ∃ t, t = shr (L bad) := ⟨_, rfl⟩
          have tl : t.length ≤ 500 := by rw [htt]; exact shr_len _
          simp only [← htt] at SH
          have SP := split_any (S t) (by rw [S_size]; omega)
          rw [L_S] at SP
          clear htt
          go_wp2_with fail
          refine (SH _).mono ?_
          rintro e w' ⟨rfl, rfl⟩
          go_wp2_with fail
          refine (SP _).mono ?_
          rintro e w5 ⟨sv, rfl, S5, b5⟩
          have B5 : Hid (Below w.heap.size w w5) := Lib.hid (B4.out.trans (b5.mono B4.out.size))
          obtain ⟨a5, n5, c5, rfl⟩ := S5.form
          obtain ⟨hn5, _⟩ := S5.len
          clear b5 SH SP
          by_cases h1 : n5 = 1
          · subst h1
            obtain ⟨x, hx⟩ : ∃ x, split t = [x] := by
              rcases hh : split t with _ | ⟨x, _ | ⟨y, r⟩⟩
              · rw [hh] at hn5; simp at hn5
              · exact ⟨x, rfl⟩
              · rw [hh] at hn5; simp at hn5
            rw [hx] at S5
            obtain ⟨g, q, rfl, q0⟩ := S5.at_ (i := 0) (x := x) rfl
            rw [Nat.add_zero] at q0
            have hxw := split_words t x (by rw [hx]; simp)
            have hxs : split x = [x] := split_word x hxw.2 hxw.1
            have xl : x.length ≤ 500 := by
              have := split_lens t
              rw [hx] at this
              simp [lens] at this; omega
            have xz : (S x).size ≤ 500 := by rw [S_size]; exact xl
            have HC : ∀ w : World, Calls Tryd.prog 17 #[.string (S x)] w fun e w' => e = .returned (.bool (key x)) ∧ w = w' := key_any (S x)
            have HXS := Lib.hid hxs
            clear hx hxw hxs hn5 S5
            cases hk : key x with
            | true =>
              simp only [hk] at HC
              clear hk
              go_wp2_with (go_at_call 17; refine (HC _).mono ?_; rintro e w' ⟨rfl, rfl⟩)
              refine (runs_any _ (HT.out.below B5.out)).mono ?_
              rintro e w9 ⟨rfl, b9⟩
              have HB9 := Lib.hid (B5.out.trans (b9.mono B5.out.size))
              clear b9
              go_wp2_with fail
              go_ret
              exact ⟨rfl, HB9.out⟩
            | false =>
              simp only [hk] at HC
              have HKF := Lib.hid hk
              clear hk
              by_cases h64 : n' = 64
              · subst h64
                go_wp2_with (go_at_call 17; refine (HC _).mono ?_; rintro e w' ⟨rfl, rfl⟩)
                refine (runs_any _ (HT.out.below B5.out)).mono ?_
                rintro e w9 ⟨rfl, b9⟩
                have HB9 := Lib.hid (B5.out.trans (b9.mono B5.out.size))
                clear b9
                go_wp2_with fail
                go_ret
                exact ⟨rfl, HB9.out⟩
              · have h64' : ¬ ((n' : Int) = 64) := by omega
                have ak := app_key ln (S x)
                rw [← HLB.out, L_S] at ak
                have hL2 : line (L (S (ln ++ 32 :: x))) = (⟨0, [], 0, 0, 0, 0, 0, false⟩, 1) := by
                  rw [L_S]
                  exact get_bad HK.out.sp HXS.out HKF.out (by have := HCN.out; have := HNL.out; omega)
                have LC2 := line_c (S (ln ++ 32 :: x)) (by rw [S_size]; have := HK.out.ln; simp; omega) hL2 0 0 1 rfl rfl rfl
                clear hL2
                generalize S (ln ++ 32 :: x) = lb2 at ak LC2
                obtain ⟨lb1, hlb1⟩ : ∃ lb1, lb ++ (⟨#[32]⟩ : ByteArray) = lb1 := ⟨_, rfl⟩
                rw [hlb1] at ak
                have l1z : lb1.size ≤ 20001 := by rw [← hlb1, ByteArray.size_append]; have : (⟨#[32]⟩ : ByteArray).size = 1 := rfl; omega
                generalize S x = X at *
                go_wp2_with (go_at_call 17; refine (HC _).mono ?_; rintro e w' ⟨rfl, rfl⟩)
                refine (LC2 _ (HT.out.below B5.out)).mono ?_
                rintro e w6 ⟨a6, n6, c6, rfl, _, b6⟩
                have BB := Lib.hid ((B5.out.trans (b6.mono B5.out.size)).alloc (B5.out.trans (b6.mono B5.out.size)).size (.cells #[.int .i64 0, .slice a6 n6 c6, .int .i64 0, .int .i64 0, .int .i64 0, .int .i64 0, .int .u64 0, .bool false, .string ⟨#[]⟩] 25))
                clear b6 LC2
                go_wp2_with fail
                refine (runs_any _ (HT.out.below BB.out)).mono ?_
                rintro e w9 ⟨rfl, b9⟩
                have HB9 := Lib.hid (BB.out.trans (b9.mono BB.out.size))
                clear b9
                go_wp2_with fail
                go_ret
                exact ⟨rfl, HB9.out⟩
          · have h1' : ((n5 : Int) != 1) = true := by simp only [bne_iff_ne, ne_eq]; omega
            clear S5 hn5
            go_wp2_with fail
            refine (runs_any _ (HT.out.below B5.out)).mono ?_
            rintro e w9 ⟨rfl, b9⟩
            have HB9 := Lib.hid (B5.out.trans (b9.mono B5.out.size))
            clear b9
            go_wp2_with fail
            go_ret
            exact ⟨rfl, HB9.out⟩
      · have i1 : decide ((j : Int) < (len : Int)) = false := decide_eq_false (by omega)
        by_cases hcnt : l.length = 0 ∨ 64 < l.length
        · have hL : line (L lb) = (⟨0, [], 0, 0, 0, 0, 0, false⟩, 4) := by rw [hll, HSP.out, if_pos hcnt]; rfl
          have LC := line_c lb (by omega) hL 0 0 4 rfl rfl rfl
          clear hL hll
          rcases hcnt with h0 | h0
          · have n0 : n' = 0 := by omega
            subst n0
            clear hnl h0
            go_wp2_with fail
            refine (LC _ (HT.out.below HBG.out)).mono ?_
            rintro e w2 ⟨a2, n2, c2, rfl, _, b2⟩
            have BB := Lib.hid ((HBG.out.trans (b2.mono HBG.out.size)).alloc (HBG.out.trans (b2.mono HBG.out.size)).size (.cells #[.int .i64 0, .slice a2 n2 c2, .int .i64 0, .int .i64 0, .int .i64 0, .int .i64 0, .int .u64 0, .bool false, .string ⟨#[]⟩] 25))
            clear b2 LC
            go_wp2_with fail
            refine (runs_any _ (HT.out.below BB.out)).mono ?_
            rintro e w9 ⟨rfl, b9⟩
            have HB9 := Lib.hid (BB.out.trans (b9.mono BB.out.size))
            clear b9
            go_wp2_with fail
            go_ret
            exact ⟨rfl, HB9.out⟩
          · have n0 : ¬ (n' = 0) := by omega
            have n1 : ¬ ((n' : Int) = 0) := by omega
            have n2' : (64 : Int) < (n' : Int) := by omega
            clear hnl h0
            go_wp2_with fail
            refine (LC _ (HT.out.below HBG.out)).mono ?_
            rintro e w2 ⟨a2, n2, c2, rfl, _, b2⟩
            have BB := Lib.hid ((HBG.out.trans (b2.mono HBG.out.size)).alloc (HBG.out.trans (b2.mono HBG.out.size)).size (.cells #[.int .i64 0, .slice a2 n2 c2, .int .i64 0, .int .i64 0, .int .i64 0, .int .i64 0, .int .u64 0, .bool false, .string ⟨#[]⟩] 25))
            clear b2 LC
            go_wp2_with fail
            refine (runs_any _ (HT.out.below BB.out)).mono ?_
            rintro e w9 ⟨rfl, b9⟩
            have HB9 := Lib.hid (BB.out.trans (b9.mono BB.out.size))
            clear b9
            go_wp2_with fail
            go_ret
            exact ⟨rfl, HB9.out⟩
        · have hL : line (L lb) = (⟨1, l, 0, 0, 0, 0, 0, false⟩, 0) := by rw [hll, HSP.out, if_neg hcnt]
          have LC := line_c lb (by omega) hL 1 0 0 rfl rfl rfl
          have n0 : ¬ (n' = 0) := by omega
          have n1 : ¬ ((n' : Int) = 0) := by omega
          have n2' : decide ((64 : Int) < (n' : Int)) = false := decide_eq_false (by omega)
          have HCN := Lib.hid hcnt
          clear hL hll hcnt hnl
          go_wp2_with fail
          refine (LC _ (HT.out.below HBG.out)).mono ?_
          rintro e w2 ⟨a2, n2, c2, rfl, S2, b2⟩
          obtain ⟨X2, hX2⟩ : ∃ X, X = w2.alloc (.cells #[.int .i64 1, .slice a2 n2 c2, .int .i64 0, .int .i64 0, .int .i64 0, .int .i64 0, .int .u64 0, .bool false, .string ⟨#[]⟩] 25) := ⟨_, rfl⟩
          have bx2 : Below w2.heap.size w2 X2 := by rw [hX2]; exact (Below.refl _ _).alloc (Nat.le_refl _) _
          have b3 := b2.trans (bx2.mono b2.size)
          have BB2 : Hid (Below w.heap.size w X2) := Lib.hid (HBG.out.trans (b3.mono HBG.out.size))
          have HL2 : Hid (X2.rangeAt w2.heap.size 0 [.int .i64 1, .slice a2 n2 c2, .int .i64 0, .int .i64 0, .int .i64 0, .int .i64 0, .int .u64 0, .bool false, .string ⟨#[]⟩]) := Lib.hid (by rw [hX2]; exact lay_new _ _)
          have SM := same_any l a2 a' n2 n' c2 c' l70 X2 (S2.below bx2) (HS.out.below b3)
          rw [hX2] at SM
          have HX2 := Lib.hid hX2
          clear b2 b3 bx2 hX2 S2 LC HS
          go_wp2_with fail
          refine SM.mono ?_
          rintro e w4 ⟨rfl, b4⟩
          rw [← HX2.out] at b4
          have B4 : Hid (Below w.heap.size w w4) := Lib.hid (BB2.out.trans (b4.mono BB2.out.size))
          have d0 : w4.cell? ⟨w2.heap.size, 0, none⟩ = some (.int .i64 1) := lay_up b4 HL2.out 0 _ rfl
          clear b4 SM HL2 HX2 BB2
          have SH := short_any bad
          obtain ⟨t, htt⟩ : ∃ t, t = shr (L bad) := ⟨_, rfl⟩
          have tl : t.length ≤ 500 := by rw [htt]; exact shr_len _
          simp only [← htt] at SH
          have SP := split_any (S t) (by rw [S_size]; omega)
          rw [L_S] at SP
          clear htt
          go_wp2_with fail
          refine (SH _).mono ?_
          rintro e w' ⟨rfl, rfl⟩
          go_wp2_with fail
          refine (SP _).mono ?_
          rintro e w5 ⟨sv, rfl, S5, b5⟩
          have B5 : Hid (Below w.heap.size w w5) := Lib.hid (B4.out.trans (b5.mono B4.out.size))
          obtain ⟨a5, n5, c5, rfl⟩ := S5.form
          obtain ⟨hn5, _⟩ := S5.len
          clear b5 SH SP
          by_cases h1 : n5 = 1
          · subst h1
            obtain ⟨x, hx⟩ : ∃ x, split t = [x] := by
              rcases hh : split t with _ | ⟨x, _ | ⟨y, r⟩⟩
              · rw [hh] at hn5; simp at hn5
              · exact ⟨x, rfl⟩
              · rw [hh] at hn5; simp at hn5
            rw [hx] at S5
            obtain ⟨g, q, rfl, q0⟩ := S5.at_ (i := 0) (x := x) rfl
            rw [Nat.add_zero] at q0
            have hxw := split_words t x (by rw [hx]; simp)
            have hxs : split x = [x] := split_word x hxw.2 hxw.1
            have xl : x.length ≤ 500 := by
              have := split_lens t
              rw [hx] at this
              simp [lens] at this; omega
            have xz : (S x).size ≤ 500 := by rw [S_size]; exact xl
            have HC : ∀ w : World, Calls Tryd.prog 17 #[.string (S x)] w fun e w' => e = .returned (.bool (key x)) ∧ w = w' := key_any (S x)
            have HXS := Lib.hid hxs
            clear hx hxw hxs hn5 S5
            cases hk : key x with
            | true =>
              simp only [hk] at HC
              clear hk
              go_wp2_with (go_at_call 17; refine (HC _).mono ?_; rintro e w' ⟨rfl, rfl⟩)
              refine (runs_any _ (HT.out.below B5.out)).mono ?_
              rintro e w9 ⟨rfl, b9⟩
              have HB9 := Lib.hid (B5.out.trans (b9.mono B5.out.size))
              clear b9
              go_wp2_with fail
              go_ret
              exact ⟨rfl, HB9.out⟩
            | false =>
              simp only [hk] at HC
              have HKF := Lib.hid hk
              clear hk
              by_cases h64 : n' = 64
              · subst h64
                go_wp2_with (go_at_call 17; refine (HC _).mono ?_; rintro e w' ⟨rfl, rfl⟩)
                refine (runs_any _ (HT.out.below B5.out)).mono ?_
                rintro e w9 ⟨rfl, b9⟩
                have HB9 := Lib.hid (B5.out.trans (b9.mono B5.out.size))
                clear b9
                go_wp2_with fail
                go_ret
                exact ⟨rfl, HB9.out⟩
              · have h64' : ¬ ((n' : Int) = 64) := by omega
                have ak := app_key ln (S x)
                rw [← HLB.out, L_S] at ak
                have hL2 : line (L (S (ln ++ 32 :: x))) = (⟨0, [], 0, 0, 0, 0, 0, false⟩, 1) := by
                  rw [L_S]
                  exact get_bad HK.out.sp HXS.out HKF.out (by have := HCN.out; have := HNL.out; omega)
                have LC2 := line_c (S (ln ++ 32 :: x)) (by rw [S_size]; have := HK.out.ln; simp; omega) hL2 0 0 1 rfl rfl rfl
                clear hL2
                generalize S (ln ++ 32 :: x) = lb2 at ak LC2
                obtain ⟨lb1, hlb1⟩ : ∃ lb1, lb ++ (⟨#[32]⟩ : ByteArray) = lb1 := ⟨_, rfl⟩
                rw [hlb1] at ak
                have l1z : lb1.size ≤ 20001 := by rw [← hlb1, ByteArray.size_append]; have : (⟨#[32]⟩ : ByteArray).size = 1 := rfl; omega
                generalize S x = X at *
                go_wp2_with (go_at_call 17; refine (HC _).mono ?_; rintro e w' ⟨rfl, rfl⟩)
                refine (LC2 _ (HT.out.below B5.out)).mono ?_
                rintro e w6 ⟨a6, n6, c6, rfl, _, b6⟩
                have BB := Lib.hid ((B5.out.trans (b6.mono B5.out.size)).alloc (B5.out.trans (b6.mono B5.out.size)).size (.cells #[.int .i64 0, .slice a6 n6 c6, .int .i64 0, .int .i64 0, .int .i64 0, .int .i64 0, .int .u64 0, .bool false, .string ⟨#[]⟩] 25))
                clear b6 LC2
                go_wp2_with fail
                refine (runs_any _ (HT.out.below BB.out)).mono ?_
                rintro e w9 ⟨rfl, b9⟩
                have HB9 := Lib.hid (BB.out.trans (b9.mono BB.out.size))
                clear b9
                go_wp2_with fail
                go_ret
                exact ⟨rfl, HB9.out⟩
          · have h1' : ((n5 : Int) != 1) = true := by simp only [bne_iff_ne, ne_eq]; omega
            clear S5 hn5
            go_wp2_with fail
            refine (runs_any _ (HT.out.below B5.out)).mono ?_
            rintro e w9 ⟨rfl, b9⟩
            have HB9 := Lib.hid (B5.out.trans (b9.mono B5.out.size))
            clear b9
            go_wp2_with fail
            go_ret
            exact ⟨rfl, HB9.out⟩
end Go.Proofs.YtiijibambjhipaaDoor
