/-
  WORDSSPLIT walked.
-/
import Derived.Test.YtiijibambjhipaaDoorOpen
import Derived.Test.YtiijibambjhipaaDoorWit
namespace Go.Proofs.YtiijibambjhipaaDoor
open Go.RowKit

theorem lens_app (l : List B) (x : B) : lens (l ++ [x]) = lens l + x.length := by simp [lens]
theorem lens_two (l r : List B) : lens (l ++ r) = lens l + lens r := by simp [lens]
theorem lens_take {l : List B} {j : Nat} {x : B} (h : l[j]? = some x) : lens (l.take (j + 1)) = lens (l.take j) + x.length := by
  rw [List.take_add_one, h]; exact lens_app _ _
theorem lens_le {s : B} (j : Nat) : lens ((split s).take j) ≤ s.length := by
  have h := split_lens s
  have : lens (split s) = lens ((split s).take j) + lens ((split s).drop j) := by
    rw [← lens_two, List.take_append_drop]
  omega
theorem count_take {l : B} {j : Nat} {c : UInt8} (h : l[j]? = some c) : (l.take (j + 1)).count 32 = (l.take j).count 32 + (if c = 32 then 1 else 0) := by
  rw [List.take_add_one, h, List.count_append]
  congr 1
  simp only [Option.toList_some]
  rw [List.count_singleton]
  by_cases hc : c = 32 <;> simp [hc]
theorem count_le {l : B} (j : Nat) : (l.take j).count 32 ≤ l.length := Nat.le_trans (List.count_le_length) (by rw [List.length_take]; omega)
/-- Blanks out of a constant. -/
theorem blanks5 (k : Nat) (hk : k ≤ 5) : (⟨#[32, 32, 32, 32, 32]⟩ : ByteArray).extract 0 k = S (List.replicate k 32) := by
  apply L_inj
  rw [L_extract, L_S]
  have e : L ⟨#[32, 32, 32, 32, 32]⟩ = List.replicate 5 32 := rfl
  rw [e, List.take_replicate, Nat.min_eq_left hk]; rfl
/-- A line that is made of words, and the words. -/
structure Lin (ln : B) (l : List B) (j : Nat) : Prop where
  sp : ∀ t, split (ln ++ t) = l ++ split t
  ln : ln.length ≤ 506 * j
  le : l.length ≤ j
theorem Lin.start : Lin [] [] 0 := ⟨fun _ => rfl, by simp, by simp⟩
theorem Lin.skip {ln : B} {l : List B} {j : Nat} (h : Lin ln l j) : Lin ln l (j + 1) := ⟨h.sp, by have := h.ln; omega, by have := h.le; omega⟩
theorem Lin.step {ln : B} {l : List B} {j : Nat} (h : Lin ln l j) {x : B} (hx : split x = [x]) (hl : x.length ≤ 500) (k : Nat) (hk : k ≤ 5) : Lin (ln ++ x ++ [32] ++ List.replicate k 32) (l ++ [x]) (j + 1) := by
  refine ⟨fun t => ?_, ?_, ?_⟩
  · have e : ln ++ x ++ [32] ++ List.replicate k 32 ++ t = ln ++ (x ++ 32 :: (List.replicate k 32 ++ t)) := by simp
    rw [e, h.sp, split_app, hx, split_blanks]; simp
  · have := h.ln; simp; omega
  · have := h.le; simp; omega
theorem Lin.all {ln : B} {l : List B} {j : Nat} (h : Lin ln l j) : split ln = l := by
  have := h.sp []
  simpa [split, wd] using this
set_option maxRecDepth 100000 in
set_option maxHeartbeats 1000000 in
theorem splits_walk (s : ByteArray) (a : Option Addr) (len cap : Nat) (T : Nat → ByteArray) (hlen : len ≤ 9223372036854775807) (b : Option Addr) (blen bcap : Nat) (z : Nat → Int) (_hblen : blen ≤ 9223372036854775807) (w : World) (hT : StrF w a T len) (hz : IntsF w b z blen) (ht : HasTab w) :
    Calls Tryd.prog 5 #[.string s, .slice a len cap, .slice b blen bcap] w fun e w' => e = .returned (.bool true) ∧ Below w.heap.size w w' := by
  have HT := Lib.hid ht
  have HTT := Lib.hid hT
  have HZ := Lib.hid hz
  have SH := short_any s
  obtain ⟨t, htt⟩ : ∃ t, t = shr (L s) := ⟨_, rfl⟩
  have tl : t.length ≤ 500 := by rw [htt]; exact shr_len _
  simp only [← htt] at SH
  have SP := split_any (S t) (by rw [S_size]; omega)
  rw [L_S] at SP
  have tz : (S t).size ≤ 500 := by rw [S_size]; exact tl
  have HTL := Lib.hid (L_len (S t))
  obtain ⟨X, hX⟩ : ∃ X, X = S t := ⟨_, rfl⟩
  rw [← hX] at SP tz HTL
  simp only [← hX] at SH
  have HX : Hid (L X = t) := Lib.hid (by rw [hX, L_S])
  clear ht hT hz htt hX
  go_enter Tryd.func5, Tryd.ntmps5
  go_wp2_with fail
  refine (SH _).mono ?_
  rintro e w' ⟨rfl, rfl⟩
  go_wp2_with fail
  refine (SP _).mono ?_
  rintro e w1 ⟨sv, rfl, S1, b1⟩
  obtain ⟨a1, n1, c1, rfl⟩ := S1.form
  obtain ⟨hn1, hc1⟩ := S1.len
  have n1b : n1 ≤ 500 := by have := split_len t; omega
  have HS1 := Lib.hid S1
  have HN1 := Lib.hid hn1
  have HB1 := Lib.hid b1
  clear S1 hn1 b1 SH SP
  go_wp2_with fail
  go_loopw [8, 9] (fun nv i wr => ∃ (j m : Nat), j ≤ n1 ∧ m ≤ 500 ∧ i = .int .i64 (j : Int) ∧ nv = .int .i64 (m : Int) ∧ Hid (m = lens ((split t).take j)) ∧ w1 = wr) (fun _ i _ => n1 - (intOf i).toNat)
  case atStart => exact ⟨0, 0, by omega, by omega, rfl, rfl, Lib.hid rfl, rfl⟩
  case round =>
    obtain ⟨j, m, hj, hm, rfl, rfl, HM, rfl⟩ := hrel
    by_cases hlt : j < n1
    · have hi1 : (j : Int) < (n1 : Int) := by omega
      obtain ⟨x, hx⟩ : ∃ x, (split t)[j]? = some x := ⟨_, List.getElem?_eq_getElem (by rw [← HN1.out]; exact hlt)⟩
      obtain ⟨g, q, ha, hc⟩ := HS1.out.at_ hx
      subst ha
      obtain ⟨x0, xn⟩ := split_words t x (List.mem_of_getElem? hx)
      have HXN := Lib.hid xn
      have ne : ((S x).toList == []) = false := by rw [beq_lit]; exact decide_eq_false x0
      have hlj := lens_take hx
      have HLJ := Lib.hid hlj
      have hle := lens_le (s := t) (j + 1)
      have xz : (S x).size = x.length := S_size x
      obtain ⟨xl, hxl⟩ : ∃ xl, xl = x.length := ⟨_, rfl⟩
      rw [← hxl] at xz
      have xlb : m + xl ≤ 500 := by have := HM.out; omega
      have HXL := Lib.hid hxl
      have hLx : Hid (L (S x) = x) := Lib.hid (L_S x)
      generalize S x = Y at *
      clear hx xn hlj hle hxl x0
      go_wp2_with fail
      go_loopw [10] (fun k wi => ∃ y : Nat, y ≤ xl ∧ k = .int .i64 (y : Int) ∧ w1 = wi) (fun k _ => xl - (intOf k).toNat)
      case atStart => exact ⟨0, by omega, rfl, rfl⟩
      case round =>
        obtain ⟨y, hy, rfl, rfl⟩ := hrel
        by_cases hyl : y < xl
        · have hi2 : (y : Int) < (xl : Int) := by omega
          obtain ⟨ch, hch⟩ : ∃ ch, (L Y)[y]? = some ch := ⟨_, List.getElem?_eq_getElem (by rw [hLx.out, ← HXL.out]; exact hyl)⟩
          have ix := str_at hch
          obtain ⟨v, hv⟩ : ∃ v : Int, v = ((ch.toNat : Nat) : Int) := ⟨_, rfl⟩
          rw [← hv] at ix
          have hv2 : ¬ (v = 32) := by
            intro e
            have := HXN.out ch (by rw [hLx.out] at hch; exact List.mem_of_getElem? hch)
            apply this
            exact UInt8.toNat_inj.1 (by have : (32 : UInt8).toNat = 32 := rfl; omega)
          clear hv hch
          go_wp2_with fail
          exact ⟨⟨y + 1, by omega, by go_num, trivial⟩, by simp [intOf]; omega⟩
        · have hi2 : decide ((y : Int) < (xl : Int)) = false := decide_eq_false (by omega)
          go_wp2_with fail
          refine ⟨⟨j + 1, m + xl, by omega, by omega, by go_num, by go_num, Lib.hid ?_, trivial⟩, by simp [intOf]; omega⟩
          have := HM.out; have := HLJ.out; have := HXL.out; omega
    · have hi1 : decide ((j : Int) < (n1 : Int)) = false := decide_eq_false (by omega)
      have HM1 : Hid (m = lens (split t)) := Lib.hid (by rw [HM.out, List.take_of_length_le (by rw [← HN1.out]; omega)])
      clear HM hj
      go_wp2_with fail
      go_loopw [8, 11] (fun nv i wr => ∃ (y k : Nat), y ≤ X.size ∧ k ≤ 1000 ∧ i = .int .i64 (y : Int) ∧ nv = .int .i64 (k : Int) ∧ Hid (k = m + ((L X).take y).count 32) ∧ w1 = wr) (fun _ i _ => X.size - (intOf i).toNat)
      case atStart => exact ⟨0, m, by omega, by omega, rfl, rfl, Lib.hid (by simp), rfl⟩
      case round =>
        obtain ⟨y, k, hy, hk, rfl, rfl, HKC, rfl⟩ := hrel
        by_cases hyl : y < X.size
        · have hi2 : (y : Int) < (X.size : Int) := by omega
          obtain ⟨ch, hch⟩ : ∃ ch, (L X)[y]? = some ch := ⟨_, List.getElem?_eq_getElem (by rw [L_len]; exact hyl)⟩
          have ix := str_at hch
          have hct := count_take hch
          have hcl := count_le (l := L X) (y + 1)
          rw [L_len] at hcl
          obtain ⟨v, hv⟩ : ∃ v : Int, v = ((ch.toNat : Nat) : Int) := ⟨_, rfl⟩
          rw [← hv] at ix
          by_cases hb : ch = 32
          · have hv2 : v = 32 := by rw [hv, hb]; rfl
            subst hv2
            rw [if_pos hb] at hct
            have kb : k + 1 ≤ 1000 := by have := HKC.out; omega
            have HK2 : Hid (k + 1 = m + ((L X).take (y + 1)).count 32) := Lib.hid (by have := HKC.out; omega)
            clear hv hch hct hcl hb
            go_wp2_with fail
            exact ⟨⟨y + 1, k + 1, by omega, by omega, by go_num, by go_num, HK2, trivial⟩, by simp [intOf]; omega⟩
          · have hv2 : ¬ (v = 32) := fun e => hb (UInt8.toNat_inj.1 (by have : (32 : UInt8).toNat = 32 := rfl; omega))
            rw [if_neg hb] at hct
            have HK2 : Hid (k = m + ((L X).take (y + 1)).count 32) := Lib.hid (by have := HKC.out; omega)
            clear hv hch hct hcl hb
            go_wp2_with fail
            exact ⟨⟨y + 1, k, by omega, by omega, by go_num, rfl, HK2, trivial⟩, by simp [intOf]; omega⟩
        · have hi2 : decide ((y : Int) < (X.size : Int)) = false := decide_eq_false (by omega)
          have hkx : k = X.size := by
            have h1 := HKC.out
            rw [List.take_of_length_le (by rw [L_len]; omega), HX.out] at h1
            have h2 := HM1.out
            have h3 := split_lens t
            have h4 := L_len X
            rw [HX.out] at h4
            omega
          subst hkx
          have HG0 := Lib.hid (Grow.start w1)
          clear HKC HM1 hk hy
          go_wp2_with fail
          go_loopw [12, 13, 14, 15] (fun sv pv i _u wr => ∃ (j' : Nat) (lb : ByteArray) (ln : B) (l : List B) (a' : Option Addr) (n' c' : Nat) (o : Nat → Nat × Nat), j' ≤ 12 ∧ j' ≤ len ∧ i = .int .i64 (j' : Int) ∧ sv = .string lb ∧ pv = .slice a' n' c' ∧ Hid (lb = S ln) ∧ Hid (Lin ln l j') ∧ Hid (Grow w1 wr l a' n' c' o)) (fun _ _ i _ _ => 12 - (intOf i).toNat)
          case atStart => exact ⟨0, _, [], [], none, 0, 0, o0, by omega, by omega, rfl, rfl, rfl, Lib.hid rfl, Lib.hid Lin.start, HG0⟩
          case round =>
            obtain ⟨j', lb, ln, l, a', n', c', o, hj', hjl, rfl, rfl, rfl, HLB, HK, HG⟩ := hrel
            have lbz : lb.size ≤ 7000 := by
              have h1 := HLB.out
              rw [h1, S_size]; have := HK.out.ln; omega
            have nz : n' ≤ 12 := by have := HK.out.le; have := HG.out.len; omega
            have HBG : Hid (Below w.heap.size w wr) := Lib.hid (HB1.out.trans (HG.out.below.mono HB1.out.size))
            by_cases hgo : j' < len ∧ j' < 12
            · obtain ⟨g1, g2⟩ := hgo
              have i1 : (j' : Int) < (len : Int) := by omega
              have i2 : (j' : Int) < 12 := by omega
              rcases (HTT.out.below HBG.out) with h0 | ⟨p, off, ha, hc⟩
              · omega
              subst ha
              have cx := hc j' g1
              have SH := short_any (T j')
              obtain ⟨u, hu⟩ : ∃ u, u = shr (L (T j')) := ⟨_, rfl⟩
              have ul : u.length ≤ 500 := by rw [hu]; exact shr_len _
              simp only [← hu] at SH
              have SP := split_any (S u) (by rw [S_size]; omega)
              rw [L_S] at SP
              have uz : (S u).size ≤ 500 := by rw [S_size]; exact ul
              clear hu hc
              go_wp2_with fail
              refine (SH _).mono ?_
              rintro e w' ⟨rfl, rfl⟩
              go_wp2_with fail
              refine (SP _).mono ?_
              rintro e w2 ⟨v2, rfl, S2, b2⟩
              obtain ⟨a2, n2, c2, rfl⟩ := S2.form
              obtain ⟨hn2, _⟩ := S2.len
              have G2 := HG.out.up b2
              by_cases h1 : n2 = 1
              · subst h1
                obtain ⟨x, hx⟩ : ∃ x, split u = [x] := by
                  rcases hh : split u with _ | ⟨x, _ | ⟨y, r⟩⟩
                  · rw [hh] at hn2; simp at hn2
                  · exact ⟨x, rfl⟩
                  · rw [hh] at hn2; simp at hn2
                have HSX := Lib.hid hx
                have HG2 := Lib.hid G2
                clear S2 hn2 b2 G2 hx
                go_wp2_with fail
                refine (SP _).mono ?_
                rintro e w3 ⟨v3, rfl, S3, b3⟩
                rw [HSX.out] at S3
                obtain ⟨a3, n3, c3, rfl⟩ := S3.form
                obtain ⟨hn3, _⟩ := S3.len
                have hn3' : n3 = 1 := hn3
                subst hn3'
                obtain ⟨g, q, rfl, q0⟩ := S3.at_ (i := 0) (x := x) rfl
                rw [Nat.add_zero] at q0
                have HG3 := Lib.hid (HG2.out.up b3)
                clear S3 hn3 b3
                by_cases hxu : x = u
                · subst hxu
                  have ne : ((S x).toList != (S x).toList) = false := by simp
                  obtain ⟨a5, c5, w5, o5, hr5, G5⟩ := HG3.out.step (by omega) (S x)
                  rw [L_S] at G5
                  have HG5 := Lib.hid G5
                  have B5 : Hid (Below w.heap.size w w5) := Lib.hid (HB1.out.trans (G5.below.mono HB1.out.size))
                  clear G5
                  by_cases hbl : j' < blen
                  · have i3 : (j' : Int) < (blen : Int) := by omega
                    rcases (HZ.out.below B5.out) with h0 | ⟨bp, boff, hb', hbc⟩
                    · omega
                    subst hb'
                    have bx := hbc j' hbl
                    obtain ⟨wb1, wb2⟩ := wi_bd (z j') 0 5 (by omega)
                    have WI := within_any (z j') 0 5 (by omega) (by omega) (by omega)
                    obtain ⟨kk, hkk⟩ : ∃ kk : Nat, wi (z j') 0 5 = (kk : Int) := ⟨(wi (z j') 0 5).toNat, by omega⟩
                    rw [hkk] at WI wb1 wb2
                    have kb : kk ≤ 5 := by omega
                    have bl := blanks5 kk kb
                    have HK5 := Lib.hid (HK.out.step (HSX.out) (ul) kk kb)
                    obtain ⟨lb1, h1⟩ : ∃ lb1, lb ++ S x = lb1 := ⟨_, rfl⟩
                    obtain ⟨lb2, h2⟩ : ∃ lb2, lb1 ++ (⟨#[32]⟩ : ByteArray) = lb2 := ⟨_, rfl⟩
                    obtain ⟨lb3, h3⟩ : ∃ lb3, lb2 ++ S (List.replicate kk 32) = lb3 := ⟨_, rfl⟩
                    have l1z : lb1.size ≤ 7500 := by rw [← h1, ByteArray.size_append]; omega
                    have l2z : lb2.size ≤ 7501 := by rw [← h2, ByteArray.size_append]; have : (⟨#[32]⟩ : ByteArray).size = 1 := rfl; omega
                    have bz : (S (List.replicate kk 32)).size ≤ 5 := by rw [S_size, List.length_replicate]; exact kb
                    have HB3 : Hid (lb3 = S (ln ++ x ++ [32] ++ List.replicate kk 32)) := Lib.hid (by rw [← h3, ← h2, ← h1, HLB.out]; exact L_inj (by rw [L_append, L_append, L_append]; rfl))
                    generalize S (List.replicate kk 32) = Z at *
                    generalize S x = Y at *
                    clear hbc hkk
                    go_wp2_with (first | (at_builtin; refine wpList_append_run rfl (.tmp 93) (.tmp 95) 22 22 rfl _ _ _ rfl rfl hr5 ?_) | (go_at_call 21; refine (WI _).mono ?_; rintro e w' ⟨rfl, rfl⟩))
                    exact ⟨⟨j' + 1, lb3, _, l ++ [x], a5, n' + 1, c5, o5, by omega, by omega, by go_num, rfl, rfl, HB3, HK5, HG5⟩, by simp [intOf]; omega⟩
                  · have i3 : decide ((j' : Int) < (blen : Int)) = false := decide_eq_false (by omega)
                    have HK5 := Lib.hid (HK.out.step (HSX.out) (ul) 0 (by omega))
                    obtain ⟨lb1, h1⟩ : ∃ lb1, lb ++ S x = lb1 := ⟨_, rfl⟩
                    obtain ⟨lb2, h2⟩ : ∃ lb2, lb1 ++ (⟨#[32]⟩ : ByteArray) = lb2 := ⟨_, rfl⟩
                    have l1z : lb1.size ≤ 7500 := by rw [← h1, ByteArray.size_append]; omega
                    have HB3 : Hid (lb2 = S (ln ++ x ++ [32] ++ List.replicate 0 32)) := Lib.hid (by rw [← h2, ← h1, HLB.out]; exact L_inj (by rw [L_append, L_append, L_S, L_S, L_S, List.replicate_zero, List.append_nil]; rfl))
                    generalize S x = Y at *
                    go_wp2_with (first | (at_builtin; refine wpList_append_run rfl (.tmp 93) (.tmp 95) 22 22 rfl _ _ _ rfl rfl hr5 ?_))
                    exact ⟨⟨j' + 1, lb2, _, l ++ [x], a5, n' + 1, c5, o5, by omega, by omega, by go_num, rfl, rfl, HB3, HK5, HG5⟩, by simp [intOf]; omega⟩
                · have ne : ((S x).toList == (S u).toList) = false := by
                    rw [str_beq]; exact decide_eq_false (fun e => hxu (S_inj e))
                  go_wp2_with fail
                  exact ⟨⟨j' + 1, lb, ln, l, a', n', c', o, by omega, by omega, by go_num, rfl, rfl, HLB, Lib.hid HK.out.skip, HG3⟩, by simp [intOf]; omega⟩
              · have h1' : ((n2 : Int) != 1) = true := by simp only [bne_iff_ne, ne_eq]; omega
                have HG2 := Lib.hid G2
                clear S2 hn2 b2 G2
                go_wp2_with fail
                exact ⟨⟨j' + 1, lb, ln, l, a', n', c', o, by omega, by omega, by go_num, rfl, rfl, HLB, Lib.hid HK.out.skip, HG2⟩, by simp [intOf]; omega⟩
            · have SPL := split_any lb (by omega)
              have hlb : L lb = ln := by rw [HLB.out, L_S]
              rw [hlb, HK.out.all] at SPL
              have HS := Lib.hid HG.out.strs
              have l12 : l.length ≤ 100000 := by have := HK.out.le; omega
              clear HG HG0 hlb
              by_cases g1 : j' < len
              · have i1 : (j' : Int) < (len : Int) := by omega
                have i2 : decide ((j' : Int) < 12) = false := decide_eq_false (by omega)
                go_wp2_with fail
                refine (SPL _).mono ?_
                rintro e w6 ⟨v6, rfl, S6, b6⟩
                obtain ⟨a6, n6, c6, rfl⟩ := S6.form
                have B6 : Hid (Below w.heap.size w w6) := Lib.hid (HBG.out.trans (b6.mono HBG.out.size))
                have SM := same_any l a6 a' n6 n' c6 c' l12 w6 S6 (HS.out.below b6)
                clear S6 b6
                go_wp2_with fail
                refine SM.mono ?_
                rintro e w7 ⟨rfl, b7⟩
                have B7 : Hid (Below w.heap.size w w7) := Lib.hid (B6.out.trans (b7.mono B6.out.size))
                clear b7 SM
                go_wp2_with fail
                refine (runs_any _ (HT.out.below B7.out)).mono ?_
                rintro e w9 ⟨rfl, b9⟩
                have HB9 := Lib.hid (B7.out.trans (b9.mono B7.out.size))
                clear b9
                go_wp2_with fail
                go_ret
                exact ⟨rfl, HB9.out⟩
              · have i1 : decide ((j' : Int) < (len : Int)) = false := decide_eq_false (by omega)
                go_wp2_with fail
                refine (SPL _).mono ?_
                rintro e w6 ⟨v6, rfl, S6, b6⟩
                obtain ⟨a6, n6, c6, rfl⟩ := S6.form
                have B6 : Hid (Below w.heap.size w w6) := Lib.hid (HBG.out.trans (b6.mono HBG.out.size))
                have SM := same_any l a6 a' n6 n' c6 c' l12 w6 S6 (HS.out.below b6)
                clear S6 b6
                go_wp2_with fail
                refine SM.mono ?_
                rintro e w7 ⟨rfl, b7⟩
                have B7 : Hid (Below w.heap.size w w7) := Lib.hid (B6.out.trans (b7.mono B6.out.size))
                clear b7 SM
                go_wp2_with fail
                refine (runs_any _ (HT.out.below B7.out)).mono ?_
                rintro e w9 ⟨rfl, b9⟩
                have HB9 := Lib.hid (B7.out.trans (b9.mono B7.out.size))
                clear b9
                go_wp2_with fail
                go_ret
                exact ⟨rfl, HB9.out⟩
end Go.Proofs.YtiijibambjhipaaDoor
