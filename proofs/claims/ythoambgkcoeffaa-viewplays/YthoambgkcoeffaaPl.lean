/-
  VIEWPLAYS walked.
-/
import Derived.Test.YthoambgkcoeffaaFw
namespace Go.Proofs.Ythoambgkcoeffaa
open Go.RowKit

/-- A law's memory: the program's view, the reference's. -/
structure Mp (w0 W : World) (o : Nat → Nat × Nat) (X Y : Nat) (l m : Vs) : Prop where
  I : IsV W o X l
  R : IsR W o Y m
  G : Fr TP o00 o w0 W
theorem Mp.L {w0 W : World} {o : Nat → Nat × Nat} {X Y : Nat} {l m : Vs} (a : Mp w0 W o X Y l m) : Lv w0 W o X l := ⟨a.I, a.G⟩
theorem Mp.below {w0 W W' : World} {o : Nat → Nat × Nat} {X Y : Nat} {l m : Vs} (a : Mp w0 W o X Y l m) (b : Below W.heap.size W W') : Mp w0 W' o X Y l m := ⟨a.I.below b, a.R.fr (Fr.ofBelow (fun _ => False) o b) id id id, a.G.trans (Fr.ofBelow TP o b)⟩
theorem mp_next {w0 W : World} {o : Nat → Nat × Nat} {X Y : Nat} {l l' m : Vs} {k : Int} {b : Bool} (a : Mp w0 W o X Y l m) (i e : Int) (hk : l.ok k) (hk0 : 0 ≤ k) (hk1 : k ≤ 1000) (hn : l.nxt i e = (b, l')) :
    Calls Try.prog 8 #[.pointer (some ⟨X, 0, none⟩), .int .i64 i, .int .i64 e] W fun x w' => x = .returned (.bool b) ∧ Mp w0 w' o X Y l' m :=
  (next_any X l i e k W o a.I hk hk0 hk1).mono (by
    rintro x w' ⟨rfl, I, f⟩
    rw [hn] at I ⊢
    exact ⟨rfl, I, a.R.fr f (fun e => by cases e) (fun e => by cases e) (fun e => by cases e), a.G.trans (f.mono (fun t e => by rw [e]; intro h; cases h))⟩)
theorem mp_rnext {w0 W : World} {o : Nat → Nat × Nat} {X Y : Nat} {l m m' : Vs} {k : Int} {b : Bool} (a : Mp w0 W o X Y l m) (i e : Int) (hk : m.ok k) (hk0 : 0 ≤ k) (hk1 : k ≤ 1000) (hn : m.nxt i e = (b, m')) :
    Calls Try.prog 14 #[.pointer (some ⟨Y, 0, none⟩), .int .i64 i, .int .i64 e] W fun x w' => x = .returned (.bool b) ∧ Mp w0 w' o X Y l m' :=
  (rnext_any Y m i e k W o a.R hk hk0 hk1).mono (by
    rintro x w' ⟨rfl, I, f⟩
    rw [hn] at I ⊢
    exact ⟨rfl, a.I.fr f (fun e => by rcases e with e | e <;> cases e) (fun e => by rcases e with e | e <;> cases e), I, a.G.trans (f.mono (fun t e => by rcases e with e | e <;> (rw [e]; intro h; cases h)))⟩)
theorem mp_few {w0 W : World} {o : Nat → Nat × Nat} {X Y : Nat} {l m : Vs} (a : Mp w0 W o X Y l m) (s : List Int) (cs : Array Value) (n : Nat) (hc : cs = (ic s).toArray) (hn : n = s.length) (hs : s.length ≤ 10) (z : Int) (hz : z = (l.few s : Int)) :
    Calls Try.prog 12 #[.pointer (some ⟨X, 0, none⟩), .slice (some ⟨W.heap.size, 0, none⟩) n n] (W.alloc (.cells cs 3)) fun x w' => x = .returned (.int .i64 z) ∧ Mp w0 w' o X Y l m := by
  subst hc hn
  have b := bel_alloc W (.cells (ic s).toArray 3)
  refine (few_any X l _ s (by omega) z hz (W.alloc (.cells (ic s).toArray 3)) o (a.I.below b) (IR.new W s)).mono ?_
  rintro e w' ⟨rfl, b2⟩
  exact ⟨rfl, a.below (b.trans (b2.mono b.size))⟩
theorem mp_few0 {w0 W : World} {o : Nat → Nat × Nat} {X Y : Nat} {l m : Vs} (a : Mp w0 W o X Y l m) : Calls Try.prog 12 #[.pointer (some ⟨X, 0, none⟩), .slice none 0 0] W fun x w' => x = .returned (.int .i64 0) ∧ Mp w0 w' o X Y l m := by
  refine (few_any X l (.slice none 0 0) [] (by simp) 0 (by rw [few_nil]; rfl) W o a.I (.inl ⟨rfl, _, _, rfl⟩)).mono ?_
  rintro e w' ⟨rfl, b2⟩
  exact ⟨rfl, a.below b2⟩
theorem few_le (l : Vs) (s : List Int) : l.few s ≤ l.length := List.length_filter_le _ _
set_option maxRecDepth 100000 in
set_option maxHeartbeats 2000000 in
/-- No such views. -/
theorem plays_no (n : Int) (hn : ¬ (1 ≤ n ∧ n ≤ 12)) (a1 : Option Addr) (len1 cap1 : Nat) (a2 : Option Addr) (len2 cap2 : Nat) (w : World) :
    Calls Try.prog 4 #[.int .i64 n, .slice a1 len1 cap1, .slice a2 len2 cap2] w fun e w' => e = .returned (.bool true) ∧ Below w.heap.size w w' := by
  have N1 := hid (new_no n hn)
  have N2 := hid (rnew_no n hn)
  clear hn
  go_enter Try.func4, Try.ntmps4
  go_wp2_with fail
  refine (N1.out _).mono ?_
  rintro e w3 ⟨rfl, rfl⟩
  go_wp2_with fail
  refine (N2.out _).mono ?_
  rintro e w3 ⟨rfl, rfl⟩
  go_wp2_with fail
  go_loopw [11] (fun i wr => i = .int .i64 0 ∧ w = wr) (fun _ _ => 0)
  case atStart => exact ⟨rfl, rfl⟩
  case round =>
    obtain ⟨rfl, rfl⟩ := hrel
    by_cases h1 : 0 < len1
    · have c1 : decide ((0 : Int) < (len1 : Int)) = true := by simp; omega
      by_cases h2 : 0 < len2
      · have c2 : decide ((0 : Int) < (len2 : Int)) = true := by simp; omega
        go_wp2_with fail
        refine (runs_any _).mono ?_
        rintro e w9 ⟨rfl, b9⟩
        go_wp2_with fail
        go_ret
        exact ⟨rfl, b9⟩
      · have c2 : decide ((0 : Int) < (len2 : Int)) = false := by simp; omega
        go_wp2_with fail
        refine (runs_any _).mono ?_
        rintro e w9 ⟨rfl, b9⟩
        go_wp2_with fail
        go_ret
        exact ⟨rfl, b9⟩
    · have c1 : decide ((0 : Int) < (len1 : Int)) = false := by simp; omega
      go_wp2_with fail
      refine (runs_any _).mono ?_
      rintro e w9 ⟨rfl, b9⟩
      go_wp2_with fail
      go_ret
      exact ⟨rfl, b9⟩
set_option maxRecDepth 100000 in
set_option maxHeartbeats 2000000 in
theorem plays_yes (n : Nat) (hn1 : 1 ≤ n) (hn2 : n ≤ 12) (a1 : Option Addr) (len1 cap1 : Nat) (z1 : Nat → Int) (a2 : Option Addr) (len2 cap2 : Nat) (z2 : Nat → Int) (w : World) (_ : len1 ≤ 9223372036854775807) (_ : len2 ≤ 9223372036854775807) (s1 : IntsF w a1 z1 len1) (s2 : IntsF w a2 z2 len2) :
    Calls Try.prog 4 #[.int .i64 (n : Int), .slice a1 len1 cap1, .slice a2 len2 cap2] w fun e w' => e = .returned (.bool true) ∧ Below w.heap.size w w' := by
  have HA := hid s1
  have HB := hid s2
  clear s1 s2
  go_enter Try.func4, Try.ntmps4
  go_wp2_with fail
  refine (new_yes n hn1 hn2 _ rfl _ o00).mono ?_
  rintro e w3 ⟨X, o1, rfl, I1, g1⟩
  have H1 := hid I1
  have G1 := hid g1
  clear I1 g1
  go_wp2_with fail
  refine (rnew_yes n hn1 hn2 _ rfl _ o1).mono ?_
  rintro e w4 ⟨Y, o, rfl, I2, g2⟩
  have H0 : Hid (Mp w w4 o X Y (nw n) (nw n)) := ⟨H1.out.fr g2 id id, I2, (G1.out.trans g2).mono (fun _ e => e.elim)⟩
  clear I2 g2 H1 G1
  go_wp2_with fail
  go_loopw [11] (fun i wr => ∃ j : Nat, j ≤ 80 ∧ i = .int .i64 (j : Int) ∧ Hid (∃ l : Vs, l.ok (j : Int) ∧ l.length = n ∧ Mp w wr o X Y l l)) (fun i _ => 80 - (intOf i).toNat)
  case atStart => exact ⟨0, by omega, rfl, nw n, nw_ok n, nw_len n, H0.out⟩
  case round =>
    clear H0
    obtain ⟨j, hj, rfl, HL⟩ := hrel
    obtain ⟨l, hok, hlen, L⟩ := HL.out
    have HR := hid L.L.fin
    clear HL
    by_cases hin : j < len1 ∧ j < len2 ∧ j < 80
    · obtain ⟨h1, h2, h3⟩ := hin
      have c1 : (j : Int) < (len1 : Int) := by omega
      have c2 : (j : Int) < (len2 : Int) := by omega
      have c3 : (j : Int) < 80 := by omega
      have c3' : decide ((j : Int) < 80) = true := decide_eq_true c3
      have L1 : Mp w wr.drew o X Y l l := L.below ((Fr.drew1 (fun _ => False) o wr).below (Nat.le_refl _) (fun _ _ => id))
      obtain ⟨p1, f1, rfl, d1⟩ := HA.out.at L1.L.fin h1
      obtain ⟨p2, f2, rfl, d2⟩ := HB.out.at L1.L.fin h2
      obtain ⟨s, hs⟩ : ∃ s, s = z1 j := ⟨_, rfl⟩
      obtain ⟨e, he⟩ : ∃ e, e = z2 j := ⟨_, rfl⟩
      rw [← hs] at d1
      rw [← he] at d2
      obtain ⟨⟨b, l2⟩, hn⟩ : ∃ q, l.nxt s e = q := ⟨_, rfl⟩
      have HOK : Hid (l2.ok ((j : Int) + 1) ∧ l2.length = n) := by
        have q1 := Vs.nxt_ok hok (by omega) s e
        have q2 := l.nxt_len s e
        rw [hn] at q1 q2
        exact ⟨q1, q2.trans hlen⟩
      have S0 : wr.drew.cell? ⟨p1, f1 + j, none⟩ = some (.int .i64 s) ∧ wr.drew.cell? ⟨p2, f2 + j, none⟩ = some (.int .i64 e) := ⟨d1, d2⟩
      have HN := hid (mp_next L1 s e hok (by omega) (by omega) hn)
      have HN2 := hid (fun w4 (a : Mp w w4 o X Y l2 l) => mp_rnext a s e hok (by omega) (by omega) hn)
      have HC : Hid (∀ w4 l m, Mp w w4 o X Y l m → w4.cell? ⟨p1, f1 + j, none⟩ = some (.int .i64 s) ∧ w4.cell? ⟨p2, f2 + j, none⟩ = some (.int .i64 e)) := fun w4 l m L => ⟨(HA.out.mem L.L.fin h1).trans (by rw [hs]), (HB.out.mem L.L.fin h2).trans (by rw [he])⟩
      clear L L1 hok hlen hs he hn d1 d2 h1 h2 HR
      have hbb : (b != b) = false := by cases b <;> rfl
      go_wp2_with fail
      go_region_held3 (fun w' => w'.cell? ⟨p1, f1 + j, none⟩ = some (.int .i64 s) ∧ w'.cell? ⟨p2, f2 + j, none⟩ = some (.int .i64 e))
        (first | with_reducible exact S0 | with_reducible exact S1 | with_reducible exact S2)
        (first | (go_at_call 8; (with_reducible refine HN.out.mono ?_); rintro e9 w4 ⟨rfl, L4⟩; have S1 : w4.cell? ⟨p1, f1 + j, none⟩ = some (.int .i64 s) ∧ w4.cell? ⟨p2, f2 + j, none⟩ = some (.int .i64 e) := HC.out _ _ _ L4; have HL4 := hid (HN2.out _ L4); clear L4) | (go_at_call 14; (with_reducible refine HL4.out.mono ?_); rintro e9 w5 ⟨rfl, L5⟩; have S2 : w5.cell? ⟨p1, f1 + j, none⟩ = some (.int .i64 s) ∧ w5.cell? ⟨p2, f2 + j, none⟩ = some (.int .i64 e) := HC.out _ _ _ L5; have HL5 := hid L5; clear L5))
      clear S0 S1 S2 HL4 HN HN2 HC
      go_wp2_with fail
      go_loopw [12, 13] (fun u kk wr => ∃ (K : Int) (q : Nat), -1 ≤ K ∧ K ≤ (n : Int) + 1 ∧ kk = .int .i64 K ∧ u = .int .i64 (q : Int) ∧ q ≤ 12 ∧ Hid (q = Vs.few (l2.take K.toNat) [2, 1]) ∧ Hid (Mp w wr o X Y l2 l2)) (fun _ kk _ => ((n : Int) + 1 - intOf kk).toNat)
      case atStart => exact ⟨-1, 0, by omega, by omega, rfl, rfl, by omega, rfl, HL5⟩
      case round =>
        clear HL5
        obtain ⟨K, q, k1, k2, rfl, rfl, hq, HQ, HM⟩ := hrel
        by_cases hK : K ≤ (n : Int)
        · by_cases g0 : 0 ≤ K ∧ K < (n : Int)
          · obtain ⟨i, rfl⟩ : ∃ i : Nat, K = (i : Int) := ⟨K.toNat, by omega⟩
            have hi : i < n := by omega
            have hil : i < l2.length := by rw [HOK.out.2]; exact hi
            obtain ⟨gg, hh, R⟩ := HM.out.R
            have r0 := R.c0
            have r1 := R.c1
            obtain ⟨r2, r3, _, _⟩ := R.at hil
            rw [HOK.out.2] at r0 r1
            obtain ⟨⟨st, c⟩, hp⟩ : ∃ p, p = l2.getD i (0, 0) := ⟨_, rfl⟩
            rw [← hp] at r2 r3
            have HS := hid (fun m => lv_state (HM.out.below ((Fr.drewN (fun _ => False) o wr m).below (Nat.le_refl _) (fun _ _ => id))).L (i : Int) st (by rw [at_in l2 hil, ← hp]))
            have HI := hid (fun m => lv_inc (HM.out.below ((Fr.drewN (fun _ => False) o wr m).below (Nat.le_refl _) (fun _ _ => id))).L (i : Int) c (by rw [at_in l2 hil, ← hp]))
            have HM2 := hid (fun m => HM.out.below ((Fr.drewN (fun _ => False) o wr m).below (Nat.le_refl _) (fun _ _ => id)))
            have hz := (HOK.out.1.getD (by omega) i).1
            rw [← hp] at hz
            have HF := hid (few_succ l2 [2, 1] i hil)
            rw [← hp] at HF
            have hle := few_le (l2.take (i + 1)) [2, 1]
            rw [List.length_take] at hle
            have k0 : decide (0 ≤ (i : Int)) = true := by simp
            have k3 : decide ((i : Int) < (n : Int)) = true := by simp; omega
            clear R hp hil HM
            go_wp2_with fail
            go_quiet (fail)
            replace hz : st = 0 ∨ st = 1 ∨ st = 2 := hz
            rcases hz with rfl | rfl | rfl
            · have HQ2 : Hid (q + 0 = Vs.few (l2.take (((i : Int) + 1).toNat)) [2, 1]) := by
                show _ = _
                rw [show ((i : Int) + 1).toNat = i + 1 by omega, HF.out, HQ.out, Int.toNat_natCast]; rfl
              have hq2 : q + 0 ≤ 12 := by
                have := HQ2.out
                rw [show ((i : Int) + 1).toNat = i + 1 by omega] at this
                omega
              clear HF HQ hle
              go_wp2_with fail
              refine (HS.out _).mono ?_
              rintro e9 w9 ⟨rfl, rfl⟩
              go_wp2_with fail
              refine (HI.out _).mono ?_
              rintro e9 w9 ⟨rfl, rfl⟩
              go_wp2_with fail
              exact ⟨⟨(i : Int) + 1, q + 0, by omega, by omega, by go_num, rfl, hq2, HQ2, HM2.out _⟩, by simp [intOf]; omega⟩
            · have HQ2 : Hid (q + 1 = Vs.few (l2.take (((i : Int) + 1).toNat)) [2, 1]) := by
                show _ = _
                rw [show ((i : Int) + 1).toNat = i + 1 by omega, HF.out, HQ.out, Int.toNat_natCast]; rfl
              have hq2 : q + 1 ≤ 12 := by
                have := HQ2.out
                rw [show ((i : Int) + 1).toNat = i + 1 by omega] at this
                omega
              clear HF HQ hle
              go_wp2_with fail
              refine (HS.out _).mono ?_
              rintro e9 w9 ⟨rfl, rfl⟩
              go_wp2_with fail
              refine (HI.out _).mono ?_
              rintro e9 w9 ⟨rfl, rfl⟩
              go_wp2_with fail
              exact ⟨⟨(i : Int) + 1, q + 1, by omega, by omega, by go_num, by go_num, hq2, HQ2, HM2.out _⟩, by simp [intOf]; omega⟩
            · have HQ2 : Hid (q + 1 = Vs.few (l2.take (((i : Int) + 1).toNat)) [2, 1]) := by
                show _ = _
                rw [show ((i : Int) + 1).toNat = i + 1 by omega, HF.out, HQ.out, Int.toNat_natCast]; rfl
              have hq2 : q + 1 ≤ 12 := by
                have := HQ2.out
                rw [show ((i : Int) + 1).toNat = i + 1 by omega] at this
                omega
              clear HF HQ hle
              go_wp2_with fail
              refine (HS.out _).mono ?_
              rintro e9 w9 ⟨rfl, rfl⟩
              go_wp2_with fail
              refine (HI.out _).mono ?_
              rintro e9 w9 ⟨rfl, rfl⟩
              go_wp2_with fail
              exact ⟨⟨(i : Int) + 1, q + 1, by omega, by omega, by go_num, by go_num, hq2, HQ2, HM2.out _⟩, by simp [intOf]; omega⟩
          · have hK2 : K = -1 ∨ K = (n : Int) := by omega
            have HS := hid (lv_state HM.out.L K 0 (by rw [at_out l2 (by rw [HOK.out.2]; exact g0)]))
            have HI := hid (lv_inc HM.out.L K 0 (by rw [at_out l2 (by rw [HOK.out.2]; exact g0)]))
            have HQ2 : Hid (q = Vs.few (l2.take (K + 1).toNat) [2, 1]) := by
              show _ = _
              rw [HQ.out]
              rcases hK2 with rfl | rfl
              · rfl
              · rw [List.take_of_length_le (by rw [HOK.out.2]; omega), List.take_of_length_le (by rw [HOK.out.2]; omega)]
            clear HQ
            rcases hK2 with rfl | rfl
            · go_wp2_with fail
              refine HS.out.mono ?_
              rintro e9 w9 ⟨rfl, rfl⟩
              go_wp2_with fail
              refine HI.out.mono ?_
              rintro e9 w9 ⟨rfl, rfl⟩
              go_wp2_with fail
              exact ⟨⟨0, q, by omega, by omega, rfl, rfl, hq, HQ2, HM⟩, by simp [intOf] <;> omega⟩
            · have k0 : decide (0 ≤ (n : Int)) = true := by simp
              have k3 : decide ((n : Int) < (n : Int)) = false := by simp
              go_wp2_with fail
              refine HS.out.mono ?_
              rintro e9 w9 ⟨rfl, rfl⟩
              go_wp2_with fail
              refine HI.out.mono ?_
              rintro e9 w9 ⟨rfl, rfl⟩
              go_wp2_with fail
              exact ⟨⟨(n : Int) + 1, q, by omega, by omega, by go_num, rfl, hq, HQ2, HM⟩, by simp [intOf]⟩
        · have hK2 : K = (n : Int) + 1 := by omega
          have HQ2 : Hid ((q : Int) = (Vs.few l2 [2, 1] : Int)) := by
            show _ = _
            rw [HQ.out, hK2, List.take_of_length_le (by rw [HOK.out.2]; omega)]
          have HF := hid (few_all HOK.out.1).2.2.2
          have kk : decide (K ≤ (n : Int)) = false := by simp; omega
          clear HQ
          go_wp2_with fail
          refine (mp_few HM.out [2, 1] _ _ rfl rfl (by decide) (q : Int) HQ2.out).mono ?_
          rintro e9 w7 ⟨rfl, M7⟩
          have H7 := hid M7
          clear M7 HM HQ2
          go_wp2_with fail
          refine (mp_few0 H7.out).mono ?_
          rintro e9 w8 ⟨rfl, M8⟩
          have H8 := hid M8
          clear M8 H7
          go_wp2_with fail
          refine (mp_few H8.out [0, 2, 1] _ _ rfl rfl (by decide) (n : Int) (by rw [HF.out, HOK.out.2])).mono ?_
          rintro e9 w9 ⟨rfl, M9⟩
          have H9 := hid M9
          clear M9 H8
          go_wp2_with fail
          exact ⟨⟨j + 1, by omega, by go_num, l2, by simpa using HOK.out.1, HOK.out.2, H9.out⟩, by simp [intOf]; omega⟩
    · by_cases h1 : j < len1
      · have c1 : (j : Int) < (len1 : Int) := by omega
        by_cases h2 : j < len2
        · have c2 : (j : Int) < (len2 : Int) := by omega
          have c3 : decide ((j : Int) < 80) = false := by simp; omega
          clear hin
          go_wp2_with fail
          refine (runs_any _).mono ?_
          rintro e w9 ⟨rfl, b9⟩
          go_wp2_with fail
          go_ret
          exact ⟨rfl, HR.out.trans (b9.mono HR.out.size)⟩
        · have c2 : decide ((j : Int) < (len2 : Int)) = false := by simp; omega
          clear hin
          go_wp2_with fail
          refine (runs_any _).mono ?_
          rintro e w9 ⟨rfl, b9⟩
          go_wp2_with fail
          go_ret
          exact ⟨rfl, HR.out.trans (b9.mono HR.out.size)⟩
      · have c1 : decide ((j : Int) < (len1 : Int)) = false := by simp; omega
        clear hin
        go_wp2_with fail
        refine (runs_any _).mono ?_
        rintro e w9 ⟨rfl, b9⟩
        go_wp2_with fail
        go_ret
        exact ⟨rfl, HR.out.trans (b9.mono HR.out.size)⟩
theorem plays_walk (n : Int) (a1 : Option Addr) (len1 cap1 : Nat) (z1 : Nat → Int) (a2 : Option Addr) (len2 cap2 : Nat) (z2 : Nat → Int) (w : World) (w1 : len1 ≤ 9223372036854775807) (w2 : len2 ≤ 9223372036854775807) (s1 : IntsF w a1 z1 len1) (s2 : IntsF w a2 z2 len2) :
    Calls Try.prog 4 #[.int .i64 n, .slice a1 len1 cap1, .slice a2 len2 cap2] w fun e w' => e = .returned (.bool true) ∧ Below w.heap.size w w' := by
  by_cases hn : 1 ≤ n ∧ n ≤ 12
  · obtain ⟨N, rfl⟩ : ∃ N : Nat, n = (N : Int) := ⟨n.toNat, by omega⟩
    exact plays_yes N (by omega) (by omega) a1 len1 cap1 z1 a2 len2 cap2 z2 w w1 w2 s1 s2
  · exact plays_no n hn a1 len1 cap1 a2 len2 cap2 w
end Go.Proofs.Ythoambgkcoeffaa
