/-
  PARSESTORES walked: requests with any data, one behind the other, come as they were sent.
-/
import Derived.Test.YtedbklipbfbmoaaDoorPNm
import Derived.BigQuiet
namespace Go.Proofs.YtedbklipbfbmoaaDoor
open Go.RowKit

/-- The law's first loop: the requests so far, and what is wanted of them. -/
structure Sw (w wr : World) (str : ByteArray) (pl : List (B × B)) (a : Option Addr) (n c : Nat) (o : Nat → Nat × Nat) : Prop where
  gr : Grow w wr (pl.map (·.2)) a n c o
  eq : L str = (pl.map fun p => stB p.1 p.2).flatten
  ok : ∀ p ∈ pl, key p.1 = true ∧ p.2.length ≤ 200
theorem Sw.up {w wr wr' : World} {str : ByteArray} {pl : List (B × B)} {a : Option Addr} {n c : Nat} {o : Nat → Nat × Nat} (h : Sw w wr str pl a n c o) (b : Below wr.heap.size wr wr') : Sw w wr' str pl a n c o := ⟨h.gr.up b, h.eq, h.ok⟩
theorem Sw.size {w wr : World} {str : ByteArray} {pl : List (B × B)} {a : Option Addr} {n c : Nat} {o : Nat → Nat × Nat} (h : Sw w wr str pl a n c o) : str.size ≤ pl.length * 600 := by
  rw [← L_len, h.eq]; exact stores_len pl h.ok
/-- One request more. -/
theorem Sw.step {w wr : World} {str : ByteArray} {pl : List (B × B)} {a : Option Addr} {n c : Nat} {o : Nat → Nat × Nat} (h : Sw w wr str pl a n c o) (hn : pl.length ≤ 10) {k d str' : ByteArray} (hk : key (L k) = true) (hd : d.size ≤ 200) (hs : str ++ (⟨#[115, 101, 116, 32]⟩ : ByteArray) ++ k ++ (⟨#[32, 55, 32, 48, 32]⟩ : ByteArray) ++ S (Lib.decDigits d.size) ++ (⟨#[13, 10]⟩ : ByteArray) ++ d ++ (⟨#[13, 10]⟩ : ByteArray) = str') :
    ∃ a' c' w' o', (Builtin.append_ #[27, 27] 27 #[.slice a n c, .slice (some ⟨wr.heap.size, 0, none⟩) 1 1]).run Tryd.prog (wr.alloc (.cells #[.string d] 9)) = .ok (.slice a' (n + 1) c') w' ∧ Sw w w' str' (pl ++ [(L k, L d)]) a' (n + 1) c' o' := by
  obtain ⟨a', c', w', o', hr, G⟩ := h.gr.step (by rw [h.gr.len, List.length_map]; omega) d
  refine ⟨a', c', w', o', hr, ⟨by simpa using G, ?_, fun p hp => ?_⟩⟩
  · rw [← hs]
    simp only [L_append, h.eq]
    rw [List.map_append, List.flatten_append, List.map_singleton, List.flatten_singleton]
    unfold stB stL setW
    rw [L_len, L_S]
    show _ ++ [115, 101, 116, 32] ++ L k ++ [32, 55, 32, 48, 32] ++ Lib.decDigits d.size ++ [13, 10] ++ L d ++ [13, 10] = _
    simp
  · rcases List.mem_append.1 hp with hp | hp
    · exact h.ok p hp
    · simp at hp; subst hp; exact ⟨hk, by rw [L_len]; exact hd⟩
theorem lit_y (n : Nat) (hn : n ≤ 50) (w : World) : (Instr.sliceAt 9 (.string ⟨#[121, 121, 121, 121, 121, 121, 121, 121, 121, 121, 121, 121, 121, 121, 121, 121, 121, 121, 121, 121, 121, 121, 121, 121, 121, 121, 121, 121, 121, 121, 121, 121, 121, 121, 121, 121, 121, 121, 121, 121, 121, 121, 121, 121, 121, 121, 121, 121, 121, 121]⟩) none (some (.int .i64 (n : Int))) none).run Tryd.prog w = .ok (.string (S (List.replicate n 121))) w := by
  rw [str_hi ⟨#[121, 121, 121, 121, 121, 121, 121, 121, 121, 121, 121, 121, 121, 121, 121, 121, 121, 121, 121, 121, 121, 121, 121, 121, 121, 121, 121, 121, 121, 121, 121, 121, 121, 121, 121, 121, 121, 121, 121, 121, 121, 121, 121, 121, 121, 121, 121, 121, 121, 121]⟩ n hn w]
  rw [show L ⟨#[121, 121, 121, 121, 121, 121, 121, 121, 121, 121, 121, 121, 121, 121, 121, 121, 121, 121, 121, 121, 121, 121, 121, 121, 121, 121, 121, 121, 121, 121, 121, 121, 121, 121, 121, 121, 121, 121, 121, 121, 121, 121, 121, 121, 121, 121, 121, 121, 121, 121]⟩ = List.replicate 50 121 from rfl, List.take_replicate, Nat.min_eq_left hn]
set_option maxRecDepth 100000 in
set_option maxHeartbeats 4000000 in
theorem stores_walk (ka : Option Addr) (kl kc : Nat) (K : Nat → ByteArray) (_hkl : kl ≤ 9223372036854775807) (hkb : ∀ i, i < kl → (K i).size ≤ 140737488355328) (da : Option Addr) (dl dc : Nat) (D : Nat → ByteArray) (_hdl : dl ≤ 9223372036854775807) (more : Int) (w : World) (hK : StrF w ka K kl) (hD : StrF w da D dl) (ht : HasTab w) (htab : Lib.TabIs Tryd.prog w "internal/strconv.uint64pow10" .u64 Lib.pow10Tab) :
    Calls Tryd.prog 6 #[.slice ka kl kc, .slice da dl dc, .int .i64 more] w fun e w' => e = .returned (.bool true) ∧ Below w.heap.size w w' := by
  have HK := Lib.hid hK
  have HD := Lib.hid hD
  have HT := Lib.hid ht
  have HTB := Lib.hid htab
  have HKB := Lib.hid hkb
  clear hK hD ht htab hkb
  go_enter Tryd.func6, Tryd.ntmps6
  go_wp2_with fail
  go_loopw [7, 8, 9] (fun sv wv iv wr => ∃ (i n c : Nat) (a : Option Addr) (str : ByteArray) (pl : List (B × B)) (o : Nat → Nat × Nat), iv = .int .i64 (i : Int) ∧ sv = .string str ∧ wv = .slice a n c ∧ i ≤ 10 ∧ pl.length ≤ i ∧ Hid (Sw w wr str pl a n c o)) (fun _ _ iv _ => 10 - (intOf iv).toNat)
  case atStart => exact ⟨0, 0, 0, none, ⟨#[]⟩, [], o0, rfl, rfl, rfl, by omega, by simp, Lib.hid ⟨Grow.start w, rfl, fun p h => by simp at h⟩⟩
  case round =>
    obtain ⟨i, n, c, a, str, pl, o, rfl, rfl, rfl, hi, hpl, HS⟩ := hrel
    by_cases hgo : i < kl ∧ i < dl ∧ i < 10
    · obtain ⟨h1, h2, h3⟩ := hgo
      have g1 : (i : Int) < (kl : Int) := by omega
      have g2 : (i : Int) < (dl : Int) := by omega
      have g3 : (i : Int) < 10 := by omega
      obtain ⟨kp, koff, rfl, kcc⟩ : ∃ p off, ka = some ⟨p, off, none⟩ ∧ ∀ j, j < kl → wr.cell? ⟨p, off + j, none⟩ = some (.string (K j)) := by
        rcases (HK.out.below HS.out.gr.below) with h | h
        · omega
        · exact h
      obtain ⟨dp, doff, rfl, dcc⟩ : ∃ p off, da = some ⟨p, off, none⟩ ∧ ∀ j, j < dl → wr.cell? ⟨p, off + j, none⟩ = some (.string (D j)) := by
        rcases (HD.out.below HS.out.gr.below) with h | h
        · omega
        · exact h
      have kci := kcc i h1
      have dci := dcc i h2
      have HKS := Lib.hid (HKB.out i h1)
      clear kcc dcc
      obtain ⟨k, hk⟩ : ∃ k, k = K i := ⟨_, rfl⟩
      obtain ⟨d0, hd0⟩ : ∃ d0, d0 = D i := ⟨_, rfl⟩
      rw [← hk] at kci HKS
      rw [← hd0] at dci
      clear hk hd0
      go_wp2_with fail
      go_quiet (fail)
      obtain ⟨W4, hW4⟩ : ∃ W, W = wr.drewN nq := ⟨_, rfl⟩
      have HS4 : Hid (Sw w W4 str pl a n c o) := Lib.hid (by rw [hW4]; exact HS.out.up (below_drewN (Below.refl _ _) nq))
      rw [← hW4]
      clear HS hW4 kci dci
      by_cases hbig : 200 < d0.size
      case' pos =>
        have b1 : decide ((200 : Int) < (d0.size : Int)) = true := by simp; omega
        have sl : ∀ w : World, (Instr.sliceAt 9 (.string d0) none (some (.int .i64 200)) none).run Tryd.prog w = .ok (.string (S ((L d0).take 200))) w := fun w => str_hi d0 200 (by omega) w
        go_wp2_with fail
        obtain ⟨d, hdd⟩ : ∃ d, d = S ((L d0).take 200) := ⟨_, rfl⟩
        rw [← hdd]
        have hd : d.size ≤ 200 := by rw [hdd, S_size, List.length_take]; omega
        clear hdd sl b1 hbig
      case' neg =>
        have b1 : decide ((200 : Int) < (d0.size : Int)) = false := by simp; omega
        go_wp2_with fail
        obtain ⟨d, hdd⟩ : ∃ d, d = d0 := ⟨_, rfl⟩
        rw [← hdd]
        have hd : d.size ≤ 200 := by rw [hdd]; omega
        clear hdd b1 hbig
      all_goals
        refine (rkey_any k HKS.out _).mono ?_
        rintro e w2 ⟨rfl, rfl⟩
        obtain ⟨kb, hkb⟩ : ∃ kb, key (L k) = kb := ⟨_, rfl⟩
        rw [hkb]
        have HKY := Lib.hid hkb
        clear hkb
        cases kb
        case false =>
          go_wp2_with fail
          exact ⟨⟨i + 1, n, c, a, str, pl, o, by go_num, rfl, rfl, by omega, by omega, HS4⟩, by simp [intOf]; omega⟩
        case true =>
          have hks : k.size ≤ 250 := by have := key_len HKY.out; rwa [L_len] at this
          have hss : str.size ≤ 6000 := by have := HS4.out.size; omega
          obtain ⟨s1, e1⟩ : ∃ s', str ++ (⟨#[115, 101, 116, 32]⟩ : ByteArray) = s' := ⟨_, rfl⟩
          obtain ⟨s2, e2⟩ : ∃ s', s1 ++ k = s' := ⟨_, rfl⟩
          obtain ⟨s3, e3⟩ : ∃ s', s2 ++ (⟨#[32, 55, 32, 48, 32]⟩ : ByteArray) = s' := ⟨_, rfl⟩
          have z1 : s1.size ≤ 6004 := by rw [← e1, ByteArray.size_append]; show _ + 4 ≤ _; omega
          have z2 : s2.size ≤ 6254 := by rw [← e2, ByteArray.size_append]; omega
          have z3 : s3.size ≤ 6259 := by rw [← e3, ByteArray.size_append]; show _ + 5 ≤ _; omega
          go_wp2_with fail
          refine (itoa_any d.size (by omega) _ (tabIs_below HTB.out HS4.out.gr.below)).mono ?_
          rintro e w3 ⟨rfl, b3⟩
          obtain ⟨dg, hdg⟩ : ∃ dg, S (Lib.decDigits d.size) = dg := ⟨_, rfl⟩
          have z0 : dg.size ≤ 20 := by rw [← hdg, S_size]; exact (dec_len (by omega)).2
          obtain ⟨s4, e4⟩ : ∃ s', s3 ++ dg = s' := ⟨_, rfl⟩
          obtain ⟨s5, e5⟩ : ∃ s', s4 ++ (⟨#[13, 10]⟩ : ByteArray) = s' := ⟨_, rfl⟩
          obtain ⟨s6, e6⟩ : ∃ s', s5 ++ d = s' := ⟨_, rfl⟩
          obtain ⟨str', e7⟩ : ∃ s', s6 ++ (⟨#[13, 10]⟩ : ByteArray) = s' := ⟨_, rfl⟩
          have z4 : s4.size ≤ 6279 := by rw [← e4, ByteArray.size_append]; omega
          have z5 : s5.size ≤ 6281 := by rw [← e5, ByteArray.size_append]; show _ + 2 ≤ _; omega
          have z6 : s6.size ≤ 6481 := by rw [← e6, ByteArray.size_append]; omega
          obtain ⟨a', c', w', o', hr, S'⟩ := (HS4.out.up b3).step (str' := str') (by omega) HKY.out hd (by rw [hdg, e1, e2, e3, e4, e5, e6, e7])
          rw [hdg]
          clear e1 e2 e3 z1 z2
          have HS' := Lib.hid S'
          clear S' b3 HS4
          go_wp2_with (at_builtin; refine wpList_append_run rfl (.tmp 62) (.tmp 64) 27 27 rfl _ _ _ rfl rfl hr ?_)
          exact ⟨⟨i + 1, n + 1, c', a', str', pl ++ [(L k, L d)], o', by go_num, rfl, rfl, by omega, by simp; omega, HS'⟩, by simp [intOf]; omega⟩
    · have tst : i < kl → i < dl → ¬ i < 10 := fun h1 h2 h3 => hgo ⟨h1, h2, h3⟩
      clear hgo
      obtain ⟨W1, hW1⟩ : ∃ W, W = wr.alloc (.cells ((pz 0).cs (.slice none 0 0) (.slice none 0 0)).toArray 60) := ⟨_, rfl⟩
      have bw := HS.out.gr.below
      obtain ⟨o1, HL1⟩ := Lp.new wr (HT.out.below bw) hW1
      have HL1 := Lib.hid HL1
      have HBW := Lib.hid bw
      have HSZ := HS.out.size
      have HW1 := Lib.hid hW1
      have hnl : n = pl.length := by rw [HS.out.gr.len, List.length_map]
      clear bw hW1
      by_cases h1 : i < kl
      case' neg =>
        have g1 : decide ((i : Int) < (kl : Int)) = false := decide_eq_false (by omega)
        go_wp2_with fail
      case' pos =>
        have g1 : (i : Int) < (kl : Int) := by omega
        by_cases h2 : i < dl
        case' pos =>
          have g2 : (i : Int) < (dl : Int) := by omega
          have g3 : decide ((i : Int) < 10) = false := decide_eq_false (by have := tst h1 h2; omega)
          go_wp2_with fail
        case' neg =>
          have g2 : decide ((i : Int) < (dl : Int)) = false := decide_eq_false (by omega)
          go_wp2_with fail
      all_goals
        refine (new_any wr).mono ?_
        rintro e w1 ⟨rfl, hw1⟩
        have : w1 = W1 := by rw [hw1, HW1.out]
        clear hw1
        subst this
        obtain ⟨P, hP⟩ : ∃ P, P = wr.heap.size := ⟨_, rfl⟩
        rw [← hP] at HL1
        rw [← hP]
        clear HW1 hP
        have ep := eqp P
        obtain ⟨ia, inn, ic, ika, ikn, ikc, ip⟩ := HL1.out.ip
        have HFD := Lib.hid (feed_any (by decide) (7, 1) rfl (okp_pz 0 (.inl rfl)) str (by omega) w1 ip HL1.out.tb)
        clear ip
        go_wp2_with fail
        clear ep
        refine HFD.out.mono ?_
        rintro e w5 ⟨v5, rfl, F5⟩
        obtain ⟨o5, ga, gc, rfl, E5, L5, G5⟩ := HL1.out.fed (p' := pz 0) (l := pl.map fun p => req (sr p.1 p.2) p.2) F5 (by rw [HS.out.eq]; exact feed_stores pl HS.out.ok)
        rw [List.length_map] at E5 ⊢
        obtain ⟨m, hm⟩ : ∃ m, m = pl.length := ⟨_, rfl⟩
        rw [← hm] at E5 hnl ⊢
        subst hnl
        have HM := Lib.hid hm
        have HE5 := Lib.hid E5
        have HB5 : Hid (∃ WB, Lp WB P w5 (pz 0) o5 ∧ Below w.heap.size w WB) := Lib.hid ⟨wr, L5, HBW.out⟩
        have S5 : Strs w5 (.slice a n c) (pl.map (·.2)) := HS.out.gr.strs.below L5.below
        have HS5 := Lib.hid S5
        have hn10 : n ≤ 10 := by omega
        have ne : ((n : Int) != (n : Int)) = false := by simp
        clear E5 L5 G5 S5 F5 HFD hm HL1 HS HSZ hpl hi HBW
        go_wp2_with fail
        go_loopw [14] (fun jv wx => ∃ j q : Nat, j ≤ n ∧ jv = .int .i64 (j : Int) ∧ Hid (wx = w5.drewN q)) (fun jv _ => n - (intOf jv).toNat)
        case atStart => exact ⟨0, 0, by omega, rfl, Lib.hid rfl⟩
        case round =>
          obtain ⟨j, qq, hj, rfl, HX⟩ := hrel
          by_cases hlt : j < n
          · have hi1 : (j : Int) < (n : Int) := by omega
            obtain ⟨p, hp⟩ : ∃ p, pl[j]? = some p := ⟨_, List.getElem?_eq_getElem (by rw [← HM.out]; exact hlt)⟩
            obtain ⟨g, E, rfl, ⟨xa, xn, xc, hE, _⟩, hc⟩ := HE5.out.cell (i := j) (ev := req (sr p.1 p.2) p.2) (by rw [List.getElem?_map, hp]; rfl)
            obtain ⟨g1, q1, rfl, d1⟩ := HS5.out.at_ (i := j) (x := p.2) (by rw [List.getElem?_map, hp]; rfl)
            obtain ⟨dt, hdt⟩ : ∃ dt, dt = S p.2 := ⟨_, rfl⟩
            have p0 : wr.cell? ⟨g, j * 18, none⟩ = some (.int .i64 3) := by rw [HX.out]; exact hc 0 _ (by rw [hE]; rfl)
            have p2 : wr.cell? ⟨g, j * 18 + 2, none⟩ = some (.int .i64 7) := by rw [HX.out]; exact hc 2 _ (by rw [hE]; rfl)
            have p8 : wr.cell? ⟨g, j * 18 + 8, none⟩ = some (.string dt) := by rw [HX.out, hdt]; exact hc 8 _ (by rw [hE]; rfl)
            have p9 : wr.cell? ⟨g1, q1 + j, none⟩ = some (.string dt) := by rw [HX.out, hdt]; exact d1
            have nd : (dt != dt) = false := by show (!(dt.data == dt.data)) = false; simp
            clear hE hc d1 hdt hp
            go_wp2_with fail
            go_quiet (fail)
            go_wp2_with fail
            exact ⟨⟨j + 1, qq + nq, by omega, by go_num, by show _ = _; rw [HX.out, World.drewN_drewN]⟩, by simp [intOf]; omega⟩
          · obtain rfl : j = n := by omega
            have hi1 : decide ((j : Int) < (j : Int)) = false := by simp
            obtain ⟨WB, L5, bw⟩ := HB5.out
            have HL6 : Hid (Lp WB P wr (pz 0) o5) := Lib.hid (by rw [HX.out]; exact L5.up (below_drewN (Below.refl _ _) qq))
            have HBW := Lib.hid bw
            clear HB5 HE5 HS5 HX L5 bw
            go_wp2_with fail
            refine (within_any more 1 50 (by omega) (by omega) (by omega) wr).mono ?_
            rintro e w6 ⟨rfl, rfl⟩
            obtain ⟨b1, b2⟩ := wi_bd more 1 50 (by omega)
            obtain ⟨z, hz⟩ : ∃ z : Nat, wi more 1 50 = ((z + 1 : Nat) : Int) := ⟨(wi more 1 50 - 1).toNat, by omega⟩
            rw [hz] at b1 b2 ⊢
            clear hz
            obtain ⟨Y, hY⟩ : ∃ Y, Y = S (List.replicate (z + 1) 121) := ⟨_, rfl⟩
            have sl := lit_y (z + 1) (by omega)
            rw [← hY] at sl
            have hYs : Y.size ≤ 50 := by rw [hY, S_size, List.length_replicate]; omega
            obtain ⟨s1, e1⟩ : ∃ s1, (⟨#[115, 101, 116, 32, 107, 32, 48, 32, 48, 32, 49, 13, 10, 120]⟩ : ByteArray) ++ Y = s1 := ⟨_, rfl⟩
            have z1 : s1.size ≤ 64 := by rw [← e1, ByteArray.size_append]; show 14 + _ ≤ _; omega
            obtain ⟨str2, hs2⟩ : ∃ s2, s1 ++ (⟨#[13, 10, 118, 101, 114, 115, 105, 111, 110, 13, 10]⟩ : ByteArray) = s2 := ⟨_, rfl⟩
            have HS2 : Hid (L str2 = preM ++ List.replicate (z + 1) 121 ++ postM) := Lib.hid (by rw [← hs2, ← e1, hY, L_append, L_append, L_S]; rfl)
            have hz2 : str2.size ≤ 1000000000 := by rw [← L_len, HS2.out]; simp [preM, postM]; omega
            obtain ⟨ia, inn, ic, ika, ikn, ikc, ip⟩ := HL6.out.ip
            have HFD := Lib.hid (feed_any (by decide) (7, 1) rfl (okp_pz 0 (.inl rfl)) str2 hz2 wr ip HL6.out.tb)
            obtain ⟨zz, hzz⟩ : ∃ zz : Int, zz = ((z + 1 : Nat) : Int) := ⟨_, rfl⟩
            rw [← hzz] at sl ⊢
            clear ip hz2 hY hzz b1 b2
            go_wp2_with fail
            refine HFD.out.mono ?_
            rintro e w7 ⟨v7, rfl, F7⟩
            obtain ⟨o7, ha, hc, rfl, E7, L7, G7⟩ := HL6.out.fed (p' := pz 0) (l := [ans 13 badData, req ⟨14, [], 0, 0, 0, 0, 0, false⟩ []]) F7 (by rw [HS2.out]; exact feed_more z)
            obtain ⟨g5, Y0, h50, ⟨_, _, _, hY0, _⟩, l0⟩ := E7.cell (i := 0) rfl
            obtain ⟨g5', Y1, h51, ⟨_, _, _, hY1, _⟩, l1⟩ := E7.cell (i := 1) rfl
            rw [h50] at h51
            injection h51 with h51
            injection h51 with h51
            subst h51 h50
            have q4 : w7.cell? ⟨g5, 9, none⟩ = some (.int .i64 13) := l0 9 _ (by rw [hY0]; rfl)
            have q6 : w7.cell? ⟨g5, 18, none⟩ = some (.int .i64 14) := l1 0 _ (by rw [hY1]; rfl)
            obtain ⟨ja, jn, jc, jka, jkn, jkc, ip7⟩ := L7.ip
            have HI7 := Lib.hid ip7
            have HN7 : Hid (jn = 0) := Lib.hid ip7.len
            have HT7 : Hid (HasTab w7) := Lib.hid L7.tb.1
            have HB7 : Hid (Below w.heap.size w w7) := Lib.hid (HBW.out.trans (L7.below.mono HBW.out.size))
            clear E7 L7 G7 F7 l0 l1 hY0 hY1 HFD ip7 HL6 sl hs2 e1 z1 hYs
            rw [show ([ans 13 badData, req ⟨14, [], 0, 0, 0, 0, 0, false⟩ []] : List Ev).length = 2 from rfl]
            go_wp2_with fail
            refine (left_any w7 HI7.out).mono ?_
            rintro e w8 ⟨rfl, rfl⟩
            rw [HN7.out]
            rw [show ((0 : Nat) : Int) = 0 from rfl]
            go_wp2_with fail
            refine (runs_any w7 HT7.out).mono ?_
            rintro e w8 ⟨rfl, b8⟩
            have HB8 : Hid (Below w.heap.size w w8) := Lib.hid (HB7.out.trans (b8.mono HB7.out.size))
            clear b8
            go_wp2_with fail
            go_ret
            exact ⟨rfl, HB8.out⟩
end Go.Proofs.YtedbklipbfbmoaaDoor
