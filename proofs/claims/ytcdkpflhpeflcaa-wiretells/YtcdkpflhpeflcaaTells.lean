/-
  WIRETELLS walked: any frame's bytes; any bytes, a frame's turned in one place, cut off, or longer, as a frame; they stay.
-/
import Derived.Test.YtcdkpflhpeflcaaRuns
import Derived.Test.YtcdkpflhpeflcaaRPut
import Derived.Test.YtcdkpflhpeflcaaRGet
import Derived.Test.YtcdkpflhpeflcaaEqs
import Derived.Deep.RegionHeld3
import Derived.Deep.CutRange
namespace Go.Proofs.Ytcdkpflhpeflcaa
open Go.RowKit

/-- Two lists of bytes, of any length. -/
theorem same_ls (a a' : Option Addr) (n n' c c' : Nat) (l l' : List Nat) (hn : n = l.length) (hn' : n' = l'.length) (hl : l.length ≤ 140737488351232) (b : Bool) (hb : b = true ↔ l = l') (w : World) (ra : RowF w a (lf l) n) (rb : RowF w a' (lf l') n') :
    Calls Try.prog 7 #[.slice a n c, .slice a' n' c'] w fun e w' => e = .returned (.bool b) ∧ Below w.heap.size w w' := by
  subst hn hn'
  by_cases h : l = l'
  · subst h
    have hb' : b = true := hb.2 rfl
    subst hb'
    refine (same_any a a' l.length c c' (lf l) (lf l) hl (fun _ _ => rfl) w ra rb).mono ?_
    rintro e w' ⟨rfl, m, rfl⟩
    exact ⟨rfl, below_drewN (Below.refl _ _) m⟩
  · have hb' : b = false := by
      cases b with
      | false => rfl
      | true => exact absurd (hb.1 rfl) h
    subst hb'
    refine (same_no a a' l.length l'.length c c' (lf l) (lf l') (by omega) ?_ w ra rb).mono ?_
    · by_cases h1 : l.length = l'.length
      · refine .inr (Classical.byContradiction fun h2 => h (list_ext h1 fun i hi => ?_))
        exact Classical.byContradiction fun h3 => h2 ⟨i, hi, h3⟩
      · exact .inl h1
    · rintro e w' ⟨rfl, m, rfl⟩
      exact ⟨rfl, below_drewN (Below.refl _ _) m⟩
theorem RowF.like {w : World} {a : Option Addr} {f g : Nat → Nat} {n : Nat} (h : RowF w a f n) (hg : ∀ i, i < n → f i = g i) : RowF w a g n := by
  rcases h with h | ⟨p, off, e, hr⟩
  · exact .inl h
  · exact .inr ⟨p, off, e, fun i hi => by rw [← hg i hi]; exact hr i hi⟩
theorem tmod4 {n : Int} (h : 0 ≤ n) : n.tmod 4 = 0 ∨ n.tmod 4 = 1 ∨ n.tmod 4 = 2 ∨ n.tmod 4 = 3 := by
  rw [Int.tmod_eq_emod_of_nonneg h]; omega
theorem encF_pos (f : F) : 0 < (encF f).length := by
  have := enc_ne (fold f.kind)
  unfold encF
  simp only [encs, F.nums, List.flatMap_cons, List.length_append]
  omega
set_option maxHeartbeats 2000000 in
set_option maxRecDepth 100000 in
theorem tells_walk (f : F) (hf1 : f.key.size ≤ 140737488351232) (hf2 : f.data.size ≤ 140737488351232) (a : Option Addr) (len cap : Nat) (fn : Nat → Nat) (fb : ∀ i, fn i < 256) (hlc : len ≤ cap) (hlen : len ≤ 140737488351232) (pos : Int) (y : Nat) (hy : y < 256) (how : Int) (how1 : -9223372036854775808 ≤ how) (how2 : how ≤ 9223372036854775807) (w : World) (ra : RowF w a fn len) :
    Calls Try.prog 4 #[f.v, .slice a len cap, .int .i64 pos, .int .u8 (y : Int), .int .i64 how] w fun e w' => e = .returned (.bool true) ∧ Below w.heap.size w w' := by
  have LF : Hid (∀ w, Calls Try.prog 9 #[f.v] w fun e w' => e = .returned (.bool (ltF f)) ∧ Below w.heap.size w w') := light_any f hf1 hf2
  have PF : Hid (∀ w, Calls Try.prog 6 #[f.v] w fun e w' => ∃ v, e = .returned v ∧ OwnC w' w.heap.size v (byF f) ∧ Below w.heap.size w w' ∧ (rt f = false → v = .slice none 0 0)) := put_any f
  have QF : Hid (∀ w, Calls Try.prog 11 #[f.v] w fun e w' => ∃ v, e = .returned v ∧ OwnC w' w.heap.size v (byF f) ∧ Below w.heap.size w w' ∧ (rt f = false → v = .slice none 0 0)) := rput_any f
  have RF : Hid (∀ w, Calls Try.prog 15 #[f.v] w fun e w' => e = .returned (.bool (rt f)) ∧ Below w.heap.size w w') := right_any f
  have SF : Hid (∀ w, Calls Try.prog 10 #[f.v] w fun e w' => e = .returned (.bool (rt f)) ∧ Below w.heap.size w w') := rright_any f
  have FB : Hid (∀ i, fn i < 256) := fb
  obtain ⟨f0, f1, f2, f3, f4, f5, f6, f7, f8⟩ := f
  obtain ⟨f, hf⟩ : ∃ f : F, f = ⟨f0, f1, f2, f3, f4, f5, f6, f7, f8⟩ := ⟨_, rfl⟩
  have HF : Hid (f = ⟨f0, f1, f2, f3, f4, f5, f6, f7, f8⟩) := hf
  have vf : (⟨f0, f1, f2, f3, f4, f5, f6, f7, f8⟩ : F).v = .agg #[.int .i64 f0, .int .i64 f1, .int .i64 f2, .int .i64 f3, .int .i64 f4, .int .i64 f5, .string f6, .int .i64 f7, .string f8] := rfl
  rw [vf]
  rw [vf, ← hf] at LF PF RF QF SF
  clear vf hf1 hf2 fb
  have B1 : Hid (Below w.heap.size w (w.alloc (.cells #[.int .i64 f0, .int .i64 f1, .int .i64 f2, .int .i64 f3, .int .i64 f4, .int .i64 f5, .string f6, .int .i64 f7, .string f8] 25))) := (Below.refl _ _).alloc (Nat.le_refl _) _
  have FA : Hid (FrmAt (w.alloc (.cells #[.int .i64 f0, .int .i64 f1, .int .i64 f2, .int .i64 f3, .int .i64 f4, .int .i64 f5, .string f6, .int .i64 f7, .string f8] 25)) w.heap.size f) := FrmAt.new w f _ (by rw [hf]; rfl)
  have RA : Hid (RowF (w.alloc (.cells #[.int .i64 f0, .int .i64 f1, .int .i64 f2, .int .i64 f3, .int .i64 f4, .int .i64 f5, .string f6, .int .i64 f7, .string f8] 25)) a fn len) := ra.below B1.out
  clear hf ra
  go_enter Try.func4, Try.ntmps4
  go_wp2_with fail
  obtain ⟨w1, hw1⟩ : ∃ w1, w1 = w.alloc (.cells #[.int .i64 f0, .int .i64 f1, .int .i64 f2, .int .i64 f3, .int .i64 f4, .int .i64 f5, .string f6, .int .i64 f7, .string f8] 25) := ⟨_, rfl⟩
  obtain ⟨A, hA⟩ : ∃ A, A = w.heap.size := ⟨_, rfl⟩
  rw [← hw1] at B1 FA RA ⊢
  rw [← hA] at FA ⊢
  clear hw1 hA
  refine (LF.out _).mono ?_
  rintro e w2 ⟨rfl, b2⟩
  have FA2 : Hid (FrmAt w2 A f) := FA.out.up b2
  have RA2 : Hid (RowF w2 a fn len) := RA.out.below b2
  have B2 : Hid (Below w.heap.size w w2) := B1.out.trans (b2.mono B1.out.size)
  clear b2 FA RA B1 LF
  cases hl : ltF f
  · go_wp2_with fail
    refine (runs_any _).mono ?_
    rintro e w3 ⟨rfl, b3⟩
    have B3 : Hid (Below w.heap.size w w3) := B2.out.trans (b3.mono B2.out.size)
    clear b3
    go_wp2_with fail
    go_ret
    exact ⟨rfl, B3.out⟩
  have hsf : f.key.size + f.data.size < 2000 := by
    unfold ltF at hl
    have := of_decide_eq_true hl
    omega
  have HSF : Hid (f.key.size + f.data.size < 2000) := hsf
  clear hl hsf
  by_cases h500 : 500 < len
  · have j5 : (500 : Int) < (len : Int) := by omega
    go_wp2_with fail
    refine (runs_any _).mono ?_
    rintro e w3 ⟨rfl, b3⟩
    have B3 : Hid (Below w.heap.size w w3) := B2.out.trans (b3.mono B2.out.size)
    clear b3
    go_wp2_with fail
    go_ret
    exact ⟨rfl, B3.out⟩
  have j5 : decide ((500 : Int) < (len : Int)) = false := by simp; omega
  obtain ⟨bb, hbb⟩ : ∃ bb : Bool, bb = (rt f && decide (0 ≤ how)) := ⟨_, rfl⟩
  have HBB : Hid (bb = (rt f && decide (0 ≤ how))) := hbb
  clear hbb
  go_upto_region 4 with fail
  go_cut [33] from 28 to 33 (fun v wx => v = .bool bb ∧ Hid (FrmAt wx A f) ∧ Hid (RowF wx a fn len) ∧ Hid (Below w.heap.size w wx))
  case first =>
    have u0 : w2.cell? ⟨A, 0, none⟩ = some (.int .i64 f0) := FA2.out.cells 0 _ (by rw [HF.out]; rfl)
    have u1 : w2.cell? ⟨A, 1, none⟩ = some (.int .i64 f1) := FA2.out.cells 1 _ (by rw [HF.out]; rfl)
    have u2 : w2.cell? ⟨A, 2, none⟩ = some (.int .i64 f2) := FA2.out.cells 2 _ (by rw [HF.out]; rfl)
    have u3 : w2.cell? ⟨A, 3, none⟩ = some (.int .i64 f3) := FA2.out.cells 3 _ (by rw [HF.out]; rfl)
    have u4 : w2.cell? ⟨A, 4, none⟩ = some (.int .i64 f4) := FA2.out.cells 4 _ (by rw [HF.out]; rfl)
    have u5 : w2.cell? ⟨A, 5, none⟩ = some (.int .i64 f5) := FA2.out.cells 5 _ (by rw [HF.out]; rfl)
    have u6 : w2.cell? ⟨A, 6, none⟩ = some (.string f6) := FA2.out.cells 6 _ (by rw [HF.out]; rfl)
    have u7 : w2.cell? ⟨A, 7, none⟩ = some (.int .i64 f7) := FA2.out.cells 7 _ (by rw [HF.out]; rfl)
    have u8 : w2.cell? ⟨A, 8, none⟩ = some (.string f8) := FA2.out.cells 8 _ (by rw [HF.out]; rfl)
    go_wp2_with fail
    refine (SF.out _).mono ?_
    rintro e w3 ⟨rfl, b3⟩
    have FA3 : Hid (FrmAt w3 A f) := FA2.out.up b3
    have RA3 : Hid (RowF w3 a fn len) := RA2.out.below b3
    have B3 : Hid (Below w.heap.size w w3) := B2.out.trans (b3.mono B2.out.size)
    clear b3 FA2 RA2 B2 u0 u1 u2 u3 u4 u5 u6 u7 u8
    cases hr : rt f
    · have e1 : bb = false := by rw [HBB.out, hr]; rfl
      subst e1
      go_wp2_with fail
      go_meet
      exact ⟨rfl, FA3, RA3, B3⟩
    · by_cases h0 : 0 ≤ how
      · have e1 : bb = true := by rw [HBB.out, hr]; simpa using h0
        subst e1
        go_wp2_with fail
        go_meet
        exact ⟨rfl, FA3, RA3, B3⟩
      · have e1 : bb = false := by rw [HBB.out, hr]; simpa using h0
        subst e1
        have j0 : decide ((0 : Int) ≤ how) = false := by simp; omega
        go_wp2_with fail
        go_meet
        exact ⟨rfl, FA3, RA3, B3⟩
  case rest =>
    obtain ⟨rfl, FA3, RA3, B3⟩ := hcut
    clear FA2 RA2 B2
    obtain ⟨w3, hw3⟩ : ∃ w3, w3 = wc := ⟨_, rfl⟩
    rw [← hw3] at FA3 RA3 B3 ⊢
    clear hw3
    go_upto_if 33 with fail
    go_cut [11] from 12 to 59 (fun v wx => ∃ (b : Option Addr) (m c : Nat) (gn : Nat → Nat), v = .slice b m c ∧ m ≤ c ∧ m ≤ 4000 ∧ Hid (∀ i, gn i < 256) ∧ Hid (RowF wx b gn m) ∧ Hid (FrmAt wx A f) ∧ Hid (Below w.heap.size w wx))
    case first =>
      cases bb with
      | false =>
        go_wp2_with fail
        go_meet
        exact ⟨a, len, cap, fn, rfl, hlc, by omega, FB, RA3, FA3, B3⟩
      | true =>
        have hb := HBB.out.symm
        rw [Bool.and_eq_true] at hb
        have hr := hb.1
        have h0 : 0 ≤ how := of_decide_eq_true hb.2
        have HY : Hid (byF f = encF f) := by show _ = _; unfold byF; rw [if_pos hr]
        have hm2 : (encF f).length ≤ 3000 := by
          have e1 := encF_len f hr
          have e3 := HSF.out
          omega
        have hm0 := encF_pos f
        have HFB : Hid (∀ i, lf (encF f) i < 256) := encF_lt f
        clear hb hr
        have u0 : w3.cell? ⟨A, 0, none⟩ = some (.int .i64 f0) := FA3.out.cells 0 _ (by rw [HF.out]; rfl)
        have u1 : w3.cell? ⟨A, 1, none⟩ = some (.int .i64 f1) := FA3.out.cells 1 _ (by rw [HF.out]; rfl)
        have u2 : w3.cell? ⟨A, 2, none⟩ = some (.int .i64 f2) := FA3.out.cells 2 _ (by rw [HF.out]; rfl)
        have u3 : w3.cell? ⟨A, 3, none⟩ = some (.int .i64 f3) := FA3.out.cells 3 _ (by rw [HF.out]; rfl)
        have u4 : w3.cell? ⟨A, 4, none⟩ = some (.int .i64 f4) := FA3.out.cells 4 _ (by rw [HF.out]; rfl)
        have u5 : w3.cell? ⟨A, 5, none⟩ = some (.int .i64 f5) := FA3.out.cells 5 _ (by rw [HF.out]; rfl)
        have u6 : w3.cell? ⟨A, 6, none⟩ = some (.string f6) := FA3.out.cells 6 _ (by rw [HF.out]; rfl)
        have u7 : w3.cell? ⟨A, 7, none⟩ = some (.int .i64 f7) := FA3.out.cells 7 _ (by rw [HF.out]; rfl)
        have u8 : w3.cell? ⟨A, 8, none⟩ = some (.string f8) := FA3.out.cells 8 _ (by rw [HF.out]; rfl)
        go_wp2_with fail
        refine (QF.out _).mono ?_
        rintro e w4 ⟨v4, rfl, o4, b4, _⟩
        rw [HY.out] at o4
        obtain ⟨l, hl⟩ : ∃ l, l = encF f := ⟨_, rfl⟩
        rw [← hl] at o4 hm2 hm0 HFB
        clear hl HY u0 u1 u2 u3 u4 u5 u6 u7 u8
        obtain ⟨m, hm⟩ : ∃ m, m = l.length := ⟨_, rfl⟩
        rw [← hm] at hm2 hm0
        have HM : Hid (m = l.length) := hm
        obtain ⟨g, c4, hv4, hg1, hg2, hg3, hg4, hg5, hg6⟩ : ∃ g c, v4 = .slice (some ⟨g, 0, none⟩) m c ∧ w3.heap.size ≤ g ∧ g < w4.heap.size ∧ m ≤ c ∧ c ≤ maxLen ∧ (∀ j, j < m → w4.cell? ⟨g, j, none⟩ = some (.int .u8 ((lf l j : Nat) : Int))) ∧ ∀ j, j < c → (w4.cell? ⟨g, j, none⟩).isSome = true ∧ w4.frozen? ⟨g, j, none⟩ = false := by
          rcases o4 with ⟨_, h2⟩ | ⟨g, c, h1, h2, h3, h4, h5, h6, h7⟩
          · exfalso; rw [h2] at hm; simp at hm; omega
          · rw [← hm] at h1 h4 h6; exact ⟨g, c, h1, h2, h3, h4, h5, h6, h7⟩
        have O4 : Hid (OwnC w4 w3.heap.size v4 l) := o4
        rw [hv4]
        have HV4 : Hid (v4 = .slice (some ⟨g, 0, none⟩) m c4) := hv4
        have HG1 : Hid (w3.heap.size ≤ g) := hg1
        have HG5 : Hid (∀ j, j < m → w4.cell? ⟨g, j, none⟩ = some (.int .u8 ((lf l j : Nat) : Int))) := hg5
        have HG6 : Hid (∀ j, j < c4 → (w4.cell? ⟨g, j, none⟩).isSome = true ∧ w4.frozen? ⟨g, j, none⟩ = false) := hg6
        have HB4 : Hid (Below w3.heap.size w3 w4) := b4
        clear o4 b4 hv4 hg1 hg2 hg4 hg5 hg6 hm
        go_wp2_with fail
        refine (within_c pos 0 ((m : Int) - 1) (m - 1) rfl (by omega) (by omega) _).mono ?_
        rintro e w5 ⟨⟨k, hk, rfl⟩, rfl⟩
        have R4 : Hid (RowF w5 (some ⟨g, 0, none⟩) (lf l) m) := .inr ⟨g, 0, rfl, fun i hi => by rw [Nat.zero_add]; exact HG5.out i hi⟩
        have hkm : k < m := by omega
        rcases tmod4 h0 with t4 | t4 | t4 | t4
        · have ck := HG5.out k hkm
          have zk := (HG6.out k (by omega)).2
          have j1 : (k : Int) < (m : Int) := by omega
          have HB5 : Hid (Below w3.heap.size w3 (w5.setCell ⟨g, k, none⟩ (.int .u8 (y : Int)))) := HB4.out.setCell (p := ⟨g, k, none⟩) HG1.out _
          have R5 : Hid (RowF (w5.setCell ⟨g, k, none⟩ (.int .u8 (y : Int))) (some ⟨g, 0, none⟩) (fun i => if i = k then y else lf l i) m) := .inr ⟨g, 0, rfl, fun i hi => by
            rw [Nat.zero_add]
            by_cases e : i = k
            · subst e; rw [World.cell?_setCell_same _ _ _ ck]; simp
            · rw [World.cell?_setCell_other _ _ _ _ (fun x => by injection x with _ x _; exact e x.symm)]; simp only [if_neg e]; exact HG5.out i hi⟩
          go_wp2_with fail
          go_meet
          refine ⟨_, m, c4, _, rfl, hg3, by omega, ?_, R5, FA3.out.up HB5.out, B3.out.trans (HB5.out.mono B3.out.size)⟩
          intro i
          show (if i = k then y else lf l i) < 256
          split
          · exact hy
          · exact HFB.out i
        · have sh := slice_hi (some ⟨g, 0, none⟩) m c4 k (by omega)
          obtain ⟨sa, hsa⟩ : ∃ sa, sa = sl (some ⟨g, 0, none⟩) 0 c4 := ⟨_, rfl⟩
          rw [← hsa] at sh
          have R5 : Hid (RowF w5 sa (lf l) k) := by rw [hsa]; exact R4.out.head k c4 (by omega) hg3
          clear hsa
          go_wp2_with fail
          go_meet
          exact ⟨sa, k, c4, lf l, rfl, by omega, by omega, HFB, R5, FA3.out.up HB4.out, B3.out.trans (HB4.out.mono B3.out.size)⟩
        · obtain ⟨v6, w6, hrun, o6, b6⟩ := app_one y O4.out HB4.out.size (by rw [← HM.out]; omega)
          rw [HV4.out] at hrun
          obtain ⟨p6, c6, hv6, hc6, r6⟩ := o6.row
          subst hv6
          rw [List.length_append, List.length_singleton, ← HM.out] at hrun r6 hc6
          have HB6 : Hid (Below w3.heap.size w3 w6) := HB4.out.trans b6
          have R6 : Hid (RowF w6 p6 (lf (l ++ [y])) (m + 1)) := r6
          clear o6 b6 r6
          go_wp2_with (at_builtin; refine wpList_append_run rfl _ _ 22 22 rfl _ _ _ rfl rfl hrun ?_)
          go_meet
          refine ⟨p6, m + 1, c6, lf (l ++ [y]), rfl, hc6, by omega, ?_, R6, FA3.out.up HB6.out, B3.out.trans (HB6.out.mono B3.out.size)⟩
          intro i
          by_cases e : i < l.length
          · rw [lf_left e]; exact HFB.out i
          · obtain ⟨d, rfl⟩ : ∃ d, i = l.length + d := ⟨i - l.length, by omega⟩
            rw [lf_right]
            rcases d with _ | d
            · exact hy
            · rw [lf_out (by simp)]; decide
        · go_wp2_with fail
          go_meet
          exact ⟨_, m, c4, lf l, rfl, hg3, by omega, HFB, R4, FA3.out.up HB4.out, B3.out.trans (HB4.out.mono B3.out.size)⟩
    case rest =>
      obtain ⟨b, m, c, gn, rfl, hmc, hm, GB, RB, FA4, B4⟩ := hcut
      clear FA3 RA3 B3 FB hlc hlen h500 j5 HBB how1 how2
      go_wp2_with fail
      refine (roomy_any b m c 3 _ gn rfl (by omega) _ RB.out).mono ?_
      rintro e w5 ⟨rfl, rg5, b5⟩
      obtain ⟨G, hG⟩ : ∃ G, G = wc.heap.size := ⟨_, rfl⟩
      rw [← hG] at rg5 ⊢
      clear hG
      have RG5 : Hid (RowF w5 (some ⟨G, 0, none⟩) (roomF gn m 3) (m + 80)) := rg5
      have RB5 : Hid (RowF w5 b gn m) := RB.out.below b5
      have FA5 : Hid (FrmAt w5 A f) := FA4.out.up b5
      have B5 : Hid (Below w.heap.size w w5) := B4.out.trans (b5.mono B4.out.size)
      have sh := slice_hi (some ⟨G, 0, none⟩) (m + 80) (m + 80) m (by omega)
      obtain ⟨sa, hsa⟩ : ∃ sa, sa = sl (some ⟨G, 0, none⟩) 0 (m + 80) := ⟨_, rfl⟩
      rw [← hsa] at sh
      have RS : Hid (RowF w5 sa gn m) := by
        rw [hsa]
        exact (rg5.head m (m + 80) (by omega) (by omega)).like (fun i hi => by unfold roomF; rw [if_pos hi])
      clear rg5 b5 hsa RB FA4 B4
      go_wp2_with fail
      refine (get_any sa m (m + 80) gn GB.out (by omega) _ RS.out).mono ?_
      rintro e w6 ⟨rfl, b6⟩
      have RR : Hid (∀ w : World, RowF w b gn m → Calls Try.prog 14 #[.slice b m c] w fun e w' => e = .returned (.tuple #[(gt gn m).1.v, .int .i64 (((gt gn m).2 : Nat) : Int)]) ∧ Below w.heap.size w w') := fun w hr => rget_any b m c gn GB.out (by omega) hmc w hr
      obtain ⟨q, hq⟩ : ∃ q, q = gt gn m := ⟨_, rfl⟩
      rw [← hq] at RR ⊢
      clear hq
      obtain ⟨x, d⟩ := q
      obtain ⟨x0, x1, x2, x3, x4, x5, x6, x7, x8⟩ := x
      obtain ⟨x, hx⟩ : ∃ x : F, x = ⟨x0, x1, x2, x3, x4, x5, x6, x7, x8⟩ := ⟨_, rfl⟩
      have HX : Hid (x = ⟨x0, x1, x2, x3, x4, x5, x6, x7, x8⟩) := hx
      simp only [F.v, F.cs] at RR ⊢
      have EQX : ∀ w, (binOp .eql 25 (.agg #[.int .i64 x0, .int .i64 x1, .int .i64 x2, .int .i64 x3, .int .i64 x4, .int .i64 x5, .string x6, .int .i64 x7, .string x8]) (.agg #[.int .i64 x0, .int .i64 x1, .int .i64 x2, .int .i64 x3, .int .i64 x4, .int .i64 x5, .string x6, .int .i64 x7, .string x8])).run Try.prog w = .ok (.bool true) w := fun w => eql25 w ⟨x0, x1, x2, x3, x4, x5, x6, x7, x8⟩ ⟨x0, x1, x2, x3, x4, x5, x6, x7, x8⟩ true (by simp)
      have b7 : Below w5.heap.size w5 (w6.alloc (.cells #[.int .i64 x0, .int .i64 x1, .int .i64 x2, .int .i64 x3, .int .i64 x4, .int .i64 x5, .string x6, .int .i64 x7, .string x8] 25)) := b6.alloc b6.size _
      have FX7 : Hid (FrmAt (w6.alloc (.cells #[.int .i64 x0, .int .i64 x1, .int .i64 x2, .int .i64 x3, .int .i64 x4, .int .i64 x5, .string x6, .int .i64 x7, .string x8] 25)) w6.heap.size x) := FrmAt.new w6 x _ (by rw [hx]; rfl)
      have FA7 : Hid (FrmAt (w6.alloc (.cells #[.int .i64 x0, .int .i64 x1, .int .i64 x2, .int .i64 x3, .int .i64 x4, .int .i64 x5, .string x6, .int .i64 x7, .string x8] 25)) A f) := FA5.out.up b7
      have RB7 : Hid (RowF (w6.alloc (.cells #[.int .i64 x0, .int .i64 x1, .int .i64 x2, .int .i64 x3, .int .i64 x4, .int .i64 x5, .string x6, .int .i64 x7, .string x8] 25)) b gn m) := RB5.out.below b7
      have RG7 : Hid (RowF (w6.alloc (.cells #[.int .i64 x0, .int .i64 x1, .int .i64 x2, .int .i64 x3, .int .i64 x4, .int .i64 x5, .string x6, .int .i64 x7, .string x8] 25)) (some ⟨G, 0, none⟩) (roomF gn m 3) (m + 80)) := RG5.out.below b7
      have B7 : Hid (Below w.heap.size w (w6.alloc (.cells #[.int .i64 x0, .int .i64 x1, .int .i64 x2, .int .i64 x3, .int .i64 x4, .int .i64 x5, .string x6, .int .i64 x7, .string x8] 25))) := B5.out.trans (b7.mono B5.out.size)
      clear b6 b7 RS RB5 RG5 FA5 B5 sh
      go_wp2_with fail
      obtain ⟨w7, hw7⟩ : ∃ w7, w7 = w6.alloc (.cells #[.int .i64 x0, .int .i64 x1, .int .i64 x2, .int .i64 x3, .int .i64 x4, .int .i64 x5, .string x6, .int .i64 x7, .string x8] 25) := ⟨_, rfl⟩
      obtain ⟨C, hC⟩ : ∃ C, C = w6.heap.size := ⟨_, rfl⟩
      rw [← hw7] at FX7 FA7 RB7 RG7 B7 ⊢
      rw [← hC] at FX7 ⊢
      clear hw7 hC
      refine (RR.out _ RB7.out).mono ?_
      rintro e w8 ⟨rfl, b8⟩
      have b9 : Below w7.heap.size w7 (w8.alloc (.cells #[.int .i64 x0, .int .i64 x1, .int .i64 x2, .int .i64 x3, .int .i64 x4, .int .i64 x5, .string x6, .int .i64 x7, .string x8] 25)) := b8.alloc b8.size _
      have FY9 : Hid (FrmAt (w8.alloc (.cells #[.int .i64 x0, .int .i64 x1, .int .i64 x2, .int .i64 x3, .int .i64 x4, .int .i64 x5, .string x6, .int .i64 x7, .string x8] 25)) w8.heap.size x) := FrmAt.new w8 x _ (by rw [hx]; rfl)
      have FX9 : Hid (FrmAt (w8.alloc (.cells #[.int .i64 x0, .int .i64 x1, .int .i64 x2, .int .i64 x3, .int .i64 x4, .int .i64 x5, .string x6, .int .i64 x7, .string x8] 25)) C x) := FX7.out.up b9
      have FA9 : Hid (FrmAt (w8.alloc (.cells #[.int .i64 x0, .int .i64 x1, .int .i64 x2, .int .i64 x3, .int .i64 x4, .int .i64 x5, .string x6, .int .i64 x7, .string x8] 25)) A f) := FA7.out.up b9
      have RB9 : Hid (RowF (w8.alloc (.cells #[.int .i64 x0, .int .i64 x1, .int .i64 x2, .int .i64 x3, .int .i64 x4, .int .i64 x5, .string x6, .int .i64 x7, .string x8] 25)) b gn m) := RB7.out.below b9
      have RG9 : Hid (RowF (w8.alloc (.cells #[.int .i64 x0, .int .i64 x1, .int .i64 x2, .int .i64 x3, .int .i64 x4, .int .i64 x5, .string x6, .int .i64 x7, .string x8] 25)) (some ⟨G, 0, none⟩) (roomF gn m 3) (m + 80)) := RG7.out.below b9
      have B9 : Hid (Below w.heap.size w (w8.alloc (.cells #[.int .i64 x0, .int .i64 x1, .int .i64 x2, .int .i64 x3, .int .i64 x4, .int .i64 x5, .string x6, .int .i64 x7, .string x8] 25))) := B7.out.trans (b9.mono B7.out.size)
      clear b8 b9 RB7 RG7 FA7 FX7 B7 hx RR
      go_wp2_with fail
      obtain ⟨w9, hw9⟩ : ∃ w9, w9 = w8.alloc (.cells #[.int .i64 x0, .int .i64 x1, .int .i64 x2, .int .i64 x3, .int .i64 x4, .int .i64 x5, .string x6, .int .i64 x7, .string x8] 25) := ⟨_, rfl⟩
      obtain ⟨D, hD⟩ : ∃ D, D = w8.heap.size := ⟨_, rfl⟩
      rw [← hw9] at FY9 FX9 FA9 RB9 RG9 B9 ⊢
      rw [← hD] at FY9 ⊢
      clear hw9 hD
      obtain ⟨rb, hrb⟩ : ∃ rb, rb = rt f := ⟨_, rfl⟩
      have HRB : Hid (rt f = rb) := hrb.symm
      have rbq : (rb == rb) = true := by simp
      have ddq : ((d : Int) == (d : Int)) = true := by simp
      obtain ⟨l, hl⟩ : ∃ l, l = byF f := ⟨_, rfl⟩
      have hll : l.length ≤ 3000 := by
        rw [hl]
        unfold byF
        split
        · rename_i hr
          have e1 := encF_len f hr
          have e3 := HSF.out
          omega
        · simp
      rw [← hl] at PF QF
      obtain ⟨n, hn⟩ : ∃ n, n = l.length := ⟨_, rfl⟩
      have HN : Hid (n = l.length) := hn
      have HLL : Hid (l.length ≤ 140737488351232) := by show _ ≤ _; omega
      have bD : Below w9.heap.size w9 w9.drew := (Below.refl _ _).drew
      have FYD : Hid (FrmAt w9.drew D x) := FY9.out.up bD
      have FXD : Hid (FrmAt w9.drew C x) := FX9.out.up bD
      have FAD : Hid (FrmAt w9.drew A f) := FA9.out.up bD
      have RBD : Hid (RowF w9.drew b gn m) := RB9.out.below bD
      have RGD : Hid (RowF w9.drew (some ⟨G, 0, none⟩) (roomF gn m 3) (m + 80)) := RG9.out.below bD
      have BD : Hid (Below w.heap.size w w9.drew) := B9.out.trans (bD.mono B9.out.size)
      have S0 : w9.drew.cell? ⟨A, 0, none⟩ = some (.int .i64 f0) ∧ w9.drew.cell? ⟨A, 1, none⟩ = some (.int .i64 f1) ∧ w9.drew.cell? ⟨A, 2, none⟩ = some (.int .i64 f2) ∧ w9.drew.cell? ⟨A, 3, none⟩ = some (.int .i64 f3) ∧ w9.drew.cell? ⟨A, 4, none⟩ = some (.int .i64 f4) ∧ w9.drew.cell? ⟨A, 5, none⟩ = some (.int .i64 f5) ∧ w9.drew.cell? ⟨A, 6, none⟩ = some (.string f6) ∧ w9.drew.cell? ⟨A, 7, none⟩ = some (.int .i64 f7) ∧ w9.drew.cell? ⟨A, 8, none⟩ = some (.string f8) ∧ w9.drew.cell? ⟨C, 0, none⟩ = some (.int .i64 x0) ∧ w9.drew.cell? ⟨C, 1, none⟩ = some (.int .i64 x1) ∧ w9.drew.cell? ⟨C, 2, none⟩ = some (.int .i64 x2) ∧ w9.drew.cell? ⟨C, 3, none⟩ = some (.int .i64 x3) ∧ w9.drew.cell? ⟨C, 4, none⟩ = some (.int .i64 x4) ∧ w9.drew.cell? ⟨C, 5, none⟩ = some (.int .i64 x5) ∧ w9.drew.cell? ⟨C, 6, none⟩ = some (.string x6) ∧ w9.drew.cell? ⟨C, 7, none⟩ = some (.int .i64 x7) ∧ w9.drew.cell? ⟨C, 8, none⟩ = some (.string x8) ∧ w9.drew.cell? ⟨D, 0, none⟩ = some (.int .i64 x0) ∧ w9.drew.cell? ⟨D, 1, none⟩ = some (.int .i64 x1) ∧ w9.drew.cell? ⟨D, 2, none⟩ = some (.int .i64 x2) ∧ w9.drew.cell? ⟨D, 3, none⟩ = some (.int .i64 x3) ∧ w9.drew.cell? ⟨D, 4, none⟩ = some (.int .i64 x4) ∧ w9.drew.cell? ⟨D, 5, none⟩ = some (.int .i64 x5) ∧ w9.drew.cell? ⟨D, 6, none⟩ = some (.string x6) ∧ w9.drew.cell? ⟨D, 7, none⟩ = some (.int .i64 x7) ∧ w9.drew.cell? ⟨D, 8, none⟩ = some (.string x8) := ⟨FAD.out.cells 0 _ (by rw [HF.out]; rfl), FAD.out.cells 1 _ (by rw [HF.out]; rfl), FAD.out.cells 2 _ (by rw [HF.out]; rfl), FAD.out.cells 3 _ (by rw [HF.out]; rfl), FAD.out.cells 4 _ (by rw [HF.out]; rfl), FAD.out.cells 5 _ (by rw [HF.out]; rfl), FAD.out.cells 6 _ (by rw [HF.out]; rfl), FAD.out.cells 7 _ (by rw [HF.out]; rfl), FAD.out.cells 8 _ (by rw [HF.out]; rfl), FXD.out.cells 0 _ (by rw [HX.out]; rfl), FXD.out.cells 1 _ (by rw [HX.out]; rfl), FXD.out.cells 2 _ (by rw [HX.out]; rfl), FXD.out.cells 3 _ (by rw [HX.out]; rfl), FXD.out.cells 4 _ (by rw [HX.out]; rfl), FXD.out.cells 5 _ (by rw [HX.out]; rfl), FXD.out.cells 6 _ (by rw [HX.out]; rfl), FXD.out.cells 7 _ (by rw [HX.out]; rfl), FXD.out.cells 8 _ (by rw [HX.out]; rfl), FYD.out.cells 0 _ (by rw [HX.out]; rfl), FYD.out.cells 1 _ (by rw [HX.out]; rfl), FYD.out.cells 2 _ (by rw [HX.out]; rfl), FYD.out.cells 3 _ (by rw [HX.out]; rfl), FYD.out.cells 4 _ (by rw [HX.out]; rfl), FYD.out.cells 5 _ (by rw [HX.out]; rfl), FYD.out.cells 6 _ (by rw [HX.out]; rfl), FYD.out.cells 7 _ (by rw [HX.out]; rfl), FYD.out.cells 8 _ (by rw [HX.out]; rfl)⟩
      clear bD FY9 FX9 FA9 RB9 RG9 B9 hrb hl hll hn HSF
      go_region_held3 (fun w' => w'.cell? ⟨A, 0, none⟩ = some (.int .i64 f0) ∧ w'.cell? ⟨A, 1, none⟩ = some (.int .i64 f1) ∧ w'.cell? ⟨A, 2, none⟩ = some (.int .i64 f2) ∧ w'.cell? ⟨A, 3, none⟩ = some (.int .i64 f3) ∧ w'.cell? ⟨A, 4, none⟩ = some (.int .i64 f4) ∧ w'.cell? ⟨A, 5, none⟩ = some (.int .i64 f5) ∧ w'.cell? ⟨A, 6, none⟩ = some (.string f6) ∧ w'.cell? ⟨A, 7, none⟩ = some (.int .i64 f7) ∧ w'.cell? ⟨A, 8, none⟩ = some (.string f8) ∧ w'.cell? ⟨C, 0, none⟩ = some (.int .i64 x0) ∧ w'.cell? ⟨C, 1, none⟩ = some (.int .i64 x1) ∧ w'.cell? ⟨C, 2, none⟩ = some (.int .i64 x2) ∧ w'.cell? ⟨C, 3, none⟩ = some (.int .i64 x3) ∧ w'.cell? ⟨C, 4, none⟩ = some (.int .i64 x4) ∧ w'.cell? ⟨C, 5, none⟩ = some (.int .i64 x5) ∧ w'.cell? ⟨C, 6, none⟩ = some (.string x6) ∧ w'.cell? ⟨C, 7, none⟩ = some (.int .i64 x7) ∧ w'.cell? ⟨C, 8, none⟩ = some (.string x8) ∧ w'.cell? ⟨D, 0, none⟩ = some (.int .i64 x0) ∧ w'.cell? ⟨D, 1, none⟩ = some (.int .i64 x1) ∧ w'.cell? ⟨D, 2, none⟩ = some (.int .i64 x2) ∧ w'.cell? ⟨D, 3, none⟩ = some (.int .i64 x3) ∧ w'.cell? ⟨D, 4, none⟩ = some (.int .i64 x4) ∧ w'.cell? ⟨D, 5, none⟩ = some (.int .i64 x5) ∧ w'.cell? ⟨D, 6, none⟩ = some (.string x6) ∧ w'.cell? ⟨D, 7, none⟩ = some (.int .i64 x7) ∧ w'.cell? ⟨D, 8, none⟩ = some (.string x8))
        (first | with_reducible exact S0 | with_reducible exact S10 | with_reducible exact S11 | with_reducible exact S12 | with_reducible exact S13 | with_reducible exact S14 | with_reducible exact S15 | with_reducible exact S16)
        (first
          | (go_at_call 15; refine (RF.out _).mono ?_; rintro e w10 ⟨rfl, b10⟩; rw [HRB.out]; have FA10 : Hid (FrmAt w10 A f) := FAD.out.up b10; have FX10 : Hid (FrmAt w10 C x) := FXD.out.up b10; have FY10 : Hid (FrmAt w10 D x) := FYD.out.up b10; have RB10 : Hid (RowF w10 b gn m) := RBD.out.below b10; have RG10 : Hid (RowF w10 (some ⟨G, 0, none⟩) (roomF gn m 3) (m + 80)) := RGD.out.below b10; have B10 : Hid (Below w.heap.size w w10) := BD.out.trans (b10.mono BD.out.size); have S10 : w10.cell? ⟨A, 0, none⟩ = some (.int .i64 f0) ∧ w10.cell? ⟨A, 1, none⟩ = some (.int .i64 f1) ∧ w10.cell? ⟨A, 2, none⟩ = some (.int .i64 f2) ∧ w10.cell? ⟨A, 3, none⟩ = some (.int .i64 f3) ∧ w10.cell? ⟨A, 4, none⟩ = some (.int .i64 f4) ∧ w10.cell? ⟨A, 5, none⟩ = some (.int .i64 f5) ∧ w10.cell? ⟨A, 6, none⟩ = some (.string f6) ∧ w10.cell? ⟨A, 7, none⟩ = some (.int .i64 f7) ∧ w10.cell? ⟨A, 8, none⟩ = some (.string f8) ∧ w10.cell? ⟨C, 0, none⟩ = some (.int .i64 x0) ∧ w10.cell? ⟨C, 1, none⟩ = some (.int .i64 x1) ∧ w10.cell? ⟨C, 2, none⟩ = some (.int .i64 x2) ∧ w10.cell? ⟨C, 3, none⟩ = some (.int .i64 x3) ∧ w10.cell? ⟨C, 4, none⟩ = some (.int .i64 x4) ∧ w10.cell? ⟨C, 5, none⟩ = some (.int .i64 x5) ∧ w10.cell? ⟨C, 6, none⟩ = some (.string x6) ∧ w10.cell? ⟨C, 7, none⟩ = some (.int .i64 x7) ∧ w10.cell? ⟨C, 8, none⟩ = some (.string x8) ∧ w10.cell? ⟨D, 0, none⟩ = some (.int .i64 x0) ∧ w10.cell? ⟨D, 1, none⟩ = some (.int .i64 x1) ∧ w10.cell? ⟨D, 2, none⟩ = some (.int .i64 x2) ∧ w10.cell? ⟨D, 3, none⟩ = some (.int .i64 x3) ∧ w10.cell? ⟨D, 4, none⟩ = some (.int .i64 x4) ∧ w10.cell? ⟨D, 5, none⟩ = some (.int .i64 x5) ∧ w10.cell? ⟨D, 6, none⟩ = some (.string x6) ∧ w10.cell? ⟨D, 7, none⟩ = some (.int .i64 x7) ∧ w10.cell? ⟨D, 8, none⟩ = some (.string x8) := ⟨FA10.out.cells 0 _ (by rw [HF.out]; rfl), FA10.out.cells 1 _ (by rw [HF.out]; rfl), FA10.out.cells 2 _ (by rw [HF.out]; rfl), FA10.out.cells 3 _ (by rw [HF.out]; rfl), FA10.out.cells 4 _ (by rw [HF.out]; rfl), FA10.out.cells 5 _ (by rw [HF.out]; rfl), FA10.out.cells 6 _ (by rw [HF.out]; rfl), FA10.out.cells 7 _ (by rw [HF.out]; rfl), FA10.out.cells 8 _ (by rw [HF.out]; rfl), FX10.out.cells 0 _ (by rw [HX.out]; rfl), FX10.out.cells 1 _ (by rw [HX.out]; rfl), FX10.out.cells 2 _ (by rw [HX.out]; rfl), FX10.out.cells 3 _ (by rw [HX.out]; rfl), FX10.out.cells 4 _ (by rw [HX.out]; rfl), FX10.out.cells 5 _ (by rw [HX.out]; rfl), FX10.out.cells 6 _ (by rw [HX.out]; rfl), FX10.out.cells 7 _ (by rw [HX.out]; rfl), FX10.out.cells 8 _ (by rw [HX.out]; rfl), FY10.out.cells 0 _ (by rw [HX.out]; rfl), FY10.out.cells 1 _ (by rw [HX.out]; rfl), FY10.out.cells 2 _ (by rw [HX.out]; rfl), FY10.out.cells 3 _ (by rw [HX.out]; rfl), FY10.out.cells 4 _ (by rw [HX.out]; rfl), FY10.out.cells 5 _ (by rw [HX.out]; rfl), FY10.out.cells 6 _ (by rw [HX.out]; rfl), FY10.out.cells 7 _ (by rw [HX.out]; rfl), FY10.out.cells 8 _ (by rw [HX.out]; rfl)⟩; clear b10)
          | (go_at_call 10; refine (SF.out _).mono ?_; rintro e w11 ⟨rfl, b11⟩; rw [HRB.out]; have FA11 : Hid (FrmAt w11 A f) := FA10.out.up b11; have FX11 : Hid (FrmAt w11 C x) := FX10.out.up b11; have FY11 : Hid (FrmAt w11 D x) := FY10.out.up b11; have RB11 : Hid (RowF w11 b gn m) := RB10.out.below b11; have RG11 : Hid (RowF w11 (some ⟨G, 0, none⟩) (roomF gn m 3) (m + 80)) := RG10.out.below b11; have B11 : Hid (Below w.heap.size w w11) := B10.out.trans (b11.mono B10.out.size); have S11 : w11.cell? ⟨A, 0, none⟩ = some (.int .i64 f0) ∧ w11.cell? ⟨A, 1, none⟩ = some (.int .i64 f1) ∧ w11.cell? ⟨A, 2, none⟩ = some (.int .i64 f2) ∧ w11.cell? ⟨A, 3, none⟩ = some (.int .i64 f3) ∧ w11.cell? ⟨A, 4, none⟩ = some (.int .i64 f4) ∧ w11.cell? ⟨A, 5, none⟩ = some (.int .i64 f5) ∧ w11.cell? ⟨A, 6, none⟩ = some (.string f6) ∧ w11.cell? ⟨A, 7, none⟩ = some (.int .i64 f7) ∧ w11.cell? ⟨A, 8, none⟩ = some (.string f8) ∧ w11.cell? ⟨C, 0, none⟩ = some (.int .i64 x0) ∧ w11.cell? ⟨C, 1, none⟩ = some (.int .i64 x1) ∧ w11.cell? ⟨C, 2, none⟩ = some (.int .i64 x2) ∧ w11.cell? ⟨C, 3, none⟩ = some (.int .i64 x3) ∧ w11.cell? ⟨C, 4, none⟩ = some (.int .i64 x4) ∧ w11.cell? ⟨C, 5, none⟩ = some (.int .i64 x5) ∧ w11.cell? ⟨C, 6, none⟩ = some (.string x6) ∧ w11.cell? ⟨C, 7, none⟩ = some (.int .i64 x7) ∧ w11.cell? ⟨C, 8, none⟩ = some (.string x8) ∧ w11.cell? ⟨D, 0, none⟩ = some (.int .i64 x0) ∧ w11.cell? ⟨D, 1, none⟩ = some (.int .i64 x1) ∧ w11.cell? ⟨D, 2, none⟩ = some (.int .i64 x2) ∧ w11.cell? ⟨D, 3, none⟩ = some (.int .i64 x3) ∧ w11.cell? ⟨D, 4, none⟩ = some (.int .i64 x4) ∧ w11.cell? ⟨D, 5, none⟩ = some (.int .i64 x5) ∧ w11.cell? ⟨D, 6, none⟩ = some (.string x6) ∧ w11.cell? ⟨D, 7, none⟩ = some (.int .i64 x7) ∧ w11.cell? ⟨D, 8, none⟩ = some (.string x8) := ⟨FA11.out.cells 0 _ (by rw [HF.out]; rfl), FA11.out.cells 1 _ (by rw [HF.out]; rfl), FA11.out.cells 2 _ (by rw [HF.out]; rfl), FA11.out.cells 3 _ (by rw [HF.out]; rfl), FA11.out.cells 4 _ (by rw [HF.out]; rfl), FA11.out.cells 5 _ (by rw [HF.out]; rfl), FA11.out.cells 6 _ (by rw [HF.out]; rfl), FA11.out.cells 7 _ (by rw [HF.out]; rfl), FA11.out.cells 8 _ (by rw [HF.out]; rfl), FX11.out.cells 0 _ (by rw [HX.out]; rfl), FX11.out.cells 1 _ (by rw [HX.out]; rfl), FX11.out.cells 2 _ (by rw [HX.out]; rfl), FX11.out.cells 3 _ (by rw [HX.out]; rfl), FX11.out.cells 4 _ (by rw [HX.out]; rfl), FX11.out.cells 5 _ (by rw [HX.out]; rfl), FX11.out.cells 6 _ (by rw [HX.out]; rfl), FX11.out.cells 7 _ (by rw [HX.out]; rfl), FX11.out.cells 8 _ (by rw [HX.out]; rfl), FY11.out.cells 0 _ (by rw [HX.out]; rfl), FY11.out.cells 1 _ (by rw [HX.out]; rfl), FY11.out.cells 2 _ (by rw [HX.out]; rfl), FY11.out.cells 3 _ (by rw [HX.out]; rfl), FY11.out.cells 4 _ (by rw [HX.out]; rfl), FY11.out.cells 5 _ (by rw [HX.out]; rfl), FY11.out.cells 6 _ (by rw [HX.out]; rfl), FY11.out.cells 7 _ (by rw [HX.out]; rfl), FY11.out.cells 8 _ (by rw [HX.out]; rfl)⟩; clear b11)
          | (go_at_call 6; refine (PF.out _).mono ?_; rintro e w12 ⟨v12, rfl, o12, b12, _⟩; obtain ⟨p12, c12, rfl, r12⟩ := own_row o12; rw [← HN.out] at r12 ⊢; have R12 : Hid (RowF w12 p12 (lf l) n) := r12; have FA12 : Hid (FrmAt w12 A f) := FA11.out.up b12; have FX12 : Hid (FrmAt w12 C x) := FX11.out.up b12; have FY12 : Hid (FrmAt w12 D x) := FY11.out.up b12; have RB12 : Hid (RowF w12 b gn m) := RB11.out.below b12; have RG12 : Hid (RowF w12 (some ⟨G, 0, none⟩) (roomF gn m 3) (m + 80)) := RG11.out.below b12; have B12 : Hid (Below w.heap.size w w12) := B11.out.trans (b12.mono B11.out.size); have S12 : w12.cell? ⟨A, 0, none⟩ = some (.int .i64 f0) ∧ w12.cell? ⟨A, 1, none⟩ = some (.int .i64 f1) ∧ w12.cell? ⟨A, 2, none⟩ = some (.int .i64 f2) ∧ w12.cell? ⟨A, 3, none⟩ = some (.int .i64 f3) ∧ w12.cell? ⟨A, 4, none⟩ = some (.int .i64 f4) ∧ w12.cell? ⟨A, 5, none⟩ = some (.int .i64 f5) ∧ w12.cell? ⟨A, 6, none⟩ = some (.string f6) ∧ w12.cell? ⟨A, 7, none⟩ = some (.int .i64 f7) ∧ w12.cell? ⟨A, 8, none⟩ = some (.string f8) ∧ w12.cell? ⟨C, 0, none⟩ = some (.int .i64 x0) ∧ w12.cell? ⟨C, 1, none⟩ = some (.int .i64 x1) ∧ w12.cell? ⟨C, 2, none⟩ = some (.int .i64 x2) ∧ w12.cell? ⟨C, 3, none⟩ = some (.int .i64 x3) ∧ w12.cell? ⟨C, 4, none⟩ = some (.int .i64 x4) ∧ w12.cell? ⟨C, 5, none⟩ = some (.int .i64 x5) ∧ w12.cell? ⟨C, 6, none⟩ = some (.string x6) ∧ w12.cell? ⟨C, 7, none⟩ = some (.int .i64 x7) ∧ w12.cell? ⟨C, 8, none⟩ = some (.string x8) ∧ w12.cell? ⟨D, 0, none⟩ = some (.int .i64 x0) ∧ w12.cell? ⟨D, 1, none⟩ = some (.int .i64 x1) ∧ w12.cell? ⟨D, 2, none⟩ = some (.int .i64 x2) ∧ w12.cell? ⟨D, 3, none⟩ = some (.int .i64 x3) ∧ w12.cell? ⟨D, 4, none⟩ = some (.int .i64 x4) ∧ w12.cell? ⟨D, 5, none⟩ = some (.int .i64 x5) ∧ w12.cell? ⟨D, 6, none⟩ = some (.string x6) ∧ w12.cell? ⟨D, 7, none⟩ = some (.int .i64 x7) ∧ w12.cell? ⟨D, 8, none⟩ = some (.string x8) := ⟨FA12.out.cells 0 _ (by rw [HF.out]; rfl), FA12.out.cells 1 _ (by rw [HF.out]; rfl), FA12.out.cells 2 _ (by rw [HF.out]; rfl), FA12.out.cells 3 _ (by rw [HF.out]; rfl), FA12.out.cells 4 _ (by rw [HF.out]; rfl), FA12.out.cells 5 _ (by rw [HF.out]; rfl), FA12.out.cells 6 _ (by rw [HF.out]; rfl), FA12.out.cells 7 _ (by rw [HF.out]; rfl), FA12.out.cells 8 _ (by rw [HF.out]; rfl), FX12.out.cells 0 _ (by rw [HX.out]; rfl), FX12.out.cells 1 _ (by rw [HX.out]; rfl), FX12.out.cells 2 _ (by rw [HX.out]; rfl), FX12.out.cells 3 _ (by rw [HX.out]; rfl), FX12.out.cells 4 _ (by rw [HX.out]; rfl), FX12.out.cells 5 _ (by rw [HX.out]; rfl), FX12.out.cells 6 _ (by rw [HX.out]; rfl), FX12.out.cells 7 _ (by rw [HX.out]; rfl), FX12.out.cells 8 _ (by rw [HX.out]; rfl), FY12.out.cells 0 _ (by rw [HX.out]; rfl), FY12.out.cells 1 _ (by rw [HX.out]; rfl), FY12.out.cells 2 _ (by rw [HX.out]; rfl), FY12.out.cells 3 _ (by rw [HX.out]; rfl), FY12.out.cells 4 _ (by rw [HX.out]; rfl), FY12.out.cells 5 _ (by rw [HX.out]; rfl), FY12.out.cells 6 _ (by rw [HX.out]; rfl), FY12.out.cells 7 _ (by rw [HX.out]; rfl), FY12.out.cells 8 _ (by rw [HX.out]; rfl)⟩; clear b12 o12 r12)
          | (go_at_call 11; refine (QF.out _).mono ?_; rintro e w13 ⟨v13, rfl, o13, b13, _⟩; obtain ⟨p13, c13, rfl, r13⟩ := own_row o13; rw [← HN.out] at r13 ⊢; have R13 : Hid (RowF w13 p13 (lf l) n) := r13; have R12' : Hid (RowF w13 p12 (lf l) n) := R12.out.below b13; have FA13 : Hid (FrmAt w13 A f) := FA12.out.up b13; have FX13 : Hid (FrmAt w13 C x) := FX12.out.up b13; have FY13 : Hid (FrmAt w13 D x) := FY12.out.up b13; have RB13 : Hid (RowF w13 b gn m) := RB12.out.below b13; have RG13 : Hid (RowF w13 (some ⟨G, 0, none⟩) (roomF gn m 3) (m + 80)) := RG12.out.below b13; have B13 : Hid (Below w.heap.size w w13) := B12.out.trans (b13.mono B12.out.size); have S13 : w13.cell? ⟨A, 0, none⟩ = some (.int .i64 f0) ∧ w13.cell? ⟨A, 1, none⟩ = some (.int .i64 f1) ∧ w13.cell? ⟨A, 2, none⟩ = some (.int .i64 f2) ∧ w13.cell? ⟨A, 3, none⟩ = some (.int .i64 f3) ∧ w13.cell? ⟨A, 4, none⟩ = some (.int .i64 f4) ∧ w13.cell? ⟨A, 5, none⟩ = some (.int .i64 f5) ∧ w13.cell? ⟨A, 6, none⟩ = some (.string f6) ∧ w13.cell? ⟨A, 7, none⟩ = some (.int .i64 f7) ∧ w13.cell? ⟨A, 8, none⟩ = some (.string f8) ∧ w13.cell? ⟨C, 0, none⟩ = some (.int .i64 x0) ∧ w13.cell? ⟨C, 1, none⟩ = some (.int .i64 x1) ∧ w13.cell? ⟨C, 2, none⟩ = some (.int .i64 x2) ∧ w13.cell? ⟨C, 3, none⟩ = some (.int .i64 x3) ∧ w13.cell? ⟨C, 4, none⟩ = some (.int .i64 x4) ∧ w13.cell? ⟨C, 5, none⟩ = some (.int .i64 x5) ∧ w13.cell? ⟨C, 6, none⟩ = some (.string x6) ∧ w13.cell? ⟨C, 7, none⟩ = some (.int .i64 x7) ∧ w13.cell? ⟨C, 8, none⟩ = some (.string x8) ∧ w13.cell? ⟨D, 0, none⟩ = some (.int .i64 x0) ∧ w13.cell? ⟨D, 1, none⟩ = some (.int .i64 x1) ∧ w13.cell? ⟨D, 2, none⟩ = some (.int .i64 x2) ∧ w13.cell? ⟨D, 3, none⟩ = some (.int .i64 x3) ∧ w13.cell? ⟨D, 4, none⟩ = some (.int .i64 x4) ∧ w13.cell? ⟨D, 5, none⟩ = some (.int .i64 x5) ∧ w13.cell? ⟨D, 6, none⟩ = some (.string x6) ∧ w13.cell? ⟨D, 7, none⟩ = some (.int .i64 x7) ∧ w13.cell? ⟨D, 8, none⟩ = some (.string x8) := ⟨FA13.out.cells 0 _ (by rw [HF.out]; rfl), FA13.out.cells 1 _ (by rw [HF.out]; rfl), FA13.out.cells 2 _ (by rw [HF.out]; rfl), FA13.out.cells 3 _ (by rw [HF.out]; rfl), FA13.out.cells 4 _ (by rw [HF.out]; rfl), FA13.out.cells 5 _ (by rw [HF.out]; rfl), FA13.out.cells 6 _ (by rw [HF.out]; rfl), FA13.out.cells 7 _ (by rw [HF.out]; rfl), FA13.out.cells 8 _ (by rw [HF.out]; rfl), FX13.out.cells 0 _ (by rw [HX.out]; rfl), FX13.out.cells 1 _ (by rw [HX.out]; rfl), FX13.out.cells 2 _ (by rw [HX.out]; rfl), FX13.out.cells 3 _ (by rw [HX.out]; rfl), FX13.out.cells 4 _ (by rw [HX.out]; rfl), FX13.out.cells 5 _ (by rw [HX.out]; rfl), FX13.out.cells 6 _ (by rw [HX.out]; rfl), FX13.out.cells 7 _ (by rw [HX.out]; rfl), FX13.out.cells 8 _ (by rw [HX.out]; rfl), FY13.out.cells 0 _ (by rw [HX.out]; rfl), FY13.out.cells 1 _ (by rw [HX.out]; rfl), FY13.out.cells 2 _ (by rw [HX.out]; rfl), FY13.out.cells 3 _ (by rw [HX.out]; rfl), FY13.out.cells 4 _ (by rw [HX.out]; rfl), FY13.out.cells 5 _ (by rw [HX.out]; rfl), FY13.out.cells 6 _ (by rw [HX.out]; rfl), FY13.out.cells 7 _ (by rw [HX.out]; rfl), FY13.out.cells 8 _ (by rw [HX.out]; rfl)⟩; clear b13 o13 r13)
          | (go_at_call 7; refine (same_ls p12 p13 n n c12 c13 l l HN.out HN.out HLL.out true (by simp) _ R12'.out R13.out).mono ?_; rintro e w14 ⟨rfl, b14⟩; have FA14 : Hid (FrmAt w14 A f) := FA13.out.up b14; have FX14 : Hid (FrmAt w14 C x) := FX13.out.up b14; have FY14 : Hid (FrmAt w14 D x) := FY13.out.up b14; have RB14 : Hid (RowF w14 b gn m) := RB13.out.below b14; have RG14 : Hid (RowF w14 (some ⟨G, 0, none⟩) (roomF gn m 3) (m + 80)) := RG13.out.below b14; have B14 : Hid (Below w.heap.size w w14) := B13.out.trans (b14.mono B13.out.size); have S14 : w14.cell? ⟨A, 0, none⟩ = some (.int .i64 f0) ∧ w14.cell? ⟨A, 1, none⟩ = some (.int .i64 f1) ∧ w14.cell? ⟨A, 2, none⟩ = some (.int .i64 f2) ∧ w14.cell? ⟨A, 3, none⟩ = some (.int .i64 f3) ∧ w14.cell? ⟨A, 4, none⟩ = some (.int .i64 f4) ∧ w14.cell? ⟨A, 5, none⟩ = some (.int .i64 f5) ∧ w14.cell? ⟨A, 6, none⟩ = some (.string f6) ∧ w14.cell? ⟨A, 7, none⟩ = some (.int .i64 f7) ∧ w14.cell? ⟨A, 8, none⟩ = some (.string f8) ∧ w14.cell? ⟨C, 0, none⟩ = some (.int .i64 x0) ∧ w14.cell? ⟨C, 1, none⟩ = some (.int .i64 x1) ∧ w14.cell? ⟨C, 2, none⟩ = some (.int .i64 x2) ∧ w14.cell? ⟨C, 3, none⟩ = some (.int .i64 x3) ∧ w14.cell? ⟨C, 4, none⟩ = some (.int .i64 x4) ∧ w14.cell? ⟨C, 5, none⟩ = some (.int .i64 x5) ∧ w14.cell? ⟨C, 6, none⟩ = some (.string x6) ∧ w14.cell? ⟨C, 7, none⟩ = some (.int .i64 x7) ∧ w14.cell? ⟨C, 8, none⟩ = some (.string x8) ∧ w14.cell? ⟨D, 0, none⟩ = some (.int .i64 x0) ∧ w14.cell? ⟨D, 1, none⟩ = some (.int .i64 x1) ∧ w14.cell? ⟨D, 2, none⟩ = some (.int .i64 x2) ∧ w14.cell? ⟨D, 3, none⟩ = some (.int .i64 x3) ∧ w14.cell? ⟨D, 4, none⟩ = some (.int .i64 x4) ∧ w14.cell? ⟨D, 5, none⟩ = some (.int .i64 x5) ∧ w14.cell? ⟨D, 6, none⟩ = some (.string x6) ∧ w14.cell? ⟨D, 7, none⟩ = some (.int .i64 x7) ∧ w14.cell? ⟨D, 8, none⟩ = some (.string x8) := ⟨FA14.out.cells 0 _ (by rw [HF.out]; rfl), FA14.out.cells 1 _ (by rw [HF.out]; rfl), FA14.out.cells 2 _ (by rw [HF.out]; rfl), FA14.out.cells 3 _ (by rw [HF.out]; rfl), FA14.out.cells 4 _ (by rw [HF.out]; rfl), FA14.out.cells 5 _ (by rw [HF.out]; rfl), FA14.out.cells 6 _ (by rw [HF.out]; rfl), FA14.out.cells 7 _ (by rw [HF.out]; rfl), FA14.out.cells 8 _ (by rw [HF.out]; rfl), FX14.out.cells 0 _ (by rw [HX.out]; rfl), FX14.out.cells 1 _ (by rw [HX.out]; rfl), FX14.out.cells 2 _ (by rw [HX.out]; rfl), FX14.out.cells 3 _ (by rw [HX.out]; rfl), FX14.out.cells 4 _ (by rw [HX.out]; rfl), FX14.out.cells 5 _ (by rw [HX.out]; rfl), FX14.out.cells 6 _ (by rw [HX.out]; rfl), FX14.out.cells 7 _ (by rw [HX.out]; rfl), FX14.out.cells 8 _ (by rw [HX.out]; rfl), FY14.out.cells 0 _ (by rw [HX.out]; rfl), FY14.out.cells 1 _ (by rw [HX.out]; rfl), FY14.out.cells 2 _ (by rw [HX.out]; rfl), FY14.out.cells 3 _ (by rw [HX.out]; rfl), FY14.out.cells 4 _ (by rw [HX.out]; rfl), FY14.out.cells 5 _ (by rw [HX.out]; rfl), FY14.out.cells 6 _ (by rw [HX.out]; rfl), FY14.out.cells 7 _ (by rw [HX.out]; rfl), FY14.out.cells 8 _ (by rw [HX.out]; rfl)⟩; clear b14)
          | (go_at_call 16; refine (intact_any G b m c 3 _ gn rfl (by omega) _ RG14.out RB14.out).mono ?_; rintro e w15 ⟨rfl, d15, hw15⟩; have b15 : Below w14.heap.size w14 w15 := (by rw [hw15]; exact below_drewN (Below.refl _ _) d15); have FA15 : Hid (FrmAt w15 A f) := FA14.out.up b15; have FX15 : Hid (FrmAt w15 C x) := FX14.out.up b15; have FY15 : Hid (FrmAt w15 D x) := FY14.out.up b15; have RB15 : Hid (RowF w15 b gn m) := RB14.out.below b15; have RG15 : Hid (RowF w15 (some ⟨G, 0, none⟩) (roomF gn m 3) (m + 80)) := RG14.out.below b15; have B15 : Hid (Below w.heap.size w w15) := B14.out.trans (b15.mono B14.out.size); have S15 : w15.cell? ⟨A, 0, none⟩ = some (.int .i64 f0) ∧ w15.cell? ⟨A, 1, none⟩ = some (.int .i64 f1) ∧ w15.cell? ⟨A, 2, none⟩ = some (.int .i64 f2) ∧ w15.cell? ⟨A, 3, none⟩ = some (.int .i64 f3) ∧ w15.cell? ⟨A, 4, none⟩ = some (.int .i64 f4) ∧ w15.cell? ⟨A, 5, none⟩ = some (.int .i64 f5) ∧ w15.cell? ⟨A, 6, none⟩ = some (.string f6) ∧ w15.cell? ⟨A, 7, none⟩ = some (.int .i64 f7) ∧ w15.cell? ⟨A, 8, none⟩ = some (.string f8) ∧ w15.cell? ⟨C, 0, none⟩ = some (.int .i64 x0) ∧ w15.cell? ⟨C, 1, none⟩ = some (.int .i64 x1) ∧ w15.cell? ⟨C, 2, none⟩ = some (.int .i64 x2) ∧ w15.cell? ⟨C, 3, none⟩ = some (.int .i64 x3) ∧ w15.cell? ⟨C, 4, none⟩ = some (.int .i64 x4) ∧ w15.cell? ⟨C, 5, none⟩ = some (.int .i64 x5) ∧ w15.cell? ⟨C, 6, none⟩ = some (.string x6) ∧ w15.cell? ⟨C, 7, none⟩ = some (.int .i64 x7) ∧ w15.cell? ⟨C, 8, none⟩ = some (.string x8) ∧ w15.cell? ⟨D, 0, none⟩ = some (.int .i64 x0) ∧ w15.cell? ⟨D, 1, none⟩ = some (.int .i64 x1) ∧ w15.cell? ⟨D, 2, none⟩ = some (.int .i64 x2) ∧ w15.cell? ⟨D, 3, none⟩ = some (.int .i64 x3) ∧ w15.cell? ⟨D, 4, none⟩ = some (.int .i64 x4) ∧ w15.cell? ⟨D, 5, none⟩ = some (.int .i64 x5) ∧ w15.cell? ⟨D, 6, none⟩ = some (.string x6) ∧ w15.cell? ⟨D, 7, none⟩ = some (.int .i64 x7) ∧ w15.cell? ⟨D, 8, none⟩ = some (.string x8) := ⟨FA15.out.cells 0 _ (by rw [HF.out]; rfl), FA15.out.cells 1 _ (by rw [HF.out]; rfl), FA15.out.cells 2 _ (by rw [HF.out]; rfl), FA15.out.cells 3 _ (by rw [HF.out]; rfl), FA15.out.cells 4 _ (by rw [HF.out]; rfl), FA15.out.cells 5 _ (by rw [HF.out]; rfl), FA15.out.cells 6 _ (by rw [HF.out]; rfl), FA15.out.cells 7 _ (by rw [HF.out]; rfl), FA15.out.cells 8 _ (by rw [HF.out]; rfl), FX15.out.cells 0 _ (by rw [HX.out]; rfl), FX15.out.cells 1 _ (by rw [HX.out]; rfl), FX15.out.cells 2 _ (by rw [HX.out]; rfl), FX15.out.cells 3 _ (by rw [HX.out]; rfl), FX15.out.cells 4 _ (by rw [HX.out]; rfl), FX15.out.cells 5 _ (by rw [HX.out]; rfl), FX15.out.cells 6 _ (by rw [HX.out]; rfl), FX15.out.cells 7 _ (by rw [HX.out]; rfl), FX15.out.cells 8 _ (by rw [HX.out]; rfl), FY15.out.cells 0 _ (by rw [HX.out]; rfl), FY15.out.cells 1 _ (by rw [HX.out]; rfl), FY15.out.cells 2 _ (by rw [HX.out]; rfl), FY15.out.cells 3 _ (by rw [HX.out]; rfl), FY15.out.cells 4 _ (by rw [HX.out]; rfl), FY15.out.cells 5 _ (by rw [HX.out]; rfl), FY15.out.cells 6 _ (by rw [HX.out]; rfl), FY15.out.cells 7 _ (by rw [HX.out]; rfl), FY15.out.cells 8 _ (by rw [HX.out]; rfl)⟩; clear b15 hw15)
          | (go_at_call 3; refine (runs_any _).mono ?_; rintro e w16 ⟨rfl, b16⟩; have FA16 : Hid (FrmAt w16 A f) := FA15.out.up b16; have FX16 : Hid (FrmAt w16 C x) := FX15.out.up b16; have FY16 : Hid (FrmAt w16 D x) := FY15.out.up b16; have RB16 : Hid (RowF w16 b gn m) := RB15.out.below b16; have RG16 : Hid (RowF w16 (some ⟨G, 0, none⟩) (roomF gn m 3) (m + 80)) := RG15.out.below b16; have B16 : Hid (Below w.heap.size w w16) := B15.out.trans (b16.mono B15.out.size); have S16 : w16.cell? ⟨A, 0, none⟩ = some (.int .i64 f0) ∧ w16.cell? ⟨A, 1, none⟩ = some (.int .i64 f1) ∧ w16.cell? ⟨A, 2, none⟩ = some (.int .i64 f2) ∧ w16.cell? ⟨A, 3, none⟩ = some (.int .i64 f3) ∧ w16.cell? ⟨A, 4, none⟩ = some (.int .i64 f4) ∧ w16.cell? ⟨A, 5, none⟩ = some (.int .i64 f5) ∧ w16.cell? ⟨A, 6, none⟩ = some (.string f6) ∧ w16.cell? ⟨A, 7, none⟩ = some (.int .i64 f7) ∧ w16.cell? ⟨A, 8, none⟩ = some (.string f8) ∧ w16.cell? ⟨C, 0, none⟩ = some (.int .i64 x0) ∧ w16.cell? ⟨C, 1, none⟩ = some (.int .i64 x1) ∧ w16.cell? ⟨C, 2, none⟩ = some (.int .i64 x2) ∧ w16.cell? ⟨C, 3, none⟩ = some (.int .i64 x3) ∧ w16.cell? ⟨C, 4, none⟩ = some (.int .i64 x4) ∧ w16.cell? ⟨C, 5, none⟩ = some (.int .i64 x5) ∧ w16.cell? ⟨C, 6, none⟩ = some (.string x6) ∧ w16.cell? ⟨C, 7, none⟩ = some (.int .i64 x7) ∧ w16.cell? ⟨C, 8, none⟩ = some (.string x8) ∧ w16.cell? ⟨D, 0, none⟩ = some (.int .i64 x0) ∧ w16.cell? ⟨D, 1, none⟩ = some (.int .i64 x1) ∧ w16.cell? ⟨D, 2, none⟩ = some (.int .i64 x2) ∧ w16.cell? ⟨D, 3, none⟩ = some (.int .i64 x3) ∧ w16.cell? ⟨D, 4, none⟩ = some (.int .i64 x4) ∧ w16.cell? ⟨D, 5, none⟩ = some (.int .i64 x5) ∧ w16.cell? ⟨D, 6, none⟩ = some (.string x6) ∧ w16.cell? ⟨D, 7, none⟩ = some (.int .i64 x7) ∧ w16.cell? ⟨D, 8, none⟩ = some (.string x8) := ⟨FA16.out.cells 0 _ (by rw [HF.out]; rfl), FA16.out.cells 1 _ (by rw [HF.out]; rfl), FA16.out.cells 2 _ (by rw [HF.out]; rfl), FA16.out.cells 3 _ (by rw [HF.out]; rfl), FA16.out.cells 4 _ (by rw [HF.out]; rfl), FA16.out.cells 5 _ (by rw [HF.out]; rfl), FA16.out.cells 6 _ (by rw [HF.out]; rfl), FA16.out.cells 7 _ (by rw [HF.out]; rfl), FA16.out.cells 8 _ (by rw [HF.out]; rfl), FX16.out.cells 0 _ (by rw [HX.out]; rfl), FX16.out.cells 1 _ (by rw [HX.out]; rfl), FX16.out.cells 2 _ (by rw [HX.out]; rfl), FX16.out.cells 3 _ (by rw [HX.out]; rfl), FX16.out.cells 4 _ (by rw [HX.out]; rfl), FX16.out.cells 5 _ (by rw [HX.out]; rfl), FX16.out.cells 6 _ (by rw [HX.out]; rfl), FX16.out.cells 7 _ (by rw [HX.out]; rfl), FX16.out.cells 8 _ (by rw [HX.out]; rfl), FY16.out.cells 0 _ (by rw [HX.out]; rfl), FY16.out.cells 1 _ (by rw [HX.out]; rfl), FY16.out.cells 2 _ (by rw [HX.out]; rfl), FY16.out.cells 3 _ (by rw [HX.out]; rfl), FY16.out.cells 4 _ (by rw [HX.out]; rfl), FY16.out.cells 5 _ (by rw [HX.out]; rfl), FY16.out.cells 6 _ (by rw [HX.out]; rfl), FY16.out.cells 7 _ (by rw [HX.out]; rfl), FY16.out.cells 8 _ (by rw [HX.out]; rfl)⟩; clear b16))
      go_wp2_with fail
      go_ret
      exact ⟨rfl, B16.out⟩
end Go.Proofs.Ytcdkpflhpeflcaa
