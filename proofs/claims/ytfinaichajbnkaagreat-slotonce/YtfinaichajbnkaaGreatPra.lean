/-
  raise, admits.
-/
import Derived.Test.YtfinaichajbnkaaGreatPky
import Derived.Test.YtfinaichajbnkaaGreatPkc
import Derived.Test.YtfinaichajbnkaaGreatPfi
import Derived.Test.YtfinaichajbnkaaGreatPdl
namespace Go.Proofs.YtfinaichajbnkaaGreat
open Go.RowKit
open Wi (F)

theorem low_cons (a : F) (d : List F) (r : Int) : low (a :: d) r = if a.rid < r then low d r + 1 else low d r := by
  unfold low
  rw [List.filter_cons]
  by_cases h : a.rid < r
  · simp [h]
  · simp [h]
theorem drop_low {d : List F} (hup : d.Pairwise fun a b => a.rid < b.rid) (r : Int) : d.drop (low d r) = d.filter fun a => decide (r ≤ a.rid) := by
  induction d with
  | nil => rfl
  | cons a d ih =>
    obtain ⟨h1, h2⟩ := List.pairwise_cons.1 hup
    rw [low_cons, List.filter_cons]
    by_cases h : a.rid < r
    · rw [if_pos h, if_neg (by simp; omega), List.drop_succ_cons, ih h2]
    · rw [if_neg h, if_pos (by simp; omega)]
      have e : low d r = 0 := by
        unfold low
        rw [List.filter_eq_nil_iff.2 (fun b hb => by have := h1 b hb; simp; omega)]; rfl
      rw [e, List.drop_zero, List.filter_eq_self.2 (fun b hb => by have := h1 b hb; simp; omega)]
theorem DnOk.low {l d : List F} (h : DnOk l d) (r : Int) : DnOk (l.filter fun a => decide (r ≤ a.rid)) (d.drop (low d r)) := by
  rw [drop_low h.up r]
  exact ⟨h.pm.filter _, h.up.sublist List.filter_sublist⟩
/-- Labels of the slot's own blocks. -/
def T10 (t : Nat × Nat) : Prop := t.1 = 10
theorem T10.tp {t : Nat × Nat} (h : T10 t) : TP t := .inr h
theorem nT10s {t : Nat × Nat} (h : TS t) : ¬ T10 t := fun e => by have h2 := h.2; rw [show t.1 = 10 from e] at h2; omega
theorem nT10b : ¬ T10 (8, 1) := fun e => by have : 8 = 10 := e; omega
set_option maxRecDepth 100000 in
set_option maxHeartbeats 1000000 in
theorem praise_any (X : Nat) (s : Sl) (r : Int) (hn : s.done.length ≤ 100000) (w : World) (o : Nat → Nat × Nat) (h : IsPsl w o X s) :
    Calls Tryz.prog 47 #[.pointer (some ⟨X, 0, none⟩), .int .i64 r] w fun e w' => e = .returned (.tuple #[]) ∧ ∃ o', IsPsl w' o' X { s with floor := r, done := s.done.filter fun a => decide (r ≤ a.rid) } ∧ Fr T10 o o' w w' := by
  obtain ⟨C, D, d, h⟩ := h
  have hdl : d.length ≤ 100000 := by rw [h.dd.len]; exact hn
  have k5 := h.c.set (s' := { s with floor := r }) (C' := C) (D' := D) 5 (.int .i64 r) (fun i u e => by
    rcases i with _ | _ | _ | _ | _ | _ | _ | _ | i <;> simp at e ⊢ <;> exact e) (by omega)
  have g5 : Fr T10 o o w (w.setCell ⟨X, 5, none⟩ (.int .i64 r)) := Fr.set (a := ⟨X, 5, none⟩) (by rw [h.oX]; rfl) _
  have g5' : Fr (· = (10, 0)) o o w (w.setCell ⟨X, 5, none⟩ (.int .i64 r)) := Fr.set (a := ⟨X, 5, none⟩) h.oX _
  have D5 := h.dn.fr g5' (fun e => by cases e)
  have S5 := h.st.fr g5 (fun t ht => nT10s ht)
  have z5 := h.c.fz 5
  have d5 := h.c.c5
  have y7 := k5.c7
  obtain ⟨W, hW⟩ : ∃ W, W = w.setCell ⟨X, 5, none⟩ (.int .i64 r) := ⟨_, rfl⟩
  rw [← hW] at k5 g5 D5 S5 y7
  have FI := hid (pfind_any X D d r hdl W o y7 D5 h.dd.up)
  obtain ⟨k, hk⟩ : ∃ k, low d r = k := ⟨_, rfl⟩
  have hkl : k ≤ d.length := by rw [← hk]; exact low_le d r
  have HDD : Hid (DnOk (s.done.filter fun a => decide (r ≤ a.rid)) (d.drop k)) := hid (by rw [← hk]; exact h.dd.low r)
  rw [hk] at FI
  have DE := hid (delete_any d k hkl D hdl W D5)
  have HO := hid (And.intro h.oX h.ok)
  have HK := hid k5
  have HS := hid S5
  have HG := hid g5
  have HW := hid hW
  clear h k5 g5 g5' D5 S5 hW hk hkl hdl hn
  go_enter Tryz.func47, Tryz.ntmps47
  go_wp2_with fail
  rw [← HW.out]
  refine FI.out.mono ?_
  rintro e w1 ⟨rfl, rfl⟩
  go_wp2_with fail
  refine DE.out.mono ?_
  rintro e w2 ⟨D2, rfl, O2, g2⟩
  obtain ⟨b2, c2, hD2, _⟩ := O2.form
  rw [hD2] at O2
  rw [hD2]
  clear hD2 D2
  obtain ⟨n2, hn2⟩ : ∃ n2, n2 = (d.drop k).length := ⟨_, rfl⟩
  rw [← hn2] at O2 ⊢
  obtain ⟨D2, hD2⟩ : ∃ D2, D2 = Value.slice b2 n2 c2 := ⟨_, rfl⟩
  rw [← hD2] at O2
  have k2 := HK.out.fr g2 (fun e => by rw [HO.out.1] at e; cases e)
  have S2 := HS.out.fr g2 (fun t ht e => by rw [e] at ht; have : 10 ≤ 3 := ht.2; omega)
  have oX2 : o X = (10, 0) := HO.out.1
  have lX : X < W.heap.size := HK.out.lt
  obtain ⟨o2, hoo⟩ : ∃ o2, o2 = o := ⟨_, rfl⟩
  have G2 : Fr T10 o o w w2 := HG.out.trans (g2.mono (fun t e => by rw [e]; rfl))
  have k7 := k2.set (s' := { s with floor := r, done := s.done.filter fun a => decide (r ≤ a.rid) }) (C' := C) (D' := D2) 7 D2 (fun i u e => by
    rcases i with _ | _ | _ | _ | _ | _ | _ | _ | i <;> simp at e ⊢ <;> exact e) (by omega)
  have g7 : Fr (· = (10, 0)) o o w2 (w2.setCell ⟨X, 7, none⟩ D2) := Fr.set (a := ⟨X, 7, none⟩) oX2 _
  have d7 := k2.c7
  have z7 := k2.fz 7
  have HE : Hid (IsPl (w2.setCell ⟨X, 7, none⟩ D2) o X { s with floor := r, done := s.done.filter fun a => decide (r ≤ a.rid) } C D2 (d.drop k) ∧ Fr T10 o o w (w2.setCell ⟨X, 7, none⟩ D2)) := hid ⟨⟨oX2, k7, S2.fr g7 (fun t ht e => by rw [e] at ht; have : 10 ≤ 3 := ht.2; omega), (by rw [← hn2]; exact O2.fr g7 (fun e => by cases e)), HDD.out, ⟨HO.out.2.i1, HO.out.2.i2, HO.out.2.p1, HO.out.2.p2, HO.out.2.g1, HO.out.2.g2, HO.out.2.cn⟩⟩, G2.trans (g7.mono (fun t e => by rw [e]; rfl))⟩
  rw [hD2] at HE
  clear hn2 O2 g2 k2 S2 oX2 lX hoo G2 k7 g7 DE FI HK HS HG HO HDD
  go_wp2_with fail
  exact bodyPost_end (v := .tuple #[]) (by simp [results, Tryz.results47, go_sem]) rfl ⟨rfl, o, ⟨C, _, d.drop k, HE.out.1⟩, HE.out.2⟩
/-- Is a request heard? The floor raised. -/
def Sl.adm (s : Sl) (f : F) : Bool × Sl := if (s.on && f.inc == s.inc && decide (s.floor ≤ f.rid)) = false then (false, s) else (decide ((s.low f).floor ≤ f.rid), s.low f)
set_option maxRecDepth 100000 in
set_option maxHeartbeats 1000000 in
theorem padmits_any (X : Nat) (s : Sl) (f : F) (hn : s.done.length ≤ 100000) (w : World) (o : Nat → Nat × Nat) (h : IsPsl w o X s) :
    Calls Tryz.prog 29 #[.pointer (some ⟨X, 0, none⟩), f.v] w fun e w' => e = .returned (.bool (s.adm f).1) ∧ ∃ o', IsPsl w' o' X (s.adm f).2 ∧ Fr T10 o o' w w' := by
  obtain ⟨C, D, d, h⟩ := h
  have HI := hid h
  obtain ⟨W, hW⟩ : ∃ W, W = w.alloc (.cells f.cs.toArray 27) := ⟨_, rfl⟩
  have bW : Below w.heap.size w W := by rw [hW]; exact bel_alloc _ _
  have K0 : KB W (nwl o w.heap.size) w.heap.size f := by rw [hW]; exact KB.start w o f
  have G0 : Fr T10 o (nwl o w.heap.size) w W := nwl_fr _ o bW
  have I0 : IsPl W (nwl o w.heap.size) X s C D d := HI.out.fr (nwl_fr (fun _ => False) o bW) (fun _ _ => id)
  obtain ⟨o1, ho1⟩ : ∃ o1, o1 = nwl o w.heap.size := ⟨_, rfl⟩
  rw [← ho1] at K0 G0 I0
  have HK := hid K0
  have HG := hid G0
  have HI0 := hid I0
  have PR := hid (fun V oo (hS : IsPsl V oo X s) => praise_any X s f.floor hn V oo hS)
  clear h HI ho1 G0 I0 bW hn
  have x3 := HI0.out.c.c3
  have x4 := HI0.out.c.c4
  have x5 := HI0.out.c.c5
  by_cases hs : (s.on && f.inc == s.inc && decide (s.floor ≤ f.rid)) = false
  · have hA : s.adm f = (false, s) := by unfold Sl.adm; rw [if_pos hs]
    rw [hA]
    have I1 : IsPsl W o1 X s := ⟨C, D, d, HI0.out⟩
    have HI1 := hid I1
    obtain ⟨i0, hi0⟩ : ∃ i0, s.inc = i0 := ⟨_, rfl⟩
    obtain ⟨b0, hb0⟩ : ∃ b0, s.on = b0 := ⟨_, rfl⟩
    obtain ⟨l0, hl0⟩ : ∃ l0, s.floor = l0 := ⟨_, rfl⟩
    rw [hi0, hb0, hl0] at hs
    rw [hi0] at x4
    rw [hb0] at x3
    rw [hl0] at x5
    clear I1 hi0 hb0 hl0 hA PR
    obtain ⟨f0, f1, f2, f3, f4, f5, f6, f7, f8⟩ := f
    have vf : (⟨f0, f1, f2, f3, f4, f5, f6, f7, f8⟩ : F).v = .agg #[.int .i64 f0, .int .i64 f1, .int .i64 f2, .int .i64 f3, .int .i64 f4, .int .i64 f5, .string f6, .int .i64 f7, .string f8] := rfl
    rw [vf]
    have HF : Hid (W = w.alloc (.cells #[.int .i64 f0, .int .i64 f1, .int .i64 f2, .int .i64 f3, .int .i64 f4, .int .i64 f5, .string f6, .int .i64 f7, .string f8] 27)) := hid hW
    obtain ⟨q0, q1, q2, q3, q4, q5, q6, q7, q8⟩ := K0.nine
    clear vf hW K0

    have hs : (b0 && f2 == i0 && decide (l0 ≤ f3)) = false := hs
    cases b0 with
    | false =>
      clear hs
      go_enter Tryz.func29, Tryz.ntmps29
      go_wp2_with fail
      rw [← HF.out]
      go_big_quiet (fail)
      go_wp2_with fail
      go_ret
      exact ⟨rfl, o1, HI1.out.below (below_drewN (Below.refl _ _) _), HG.out.trans (Fr.ofBelow T10 o1 (below_drewN (Below.refl _ _) _))⟩
    | true =>
      by_cases hi : f2 = i0
      · subst hi
        have tn : (f2 != f2) = false := by simp
        have tl : decide (f3 < l0) = true := by simp at hs ⊢; omega
        clear hs
        go_enter Tryz.func29, Tryz.ntmps29
        go_wp2_with fail
        rw [← HF.out]
        go_big_quiet (fail)
        go_wp2_with fail
        go_ret
        exact ⟨rfl, o1, HI1.out.below (below_drewN (Below.refl _ _) _), HG.out.trans (Fr.ofBelow T10 o1 (below_drewN (Below.refl _ _) _))⟩
      · have tn : (f2 != i0) = true := by simp [hi]
        clear hs hi
        go_enter Tryz.func29, Tryz.ntmps29
        go_wp2_with fail
        rw [← HF.out]
        go_big_quiet (fail)
        go_wp2_with fail
        go_ret
        exact ⟨rfl, o1, HI1.out.below (below_drewN (Below.refl _ _) _), HG.out.trans (Fr.ofBelow T10 o1 (below_drewN (Below.refl _ _) _))⟩
  · have hs' : (s.on && f.inc == s.inc && decide (s.floor ≤ f.rid)) = true := by
      cases hq : (s.on && f.inc == s.inc && decide (s.floor ≤ f.rid)) with
      | true => rfl
      | false => exact absurd hq hs
    simp only [Bool.and_eq_true, beq_iff_eq, decide_eq_true_eq] at hs'
    obtain ⟨⟨ho, hi⟩, hl⟩ := hs'
    by_cases hf : s.floor < f.floor
    · have hL : s.low f = { s with floor := f.floor, done := s.done.filter fun a => decide (f.floor ≤ a.rid) } := by unfold Sl.low; rw [if_pos hf]
      have hA : s.adm f = (decide (f.floor ≤ f.rid), { s with floor := f.floor, done := s.done.filter fun a => decide (f.floor ≤ a.rid) }) := by unfold Sl.adm; rw [if_neg hs, hL]
      rw [hA]
      rw [ho] at x3
      rw [← hi] at x4
      obtain ⟨l0, hl0⟩ : ∃ l0, s.floor = l0 := ⟨_, rfl⟩
      rw [hl0] at x5 hl hf
      clear hs ho hi hL hA hl0
      obtain ⟨f0, f1, f2, f3, f4, f5, f6, f7, f8⟩ := f
      have vf : (⟨f0, f1, f2, f3, f4, f5, f6, f7, f8⟩ : F).v = .agg #[.int .i64 f0, .int .i64 f1, .int .i64 f2, .int .i64 f3, .int .i64 f4, .int .i64 f5, .string f6, .int .i64 f7, .string f8] := rfl
      rw [vf]
      have HF : Hid (W = w.alloc (.cells #[.int .i64 f0, .int .i64 f1, .int .i64 f2, .int .i64 f3, .int .i64 f4, .int .i64 f5, .string f6, .int .i64 f7, .string f8] 27)) := hid hW
      obtain ⟨q0, q1, q2, q3, q4, q5, q6, q7, q8⟩ := K0.nine
      clear vf hW K0

      have tn : (f2 != f2) = false := by simp
      have hl : l0 ≤ f3 := hl
      have hf : l0 < f4 := hf
      have tl : decide (f3 < l0) = false := by simp; omega
      have tf : decide (l0 < f4) = true := by simp; omega
      clear hl hf
      go_enter Tryz.func29, Tryz.ntmps29
      go_wp2_with fail
      rw [← HF.out]
      go_big_quiet (fail)
      obtain ⟨n1, hn1⟩ : ∃ n1, n1 = nq := ⟨_, rfl⟩
      rw [← hn1]
      clear hn1
      go_wp2_with fail
      go_quiet (fail)
      go_wp2_with fail
      have bq : Below W.heap.size W (W.drewN (n1 + nq)) := below_drewN (Below.refl _ _) _
      have GQ := HG.out.trans (Fr.ofBelow T10 o1 bq)
      have KQ := HK.out.below bq
      refine (PR.out _ _ ⟨C, D, d, HI0.out.below bq⟩).mono ?_
      rintro e w3 ⟨rfl, o3, h3, g3⟩
      obtain ⟨C3, D3, d3, h3⟩ := h3
      have K3 := (KQ.fr g3 nT10b).nine
      have p3 := K3.2.2.2.1
      have y5 : w3.cell? ⟨X, 5, none⟩ = some (.int .i64 f4) := h3.c.c5
      have HE : Hid (IsPsl w3 o3 X { s with floor := f4, done := s.done.filter fun a => decide (f4 ≤ a.rid) } ∧ Fr T10 o o3 w w3) := hid ⟨⟨C3, D3, d3, h3⟩, GQ.trans g3⟩
      clear h3 K3 KQ GQ g3 PR HI0 HK HG bq
      obtain ⟨b3, hb3⟩ : ∃ b3, decide (f4 ≤ f3) = b3 := ⟨_, rfl⟩
      have HB3 := hid hb3
      go_wp2_with fail
      go_quiet (fail)
      go_wp2_with fail
      go_ret
      exact ⟨by rw [HB3.out]; rfl, o3, HE.out.1.below (below_drewN (Below.refl _ _) _), HE.out.2.trans (Fr.ofBelow T10 o3 (below_drewN (Below.refl _ _) _))⟩
    · have hL : s.low f = s := by unfold Sl.low; rw [if_neg hf]
      have hA : s.adm f = (true, s) := by unfold Sl.adm; rw [if_neg hs, hL]; simp [hl]
      rw [hA]
      rw [ho] at x3
      rw [← hi] at x4
      obtain ⟨l0, hl0⟩ : ∃ l0, s.floor = l0 := ⟨_, rfl⟩
      rw [hl0] at x5 hl hf
      have HI1 : Hid (IsPsl W o1 X s) := hid ⟨C, D, d, HI0.out⟩
      clear hs ho hi hL hA hl0 PR
      obtain ⟨f0, f1, f2, f3, f4, f5, f6, f7, f8⟩ := f
      have vf : (⟨f0, f1, f2, f3, f4, f5, f6, f7, f8⟩ : F).v = .agg #[.int .i64 f0, .int .i64 f1, .int .i64 f2, .int .i64 f3, .int .i64 f4, .int .i64 f5, .string f6, .int .i64 f7, .string f8] := rfl
      rw [vf]
      have HF : Hid (W = w.alloc (.cells #[.int .i64 f0, .int .i64 f1, .int .i64 f2, .int .i64 f3, .int .i64 f4, .int .i64 f5, .string f6, .int .i64 f7, .string f8] 27)) := hid hW
      obtain ⟨q0, q1, q2, q3, q4, q5, q6, q7, q8⟩ := K0.nine
      clear vf hW K0

      have tn : (f2 != f2) = false := by simp
      have hl : l0 ≤ f3 := hl
      have hf : ¬ l0 < f4 := hf
      have tl : decide (f3 < l0) = false := by simp; omega
      have tf : decide (l0 < f4) = false := by simp; omega
      have tg : decide (l0 ≤ f3) = true := by simp; omega
      clear hl hf
      go_enter Tryz.func29, Tryz.ntmps29
      go_wp2_with fail
      rw [← HF.out]
      go_big_quiet (fail)
      go_wp2_with fail
      go_quiet (fail)
      go_wp2_with fail
      go_quiet (fail)
      go_wp2_with fail
      go_ret
      exact ⟨rfl, o1, HI1.out.below (below_drewN (below_drewN (below_drewN (Below.refl _ _) _) _) _), HG.out.trans (Fr.ofBelow T10 o1 (below_drewN (below_drewN (below_drewN (Below.refl _ _) _) _) _))⟩
end Go.Proofs.YtfinaichajbnkaaGreat
