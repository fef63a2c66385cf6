/-
  once.
-/
import Derived.Test.YtfinaichajbnkaaGreatPdo
import Derived.Test.YtfinaichajbnkaaGreatPns
import Derived.Test.YtfinaichajbnkaaGreatPra
namespace Go.Proofs.YtfinaichajbnkaaGreat
open Go.RowKit
open Wi (F)

/-- A request done, if it wasn't; what it is answered. -/
def Sl.onc (s : Sl) (f : F) : F × Sl := match s.done.find? fun a => a.rid == f.rid with
  | some a => (a, s)
  | none => ((s.doo f).1, { s with z := (s.doo f).2, done := s.done ++ [(s.doo f).1] })
theorem was_some {d : List F} {r : Int} (hup : d.Pairwise fun a b => a.rid < b.rid) (h : was d r = true) : ∃ a, d[low d r]? = some a ∧ a.rid = r := by
  induction d with
  | nil => cases h
  | cons a d ih =>
    obtain ⟨h1, h2⟩ := List.pairwise_cons.1 hup
    rw [low_cons]
    by_cases hr : a.rid = r
    · have e : low d r = 0 := by
        unfold low
        rw [List.filter_eq_nil_iff.2 (fun b hb => by have := h1 b hb; simp; omega)]; rfl
      rw [if_neg (by omega), e]
      exact ⟨a, rfl, hr⟩
    · have hw : was d r = true := by
        unfold was at h ⊢
        rw [List.any_cons] at h
        have : (a.rid == r) = false := by simp [hr]
        rwa [this, Bool.false_or] at h
      obtain ⟨b, hb, hbr⟩ := ih h2 hw
      have := h1 b (List.mem_of_getElem? hb)
      rw [if_pos (by omega), List.getElem?_cons_succ]
      exact ⟨b, hb, hbr⟩
theorem DnOk.find {l d : List F} (h : DnOk l d) {a : F} (ha : a ∈ d) {r : Int} (hr : a.rid = r) : l.find? (fun a => a.rid == r) = some a := by
  cases hf : l.find? (fun a => a.rid == r) with
  | none =>
    have := (List.find?_eq_none.1 hf) a (h.pm.mem_iff.1 ha)
    simp [hr] at this
  | some b =>
    have hb := List.mem_of_find?_eq_some hf
    have hbr := List.find?_some hf
    simp only [beq_iff_eq] at hbr
    have hbd := h.pm.mem_iff.2 hb
    have hp := h.up
    congr 1
    by_cases e : b = a
    · exact e
    · exfalso
      obtain ⟨i, hi, rfl⟩ := List.getElem_of_mem ha
      obtain ⟨j, hj, rfl⟩ := List.getElem_of_mem hbd
      have hp := List.pairwise_iff_getElem.1 hp
      rcases Nat.lt_trichotomy i j with h1 | h1 | h1
      · have := hp i j hi hj h1; omega
      · subst h1; exact e rfl
      · have := hp j i hj hi h1; omega
theorem tak_low {d : List F} (hup : d.Pairwise fun a b => a.rid < b.rid) (r : Int) : d.take (low d r) = d.filter fun a => decide (a.rid < r) := by
  induction d with
  | nil => rfl
  | cons a d ih =>
    obtain ⟨h1, h2⟩ := List.pairwise_cons.1 hup
    rw [low_cons, List.filter_cons]
    by_cases h : a.rid < r
    · rw [if_pos h, if_pos (by simp [h]), List.take_succ_cons, ih h2]
    · rw [if_neg h, if_neg (by simp [h])]
      have e : low d r = 0 := by
        unfold low
        rw [List.filter_eq_nil_iff.2 (fun b hb => by have := h1 b hb; simp; omega)]; rfl
      rw [e, List.take_zero, List.filter_eq_nil_iff.2 (fun b hb => by have := h1 b hb; simp; omega)]
theorem DnOk.find_no {l d : List F} (h : DnOk l d) {r : Int} (hw : was d r = false) : l.find? (fun a => a.rid == r) = none := by
  rw [List.find?_eq_none]
  intro a ha
  unfold was at hw
  rw [List.any_eq_false] at hw
  exact hw a (h.pm.mem_iff.2 ha)
theorem dn_ins {l d : List F} (h : DnOk l d) {a : F} {r : Int} (hr : a.rid = r) (hw : was d r = false) : DnOk (l ++ [a]) (d.take (low d r) ++ a :: d.drop (low d r)) := by
  have ht := tak_low h.up r
  have hd := drop_low h.up r
  have hlo : ∀ b ∈ d.take (low d r), b.rid < r := fun b hb => by
    rw [ht] at hb
    simpa using (List.mem_filter.1 hb).2
  have hhi : ∀ b ∈ d.drop (low d r), r < b.rid := fun b hb => by
    have hm : b ∈ d := List.mem_of_mem_drop hb
    rw [hd] at hb
    have h1 := (List.mem_filter.1 hb).2
    simp only [decide_eq_true_eq] at h1
    unfold was at hw
    rw [List.any_eq_false] at hw
    have h2 := hw b hm
    simp only [beq_iff_eq] at h2
    omega
  refine ⟨?_, ?_⟩
  · have h1 : (d.take (low d r) ++ a :: d.drop (low d r)).Perm (a :: d) := by
      have := List.perm_middle (a := a) (l₁ := d.take (low d r)) (l₂ := d.drop (low d r))
      rwa [List.take_append_drop] at this
    exact (h1.trans (h.pm.cons a)).trans (List.perm_append_singleton a l).symm
  · refine List.pairwise_append.2 ⟨h.up.sublist (List.take_sublist _ _), List.pairwise_cons.2 ⟨fun b hb => ?_, h.up.sublist (List.drop_sublist _ _)⟩, fun b hb c hc => ?_⟩
    · have := hhi b hb; omega
    · have h1 := hlo b hb
      rcases List.mem_cons.1 hc with rfl | hc
      · omega
      · have := hhi c hc; omega
end Go.Proofs.YtfinaichajbnkaaGreat


namespace Go.Proofs.YtfinaichajbnkaaGreat
open Go.RowKit
open Wi (F)

theorem fin_onc {w1 w3 : World} {o2 o3 : Nat → Nat × Nat} {X C : Nat} {s : Sl} {z' : Sp} {D D2 : Value} {d : List F} {a : F} {i : Nat} (I : IsPl w1 o2 X { s with z := z' } C D d) (O : OwnK w3 o3 (10, 2) 9 D2 (d.length + 1) (fcz (d.take i ++ a :: d.drop i))) (G : Fr (· = (10, 2)) o2 o3 w1 w3) (hi : i ≤ d.length) (hd : DnOk (s.done ++ [a]) (d.take i ++ a :: d.drop i)) :
    (∃ u, w3.cell? ⟨X, 7, none⟩ = some u) ∧ w3.frozen? ⟨X, 7, none⟩ = false ∧ IsPl (w3.setCell ⟨X, 7, none⟩ D2) o3 X { s with z := z', done := s.done ++ [a] } C D2 (d.take i ++ a :: d.drop i) ∧ Fr TP o2 o3 w1 (w3.setCell ⟨X, 7, none⟩ D2) := by
  have hX : ¬ (o2 X = (10, 2)) := by rw [I.oX]; exact fun e => by cases e
  have c3 := I.c.fr G hX
  have oX3 : o3 X = (10, 0) := (G.lab X I.c.lt).trans I.oX
  have S3 := I.st.fr G (fun t ht e => by rw [e] at ht; have : 10 ≤ 3 := ht.2; omega)
  have k7 := c3.set (s' := { s with z := z', done := s.done ++ [a] }) (C' := C) (D' := D2) 7 D2 (fun i u e => by
    rcases i with _ | _ | _ | _ | _ | _ | _ | _ | i <;> simp at e ⊢ <;> exact e) (by omega)
  have g7 : Fr (· = (10, 0)) o3 o3 w3 (w3.setCell ⟨X, 7, none⟩ D2) := Fr.set (a := ⟨X, 7, none⟩) oX3 _
  have hl : (d.take i ++ a :: d.drop i).length = d.length + 1 := by
    rw [List.length_append, List.length_take, List.length_cons, List.length_drop]; omega
  refine ⟨⟨_, c3.c7⟩, c3.fz 7, ⟨oX3, k7, S3.fr g7 (fun t ht e => by rw [e] at ht; have : 10 ≤ 3 := ht.2; omega), by rw [hl]; exact O.fr g7 (fun e => by cases e), hd, ⟨I.ok.i1, I.ok.i2, I.ok.p1, I.ok.p2, I.ok.g1, I.ok.g2, I.ok.cn⟩⟩, (G.mono (fun t e => by rw [e]; exact .inr rfl)).trans (g7.mono (fun t e => by rw [e]; exact .inr rfl))⟩
set_option maxRecDepth 100000 in
set_option maxHeartbeats 2000000 in
theorem ponce_any (X : Nat) (s : Sl) (f : F) (hrt : Wi.rt f = true) (h5 : f.kind ≠ 5) (h6 : f.kind ≠ 6) (h7 : f.kind ≠ 7) (hn : s.done.length ≤ 90000) (w : World) (o : Nat → Nat × Nat) (h : IsPsl w o X s) :
    Calls Tryz.prog 30 #[.pointer (some ⟨X, 0, none⟩), f.v] w fun e w' => e = .returned ((s.onc f).1).v ∧ ∃ o', IsPsl w' o' X (s.onc f).2 ∧ Fr TP o o' w w' := by
  obtain ⟨C, D, d, h⟩ := h
  have HI := hid h
  obtain ⟨W, hW⟩ : ∃ W, W = (w.alloc (.cells f.cs.toArray 27)).alloc (.cells Wi.Z.cs.toArray 27) := ⟨_, rfl⟩
  have S2 := start2 w o f
  rw [← hW] at S2
  obtain ⟨K0, R0, bW⟩ := S2
  have G0 : Fr TP o (nwl o w.heap.size) w W := nwl_fr _ o bW
  have I0 : IsPl W (nwl o w.heap.size) X s C D d := HI.out.fr (nwl_fr (fun _ => False) o bW) (fun _ _ => id)
  obtain ⟨o1, ho1⟩ : ∃ o1, o1 = nwl o w.heap.size := ⟨_, rfl⟩
  rw [← ho1] at K0 R0 G0 I0
  have HK := hid K0
  have HR := hid R0
  have HG := hid G0
  have HI0 := hid I0
  clear h HI ho1 G0 I0 R0 bW

  have hdl : d.length ≤ 90000 := by rw [HI0.out.dd.len]; exact hn
  have FI := hid (pfind_any X D d f.rid (by omega) W o1 HI0.out.c.c7 HI0.out.dn HI0.out.dd.up)
  obtain ⟨i, hi⟩ : ∃ i, low d f.rid = i := ⟨_, rfl⟩
  rw [hi] at FI
  obtain ⟨NU, hNU⟩ : ∃ NU, NU = d.length := ⟨_, rfl⟩
  have HNU := hid hNU
  have hil : i ≤ NU := by rw [hNU, ← hi]; exact low_le _ _
  rw [← hNU] at hdl
  cases hw : was d f.rid with
  | true =>
    obtain ⟨a, ha, har⟩ := was_some HI0.out.dd.up hw
    have hon : s.onc f = (a, s) := by
      unfold Sl.onc
      rw [HI0.out.dd.find (List.mem_of_getElem? ha) har]
    rw [hon]
    rw [hw] at FI
    rw [hi] at ha
    obtain ⟨a0, a1, a2, a3, a4, a5, a6, a7, a8⟩ := a
    have HAT := hid ha
    clear hon hw har ha hi hNU hn h5 h6 h7 hrt
    obtain ⟨f0, f1, f2, f3, f4, f5, f6, f7, f8⟩ := f
    have vf : (⟨f0, f1, f2, f3, f4, f5, f6, f7, f8⟩ : F).v = .agg #[.int .i64 f0, .int .i64 f1, .int .i64 f2, .int .i64 f3, .int .i64 f4, .int .i64 f5, .string f6, .int .i64 f7, .string f8] := rfl
    rw [vf]
    have HF : Hid (W = (w.alloc (.cells #[.int .i64 f0, .int .i64 f1, .int .i64 f2, .int .i64 f3, .int .i64 f4, .int .i64 f5, .string f6, .int .i64 f7, .string f8] 27)).alloc (.cells #[.int .i64 0, .int .i64 0, .int .i64 0, .int .i64 0, .int .i64 0, .int .i64 0, .string ⟨#[]⟩, .int .i64 0, .string ⟨#[]⟩] 27)) := hid hW
    obtain ⟨q0, q1, q2, q3, q4, q5, q6, q7, q8⟩ := K0.nine
    clear vf hW K0

    replace FI : Hid (Calls Tryz.prog 48 #[.pointer (some ⟨X, 0, none⟩), .int .i64 f3] W fun e w' => e = .returned (.tuple #[.int .i64 (i : Int), .bool true]) ∧ W = w') := FI
    go_enter Tryz.func30, Tryz.ntmps30
    go_wp2_with fail
    rw [← HF.out]
    go_wp2_with fail
    refine FI.out.mono ?_
    rintro e w1 ⟨rfl, rfl⟩
    obtain ⟨U, hU⟩ : ∃ U, U = W := ⟨_, rfl⟩
    have HIU : Hid (IsPl U o1 X s C D d) := by rw [hU]; exact HI0
    have HRU : Hid (RB9 U o1 (w.heap.size + 1)) := by rw [hU]; exact HR
    have HGU : Hid (Fr TP o o1 w U) := by rw [hU]; exact HG
    rw [← hU]
    clear hU HI0 HR HG HK FI q0 q1 q2 q3 q4 q5 q6 q7 q8 HF
    obtain ⟨g, cap, hDU, _, _, _, _, h6, _⟩ := HIU.out.dn.there (by have := (List.getElem?_eq_some_iff.1 HAT.out).1; omega)
    have hil : i < NU := by rw [HNU.out]; exact (List.getElem?_eq_some_iff.1 HAT.out).1
    rw [← HNU.out] at hDU
    subst hDU
    have c7 := HIU.out.c.c7
    have b0 : U.cell? ⟨g, i * 9 + 0, none⟩ = some (.int .i64 a0) := h6 _ _ (by rw [fcz_at _ HAT.out 0 (by omega)]; rfl)
    have b1 : U.cell? ⟨g, i * 9 + 1, none⟩ = some (.int .i64 a1) := h6 _ _ (by rw [fcz_at _ HAT.out 1 (by omega)]; rfl)
    have b2 : U.cell? ⟨g, i * 9 + 2, none⟩ = some (.int .i64 a2) := h6 _ _ (by rw [fcz_at _ HAT.out 2 (by omega)]; rfl)
    have b3 : U.cell? ⟨g, i * 9 + 3, none⟩ = some (.int .i64 a3) := h6 _ _ (by rw [fcz_at _ HAT.out 3 (by omega)]; rfl)
    have b4 : U.cell? ⟨g, i * 9 + 4, none⟩ = some (.int .i64 a4) := h6 _ _ (by rw [fcz_at _ HAT.out 4 (by omega)]; rfl)
    have b5 : U.cell? ⟨g, i * 9 + 5, none⟩ = some (.int .i64 a5) := h6 _ _ (by rw [fcz_at _ HAT.out 5 (by omega)]; rfl)
    have b6 : U.cell? ⟨g, i * 9 + 6, none⟩ = some (.string a6) := h6 _ _ (by rw [fcz_at _ HAT.out 6 (by omega)]; rfl)
    have b7 : U.cell? ⟨g, i * 9 + 7, none⟩ = some (.int .i64 a7) := h6 _ _ (by rw [fcz_at _ HAT.out 7 (by omega)]; rfl)
    have b8 : U.cell? ⟨g, i * 9 + 8, none⟩ = some (.string a8) := h6 _ _ (by rw [fcz_at _ HAT.out 8 (by omega)]; rfl)
    have b0 : U.cell? ⟨g, i * 9, none⟩ = some (.int .i64 a0) := b0
    have hi1 : (i : Int) < (NU : Int) := by omega
    have HE := hid (RB9.finp HRU.out HIU.out HGU.out (by omega) (⟨a0, a1, a2, a3, a4, a5, a6, a7, a8⟩ : F))
    obtain ⟨E, hE⟩ : ∃ E, E = (⟨a0, a1, a2, a3, a4, a5, a6, a7, a8⟩ : F).cs := ⟨_, rfl⟩
    have HEE := hid hE
    have HLA : Hid (E.length = 9) := hid (by rw [hE]; rfl)
    have HOA : Hid (∀ u ∈ E, u.oneCell' = true) := hid (by rw [hE]; exact fz_ones _)
    have HAL : Hid (E = [.int .i64 a0, .int .i64 a1, .int .i64 a2, .int .i64 a3, .int .i64 a4, .int .i64 a5, .string a6, .int .i64 a7, .string a8]) := hid (by rw [hE]; rfl)
    rw [← hE] at HE
    have HE2 := hid HE.out.1
    have HRG := hid HE.out.2.1
    have HFN := hid HE.out.2.2
    clear HE hE h6 hil HIU HRU HGU
    go_wp2_with ((with_reducible show wpList _ _ _ (Oper.mk none (Op.store 27 (.tmp 4) _) _ _ _ _ :: _) _ _); refine wpList_store_mid (by rfl) 27 (.tmp 4) (.tmp 35) (by rfl) (w.heap.size + 1) 0 E.toArray (by rfl) (by rw [HAL.out]; rfl) HE2.out (by rw [List.size_toArray, HLA.out]; kernel_rfl) (all_oneCell_toArray HOA.out) ?_; rw [show E.toArray.toList = E from rfl])
    refine bodyPost_ret (v := .agg E.toArray) (by simp [results, Tryz.results30]; exact loadz HRG.out HLA.out) rfl ?_
    exact ⟨by rw [HEE.out]; rfl, o1, ⟨C, _, d, HFN.out.1⟩, HFN.out.2⟩

  | false =>
    rw [hw] at FI
    have hnone := HI0.out.dd.find_no hw
    obtain ⟨a, ha⟩ : ∃ a, a = (s.doo f).1 := ⟨_, rfl⟩
    obtain ⟨z', hz'⟩ : ∃ z', z' = (s.doo f).2 := ⟨_, rfl⟩
    have har : a.rid = f.rid := by rw [ha]; exact doo_rid s f
    have hon : s.onc f = (a, { s with z := z', done := s.done ++ [a] }) := by
      unfold Sl.onc
      rw [hnone, ha, hz']
    rw [hon]
    have HDN : Hid (DnOk (s.done ++ [a]) (d.take i ++ a :: d.drop i)) := hid (by rw [← hi]; exact dn_ins HI0.out.dd har hw)
    have DOV := hid (pdo_any X s C D d f hrt h5 h6 h7 W.drew o1 (HI0.out.below (below_drewN (Below.refl _ _) 1)))
    rw [← ha, ← hz'] at DOV
    obtain ⟨bD, cD, hD, _⟩ := HI0.out.dn.form
    rw [← hNU] at hD
    subst hD
    have x7 := HI0.out.c.c7
    have hdl2 : d.length ≤ 90000 := by rw [← hNU]; exact hdl
    have hil2 : i ≤ d.length := by rw [← hNU]; exact hil
    have HAT : Hid ((d.take i ++ a :: d.drop i)[i]? = some a) := hid (by
      rw [List.getElem?_append_right (by rw [List.length_take]; omega), List.length_take, Nat.min_eq_left hil2, Nat.sub_self]; rfl)
    have INA := hid (fun (V : World) (oo : Nat → Nat × Nat) hO (B : Nat) hB => insert_any (o := oo) (t := (10, 2)) d a i hil2 (.slice bD NU cD) (by omega) V hO B hB)
    obtain ⟨a0, a1, a2, a3, a4, a5, a6, a7, a8⟩ := a
    clear hon hw har ha hz' hi hn h5 h6 h7 hrt hnone hdl2 hil2
    obtain ⟨f0, f1, f2, f3, f4, f5, f6, f7, f8⟩ := f
    have vf : (⟨f0, f1, f2, f3, f4, f5, f6, f7, f8⟩ : F).v = .agg #[.int .i64 f0, .int .i64 f1, .int .i64 f2, .int .i64 f3, .int .i64 f4, .int .i64 f5, .string f6, .int .i64 f7, .string f8] := rfl
    rw [vf]
    have HF : Hid (W = (w.alloc (.cells #[.int .i64 f0, .int .i64 f1, .int .i64 f2, .int .i64 f3, .int .i64 f4, .int .i64 f5, .string f6, .int .i64 f7, .string f8] 27)).alloc (.cells #[.int .i64 0, .int .i64 0, .int .i64 0, .int .i64 0, .int .i64 0, .int .i64 0, .string ⟨#[]⟩, .int .i64 0, .string ⟨#[]⟩] 27)) := hid hW
    obtain ⟨q0, q1, q2, q3, q4, q5, q6, q7, q8⟩ := K0.nine
    clear vf hW K0

    replace FI : Hid (Calls Tryz.prog 48 #[.pointer (some ⟨X, 0, none⟩), .int .i64 f3] W fun e w' => e = .returned (.tuple #[.int .i64 (i : Int), .bool false]) ∧ W = w') := FI
    replace DOV : Hid (Calls Tryz.prog 50 #[.pointer (some ⟨X, 0, none⟩), .agg #[.int .i64 f0, .int .i64 f1, .int .i64 f2, .int .i64 f3, .int .i64 f4, .int .i64 f5, .string f6, .int .i64 f7, .string f8]] W.drew fun e w' => e = .returned (.agg #[.int .i64 a0, .int .i64 a1, .int .i64 a2, .int .i64 a3, .int .i64 a4, .int .i64 a5, .string a6, .int .i64 a7, .string a8]) ∧ ∃ o', IsPl w' o' X { s with z := z' } C (.slice bD NU cD) d ∧ Fr TS o1 o' W.drew w') := DOV
    clear hNU
    go_enter Tryz.func30, Tryz.ntmps30
    go_wp2_with fail
    rw [← HF.out]
    go_wp2_with fail
    refine FI.out.mono ?_
    rintro e w1 ⟨rfl, rfl⟩
    go_wp2_with fail
    go_region_with (first
      | (go_at_call 50; (with_reducible refine DOV.out.mono ?_); rintro e w2 ⟨rfl, o2, I2, G2⟩; have d7 := I2.c.c7; have I3 := I2.fr (nwl_fr (fun _ => False) o2 (bel_alloc w2 (.cells #[.int .i64 a0, .int .i64 a1, .int .i64 a2, .int .i64 a3, .int .i64 a4, .int .i64 a5, .string a6, .int .i64 a7, .string a8] 27))) (fun _ _ => id); have e7 := I3.c.c7; have hOF : OneF (w2.alloc (.cells #[.int .i64 a0, .int .i64 a1, .int .i64 a2, .int .i64 a3, .int .i64 a4, .int .i64 a5, .string a6, .int .i64 a7, .string a8] 27)) (nwl o2 w2.heap.size) (10, 2) w2.heap.size (⟨a0, a1, a2, a3, a4, a5, a6, a7, a8⟩ : F) := ⟨fun j u hu => (by rw [World.cell?_alloc_new]; exact (List.getElem?_toArray (xs := (⟨a0, a1, a2, a3, a4, a5, a6, a7, a8⟩ : F).cs) ▸ hu)), (by rw [nwl_new (Nat.le_refl _)]; exact fun e => by cases e), (by rw [World.size_alloc]; omega), shape_new w2 (⟨a0, a1, a2, a3, a4, a5, a6, a7, a8⟩ : F).cs 27, fun j => World.frozen?_alloc_new _ _ _ _⟩; have IN := hid (INA.out _ _ I3.dn _ hOF); have HI3 := hid (And.intro I3 ((G2.mono (fun t h => TS.tp h)).trans (nwl_fr TP o2 (bel_alloc w2 (.cells #[.int .i64 a0, .int .i64 a1, .int .i64 a2, .int .i64 a3, .int .i64 a4, .int .i64 a5, .string a6, .int .i64 a7, .string a8] 27))))); clear I2 G2 I3 hOF)
      | (go_at_call 49; (with_reducible refine IN.out.mono ?_); rintro e w3 ⟨D2, o3, rfl, O3, G3⟩; obtain ⟨b2, c2, hD2, _⟩ := O3.form; subst hD2; obtain ⟨⟨u7, m7⟩, z7, I4, G4⟩ := fin_onc HI3.out.1 O3 G3 (by have := HNU.out; omega) HDN.out; have HE4 := hid (And.intro I4 (HI3.out.2.trans G4)); clear O3 G3 I4 G4))
    all_goals (
      obtain ⟨D2, hD2⟩ : ∃ D2, D2 = Value.slice b2 (d.length + 1) c2 := ⟨_, rfl⟩
      rw [← hD2] at HE4 ⊢
      clear hD2
      obtain ⟨U, hU⟩ : ∃ U, U = w3.setCell ⟨X, 7, none⟩ D2 := ⟨_, rfl⟩
      rw [← hU] at HE4 ⊢
      have HIU := hid HE4.out.1
      have bd : Below W.heap.size W W.drew := below_drewN (Below.refl _ W) 1
      have HRU := hid ((HR.out.below bd).fr HE4.out.2 (fun e => nTP8 _ e rfl))
      have HGU := hid ((HG.out.trans (Fr.ofBelow TP o1 bd)).trans HE4.out.2)
      clear hU HE4 bd IN DOV FI HI0 HR HG HK HI3 INA HDN x7 d7 e7 m7 z7 q0 q1 q2 q3 q4 q5 q6 q7 q8 HF HNU
      obtain ⟨NU2, hNU2⟩ : ∃ NU2, NU2 = (d.take i ++ (⟨a0, a1, a2, a3, a4, a5, a6, a7, a8⟩ : F) :: d.drop i).length := ⟨_, rfl⟩
      have HNU := hid hNU2
      clear hNU2
      obtain ⟨g, cap, hDU, _, _, _, _, h6, _⟩ := HIU.out.dn.there (by have := (List.getElem?_eq_some_iff.1 HAT.out).1; omega)
      have hil : i < NU2 := by rw [HNU.out]; exact (List.getElem?_eq_some_iff.1 HAT.out).1
      rw [← HNU.out] at hDU
      subst hDU
      have c7 := HIU.out.c.c7
      have b0 : U.cell? ⟨g, i * 9 + 0, none⟩ = some (.int .i64 a0) := h6 _ _ (by rw [fcz_at _ HAT.out 0 (by omega)]; rfl)
      have b1 : U.cell? ⟨g, i * 9 + 1, none⟩ = some (.int .i64 a1) := h6 _ _ (by rw [fcz_at _ HAT.out 1 (by omega)]; rfl)
      have b2 : U.cell? ⟨g, i * 9 + 2, none⟩ = some (.int .i64 a2) := h6 _ _ (by rw [fcz_at _ HAT.out 2 (by omega)]; rfl)
      have b3 : U.cell? ⟨g, i * 9 + 3, none⟩ = some (.int .i64 a3) := h6 _ _ (by rw [fcz_at _ HAT.out 3 (by omega)]; rfl)
      have b4 : U.cell? ⟨g, i * 9 + 4, none⟩ = some (.int .i64 a4) := h6 _ _ (by rw [fcz_at _ HAT.out 4 (by omega)]; rfl)
      have b5 : U.cell? ⟨g, i * 9 + 5, none⟩ = some (.int .i64 a5) := h6 _ _ (by rw [fcz_at _ HAT.out 5 (by omega)]; rfl)
      have b6 : U.cell? ⟨g, i * 9 + 6, none⟩ = some (.string a6) := h6 _ _ (by rw [fcz_at _ HAT.out 6 (by omega)]; rfl)
      have b7 : U.cell? ⟨g, i * 9 + 7, none⟩ = some (.int .i64 a7) := h6 _ _ (by rw [fcz_at _ HAT.out 7 (by omega)]; rfl)
      have b8 : U.cell? ⟨g, i * 9 + 8, none⟩ = some (.string a8) := h6 _ _ (by rw [fcz_at _ HAT.out 8 (by omega)]; rfl)
      have b0 : U.cell? ⟨g, i * 9, none⟩ = some (.int .i64 a0) := b0
      have hi1 : (i : Int) < (NU2 : Int) := by omega
      have HE := hid (RB9.finp HRU.out HIU.out HGU.out (by omega) (⟨a0, a1, a2, a3, a4, a5, a6, a7, a8⟩ : F))
      obtain ⟨E, hE⟩ : ∃ E, E = (⟨a0, a1, a2, a3, a4, a5, a6, a7, a8⟩ : F).cs := ⟨_, rfl⟩
      have HEE := hid hE
      have HLA : Hid (E.length = 9) := hid (by rw [hE]; rfl)
      have HOA : Hid (∀ u ∈ E, u.oneCell' = true) := hid (by rw [hE]; exact fz_ones _)
      have HAL : Hid (E = [.int .i64 a0, .int .i64 a1, .int .i64 a2, .int .i64 a3, .int .i64 a4, .int .i64 a5, .string a6, .int .i64 a7, .string a8]) := hid (by rw [hE]; rfl)
      rw [← hE] at HE
      have HE2 := hid HE.out.1
      have HRG := hid HE.out.2.1
      have HFN := hid HE.out.2.2
      clear HE hE h6 hil HIU HRU HGU
      go_wp2_with ((with_reducible show wpList _ _ _ (Oper.mk none (Op.store 27 (.tmp 4) _) _ _ _ _ :: _) _ _); refine wpList_store_mid (by rfl) 27 (.tmp 4) (.tmp 35) (by rfl) (w.heap.size + 1) 0 E.toArray (by rfl) (by rw [HAL.out]; rfl) HE2.out (by rw [List.size_toArray, HLA.out]; kernel_rfl) (all_oneCell_toArray HOA.out) ?_; rw [show E.toArray.toList = E from rfl])
      refine bodyPost_ret (v := .agg E.toArray) (by simp [results, Tryz.results30]; exact loadz HRG.out HLA.out) rfl ?_
      exact ⟨by rw [HEE.out]; rfl, o3, ⟨C, _, _, HFN.out.1⟩, HFN.out.2⟩)
end Go.Proofs.YtfinaichajbnkaaGreat
