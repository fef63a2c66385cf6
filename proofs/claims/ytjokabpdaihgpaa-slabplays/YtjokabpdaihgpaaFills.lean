/-
  S(Nat → Nat × Nat)FILLS walked.
-/
import Derived.Test.YtjokabpdaihgpaaRuns
import Derived.Test.YtjokabpdaihgpaaLed
namespace Go.Proofs.Ytjokabpdaihgpaa
open Go.RowKit

/-- Handles as cells. -/
def hsc (l : List (Nat × Nat)) : List Value := l.flatMap fun h => [.int .i64 ((h.1 : Nat) : Int), .int .i64 ((h.2 : Nat) : Int)]
theorem hsc_cons (p : Nat × Nat) (l : List (Nat × Nat)) : hsc (p :: l) = .int .i64 ((p.1 : Nat) : Int) :: .int .i64 ((p.2 : Nat) : Int) :: hsc l := rfl
theorem hsc_append (l m : List (Nat × Nat)) : hsc (l ++ m) = hsc l ++ hsc m := by simp [hsc]
theorem hsc_at : ∀ (l : List (Nat × Nat)) (j : Nat) (p : Nat × Nat), l[j]? = some p → (hsc l)[j * 2]? = some (.int .i64 ((p.1 : Nat) : Int)) ∧ (hsc l)[j * 2 + 1]? = some (.int .i64 ((p.2 : Nat) : Int))
  | [], j, p, h => by simp at h
  | q :: l, 0, p, h => by simp at h; subst h; exact ⟨rfl, rfl⟩
  | q :: l, j + 1, p, h => by
    rw [hsc_cons, show (j + 1) * 2 = j * 2 + 1 + 1 by omega]
    simp only [List.getElem?_cons_succ] at h ⊢
    exact hsc_at l j p h
theorem under43 : Try.prog.underlying 43 = some (.slice 34) := by kernel_rfl
theorem info34 : (Try.prog.info? 34).map (fun i => (i.zero, i.size, i.bytes)) = some (some (.agg #[.int .i64 0, .int .i64 0]), 2, 16) := by kernel_rfl
/-- One handle more. -/
theorem app_h {w : World} {o : (Nat → Nat × Nat)} {t : Nat × Nat} {v : Value} {n : Nat} {l : List (Nat × Nat)} (h : OwnK w o t 2 v n (hsc l)) (p : Nat × Nat) (hb : n ≤ 1000000) :
    ∃ v' w' o', (Builtin.append_ #[43, 43] 43 #[v, .slice (some ⟨w.heap.size, 0, none⟩) 1 1]).run Try.prog (w.alloc (.cells #[.int .i64 ((p.1 : Nat) : Int), .int .i64 ((p.2 : Nat) : Int)] 34)) = .ok v' w' ∧ OwnK w' o' t 2 v' (n + 1) (hsc (l ++ [p])) ∧ Fr (· = t) o o' w w' := by
  obtain ⟨v', w', o', h1, h2, h3⟩ := app_one 43 34 (.agg #[.int .i64 0, .int .i64 0]) 16 under43 info34 (by kernel_rfl) h [.int .i64 ((p.1 : Nat) : Int), .int .i64 ((p.2 : Nat) : Int)] rfl (fun x hx => by simp at hx; rcases hx with rfl | rfl <;> rfl) (by omega) (by omega)
  exact ⟨v', w', o', h1, by rw [hsc_append]; exact h2, h3⟩
/-- Marks of the slab and of the handles' list. -/
def T12 (t : Nat × Nat) : Prop := t.1 = 1 ∨ t.1 = 2
theorem o0_T12 (w : World) {o : (Nat → Nat × Nat)} {w' : World} (h : Fr T12 o0 o w w') : Below w.heap.size w w' := h.below (Nat.le_refl _) (fun b _ e => by rcases e with e | e <;> cases e)
set_option maxHeartbeats 2000000 in
theorem fills_walk (pages page n : Int) (w : World) :
    Calls Try.prog 6 #[.int .i64 pages, .int .i64 page, .int .i64 n] w fun e w' => e = .returned (.bool true) ∧ Below w.heap.size w w' := by
  go_enter Try.func6, Try.ntmps6
  go_wp2_with fail
  refine (within_any pages 1 6 (by omega) (by omega) (by omega) _).mono ?_
  rintro e w0 ⟨⟨r, rfl, hr1, hr2⟩, rfl⟩
  obtain ⟨p, rfl⟩ : ∃ p : Nat, r = p := ⟨r.toNat, by omega⟩
  go_wp2_with fail
  refine (within_any page 128 1000 (by omega) (by omega) (by omega) _).mono ?_
  rintro e w0 ⟨⟨r, rfl, hz1, hz2⟩, rfl⟩
  obtain ⟨size, rfl⟩ : ∃ p : Nat, r = p := ⟨r.toNat, by omega⟩
  go_wp2_with fail
  refine (within_any n 0 64 (by omega) (by omega) (by omega) _).mono ?_
  rintro e w0 ⟨⟨r, rfl, hk1, hk2⟩, rfl⟩
  obtain ⟨k, rfl⟩ : ∃ p : Nat, r = p := ⟨r.toNat, by omega⟩
  go_wp2_with fail
  refine (new_yes 1 p size p size rfl rfl (by omega) (by omega) (by omega) (by omega) _ o0 (fun b _ e => by cases e)).mono ?_
  rintro e w1 ⟨S, rfl, o1, m, I1, F1⟩
  have HF1 : Hid (Fr T12 o0 o1 w w1) := F1.mono (fun _ h => h.elim)
  have HI1 : Hid (IsSlab w1 o1 1 S (St.new p size m)) := I1
  have HO1 : Hid (One (St.new p size m) p size ∧ (St.new p size m).live = 0) := One.new I1.ok
  obtain ⟨q, hq⟩ : ∃ q, q = size / 64 := ⟨_, rfl⟩
  have HQ : Hid (q = size / 64) := hq
  have hq1 : 1 ≤ q := by omega
  have hq2 : q ≤ 15 := by omega
  have hpq : p * q ≤ 90 := Nat.le_trans (Nat.mul_le_mul (show p ≤ 6 by omega) hq2) (by decide)
  obtain ⟨most, hmost⟩ : ∃ most, most = p * q := ⟨_, rfl⟩
  have HM : Hid (most = p * q) := hmost
  have em : (p : Int) * ((size : Int) / 64) = (most : Int) := by rw [hmost, hq]; simp
  have hm90 : most ≤ 90 := by omega
  clear F1 I1 hq hmost hpq
  go_wp2_with fail
  go_loopw [13] (fun y wr => ∃ (rd : Nat) (s : St) (o : (Nat → Nat × Nat)), y = .int .i64 (rd : Int) ∧ rd ≤ 2 ∧ Hid (One s p size) ∧ Hid (s.live = 0) ∧ Hid (0 < rd → s.left = 0) ∧ Hid (IsSlab wr o 1 S s) ∧ Hid (Fr T12 o0 o w wr)) (fun y _ => 2 - (intOf y).toNat)
  case atStart => exact ⟨0, _, o1, rfl, by omega, HO1.out.1, HO1.out.2, fun h => by omega, HI1, HF1⟩
  case round =>
    clear HO1 HI1 HF1
    obtain ⟨rd, s, o, rfl, hrd, HO, HL, HLeft, HI, HF⟩ := hrel
    by_cases hlt : rd < 2
    · have i1 : (rd : Int) < 2 := by omega
      go_wp2_with fail
      go_loopw [14, 15] (fun hv iv wr => ∃ (i : Nat) (l : List (Nat × Nat)) (s : St) (o : (Nat → Nat × Nat)) (a : Option Addr) (c : Nat), hv = .slice a i c ∧ iv = .int .i64 (i : Int) ∧ i ≤ most ∧ Hid (i = l.length) ∧ Hid (One s p size) ∧ Hid (s.live = i) ∧ Hid (∀ h, h ∈ l → ∃ d, s.at h d) ∧ Hid l.Nodup ∧ Hid (OwnK wr o (2, 0) 2 (.slice a i c) i (hsc l)) ∧ Hid (IsSlab wr o 1 S s) ∧ Hid (Fr T12 o0 o w wr)) (fun _ iv _ => most - (intOf iv).toNat)
      case atStart => exact ⟨0, [], s, o, none, 0, rfl, rfl, by omega, rfl, HO, HL, (fun _ h => by cases h), List.nodup_nil, OwnK.nil _ _ _ _, HI, HF⟩
      case round =>
        clear HO HL HLeft HI HF
        obtain ⟨i, l, s, o, a, c, rfl, rfl, hi, HLen, HO, HL, HAt, HNd, OK, HI, HF⟩ := hrel
        by_cases hlt2 : i < most
        · have i2 : (i : Int) < (most : Int) := by omega
          obtain ⟨w3, hmk, hcv, B3⟩ := make_zs wr k k rfl (by omega)
          obtain ⟨kk, hans, HO4, hlive, _⟩ := HO.out.more (zs k) (by rw [zs_size]; omega) (by rw [HL.out, ← HQ.out, ← HM.out]; exact hlt2)
          have hat := HO.out.ok.alloc_at (zs k) hans
          have I3 := HI.out.below B3
          have OK3 := OK.out.below B3
          have F3 := HF.out.trans (Fr.ofBelow T12 o B3)
          have HH : Hid (OwnK w3 o (2, 0) 2 (.slice a i c) i (hsc l)) := OK3
          have HI3 : Hid (IsSlab w3 o 1 S s) := I3
          have HF3 : Hid (Fr T12 o0 o w w3) := F3
          have HA : Hid ((s.alloc (zs k)).1 = (0, kk, 0)) := hans
          have HOn : Hid (One (s.alloc (zs k)).2 p size ∧ (s.alloc (zs k)).2.live = s.live + 1) := ⟨HO4, hlive⟩
          have HAT : Hid ((s.alloc (zs k)).2.at (0, kk) (zs k) ∧ ∀ b x, s.at b x → b ≠ (0, kk) ∧ (s.alloc (zs k)).2.at b x) := hat
          clear I3 OK3 F3 hans HO4 hlive hat OK HI HF B3
          go_wp2_with fail
          refine (alloc_any 1 S (by decide) s (zs k) (by rw [zs_size]; omega) _ o HI3.out).mono ?_
          rintro e w4 ⟨rfl, o4, I4, F4⟩
          rw [HA.out]
          unfold ansV
          have A5 : Fr (fun _ => False) o4 o4 w4 (w4.alloc (.cells #[.int .i64 0, .int .i64 (kk : Int)] 34)) := Fr.alloc _ _ _ _
          have OK5 := (HH.out.fr F4 (fun e => by cases e)).fr A5 (fun x => x)
          obtain ⟨v6, w6, o6, hrun, O6, F6⟩ := app_h OK5 (0, kk) (by omega)
          obtain ⟨a6, c6, rfl, _⟩ := O6.form
          have HO6 : Hid (OwnK w6 o6 (2, 0) 2 (.slice a6 (i + 1) c6) (i + 1) (hsc (l ++ [(0, kk)]))) := O6
          have HI6 : Hid (IsSlab w6 o6 1 S (s.alloc (zs k)).2) := (IsSlab.fr I4 A5 (fun _ x => x)).fr F6 (fun a e => by cases e)
          have HF6 : Hid (Fr T12 o0 o6 w w6) := ((HF3.out.trans (F4.mono (fun t e => .inl e))).trans (A5.mono (fun _ h => h.elim))).trans (F6.mono (fun t e => .inr (by rw [e])))
          have hrun' : (Builtin.append_ #[43, 43] 43 #[.slice a i c, .slice (some ⟨w4.heap.size + 1, 0, none⟩) 1 1]).run Try.prog ((w4.alloc (.cells #[.int .i64 0, .int .i64 (kk : Int)] 34)).alloc (.cells #[.int .i64 0, .int .i64 (kk : Int)] 34)) = .ok (.slice a6 (i + 1) c6) w6 := by
            rw [← World.size_alloc (w := w4) (o := .cells #[.int .i64 0, .int .i64 (kk : Int)] 34)]; exact hrun
          clear hrun O6 F6 OK5 A5 I4 F4 HH HI3 HF3 hmk hcv
          go_wp2_with (at_builtin; refine wpList_append_run rfl (.tmp 64) (.tmp 66) 43 43 rfl _ _ _ rfl rfl hrun' ?_)
          refine ⟨⟨i + 1, l ++ [(0, kk)], _, o6, a6, c6, rfl, by go_num, by omega, by show _ = _; rw [List.length_append, ← HLen.out]; rfl, HOn.out.1, by show _ = _; rw [HOn.out.2, HL.out], fun h hh => ?_, ?_, HO6, HI6, HF6⟩, by simp [intOf]; omega⟩
          · rcases List.mem_append.1 hh with hh | hh
            · obtain ⟨d, hd⟩ := HAt.out h hh
              exact ⟨d, (HAT.out.2 h d hd).2⟩
            · simp at hh; subst hh; exact ⟨_, HAT.out.1⟩
          · show (l ++ [(0, kk)]).Nodup
            rw [List.nodup_append]
            refine ⟨HNd.out, by simp, fun x hx y hy => ?_⟩
            simp at hy; subst hy
            obtain ⟨d, hd⟩ := HAt.out x hx
            exact (HAT.out.2 x d hd).1
        · have him : i = most := by omega
          subst him
          have i2 : decide ((i : Int) < (i : Int)) = false := by simp
          have hful := HO.out.full (by rw [← HQ.out]; exact hq1) (by rw [HL.out, HM.out, HQ.out])
          have HFul : Hid (s.left = 0 ∧ s.alloc ⟨#[]⟩ = ((0, 0, 6), s)) := ⟨hful.1, hful.2 ⟨#[]⟩ (by decide)⟩
          clear hful
          go_wp2_with fail
          refine (alloc_any 1 S (by decide) s ⟨#[]⟩ (by decide) _ o HI.out).mono ?_
          rintro e w4 ⟨rfl, o4, I4, F4⟩
          rw [HFul.out.2] at I4 ⊢
          unfold ansV
          have A5 : Fr (fun _ => False) o4 o4 w4 (w4.alloc (.cells #[.int .i64 0, .int .i64 0] 34)) := Fr.alloc _ _ _ _
          have OK5 : Hid (OwnK (w4.alloc (.cells #[.int .i64 0, .int .i64 0] 34)) o4 (2, 0) 2 (.slice a i c) i (hsc l)) := (OK.out.fr F4 (fun e => by cases e)).fr A5 (fun x => x)
          have HI5 : Hid (IsSlab (w4.alloc (.cells #[.int .i64 0, .int .i64 0] 34)) o4 1 S s) := IsSlab.fr I4 A5 (fun _ x => x)
          have HF5 : Hid (Fr T12 o0 o4 w (w4.alloc (.cells #[.int .i64 0, .int .i64 0] 34))) := (HF.out.trans (F4.mono (fun t e => .inl e))).trans (A5.mono (fun _ h => h.elim))
          clear I4 F4 A5 OK HI HF
          go_wp2_with fail
          go_loopw [20] (fun jv wr => ∃ (j : Nat) (s : St) (o : (Nat → Nat × Nat)), jv = .int .i64 (j : Int) ∧ j ≤ i ∧ Hid (One s p size) ∧ Hid (s.live + j = i) ∧ Hid (s.left = 0) ∧ Hid (∀ h, h ∈ l.drop j → ∃ d, s.at h d) ∧ Hid (OwnK wr o (2, 0) 2 (.slice a i c) i (hsc l)) ∧ Hid (IsSlab wr o 1 S s) ∧ Hid (Fr T12 o0 o w wr)) (fun jv _ => i - (intOf jv).toNat)
          case atStart => exact ⟨0, s, o4, rfl, by omega, HO, by show _ = _; rw [HL.out]; omega, HFul.out.1, HAt, OK5, HI5, HF5⟩
          case round =>
            clear HO HL HFul HAt OK5 HI5 HF5
            obtain ⟨j, s, o, rfl, hj, HO, HL, HLeft, HAt, OK, HI, HF⟩ := hrel
            by_cases hlt3 : j < i
            · have i3 : (j : Int) < (i : Int) := by omega
              obtain ⟨g, cap, eg, _, _, _, _, hcell, _⟩ := OK.out.there (by omega)
              injection eg with e1 _ e3
              subst e1 e3
              have hjl : j < l.length := by rw [← HLen.out]; exact hlt3
              obtain ⟨h, hh⟩ : ∃ h, l[j]? = some h := ⟨_, List.getElem?_eq_getElem hjl⟩
              have hmem : h ∈ l.drop j := by
                have : (l.drop j)[0]? = some h := by rw [List.getElem?_drop]; exact hh
                exact List.mem_of_getElem? this
              obtain ⟨c1, c2⟩ := hsc_at _ _ _ hh
              have d1 := hcell _ _ c1
              have d2 := hcell _ _ c2
              obtain ⟨d, hd⟩ := HAt.out h hmem
              have hhas := (St.at_has hd).1
              have hfree := HO.out.free _ _ hhas
              have hoth := (St.free_at hd).2
              have HNext : Hid (∀ b, b ∈ l.drop (j + 1) → ∃ d, (s.free h.1 h.2).at b d) := fun b hb => by
                have hbj : b ∈ l.drop j := by rw [← List.drop_drop] at hb; exact List.mem_of_mem_drop hb
                obtain ⟨x, hx⟩ := HAt.out b hbj
                refine ⟨x, hoth b x (fun e => ?_) hx⟩
                have nd : (l.drop j).Nodup := List.Nodup.sublist (List.drop_sublist j l) HNd.out
                rw [List.drop_eq_getElem_cons hjl, List.nodup_cons] at nd
                have e2 : l[j] = h := by rw [List.getElem?_eq_getElem hjl] at hh; injection hh
                rw [e2, ← e] at nd
                exact nd.1 hb
              have HHas : Hid (s.has h.1 h.2 = true) := hhas
              have HFr : Hid (One (s.free h.1 h.2) p size ∧ (s.free h.1 h.2).live + 1 = s.live ∧ (s.free h.1 h.2).left = s.left) := hfree
              clear hcell c1 c2 hd hhas hfree hoth hh hmem
              go_wp2_with fail
              refine (free_any 1 S (by decide) s h.1 h.2 _ o HI.out).mono ?_
              rintro e w7 ⟨rfl, o7, I7, F7⟩
              rw [HHas.out]
              have HI7 : Hid (IsSlab w7 o7 1 S (s.free h.1 h.2)) := I7
              have OK7 : Hid (OwnK w7 o7 (2, 0) 2 (.slice (some ⟨g, 0, none⟩) i c) i (hsc l)) := OK.out.fr F7 (fun e => by cases e)
              have HF7 : Hid (Fr T12 o0 o7 w w7) := HF.out.trans (F7.mono (fun t e => .inl e))
              clear I7 F7 OK HI HF d1 d2
              go_wp2_with fail
              exact ⟨⟨j + 1, _, o7, by go_num, by omega, HFr.out.1, by show _ = _; have := HFr.out.2.1; have := HL.out; omega, HFr.out.2.2.trans HLeft.out, HNext, OK7, HI7, HF7⟩, by simp [intOf]; omega⟩
            · have i3 : decide ((j : Int) < (i : Int)) = false := by simp; omega
              go_wp2_with fail
              exact ⟨⟨rd + 1, s, o, by go_num, by omega, HO, by show _ = _; have := HL.out; omega, fun _ => HLeft.out, HI, HF⟩, by simp [intOf]; omega⟩
    · have i1 : decide ((rd : Int) < 2) = false := by simp; omega
      obtain ⟨w3, hmk, hcv, B3⟩ := make_zs wr 65 65 rfl (by omega)
      have HI3 : Hid (IsSlab w3 o 1 S s) := HI.out.below B3
      have HF3 : Hid (Fr T12 o0 o w w3) := HF.out.trans (Fr.ofBelow T12 o B3)
      have HA : Hid (s.alloc (zs 65) = ((0, 0, 6), s)) := HO.out.other (by omega) (HLeft.out (by omega)) (zs_size 65)
      clear HI HF B3
      go_wp2_with fail
      refine (alloc_any 1 S (by decide) s (zs 65) (by rw [zs_size]; omega) _ o HI3.out).mono ?_
      rintro e w4 ⟨rfl, o4, I4, F4⟩
      rw [HA.out] at I4 ⊢
      unfold ansV
      have A5 : Fr (fun _ => False) o4 o4 w4 (w4.alloc (.cells #[.int .i64 0, .int .i64 0] 34)) := Fr.alloc _ _ _ _
      have HI5 : Hid (IsSlab (w4.alloc (.cells #[.int .i64 0, .int .i64 0] 34)) o4 1 S s) := IsSlab.fr I4 A5 (fun _ x => x)
      have HF5 : Hid (Fr T12 o0 o4 w (w4.alloc (.cells #[.int .i64 0, .int .i64 0] 34))) := (HF3.out.trans (F4.mono (fun t e => .inl e))).trans (A5.mono (fun _ h => h.elim))
      clear I4 F4 A5 HI3 HF3 hmk hcv
      go_wp2_with fail
      refine (live_any 1 S s _ o4 HI5.out).mono ?_
      rintro e w6 ⟨rfl, B6⟩
      rw [HL.out]
      have HF6 : Hid (Fr T12 o0 o4 w w6) := HF5.out.trans (Fr.ofBelow T12 o4 B6)
      clear B6 HF5 HI5
      go_wp2_with fail
      refine (runs_any _).mono ?_
      rintro e w7 ⟨rfl, B7⟩
      have HF7 : Hid (Fr T12 o0 o4 w w7) := HF6.out.trans (Fr.ofBelow T12 o4 B7)
      clear B7 HF6
      go_wp2_with fail
      go_ret
      exact ⟨rfl, o0_T12 w HF7.out⟩
end Go.Proofs.Ytjokabpdaihgpaa
