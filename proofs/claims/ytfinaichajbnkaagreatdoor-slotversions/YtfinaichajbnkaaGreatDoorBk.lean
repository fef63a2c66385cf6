/-
  KEYS of a store.
-/
import Derived.Test.YtfinaichajbnkaaGreatDoorPutI
namespace Go.Proofs.YtfinaichajbnkaaGreatDoor
open Go.RowKit

/-- make([]string, 0, n). -/
theorem make_strs (w : World) (o : Nat → Nat × Nat) (t : Nat × Nat) (n : Nat) (N : Int) (hN : N = (n : Int)) (hn : n ≤ 1000000) : ∃ ob, (Instr.makeSlice 99 (.int .i64 0) (.int .i64 N)).run Tryz.prog w = .ok (.slice (some ⟨w.heap.size, 0, none⟩) 0 n) (w.alloc ob) ∧
    OwnK (w.alloc ob) (lab o w.heap.size t) t 1 (.slice (some ⟨w.heap.size, 0, none⟩) 0 n) 0 [] := by
  subst hN
  obtain ⟨i0, hi, hz0, hz1, hz2⟩ := info_parts infoS
  have hr := run_make (P := Tryz.prog) w 99 9 i0 (.string ⟨#[]⟩) underS hi hz0 .i64 .i64 0 (n : Int) (by omega) (by omega) (by rw [hz2]; omega) (by omega)
  simp only [Int.toNat_natCast] at hr
  refine ⟨_, hr, by simp, (fun _ h => by cases h), .inr ⟨_, n, rfl, lab_same _ _ _, by simp, by omega, by unfold maxLen; omega, fun j u hu => by simp at hu, fun j hj => ⟨?_, World.frozen?_alloc_new _ _ _ _⟩⟩⟩
  rw [World.cell?_alloc_new, hz1]
  have hj : j < n := by omega
  simp [madeCells, hj, Value.cells, Nat.mod_one]
/-- Where only what is new turns. -/
theorem Fr.only {t s : Nat × Nat} {o1 : Nat → Nat × Nat} {w w' : World} (f : Fr (· = t) (fun _ => s) o1 w w') (hs : s ≠ t) : Below w.heap.size w w' :=
  ⟨f.os, f.tape, f.output, f.size, fun b hb => f.block b hb hs⟩
def KeysP (w : World) (o : Nat → Nat × Nat) (X : Nat) (z : Sp) (e : Ending) (w' : World) : Prop :=
  ∃ V o', e = .returned V ∧ OwnK w' o' (7, 0) 1 V z.keys.length (strc z.keys) ∧ IsSt w' o' X z ∧ Fr (fun _ => False) o o' w w'
set_option maxRecDepth 100000 in
set_option maxHeartbeats 1000000 in
theorem keys_any (X : Nat) (z : Sp) (w : World) (o : Nat → Nat × Nat) (I : IsSt w o X z) :
    Calls Tryz.prog 54 #[.pointer (some ⟨X, 0, none⟩)] w fun e w' => KeysP w o X z e w' := by
  obtain ⟨h, I⟩ := I
  have HI : Hid (IsG w o X z h) := I
  have hfew := I.ok.few
  have n1 := I.mem.n1
  have n0 := I.mem.n0
  have HLN : Hid (h.L.length = z.l.length) := by show _ = _; rw [← I.ll, List.length_map]
  have HRG : Hid (Ring (h.nw 0) (h.od 0) 0 (h.L.map (·.1))) := I.rg.r0
  have HBD : Hid (∀ x ∈ h.L, 1 ≤ x.1 ∧ x.1 < h.N) := fun x hx => by have := I.pl.bdL hx; omega
  have HND : Hid ((h.L.map (·.1)).Nodup) := I.pl.ndL
  clear I
  go_enter Tryz.func54, Tryz.ntmps54
  go_wp2_with fail
  refine (slen_any X z _ o ⟨h, HI.out⟩).mono ?_
  rintro e w2 ⟨rfl, rfl⟩
  obtain ⟨ob, hmk, O0⟩ := make_strs w (fun _ => (0, 0)) (7, 0) z.l.length _ rfl (by omega)
  have F0 : Hid (Fr (· = (7, 0)) (fun _ => (0, 0)) (lab (fun _ => (0, 0)) w.heap.size (7, 0)) w (w.alloc ob)) := Fr.new _ _ w ob _
  have HO0 : Hid (OwnK (w.alloc ob) (lab (fun _ => (0, 0)) w.heap.size (7, 0)) (7, 0) 1 (.slice (some ⟨w.heap.size, 0, none⟩) 0 z.l.length) 0 (strc [])) := O0
  clear O0
  have HI1 : Hid (IsG (w.alloc ob) o X z h) := HI.out.below (F0.out.only (by decide))
  obtain ⟨w1, hw1⟩ : ∃ w1, w1 = w.alloc ob := ⟨_, rfl⟩
  obtain ⟨g0, hg0⟩ : ∃ g0, g0 = w.heap.size := ⟨_, rfl⟩
  rw [← hw1, ← hg0] at hmk
  rw [← hw1] at F0 HO0 HI1
  have HO1 : Hid (OwnK w1 (lab (fun _ => (0, 0)) w.heap.size (7, 0)) (7, 0) 1 (.slice (some ⟨g0, 0, none⟩) 0 z.l.length) 0 (strc [])) := by rw [hg0]; exact HO0.out
  clear HO0 hw1 hg0
  go_wp2_with fail
  refine (older_any (nw := h.nw) (od := h.od) 0 0 0 0 rfl rfl (by omega) (by omega) _ o HI1.out.mem HI1.out.lk).mono ?_
  rintro e w2 ⟨rfl, rfl⟩
  obtain ⟨a0, ha0⟩ : ∃ a0, a0 = h.od 0 0 := ⟨_, rfl⟩
  have HA0 : Hid (a0 = (h.L.map (·.1)).headD 0) := by show _ = _; rw [ha0]; exact HRG.out.first
  rw [← ha0]
  clear ha0
  go_wp2_with fail
  go_loopw [3, 4] (fun V y wr => ∃ (pre post : List PI) (q : Nat) (oL : Nat → Nat × Nat) (a : Option Addr) (c : Nat), V = .slice a pre.length c ∧ y = .int .i64 (q : Int) ∧ Hid (h.L = pre ++ post) ∧ Hid (q = (post.map (·.1)).headD 0) ∧ Hid (OwnK wr oL (7, 0) 1 (.slice a pre.length c) pre.length (strc (pre.map (·.2.key)))) ∧ Hid (Fr (· = (7, 0)) (fun _ => (0, 0)) oL w wr)) (fun _ y _ => (h.L.map (·.1)).length - (h.L.map (·.1)).idxOf (intOf y).toNat)
  case atStart => exact ⟨[], h.L, a0, _, _, _, rfl, rfl, rfl, HA0, HO1, F0⟩
  case round =>
    clear HA0 HO1 F0 HI1 hmk
    obtain ⟨pre, post, q, oL, a, c, rfl, rfl, HLP, HQ, HO, HF⟩ := hrel
    have HIr : Hid (IsG wr o X z h) := HI.out.below (HF.out.only (by decide))
    cases post with
    | nil =>
      have hq : q = 0 := HQ.out
      subst hq
      have HEQ : Hid (z.keys = pre.map (·.2.key)) := by
        show _ = _
        have := HLP.out
        rw [List.append_nil] at this
        unfold Sp.keys; rw [← HI.out.ll, this, List.map_map]; rfl
      rw [show ((0 : Nat) : Int) = 0 from rfl]
      go_wp2_with fail
      go_ret
      obtain ⟨q1, q2⟩ := HO.out.fresh HF.out (by decide) o
      exact ⟨_, _, rfl, by rw [HEQ.out, List.length_map]; exact q1, ⟨h, HI.out.fr q2 (fun _ _ x => x)⟩, q2⟩
    | cons x post =>
      have hxm : x ∈ h.L := by rw [HLP.out]; simp
      have hqx : q = x.1 := HQ.out
      have hb := HBD.out x hxm
      have hqe : ((q : Int) != 0) = true := by simp; omega
      have hqN : q < h.N := by omega
      have hq1 : (q : Int) < (h.N : Int) := by omega
      have c2 := HIr.out.mem.c2
      have d0 := (HIr.out.mem.at_ (q := q * 8) (by omega)).1
      have hcl := (HIr.out.it x hxm).1
      rw [← hqx] at hcl
      rw [hcl] at d0
      have hlen : pre.length < 720897 := by have := HLN.out; rw [HLP.out] at this; simp at this; omega
      obtain ⟨v3, w3, o3, hrun, O3, F3⟩ := app_one 99 9 (.string ⟨#[]⟩) 16 underS infoS (by kernel_rfl) HO.out [.string x.2.key] rfl (fun u hu => by simp at hu; rw [hu]; rfl) (by omega) (by omega)
      obtain ⟨a3, b3, rfl, _⟩ := O3.form
      have HO3 : Hid (OwnK w3 o3 (7, 0) 1 (.slice a3 (pre.length + 1) b3) (pre.length + 1) (strc ((pre ++ [x]).map (·.2.key)))) := by show OwnK _ _ _ _ _ _ _; rw [List.map_append, strc_append]; exact O3
      have HF3 : Hid (Fr (· = (7, 0)) (fun _ => (0, 0)) o3 w w3) := HF.out.trans F3
      have HIr3 : Hid (IsG w3 o X z h) := HI.out.below (HF3.out.only (by decide))
      have HQX : Hid (q = x.1) := hqx
      have hnx : Hid (h.od 0 q = (post.map (·.1)).headD 0) := by
        have r := HRG.out
        rw [HLP.out, List.map_append, List.map_cons] at r
        rw [HQX.out]; exact r.next
      have hmem : Hid ((h.L.map (·.1)).idxOf q = pre.length) := by
        show _ = _
        have nd := HND.out
        rw [HLP.out, List.map_append, List.map_cons] at nd
        have q1 := List.nodup_append.1 nd
        rw [HLP.out, List.map_append, List.map_cons, hqx, idxOf_mid (fun hm => q1.2.2 _ hm _ List.mem_cons_self rfl), List.length_map]
      clear O3 F3 hqx hcl HIr HF HO
      go_wp2_with (at_builtin; refine wpList_append_run rfl (.tmp 15) (.tmp 24) 99 99 rfl _ _ _ rfl rfl hrun ?_)
      refine (older_any (nw := h.nw) (od := h.od) 0 q 0 _ rfl rfl (by omega) hqN _ o HIr3.out.mem HIr3.out.lk).mono ?_
      rintro e w4 ⟨rfl, rfl⟩
      obtain ⟨q', hq'⟩ : ∃ q', q' = h.od 0 q := ⟨_, rfl⟩
      have HQ' : Hid (q' = (post.map (·.1)).headD 0) := by rw [hq']; exact hnx.out
      rw [← hq']
      clear hq' hnx hrun
      go_wp2_with fail
      refine ⟨⟨pre ++ [x], post, q', o3, a3, b3, by simp, rfl, by show _ = _; rw [HLP.out]; simp, HQ', ?_, HF3⟩, ?_⟩
      · show OwnK _ _ _ _ _ _ _
        rw [List.length_append]; exact HO3.out
      · show (h.L.map (·.1)).length - (h.L.map (·.1)).idxOf (intOf (.int .i64 (q' : Int))).toNat < (h.L.map (·.1)).length - (h.L.map (·.1)).idxOf (intOf (.int .i64 (q : Int))).toNat
        simp only [intOf, Int.toNat_natCast]
        rw [hmem.out]
        have hl : pre.length < (h.L.map (·.1)).length := by rw [HLP.out]; simp
        have : pre.length < (h.L.map (·.1)).idxOf q' := by
          cases post with
          | nil =>
            have hq0 : q' = 0 := HQ'.out
            have : q' ∉ h.L.map (·.1) := fun hm => by
              obtain ⟨y, hy, ey⟩ := List.mem_map.1 hm
              have := HBD.out y hy
              omega
            rw [List.idxOf_eq_length this]; exact hl
          | cons y post =>
            have hqy : q' = y.1 := HQ'.out
            have e3 : h.L.map (·.1) = (pre ++ [x]).map (·.1) ++ y.1 :: post.map (·.1) := by rw [HLP.out]; simp
            have nd := HND.out
            rw [e3] at nd ⊢
            have q1 := List.nodup_append.1 nd
            rw [hqy, idxOf_mid (fun hm => q1.2.2 _ hm _ List.mem_cons_self rfl)]
            simp
        omega
end Go.Proofs.YtfinaichajbnkaaGreatDoor


namespace Go.Proofs.YtfinaichajbnkaaGreatDoor
open Go.RowKit

set_option maxRecDepth 100000 in
theorem snew_no (pages page : Int) (h : ¬ rightN pages page) (w : World) :
    Calls Tryz.prog 10 #[.int .i64 pages, .int .i64 page] w fun e w' => e = .returned (.tuple #[.pointer none, .int .i64 1]) ∧ w = w' := by
  go_enter Tryz.func10, Tryz.ntmps10
  go_wp2_with fail
  refine (new_no pages page h _).mono ?_
  rintro e w2 ⟨rfl, rfl⟩
  go_wp2_with fail
  go_ret2
  exact ⟨rfl, rfl⟩
/-- The end's entry. -/
def aloneE (p : Nat) : Nat → Value
  | 0 => .string ⟨#[]⟩
  | 1 => .int .i64 0
  | 2 => .int .i64 0
  | 3 => .bool false
  | _ => .int .i64 ((p : Nat) : Int)
theorem aloneE_one (p : Nat) : ∀ j, j < 8 → (aloneE p j).oneCell' = true := by
  intro j hj
  obtain rfl | rfl | rfl | rfl | rfl | rfl | rfl | rfl : j = 0 ∨ j = 1 ∨ j = 2 ∨ j = 3 ∨ j = 4 ∨ j = 5 ∨ j = 6 ∨ j = 7 := by omega
  all_goals rfl
set_option maxRecDepth 100000 in
theorem alone_any (p : Nat) (P : Int) (hP : P = (p : Int)) (w : World) : Calls Tryz.prog 23 #[.int .i64 P] w fun e w' => e = .returned (.agg #[.string ⟨#[]⟩, .int .i64 0, .int .i64 0, .bool false, .int .i64 P, .int .i64 P, .int .i64 P, .int .i64 P]) ∧ Below w.heap.size w w' := by
  subst hP
  go_enter Tryz.func23, Tryz.ntmps23
  go_wp2_with fail
  refine bodyPost_ret (v := .agg #[.string ⟨#[]⟩, .int .i64 0, .int .i64 0, .bool false, .int .i64 (p : Int), .int .i64 (p : Int), .int .i64 (p : Int), .int .i64 (p : Int)]) (by simp [results, Tryz.results23, go_sem]) rfl ⟨rfl, ?_⟩
  exact (Below.refl _ _).alloc (Nat.le_refl _) _
/-- The entries when j ends are told. -/
def gNw (j : Nat) : Nat → Value := fun q => if q / 8 < j then aloneE (q / 8) (q % 8) else zeroE (q % 8)
theorem gNw_succ (j : Nat) : setE (gNw j) j (aloneE j) = gNw (j + 1) := by
  funext q
  unfold setE gNw
  by_cases e : q / 8 = j
  · rw [if_pos e, if_pos (by omega), e]
  · rw [if_neg e]
    by_cases e2 : q / 8 < j
    · rw [if_pos e2, if_pos (by omega)]
    · rw [if_neg e2, if_neg (by omega)]
theorem gNw_links (N : Nat) : Links N (gNw N) (fun _ p => p) (fun _ p => p) := by
  refine ⟨fun p r hp hr => ?_, fun p r hp hr => ?_, fun p r hp _ => hp, fun p r hp _ => hp⟩
  · unfold gNw
    rw [show (p * 8 + 4 + 2 * r) / 8 = p by omega, if_pos hp]
    obtain rfl | rfl : r = 0 ∨ r = 1 := by omega
    · rw [show (p * 8 + 4 + 2 * 0) % 8 = 4 by omega]; rfl
    · rw [show (p * 8 + 4 + 2 * 1) % 8 = 6 by omega]; rfl
  · unfold gNw
    rw [show (p * 8 + 5 + 2 * r) / 8 = p by omega, if_pos hp]
    obtain rfl | rfl : r = 0 ∨ r = 1 := by omega
    · rw [show (p * 8 + 5 + 2 * 0) % 8 = 5 by omega]; rfl
    · rw [show (p * 8 + 5 + 2 * 1) % 8 = 7 by omega]; rfl
/-- make([]entry, n). -/
theorem make_ents (n : Nat) (N : Int) (hN : N = (n : Int)) (hn : n ≤ 1000000) : ∃ ob, ∀ w : World, (Instr.makeSlice 52 (.int .i64 N) (.int .i64 N)).run Tryz.prog w = .ok (.slice (some ⟨w.heap.size, 0, none⟩) n n) (w.alloc ob) ∧
    ∀ (o : Nat → Nat × Nat) (t : Nat × Nat), OwnK (w.alloc ob) (lab o w.heap.size t) t 8 (.slice (some ⟨w.heap.size, 0, none⟩) n n) n (tabg (gNw 0) (n * 8)) := by
  subst hN
  obtain ⟨i0, hi, hz0, hz1, hz2⟩ := info_parts info61
  have hr := fun w : World => run_make (P := Tryz.prog) w 52 61 i0 (.agg #[.string ⟨#[]⟩, .int .i64 0, .int .i64 0, .bool false, .int .i64 0, .int .i64 0, .int .i64 0, .int .i64 0]) under52 hi hz0 .i64 .i64 (n : Int) (n : Int) (by omega) (by omega) (by rw [hz2]; omega) (by omega)
  simp only [Int.toNat_natCast] at hr
  refine ⟨_, fun w => ⟨hr w, fun o t => ⟨by rw [tabg_length], fun u hu => ?_, .inr ⟨_, n, rfl, lab_same _ _ _, by simp, Nat.le_refl _, by unfold maxLen; omega, fun j u hu => ?_, fun j hj => ⟨?_, World.frozen?_alloc_new _ _ _ _⟩⟩⟩⟩⟩
  · obtain ⟨q, _, rfl⟩ := List.mem_map.1 hu
    unfold gNw
    rw [if_neg (by omega)]
    have : q % 8 < 8 := by omega
    generalize q % 8 = r at this
    obtain rfl | rfl | rfl | rfl | rfl | rfl | rfl | rfl : r = 0 ∨ r = 1 ∨ r = 2 ∨ r = 3 ∨ r = 4 ∨ r = 5 ∨ r = 6 ∨ r = 7 := by omega
    all_goals rfl
  · rw [World.cell?_alloc_new, hz1]
    have hj : j < n * 8 := by have := (List.getElem?_eq_some_iff.1 hu).1; rw [tabg_length] at this; exact this
    rw [tabg_at _ hj] at hu
    rw [← hu]
    unfold gNw
    rw [if_neg (by omega)]
    simp [madeCells, hj, Value.cells]
    have : j % 8 < 8 := by omega
    generalize j % 8 = r at this
    obtain rfl | rfl | rfl | rfl | rfl | rfl | rfl | rfl : r = 0 ∨ r = 1 ∨ r = 2 ∨ r = 3 ∨ r = 4 ∨ r = 5 ∨ r = 6 ∨ r = 7 := by omega
    all_goals rfl
  · rw [World.cell?_alloc_new, hz1]
    simp [madeCells, hj, Value.cells]
/-- What New leaves. -/
def SNew (w : World) (o : Nat → Nat × Nat) (pages page : Nat) (w' : World) (X : Nat) : Prop := ∃ o' n, (∀ i, i < n ↔ sz i ≤ page) ∧ IsSt w' o' X ⟨St.new pages page n, []⟩ ∧ Fr (fun _ => False) o o' w w'
/-- An entry stored anew, cell by cell. -/
theorem MemS.eight {w : World} {o : Nat → Nat × Nat} {X S C G N cap : Nat} {g : Nat → Value} {sv : Value} (h : MemS w o X S C G N cap g sv) (p : Nat) (hp : p < N) (e : Nat → Value) (u0 u1 u2 u3 u4 u5 u6 u7 : Value) (e0 : e 0 = u0) (e1 : e 1 = u1) (e2 : e 2 = u2) (e3 : e 3 = u3) (e4 : e 4 = u4) (e5 : e 5 = u5) (e6 : e 6 = u6) (e7 : e 7 = u7) (h1 : ∀ j, j < 8 → (e j).oneCell' = true) :
    ∃ v0 v1 v2 v3 v4 v5 v6 v7, w.cell? ⟨G, p * 8, none⟩ = some v0 ∧ w.frozen? ⟨G, p * 8, none⟩ = false ∧ (w.setCell ⟨G, p * 8, none⟩ u0).cell? ⟨G, p * 8 + 1, none⟩ = some v1 ∧ (w.setCell ⟨G, p * 8, none⟩ u0).frozen? ⟨G, p * 8 + 1, none⟩ = false ∧ ((w.setCell ⟨G, p * 8, none⟩ u0).setCell ⟨G, p * 8 + 1, none⟩ u1).cell? ⟨G, p * 8 + 2, none⟩ = some v2 ∧ ((w.setCell ⟨G, p * 8, none⟩ u0).setCell ⟨G, p * 8 + 1, none⟩ u1).frozen? ⟨G, p * 8 + 2, none⟩ = false ∧ (((w.setCell ⟨G, p * 8, none⟩ u0).setCell ⟨G, p * 8 + 1, none⟩ u1).setCell ⟨G, p * 8 + 2, none⟩ u2).cell? ⟨G, p * 8 + 3, none⟩ = some v3 ∧ (((w.setCell ⟨G, p * 8, none⟩ u0).setCell ⟨G, p * 8 + 1, none⟩ u1).setCell ⟨G, p * 8 + 2, none⟩ u2).frozen? ⟨G, p * 8 + 3, none⟩ = false ∧ ((((w.setCell ⟨G, p * 8, none⟩ u0).setCell ⟨G, p * 8 + 1, none⟩ u1).setCell ⟨G, p * 8 + 2, none⟩ u2).setCell ⟨G, p * 8 + 3, none⟩ u3).cell? ⟨G, p * 8 + 4, none⟩ = some v4 ∧ ((((w.setCell ⟨G, p * 8, none⟩ u0).setCell ⟨G, p * 8 + 1, none⟩ u1).setCell ⟨G, p * 8 + 2, none⟩ u2).setCell ⟨G, p * 8 + 3, none⟩ u3).frozen? ⟨G, p * 8 + 4, none⟩ = false ∧ (((((w.setCell ⟨G, p * 8, none⟩ u0).setCell ⟨G, p * 8 + 1, none⟩ u1).setCell ⟨G, p * 8 + 2, none⟩ u2).setCell ⟨G, p * 8 + 3, none⟩ u3).setCell ⟨G, p * 8 + 4, none⟩ u4).cell? ⟨G, p * 8 + 5, none⟩ = some v5 ∧ (((((w.setCell ⟨G, p * 8, none⟩ u0).setCell ⟨G, p * 8 + 1, none⟩ u1).setCell ⟨G, p * 8 + 2, none⟩ u2).setCell ⟨G, p * 8 + 3, none⟩ u3).setCell ⟨G, p * 8 + 4, none⟩ u4).frozen? ⟨G, p * 8 + 5, none⟩ = false ∧ ((((((w.setCell ⟨G, p * 8, none⟩ u0).setCell ⟨G, p * 8 + 1, none⟩ u1).setCell ⟨G, p * 8 + 2, none⟩ u2).setCell ⟨G, p * 8 + 3, none⟩ u3).setCell ⟨G, p * 8 + 4, none⟩ u4).setCell ⟨G, p * 8 + 5, none⟩ u5).cell? ⟨G, p * 8 + 6, none⟩ = some v6 ∧ ((((((w.setCell ⟨G, p * 8, none⟩ u0).setCell ⟨G, p * 8 + 1, none⟩ u1).setCell ⟨G, p * 8 + 2, none⟩ u2).setCell ⟨G, p * 8 + 3, none⟩ u3).setCell ⟨G, p * 8 + 4, none⟩ u4).setCell ⟨G, p * 8 + 5, none⟩ u5).frozen? ⟨G, p * 8 + 6, none⟩ = false ∧ (((((((w.setCell ⟨G, p * 8, none⟩ u0).setCell ⟨G, p * 8 + 1, none⟩ u1).setCell ⟨G, p * 8 + 2, none⟩ u2).setCell ⟨G, p * 8 + 3, none⟩ u3).setCell ⟨G, p * 8 + 4, none⟩ u4).setCell ⟨G, p * 8 + 5, none⟩ u5).setCell ⟨G, p * 8 + 6, none⟩ u6).cell? ⟨G, p * 8 + 7, none⟩ = some v7 ∧ (((((((w.setCell ⟨G, p * 8, none⟩ u0).setCell ⟨G, p * 8 + 1, none⟩ u1).setCell ⟨G, p * 8 + 2, none⟩ u2).setCell ⟨G, p * 8 + 3, none⟩ u3).setCell ⟨G, p * 8 + 4, none⟩ u4).setCell ⟨G, p * 8 + 5, none⟩ u5).setCell ⟨G, p * 8 + 6, none⟩ u6).frozen? ⟨G, p * 8 + 7, none⟩ = false ∧ MemS ((((((((w.setCell ⟨G, p * 8, none⟩ u0).setCell ⟨G, p * 8 + 1, none⟩ u1).setCell ⟨G, p * 8 + 2, none⟩ u2).setCell ⟨G, p * 8 + 3, none⟩ u3).setCell ⟨G, p * 8 + 4, none⟩ u4).setCell ⟨G, p * 8 + 5, none⟩ u5).setCell ⟨G, p * 8 + 6, none⟩ u6).setCell ⟨G, p * 8 + 7, none⟩ u7) o X S C G N cap (setE g p e) sv ∧ Fr (fun t => t = (1, 1)) o o w ((((((((w.setCell ⟨G, p * 8, none⟩ u0).setCell ⟨G, p * 8 + 1, none⟩ u1).setCell ⟨G, p * 8 + 2, none⟩ u2).setCell ⟨G, p * 8 + 3, none⟩ u3).setCell ⟨G, p * 8 + 4, none⟩ u4).setCell ⟨G, p * 8 + 5, none⟩ u5).setCell ⟨G, p * 8 + 6, none⟩ u6).setCell ⟨G, p * 8 + 7, none⟩ u7) := by
  subst e0 e1 e2 e3 e4 e5 e6 e7
  obtain ⟨d0, y0⟩ := h.at_ (q := p * 8) (by omega)
  have N1 := h.set (p * 8) (e 0) (h1 0 (by omega)) (by omega)
  obtain ⟨d1, y1⟩ := N1.at_ (q := p * 8 + 1) (by omega)
  have N2 := N1.set (p * 8 + 1) (e 1) (h1 1 (by omega)) (by omega)
  obtain ⟨d2, y2⟩ := N2.at_ (q := p * 8 + 2) (by omega)
  have N3 := N2.set (p * 8 + 2) (e 2) (h1 2 (by omega)) (by omega)
  obtain ⟨d3, y3⟩ := N3.at_ (q := p * 8 + 3) (by omega)
  have N4 := N3.set (p * 8 + 3) (e 3) (h1 3 (by omega)) (by omega)
  obtain ⟨d4, y4⟩ := N4.at_ (q := p * 8 + 4) (by omega)
  have N5 := N4.set (p * 8 + 4) (e 4) (h1 4 (by omega)) (by omega)
  obtain ⟨d5, y5⟩ := N5.at_ (q := p * 8 + 5) (by omega)
  have N6 := N5.set (p * 8 + 5) (e 5) (h1 5 (by omega)) (by omega)
  obtain ⟨d6, y6⟩ := N6.at_ (q := p * 8 + 6) (by omega)
  have N7 := N6.set (p * 8 + 6) (e 6) (h1 6 (by omega)) (by omega)
  obtain ⟨d7, y7⟩ := N7.at_ (q := p * 8 + 7) (by omega)
  have N8 := N7.set (p * 8 + 7) (e 7) (h1 7 (by omega)) (by omega)
  rw [← setE_upd g p e] at N8
  have oG := h.oG.1
  exact ⟨_, _, _, _, _, _, _, _, d0, y0, d1, y1, d2, y2, d3, y3, d4, y4, d5, y5, d6, y6, d7, y7, N8, ((((((((Fr.refl (fun t => t = (1, 1)) o w).trans (Fr.set (a := ⟨G, p * 8, none⟩) oG _)).trans (Fr.set (a := ⟨G, p * 8 + 1, none⟩) oG _)).trans (Fr.set (a := ⟨G, p * 8 + 2, none⟩) oG _)).trans (Fr.set (a := ⟨G, p * 8 + 3, none⟩) oG _)).trans (Fr.set (a := ⟨G, p * 8 + 4, none⟩) oG _)).trans (Fr.set (a := ⟨G, p * 8 + 5, none⟩) oG _)).trans (Fr.set (a := ⟨G, p * 8 + 6, none⟩) oG _)).trans (Fr.set (a := ⟨G, p * 8 + 7, none⟩) oG _)⟩
/-- A store without its ends. -/
structure Begun (w : World) (o : Nat → Nat × Nat) (X C G S E pages page n : Nat) (w' : World) (o' : Nat → Nat × Nat) : Prop where
  mem : MemS w' o' X S C G E E (gNw 0) (.slice none 0 0)
  slab : IsSlab w' o' 2 S (St.new pages page n)
  chn : IsChain w' o' 3 C A0
  fr : Fr (fun _ => False) o o' w w'
theorem begun_box {w w2 w4 : World} {o o1 o4 : Nat → Nat × Nat} {C G S E pages page n : Nat} (hS : IsSlab w4 o4 2 S (St.new pages page n)) (hC : IsChain w4 o4 3 C A0) (hE : OwnK w4 o4 (1, 1) 8 (.slice (some ⟨G, 0, none⟩) E E) E (tabg (gNw 0) (E * 8))) (f1 : Fr (fun _ => False) o o1 w w2) (f2 : Fr (fun _ => False) o1 o4 w2 w4) (h0 : 0 < E) (h1 : E ≤ 12) :
    Begun w o w4.heap.size C G S E pages page n (w4.alloc (.cells #[.pointer (some ⟨S, 0, none⟩), .pointer (some ⟨C, 0, none⟩), .slice (some ⟨G, 0, none⟩) E E, .slice none 0 0] 54)) (lab o4 w4.heap.size (1, 0)) := by
  have f3 := Fr.new (fun _ => False) o4 w4 (.cells #[.pointer (some ⟨S, 0, none⟩), .pointer (some ⟨C, 0, none⟩), .slice (some ⟨G, 0, none⟩) E E, .slice none 0 0] 54) (1, 0)
  refine ⟨⟨lab_same _ _ _, ?_, ?_, ?_, ?_, fun j => World.frozen?_alloc_new _ _ _ _, hE.fr f3 (fun x => x), h0, by omega⟩, hS.fr f3 (fun _ x => x), hC.fr f3 (fun _ x => x), (f1.trans f2).trans f3⟩
  all_goals
    rw [World.cell?_alloc_new]; rfl
set_option maxRecDepth 100000 in
set_option maxHeartbeats 1000000 in
theorem snew_yes (pages page : Nat) (P Q : Int) (hP : P = (pages : Int)) (hQ : Q = (page : Int)) (p1 : 1 ≤ pages) (p2 : pages ≤ 64) (g1 : 64 ≤ page) (g2 : page ≤ 65536) (w : World) (o : Nat → Nat × Nat) (hfr : ∀ b, b < w.heap.size → (o b).1 ≠ 2 ∧ (o b).1 ≠ 1) :
    Calls Tryz.prog 10 #[.int .i64 P, .int .i64 Q] w fun e w' => ∃ X, e = .returned (.tuple #[.pointer (some ⟨X, 0, none⟩), .int .i64 0]) ∧ SNew w o pages page w' X := by
  have HFR : Hid ((∀ b, b < w.heap.size → (o b).1 ≠ 2 ∧ (o b).1 ≠ 1) ∧ P = (pages : Int) ∧ Q = (page : Int)) := ⟨hfr, hP, hQ⟩
  clear hfr hP hQ
  go_enter Tryz.func10, Tryz.ntmps10
  go_wp2_with fail
  refine (new_yes 2 pages page P Q HFR.out.2.1 HFR.out.2.2 p1 p2 g1 g2 _ o (fun b hb => (HFR.out.1 b hb).1)).mono ?_
  rintro e w1 ⟨S, rfl, o1, n, S1, F1⟩
  have hn2 : n ≤ 11 := S1.ok.n2
  have HS1 : Hid (IsSlab w1 o1 2 S (St.new pages page n)) := S1
  have HF1 : Hid (Fr (fun _ => False) o o1 w w1) := F1
  clear S1 F1
  go_wp2_with fail
  refine (classes_any 2 S (St.new pages page n) _ o1 HS1.out).mono ?_
  rintro e w2 ⟨gc, rfl, _, _, B2⟩
  rw [show (St.new pages page n).n = n from rfl]
  have HS2 : Hid (IsSlab w2 o1 2 S (St.new pages page n)) := HS1.out.below B2
  have HF2 : Hid (Fr (fun _ => False) o o1 w w2) := HF1.out.trans (Fr.ofBelow _ o1 B2)
  clear B2 HS1 HF1
  go_wp2_with fail
  refine (endOf_any (n : Int) (by omega) (by omega) _).mono ?_
  rintro e w3 ⟨rfl, rfl⟩
  obtain ⟨E, hE⟩ : ∃ E : Nat, E = n + 1 := ⟨_, rfl⟩
  rw [show (n : Int) + 1 = (E : Int) by omega]
  have HE : Hid (E = n + 1) := hE
  have hE12 : E ≤ 12 := by omega
  clear hE
  obtain ⟨ob, hmk⟩ := make_ents E (E : Int) rfl (by omega)
  have hmk1 := fun w => (hmk w).1
  have HMK : Hid (∀ (w : World) (o : Nat → Nat × Nat) (t : Nat × Nat), OwnK (w.alloc ob) (lab o w.heap.size t) t 8 (.slice (some ⟨w.heap.size, 0, none⟩) E E) E (tabg (gNw 0) (E * 8))) := fun w => (hmk w).2
  clear hmk
  have hS2 : Hid (∀ (o' : Nat → Nat × Nat) (w' : World), Fr (fun _ => False) o1 o' w2 w' → IsSlab w' o' 2 S (St.new pages page n)) := fun o' w' f => HS2.out.fr f (fun _ x => x)
  go_upto_region 5 with fail
  go_cut [9] from 11 to 43 (fun x9 wx => ∃ X C G o5, x9 = .pointer (some ⟨X, 0, none⟩) ∧ Begun w o X C G S E pages page n wx o5)
  case first =>
    go_region_with (first
      | (go_at_call 22; refine (new_any 3 (w2.alloc ob).drew (lab o1 w2.heap.size (1, 1))).mono ?_; rintro e w4 ⟨C, o4, rfl, C4, F4⟩)
      | (go_at_call 22; refine (new_any 3 w2.drew o1).mono ?_; rintro e w4 ⟨C, o4, rfl, C4, F4⟩))
    all_goals
      go_wp2_with fail
      go_meet
    all_goals first
      | (have F24 : Fr (fun _ => False) o1 o4 w2 w4 := ((Fr.new (fun _ => False) o1 w2 ob (1, 1)).trans (Fr.drew1 _ _ _)).trans F4
         exact ⟨_, C, _, _, rfl, begun_box (hS2.out o4 w4 F24) C4 (((HMK.out w2 o1 (1, 1)).fr (Fr.drew1 (fun _ => False) _ _) (fun x => x)).fr F4 (fun x => x)) HF2.out F24 (by have := HE.out; omega) hE12⟩)
      | (have F24 : Fr (fun _ => False) o1 o4 w2 w4 := (Fr.drew1 _ _ _).trans F4
         have F25 : Fr (fun _ => False) o4 (lab o4 w4.heap.size (1, 1)) w4 (w4.alloc ob) := Fr.new (fun _ => False) o4 w4 ob (1, 1)
         have hb := begun_box (w4 := w4.alloc ob) (hS2.out _ _ (F24.trans F25)) (C4.fr F25 (fun _ x => x)) (HMK.out w4 o4 (1, 1)) HF2.out (F24.trans F25) (by have := HE.out; omega) hE12
         rw [show (w4.alloc ob).heap.size = w4.heap.size + 1 by simp] at hb
         exact ⟨_, C, _, _, rfl, hb⟩)
  case rest =>
    obtain ⟨X, C, G, o5, rfl, HBG⟩ := hcut
    have HB : Hid (Begun w o X C G S E pages page n wc o5) := HBG
    clear HBG hmk1 HMK hS2 HS2 HF2
    go_wp2_with fail
    go_loopw [31] (fun y wr => ∃ j : Nat, j ≤ E ∧ y = .int .i64 (j : Int) ∧ Hid (MemS wr o5 X S C G E E (gNw j) (.slice none 0 0)) ∧ Hid (Fr (fun t => t = (1, 1)) o5 o5 wc wr)) (fun y _ => E - (intOf y).toNat)
    case atStart => exact ⟨0, by omega, rfl, HB.out.mem, Fr.refl _ _ _⟩
    case round =>
      obtain ⟨j, hj, rfl, M, FF⟩ := hrel
      by_cases hlt : j < E
      · have hj1 : (j : Int) < (E : Int) := by omega
        have c2 := M.out.c2
        go_wp2_with fail
        go_region_with (go_at_call 23; refine (alone_any j _ rfl wr.drew).mono ?_; rintro e w5 ⟨rfl, B5⟩; have F5 : Fr (fun _ => False) o5 o5 wr w5 := (Fr.drew1 _ o5 wr).trans (Fr.ofBelow _ o5 B5); have MW : MemS w5 o5 X S C G E E (gNw j) (.slice none 0 0) := M.out.fr F5 (fun x => x) (fun x => x); have c2' := MW.c2; obtain ⟨v0, v1, v2, v3, v4, v5, v6, v7, d0, y0, d1, y1, d2, y2, d3, y3, d4, y4, d5, y5, d6, y6, d7, y7, M8, F8⟩ := MW.eight j hlt (aloneE j) (.string ⟨#[]⟩) (.int .i64 0) (.int .i64 0) (.bool false) (.int .i64 ((j : Nat) : Int)) (.int .i64 ((j : Nat) : Int)) (.int .i64 ((j : Nat) : Int)) (.int .i64 ((j : Nat) : Int)) rfl rfl rfl rfl rfl rfl rfl rfl (aloneE_one j); have HM8 : Hid (MemS _ o5 X S C G E E (setE (gNw j) j (aloneE j)) (.slice none 0 0)) := M8; have HF8 : Hid (Fr (fun t => t = (1, 1)) o5 o5 w5 _) := F8; have HF5 : Hid (Fr (fun _ => False) o5 o5 wr w5) := F5; clear M8 F8 F5 MW B5)
        all_goals
          rw [gNw_succ] at HM8
          clear d0 y0 d1 y1 d2 y2 d3 y3 d4 y4 d5 y5 d6 y6 d7 y7
          go_wp2_with fail
          exact ⟨⟨j + 1, by omega, by go_num, HM8, (FF.out.trans (HF5.out.mono (fun _ h => h.elim))).trans HF8.out⟩, by simp [intOf]; omega⟩
      · have hjE : j = E := by omega
        subst hjE
        go_wp2_with fail
        go_ret2
        have f : Fr (fun t => t = (1, 1)) o5 o5 wc wr := FF.out
        have hnn : ∀ i, i < n ↔ sz i ≤ page := HB.out.slab.ok.n1
        have okN : Ok (St.new pages page n) := HB.out.slab.ok
        refine ⟨X, rfl, o5, n, hnn, ⟨⟨S, C, G, j, j, gNw j, .slice none 0 0, [], A0, fun _ p => p, fun _ p => p, []⟩, ⟨M.out, OwnK.nil _ _ _ _, HB.out.slab.fr f (fun _ e => by cases e), HB.out.chn.fr f (fun _ e => by cases e), gNw_links j, (fun _ hx => by cases hx), ⟨Ring.one _ _ _ rfl rfl, fun c _ => Ring.one _ _ _ rfl rfl⟩, ⟨List.nodup_nil, (fun _ hp => by cases hp), ?_⟩, ⟨fun k v => ⟨fun h => (by cases h), fun ⟨_, hx, _⟩ => (by cases hx)⟩, rfl⟩, rfl, OkSp.new okN⟩⟩, ?_⟩
        · exact HE.out
        · refine HB.out.fr.fresh f (fun b hb => ?_)
          exact fun e => (HFR.out.1 b hb).2 (by rw [e])
end Go.Proofs.YtfinaichajbnkaaGreatDoor


namespace Go.Proofs.YtfinaichajbnkaaGreatDoor
open Go.RowKit

theorem OwnK.read {w : World} {o : Nat → Nat × Nat} {t : Nat × Nat} {a : Option Addr} {n c : Nat} {l : List ByteArray} (h : OwnK w o t 1 (.slice a n c) n (strc l)) {j : Nat} {k : ByteArray} (hk : l[j]? = some k) : ∃ g, a = some ⟨g, 0, none⟩ ∧ w.cell? ⟨g, j, none⟩ = some (.string k) := by
  have hl := h.1
  rw [strc_length] at hl
  have hj := (List.getElem?_eq_some_iff.1 hk).1
  obtain ⟨g, cap, e, _, _, _, _, h6, _⟩ := h.there (by omega)
  injection e with e1 e2 e3
  exact ⟨g, e1, h6 j _ (strc_at l hk)⟩
theorem tmod_bd (n : Int) (h : Nat) : -((h : Int) + 1) < n.tmod ((h : Int) + 1) ∧ n.tmod ((h : Int) + 1) < (h : Int) + 1 := by
  have h1 := Int.tmod_lt_of_pos n (show (0 : Int) < (h : Int) + 1 by omega)
  have h2 := Int.lt_tmod_of_pos n (show (0 : Int) < (h : Int) + 1 by omega)
  exact ⟨h2, h1⟩
/-- What Within answers. -/
def wi (n L H : Int) : Int := let q := n.tmod (H - L + 1); if q < 0 then L + (q + H - L + 1) else L + q
theorem wi_bd (n L H : Int) (hLH : L ≤ H) : L ≤ wi n L H ∧ wi n L H ≤ H := by
  obtain ⟨d, hd⟩ : ∃ d : Nat, H - L = (d : Int) := ⟨(H - L).toNat, by omega⟩
  obtain ⟨q1, q2⟩ := tmod_bd n d
  unfold wi
  rw [hd]
  simp only
  split <;> omega
set_option maxRecDepth 100000 in
set_option maxHeartbeats 400000 in
/-- Within: a number of the bounds. -/
theorem within_any (n L H : Int) (hL : -1000 ≤ L) (hLH : L ≤ H) (hH : H ≤ 100000000) (w : World) :
    Calls Tryz.prog 7 #[.int .i64 n, .int .i64 L, .int .i64 H] w fun e w' => e = .returned (.int .i64 (wi n L H)) ∧ w = w' := by
  obtain ⟨d, hd⟩ : ∃ d : Nat, H - L = (d : Int) := ⟨(H - L).toNat, by omega⟩
  have hHL : H = L + (d : Int) := by omega
  subst hHL
  obtain ⟨q1, q2⟩ := tmod_bd n d
  have HWI : Hid (wi n L (L + (d : Int)) = if n.tmod ((d : Int) + 1) < 0 then L + (n.tmod ((d : Int) + 1) + (L + d) - L + 1) else L + n.tmod ((d : Int) + 1)) := by
    show _ = _; unfold wi; rw [show L + (d : Int) - L + 1 = (d : Int) + 1 by omega]
  clear hd
  obtain ⟨q, hq⟩ : ∃ q, n.tmod ((d : Int) + 1) = q := ⟨_, rfl⟩
  rw [hq] at q1 q2 HWI
  have e1 : L + (d : Int) - L + 1 = (d : Int) + 1 := by omega
  have hne : ((d : Int) + 1 == 0) = false := by simp; omega
  have hne2 : ¬ ((d : Int) + 1 = -1) := by omega
  have hne3 : ¬ ((d : Int) + 1 = 0) := by omega
  by_cases q0 : q < 0
  · go_enter Tryz.func7, Tryz.ntmps7
    go_wp2
    go_ret
    exact ⟨ret_int (by rw [HWI.out, if_pos q0]), rfl⟩
  · go_enter Tryz.func7, Tryz.ntmps7
    go_wp2
    go_ret
    exact ⟨ret_int (by rw [HWI.out, if_neg (by omega)]), rfl⟩
/-- Zeros as a text. -/
def zs (n : Nat) : ByteArray := ⟨(List.replicate n (0 : UInt8)).toArray⟩
theorem zs_size (n : Nat) : (zs n).size = n := by simp [zs, ByteArray.size]
theorem info5 : (Tryz.prog.info? 5).map (fun i => (i.zero, i.size, i.bytes)) = some (some (.int .u8 0), 1, 1) := by kernel_rfl
/-- string(make([]byte, n)). -/
theorem make_zs (w : World) (n : Nat) (N : Int) (hN : N = (n : Int)) (hn : n ≤ 1000000) : ∃ w', (Instr.makeSlice 95 (.int .i64 N) (.int .i64 N)).run Tryz.prog w = .ok (.slice (some ⟨w.heap.size, 0, none⟩) n n) w' ∧
    (convert 95 9 (.slice (some ⟨w.heap.size, 0, none⟩) n n)).run Tryz.prog w' = .ok (.string (zs n)) w' ∧ Below w.heap.size w w' := by
  subst hN
  obtain ⟨i0, hi, hz0, hz1, hz2⟩ := info_parts info5
  have hr := run_make (P := Tryz.prog) w 95 5 i0 (.int .u8 0) under95 hi hz0 .i64 .i64 (n : Int) (n : Int) (by omega) (by omega) (by rw [hz2]; omega) (by omega)
  simp only [Int.toNat_natCast] at hr
  refine ⟨_, hr, ?_, (Below.refl _ _).alloc (Nat.le_refl _) _⟩
  rw [run_convert_bytes_arg _ 95 5 under95 under5 w.heap.size 0 n n (List.replicate n 0) (by simp) (fun i hi => by
    rw [World.cell?_alloc_new, hz1]
    simp [madeCells, List.getD_eq_getElem?_getD, hi, Value.cells, Nat.mod_one]
    ) 9 under9]
  unfold strOfNums zs
  simp
end Go.Proofs.YtfinaichajbnkaaGreatDoor
