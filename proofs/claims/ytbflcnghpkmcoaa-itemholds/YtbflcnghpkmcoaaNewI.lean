/-
  NEW of a store.
-/
import Derived.Test.YtbflcnghpkmcoaaKeys
namespace Go.Proofs.Ytbflcnghpkmcoaa
open Go.RowKit

theorem snew_no (pages page : Int) (h : ¬ rightN pages page) (w : World) :
    Calls Try.prog 8 #[.int .i64 pages, .int .i64 page] w fun e w' => e = .returned (.tuple #[.pointer none, .int .i64 1]) ∧ w = w' := by
  go_enter Try.func8, Try.ntmps8
  go_wp2_with fail
  refine (new_no pages page h _).mono ?_
  rintro e w2 ⟨rfl, rfl⟩
  go_wp2_with fail
  go_ret2
  exact ⟨rfl, rfl⟩
/-- The end's entry. -/
def aloneE (p : Nat) : Nat → Value
  | 0 => .string ⟨#[]⟩
  | 1 => .int .i64 0
  | 2 => .int .i64 0
  | 3 => .bool false
  | _ => .int .i64 ((p : Nat) : Int)
theorem aloneE_one (p : Nat) : ∀ j, j < 8 → (aloneE p j).oneCell' = true := by
  intro j hj
  obtain rfl | rfl | rfl | rfl | rfl | rfl | rfl | rfl : j = 0 ∨ j = 1 ∨ j = 2 ∨ j = 3 ∨ j = 4 ∨ j = 5 ∨ j = 6 ∨ j = 7 := by omega
  all_goals rfl
theorem alone_any (p : Nat) (P : Int) (hP : P = (p : Int)) (w : World) : Calls Try.prog 31 #[.int .i64 P] w fun e w' => e = .returned (.agg #[.string ⟨#[]⟩, .int .i64 0, .int .i64 0, .bool false, .int .i64 P, .int .i64 P, .int .i64 P, .int .i64 P]) ∧ Below w.heap.size w w' := by
  subst hP
  go_enter Try.func31, Try.ntmps31
  go_wp2_with fail
  refine bodyPost_ret (v := .agg #[.string ⟨#[]⟩, .int .i64 0, .int .i64 0, .bool false, .int .i64 (p : Int), .int .i64 (p : Int), .int .i64 (p : Int), .int .i64 (p : Int)]) (by simp [results, Try.results31, go_sem]) rfl ⟨rfl, ?_⟩
  exact (Below.refl _ _).alloc (Nat.le_refl _) _
/-- The entries when j ends are told. -/
def gNw (j : Nat) : Nat → Value := fun q => if q / 8 < j then aloneE (q / 8) (q % 8) else zeroE (q % 8)
theorem gNw_succ (j : Nat) : setE (gNw j) j (aloneE j) = gNw (j + 1) := by
  funext q
  unfold setE gNw
  by_cases e : q / 8 = j
  · rw [if_pos e, if_pos (by omega), e]
  · rw [if_neg e]
    by_cases e2 : q / 8 < j
    · rw [if_pos e2, if_pos (by omega)]
    · rw [if_neg e2, if_neg (by omega)]
theorem gNw_links (N : Nat) : Links N (gNw N) (fun _ p => p) (fun _ p => p) := by
  refine ⟨fun p r hp hr => ?_, fun p r hp hr => ?_, fun p r hp _ => hp, fun p r hp _ => hp⟩
  · unfold gNw
    rw [show (p * 8 + 4 + 2 * r) / 8 = p by omega, if_pos hp]
    obtain rfl | rfl : r = 0 ∨ r = 1 := by omega
    · rw [show (p * 8 + 4 + 2 * 0) % 8 = 4 by omega]; rfl
    · rw [show (p * 8 + 4 + 2 * 1) % 8 = 6 by omega]; rfl
  · unfold gNw
    rw [show (p * 8 + 5 + 2 * r) / 8 = p by omega, if_pos hp]
    obtain rfl | rfl : r = 0 ∨ r = 1 := by omega
    · rw [show (p * 8 + 5 + 2 * 0) % 8 = 5 by omega]; rfl
    · rw [show (p * 8 + 5 + 2 * 1) % 8 = 7 by omega]; rfl
/-- make([]entry, n). -/
theorem make_ents (n : Nat) (N : Int) (hN : N = (n : Int)) (hn : n ≤ 1000000) : ∃ ob, ∀ w : World, (Instr.makeSlice 74 (.int .i64 N) (.int .i64 N)).run Try.prog w = .ok (.slice (some ⟨w.heap.size, 0, none⟩) n n) (w.alloc ob) ∧
    ∀ (o : Nat → Nat × Nat) (t : Nat × Nat), OwnK (w.alloc ob) (lab o w.heap.size t) t 8 (.slice (some ⟨w.heap.size, 0, none⟩) n n) n (tabg (gNw 0) (n * 8)) := by
  subst hN
  obtain ⟨i0, hi, hz0, hz1, hz2⟩ := info_parts info81
  have hr := fun w : World => run_make (P := Try.prog) w 74 81 i0 (.agg #[.string ⟨#[]⟩, .int .i64 0, .int .i64 0, .bool false, .int .i64 0, .int .i64 0, .int .i64 0, .int .i64 0]) under74 hi hz0 .i64 .i64 (n : Int) (n : Int) (by omega) (by omega) (by rw [hz2]; omega) (by omega)
  simp only [Int.toNat_natCast] at hr
  refine ⟨_, fun w => ⟨hr w, fun o t => ⟨by rw [tabg_length], fun u hu => ?_, .inr ⟨_, n, rfl, lab_same _ _ _, by simp, Nat.le_refl _, by unfold maxLen; omega, fun j u hu => ?_, fun j hj => ⟨?_, World.frozen?_alloc_new _ _ _ _⟩⟩⟩⟩⟩
  · obtain ⟨q, _, rfl⟩ := List.mem_map.1 hu
    unfold gNw
    rw [if_neg (by omega)]
    have : q % 8 < 8 := by omega
    generalize q % 8 = r at this
    obtain rfl | rfl | rfl | rfl | rfl | rfl | rfl | rfl : r = 0 ∨ r = 1 ∨ r = 2 ∨ r = 3 ∨ r = 4 ∨ r = 5 ∨ r = 6 ∨ r = 7 := by omega
    all_goals rfl
  · rw [World.cell?_alloc_new, hz1]
    have hj : j < n * 8 := by have := (List.getElem?_eq_some_iff.1 hu).1; rw [tabg_length] at this; exact this
    rw [tabg_at _ hj] at hu
    rw [← hu]
    unfold gNw
    rw [if_neg (by omega)]
    simp [madeCells, hj, Value.cells]
    have : j % 8 < 8 := by omega
    generalize j % 8 = r at this
    obtain rfl | rfl | rfl | rfl | rfl | rfl | rfl | rfl : r = 0 ∨ r = 1 ∨ r = 2 ∨ r = 3 ∨ r = 4 ∨ r = 5 ∨ r = 6 ∨ r = 7 := by omega
    all_goals rfl
  · rw [World.cell?_alloc_new, hz1]
    simp [madeCells, hj, Value.cells]
/-- What New leaves. -/
def SNew (w : World) (o : Nat → Nat × Nat) (pages page : Nat) (w' : World) (X : Nat) : Prop := ∃ o' n, (∀ i, i < n ↔ sz i ≤ page) ∧ IsSt w' o' X ⟨St.new pages page n, []⟩ ∧ Fr (fun _ => False) o o' w w'
/-- An entry stored anew, cell by cell. -/
theorem MemS.eight {w : World} {o : Nat → Nat × Nat} {X S C G N cap : Nat} {g : Nat → Value} {sv : Value} (h : MemS w o X S C G N cap g sv) (p : Nat) (hp : p < N) (e : Nat → Value) (u0 u1 u2 u3 u4 u5 u6 u7 : Value) (e0 : e 0 = u0) (e1 : e 1 = u1) (e2 : e 2 = u2) (e3 : e 3 = u3) (e4 : e 4 = u4) (e5 : e 5 = u5) (e6 : e 6 = u6) (e7 : e 7 = u7) (h1 : ∀ j, j < 8 → (e j).oneCell' = true) :
    ∃ v0 v1 v2 v3 v4 v5 v6 v7, w.cell? ⟨G, p * 8, none⟩ = some v0 ∧ w.frozen? ⟨G, p * 8, none⟩ = false ∧ (w.setCell ⟨G, p * 8, none⟩ u0).cell? ⟨G, p * 8 + 1, none⟩ = some v1 ∧ (w.setCell ⟨G, p * 8, none⟩ u0).frozen? ⟨G, p * 8 + 1, none⟩ = false ∧ ((w.setCell ⟨G, p * 8, none⟩ u0).setCell ⟨G, p * 8 + 1, none⟩ u1).cell? ⟨G, p * 8 + 2, none⟩ = some v2 ∧ ((w.setCell ⟨G, p * 8, none⟩ u0).setCell ⟨G, p * 8 + 1, none⟩ u1).frozen? ⟨G, p * 8 + 2, none⟩ = false ∧ (((w.setCell ⟨G, p * 8, none⟩ u0).setCell ⟨G, p * 8 + 1, none⟩ u1).setCell ⟨G, p * 8 + 2, none⟩ u2).cell? ⟨G, p * 8 + 3, none⟩ = some v3 ∧ (((w.setCell ⟨G, p * 8, none⟩ u0).setCell ⟨G, p * 8 + 1, none⟩ u1).setCell ⟨G, p * 8 + 2, none⟩ u2).frozen? ⟨G, p * 8 + 3, none⟩ = false ∧ ((((w.setCell ⟨G, p * 8, none⟩ u0).setCell ⟨G, p * 8 + 1, none⟩ u1).setCell ⟨G, p * 8 + 2, none⟩ u2).setCell ⟨G, p * 8 + 3, none⟩ u3).cell? ⟨G, p * 8 + 4, none⟩ = some v4 ∧ ((((w.setCell ⟨G, p * 8, none⟩ u0).setCell ⟨G, p * 8 + 1, none⟩ u1).setCell ⟨G, p * 8 + 2, none⟩ u2).setCell ⟨G, p * 8 + 3, none⟩ u3).frozen? ⟨G, p * 8 + 4, none⟩ = false ∧ (((((w.setCell ⟨G, p * 8, none⟩ u0).setCell ⟨G, p * 8 + 1, none⟩ u1).setCell ⟨G, p * 8 + 2, none⟩ u2).setCell ⟨G, p * 8 + 3, none⟩ u3).setCell ⟨G, p * 8 + 4, none⟩ u4).cell? ⟨G, p * 8 + 5, none⟩ = some v5 ∧ (((((w.setCell ⟨G, p * 8, none⟩ u0).setCell ⟨G, p * 8 + 1, none⟩ u1).setCell ⟨G, p * 8 + 2, none⟩ u2).setCell ⟨G, p * 8 + 3, none⟩ u3).setCell ⟨G, p * 8 + 4, none⟩ u4).frozen? ⟨G, p * 8 + 5, none⟩ = false ∧ ((((((w.setCell ⟨G, p * 8, none⟩ u0).setCell ⟨G, p * 8 + 1, none⟩ u1).setCell ⟨G, p * 8 + 2, none⟩ u2).setCell ⟨G, p * 8 + 3, none⟩ u3).setCell ⟨G, p * 8 + 4, none⟩ u4).setCell ⟨G, p * 8 + 5, none⟩ u5).cell? ⟨G, p * 8 + 6, none⟩ = some v6 ∧ ((((((w.setCell ⟨G, p * 8, none⟩ u0).setCell ⟨G, p * 8 + 1, none⟩ u1).setCell ⟨G, p * 8 + 2, none⟩ u2).setCell ⟨G, p * 8 + 3, none⟩ u3).setCell ⟨G, p * 8 + 4, none⟩ u4).setCell ⟨G, p * 8 + 5, none⟩ u5).frozen? ⟨G, p * 8 + 6, none⟩ = false ∧ (((((((w.setCell ⟨G, p * 8, none⟩ u0).setCell ⟨G, p * 8 + 1, none⟩ u1).setCell ⟨G, p * 8 + 2, none⟩ u2).setCell ⟨G, p * 8 + 3, none⟩ u3).setCell ⟨G, p * 8 + 4, none⟩ u4).setCell ⟨G, p * 8 + 5, none⟩ u5).setCell ⟨G, p * 8 + 6, none⟩ u6).cell? ⟨G, p * 8 + 7, none⟩ = some v7 ∧ (((((((w.setCell ⟨G, p * 8, none⟩ u0).setCell ⟨G, p * 8 + 1, none⟩ u1).setCell ⟨G, p * 8 + 2, none⟩ u2).setCell ⟨G, p * 8 + 3, none⟩ u3).setCell ⟨G, p * 8 + 4, none⟩ u4).setCell ⟨G, p * 8 + 5, none⟩ u5).setCell ⟨G, p * 8 + 6, none⟩ u6).frozen? ⟨G, p * 8 + 7, none⟩ = false ∧ MemS ((((((((w.setCell ⟨G, p * 8, none⟩ u0).setCell ⟨G, p * 8 + 1, none⟩ u1).setCell ⟨G, p * 8 + 2, none⟩ u2).setCell ⟨G, p * 8 + 3, none⟩ u3).setCell ⟨G, p * 8 + 4, none⟩ u4).setCell ⟨G, p * 8 + 5, none⟩ u5).setCell ⟨G, p * 8 + 6, none⟩ u6).setCell ⟨G, p * 8 + 7, none⟩ u7) o X S C G N cap (setE g p e) sv ∧ Fr (fun t => t = (1, 1)) o o w ((((((((w.setCell ⟨G, p * 8, none⟩ u0).setCell ⟨G, p * 8 + 1, none⟩ u1).setCell ⟨G, p * 8 + 2, none⟩ u2).setCell ⟨G, p * 8 + 3, none⟩ u3).setCell ⟨G, p * 8 + 4, none⟩ u4).setCell ⟨G, p * 8 + 5, none⟩ u5).setCell ⟨G, p * 8 + 6, none⟩ u6).setCell ⟨G, p * 8 + 7, none⟩ u7) := by
  subst e0 e1 e2 e3 e4 e5 e6 e7
  obtain ⟨d0, y0⟩ := h.at_ (q := p * 8) (by omega)
  have N1 := h.set (p * 8) (e 0) (h1 0 (by omega)) (by omega)
  obtain ⟨d1, y1⟩ := N1.at_ (q := p * 8 + 1) (by omega)
  have N2 := N1.set (p * 8 + 1) (e 1) (h1 1 (by omega)) (by omega)
  obtain ⟨d2, y2⟩ := N2.at_ (q := p * 8 + 2) (by omega)
  have N3 := N2.set (p * 8 + 2) (e 2) (h1 2 (by omega)) (by omega)
  obtain ⟨d3, y3⟩ := N3.at_ (q := p * 8 + 3) (by omega)
  have N4 := N3.set (p * 8 + 3) (e 3) (h1 3 (by omega)) (by omega)
  obtain ⟨d4, y4⟩ := N4.at_ (q := p * 8 + 4) (by omega)
  have N5 := N4.set (p * 8 + 4) (e 4) (h1 4 (by omega)) (by omega)
  obtain ⟨d5, y5⟩ := N5.at_ (q := p * 8 + 5) (by omega)
  have N6 := N5.set (p * 8 + 5) (e 5) (h1 5 (by omega)) (by omega)
  obtain ⟨d6, y6⟩ := N6.at_ (q := p * 8 + 6) (by omega)
  have N7 := N6.set (p * 8 + 6) (e 6) (h1 6 (by omega)) (by omega)
  obtain ⟨d7, y7⟩ := N7.at_ (q := p * 8 + 7) (by omega)
  have N8 := N7.set (p * 8 + 7) (e 7) (h1 7 (by omega)) (by omega)
  rw [← setE_upd g p e] at N8
  have oG := h.oG.1
  exact ⟨_, _, _, _, _, _, _, _, d0, y0, d1, y1, d2, y2, d3, y3, d4, y4, d5, y5, d6, y6, d7, y7, N8, ((((((((Fr.refl (fun t => t = (1, 1)) o w).trans (Fr.set (a := ⟨G, p * 8, none⟩) oG _)).trans (Fr.set (a := ⟨G, p * 8 + 1, none⟩) oG _)).trans (Fr.set (a := ⟨G, p * 8 + 2, none⟩) oG _)).trans (Fr.set (a := ⟨G, p * 8 + 3, none⟩) oG _)).trans (Fr.set (a := ⟨G, p * 8 + 4, none⟩) oG _)).trans (Fr.set (a := ⟨G, p * 8 + 5, none⟩) oG _)).trans (Fr.set (a := ⟨G, p * 8 + 6, none⟩) oG _)).trans (Fr.set (a := ⟨G, p * 8 + 7, none⟩) oG _)⟩
/-- A store without its ends. -/
structure Begun (w : World) (o : Nat → Nat × Nat) (X C G S E pages page n : Nat) (w' : World) (o' : Nat → Nat × Nat) : Prop where
  mem : MemS w' o' X S C G E E (gNw 0) (.slice none 0 0)
  slab : IsSlab w' o' 2 S (St.new pages page n)
  chn : IsChain w' o' 3 C A0
  fr : Fr (fun _ => False) o o' w w'
theorem begun_box {w w2 w4 : World} {o o1 o4 : Nat → Nat × Nat} {C G S E pages page n : Nat} (hS : IsSlab w4 o4 2 S (St.new pages page n)) (hC : IsChain w4 o4 3 C A0) (hE : OwnK w4 o4 (1, 1) 8 (.slice (some ⟨G, 0, none⟩) E E) E (tabg (gNw 0) (E * 8))) (f1 : Fr (fun _ => False) o o1 w w2) (f2 : Fr (fun _ => False) o1 o4 w2 w4) (h0 : 0 < E) (h1 : E ≤ 12) :
    Begun w o w4.heap.size C G S E pages page n (w4.alloc (.cells #[.pointer (some ⟨S, 0, none⟩), .pointer (some ⟨C, 0, none⟩), .slice (some ⟨G, 0, none⟩) E E, .slice none 0 0] 76)) (lab o4 w4.heap.size (1, 0)) := by
  have f3 := Fr.new (fun _ => False) o4 w4 (.cells #[.pointer (some ⟨S, 0, none⟩), .pointer (some ⟨C, 0, none⟩), .slice (some ⟨G, 0, none⟩) E E, .slice none 0 0] 76) (1, 0)
  refine ⟨⟨lab_same _ _ _, ?_, ?_, ?_, ?_, fun j => World.frozen?_alloc_new _ _ _ _, hE.fr f3 (fun x => x), h0, by omega⟩, hS.fr f3 (fun _ x => x), hC.fr f3 (fun _ x => x), (f1.trans f2).trans f3⟩
  all_goals
    rw [World.cell?_alloc_new]; rfl
set_option maxRecDepth 100000 in
set_option maxHeartbeats 1000000 in
theorem snew_yes (pages page : Nat) (P Q : Int) (hP : P = (pages : Int)) (hQ : Q = (page : Int)) (p1 : 1 ≤ pages) (p2 : pages ≤ 64) (g1 : 64 ≤ page) (g2 : page ≤ 65536) (w : World) (o : Nat → Nat × Nat) (hfr : ∀ b, b < w.heap.size → (o b).1 ≠ 2 ∧ (o b).1 ≠ 1) :
    Calls Try.prog 8 #[.int .i64 P, .int .i64 Q] w fun e w' => ∃ X, e = .returned (.tuple #[.pointer (some ⟨X, 0, none⟩), .int .i64 0]) ∧ SNew w o pages page w' X := by
  have HFR : Hid ((∀ b, b < w.heap.size → (o b).1 ≠ 2 ∧ (o b).1 ≠ 1) ∧ P = (pages : Int) ∧ Q = (page : Int)) := ⟨hfr, hP, hQ⟩
  clear hfr hP hQ
  go_enter Try.func8, Try.ntmps8
  go_wp2_with fail
  refine (new_yes 2 pages page P Q HFR.out.2.1 HFR.out.2.2 p1 p2 g1 g2 _ o (fun b hb => (HFR.out.1 b hb).1)).mono ?_
  rintro e w1 ⟨S, rfl, o1, n, S1, F1⟩
  have hn2 : n ≤ 11 := S1.ok.n2
  have HS1 : Hid (IsSlab w1 o1 2 S (St.new pages page n)) := S1
  have HF1 : Hid (Fr (fun _ => False) o o1 w w1) := F1
  clear S1 F1
  go_wp2_with fail
  refine (classes_any 2 S (St.new pages page n) _ o1 HS1.out).mono ?_
  rintro e w2 ⟨gc, rfl, _, _, B2⟩
  rw [show (St.new pages page n).n = n from rfl]
  have HS2 : Hid (IsSlab w2 o1 2 S (St.new pages page n)) := HS1.out.below B2
  have HF2 : Hid (Fr (fun _ => False) o o1 w w2) := HF1.out.trans (Fr.ofBelow _ o1 B2)
  clear B2 HS1 HF1
  go_wp2_with fail
  refine (endOf_any (n : Int) (by omega) (by omega) _).mono ?_
  rintro e w3 ⟨rfl, rfl⟩
  obtain ⟨E, hE⟩ : ∃ E : Nat, E = n + 1 := ⟨_, rfl⟩
  rw [show (n : Int) + 1 = (E : Int) by omega]
  have HE : Hid (E = n + 1) := hE
  have hE12 : E ≤ 12 := by omega
  clear hE
  obtain ⟨ob, hmk⟩ := make_ents E (E : Int) rfl (by omega)
  have hmk1 := fun w => (hmk w).1
  have HMK : Hid (∀ (w : World) (o : Nat → Nat × Nat) (t : Nat × Nat), OwnK (w.alloc ob) (lab o w.heap.size t) t 8 (.slice (some ⟨w.heap.size, 0, none⟩) E E) E (tabg (gNw 0) (E * 8))) := fun w => (hmk w).2
  clear hmk
  have hS2 : Hid (∀ (o' : Nat → Nat × Nat) (w' : World), Fr (fun _ => False) o1 o' w2 w' → IsSlab w' o' 2 S (St.new pages page n)) := fun o' w' f => HS2.out.fr f (fun _ x => x)
  go_upto_region 5 with fail
  go_cut [9] from 11 to 43 (fun x9 wx => ∃ X C G o5, x9 = .pointer (some ⟨X, 0, none⟩) ∧ Begun w o X C G S E pages page n wx o5)
  case first =>
    go_region_with (first
      | (go_at_call 30; refine (new_any 3 (w2.alloc ob).drew (lab o1 w2.heap.size (1, 1))).mono ?_; rintro e w4 ⟨C, o4, rfl, C4, F4⟩)
      | (go_at_call 30; refine (new_any 3 w2.drew o1).mono ?_; rintro e w4 ⟨C, o4, rfl, C4, F4⟩))
    all_goals
      go_wp2_with fail
      go_meet
    all_goals first
      | (have F24 : Fr (fun _ => False) o1 o4 w2 w4 := ((Fr.new (fun _ => False) o1 w2 ob (1, 1)).trans (Fr.drew1 _ _ _)).trans F4
         exact ⟨_, C, _, _, rfl, begun_box (hS2.out o4 w4 F24) C4 (((HMK.out w2 o1 (1, 1)).fr (Fr.drew1 (fun _ => False) _ _) (fun x => x)).fr F4 (fun x => x)) HF2.out F24 (by have := HE.out; omega) hE12⟩)
      | (have F24 : Fr (fun _ => False) o1 o4 w2 w4 := (Fr.drew1 _ _ _).trans F4
         have F25 : Fr (fun _ => False) o4 (lab o4 w4.heap.size (1, 1)) w4 (w4.alloc ob) := Fr.new (fun _ => False) o4 w4 ob (1, 1)
         have hb := begun_box (w4 := w4.alloc ob) (hS2.out _ _ (F24.trans F25)) (C4.fr F25 (fun _ x => x)) (HMK.out w4 o4 (1, 1)) HF2.out (F24.trans F25) (by have := HE.out; omega) hE12
         rw [show (w4.alloc ob).heap.size = w4.heap.size + 1 by simp] at hb
         exact ⟨_, C, _, _, rfl, hb⟩)
  case rest =>
    obtain ⟨X, C, G, o5, rfl, HBG⟩ := hcut
    have HB : Hid (Begun w o X C G S E pages page n wc o5) := HBG
    clear HBG hmk1 HMK hS2 HS2 HF2
    go_wp2_with fail
    go_loopw [31] (fun y wr => ∃ j : Nat, j ≤ E ∧ y = .int .i64 (j : Int) ∧ Hid (MemS wr o5 X S C G E E (gNw j) (.slice none 0 0)) ∧ Hid (Fr (fun t => t = (1, 1)) o5 o5 wc wr)) (fun y _ => E - (intOf y).toNat)
    case atStart => exact ⟨0, by omega, rfl, HB.out.mem, Fr.refl _ _ _⟩
    case round =>
      obtain ⟨j, hj, rfl, M, FF⟩ := hrel
      by_cases hlt : j < E
      · have hj1 : (j : Int) < (E : Int) := by omega
        have c2 := M.out.c2
        go_wp2_with fail
        go_region_with (go_at_call 31; refine (alone_any j _ rfl wr.drew).mono ?_; rintro e w5 ⟨rfl, B5⟩; have F5 : Fr (fun _ => False) o5 o5 wr w5 := (Fr.drew1 _ o5 wr).trans (Fr.ofBelow _ o5 B5); have MW : MemS w5 o5 X S C G E E (gNw j) (.slice none 0 0) := M.out.fr F5 (fun x => x) (fun x => x); have c2' := MW.c2; obtain ⟨v0, v1, v2, v3, v4, v5, v6, v7, d0, y0, d1, y1, d2, y2, d3, y3, d4, y4, d5, y5, d6, y6, d7, y7, M8, F8⟩ := MW.eight j hlt (aloneE j) (.string ⟨#[]⟩) (.int .i64 0) (.int .i64 0) (.bool false) (.int .i64 ((j : Nat) : Int)) (.int .i64 ((j : Nat) : Int)) (.int .i64 ((j : Nat) : Int)) (.int .i64 ((j : Nat) : Int)) rfl rfl rfl rfl rfl rfl rfl rfl (aloneE_one j); have HM8 : Hid (MemS _ o5 X S C G E E (setE (gNw j) j (aloneE j)) (.slice none 0 0)) := M8; have HF8 : Hid (Fr (fun t => t = (1, 1)) o5 o5 w5 _) := F8; have HF5 : Hid (Fr (fun _ => False) o5 o5 wr w5) := F5; clear M8 F8 F5 MW B5)
        all_goals
          rw [gNw_succ] at HM8
          clear d0 y0 d1 y1 d2 y2 d3 y3 d4 y4 d5 y5 d6 y6 d7 y7
          go_wp2_with fail
          exact ⟨⟨j + 1, by omega, by go_num, HM8, (FF.out.trans (HF5.out.mono (fun _ h => h.elim))).trans HF8.out⟩, by simp [intOf]; omega⟩
      · have hjE : j = E := by omega
        subst hjE
        go_wp2_with fail
        go_ret2
        have f : Fr (fun t => t = (1, 1)) o5 o5 wc wr := FF.out
        have hnn : ∀ i, i < n ↔ sz i ≤ page := HB.out.slab.ok.n1
        have okN : Ok (St.new pages page n) := HB.out.slab.ok
        refine ⟨X, rfl, o5, n, hnn, ⟨⟨S, C, G, j, j, gNw j, .slice none 0 0, [], A0, fun _ p => p, fun _ p => p, []⟩, ⟨M.out, OwnK.nil _ _ _ _, HB.out.slab.fr f (fun _ e => by cases e), HB.out.chn.fr f (fun _ e => by cases e), gNw_links j, (fun _ hx => by cases hx), ⟨Ring.one _ _ _ rfl rfl, fun c _ => Ring.one _ _ _ rfl rfl⟩, ⟨List.nodup_nil, (fun _ hp => by cases hp), ?_⟩, ⟨fun k v => ⟨fun h => (by cases h), fun ⟨_, hx, _⟩ => (by cases hx)⟩, rfl⟩, rfl, OkSp.new okN⟩⟩, ?_⟩
        · exact HE.out
        · refine HB.out.fr.fresh f (fun b hb => ?_)
          exact fun e => (HFR.out.1 b hb).2 (by rw [e])
end Go.Proofs.Ytbflcnghpkmcoaa
