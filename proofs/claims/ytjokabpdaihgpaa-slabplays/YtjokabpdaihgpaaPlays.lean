/-
  SLABPLAYS walked: the slab and the reference side by side, one ask after another.
-/
import Derived.Test.YtjokabpdaihgpaaRAlloc
import Derived.Test.YtjokabpdaihgpaaRNew
import Derived.Test.YtjokabpdaihgpaaReg
import Derived.Test.YtjokabpdaihgpaaAsks
import Derived.Deep.RegionHeld3
import Derived.Deep.CutRange
import Derived.Deep.CutBlock
namespace Go.Proofs.Ytjokabpdaihgpaa
open Go.RowKit

theorem OwnK.relab {w : World} {o o' : (Nat → Nat × Nat)} {t : Nat × Nat} {k : Nat} {v : Value} {n : Nat} {cs : List Value} (h : OwnK w o t k v n cs) (hr : ∀ b, o b = t → o' b = t) : OwnK w o' t k v n cs := by
  refine ⟨h.1, h.2.1, ?_⟩
  rcases h.2.2 with h | ⟨g, cap, h1, h2, h3⟩
  · exact .inl h
  · exact .inr ⟨g, cap, h1, hr g h2, h3⟩
theorem IsSlab.relab {w : World} {o o' : (Nat → Nat × Nat)} {x S : Nat} {s : St} (h : IsSlab w o x S s) (hr : ∀ b, (o b).1 = x → o' b = o b) : IsSlab w o' x S s := by
  obtain ⟨C, cap, kv, fv, hc, c3, cf⟩ := h.cl
  have up : ∀ a b, o b = (x, a) → o' b = (x, a) := fun a b e => (hr b (by rw [e])).trans e
  exact ⟨h.ok, up _ _ h.oS, h.c0, h.c1, h.c2, h.f2, C, cap, kv, fv, hc, c3, ⟨up _ _ cf.oC, cf.c0, cf.c1, cf.c2, cf.f1, cf.f2, fun i hi => (cf.kk i hi).relab (up _), fun i hi => (cf.ff i hi).relab (up _)⟩⟩
/-- Marks of other owners than x taken away from what is new. -/
def only (x N : Nat) (o : (Nat → Nat × Nat)) : (Nat → Nat × Nat) := fun b => if b < N ∨ (o b).1 = x then o b else (9, 0)
/-- What stands behind the turn of one ask. -/
def Tail2 (w : World) (S R p i : Nat) (tv lv : Value) (wx : World) : Prop :=
  ∃ (nn L : Nat) (HS : List (Nat × Nat)) (ss : St) (oo : (Nat → Nat × Nat)) (av : Option Addr) (cv : Nat), tv = .slice av nn cv ∧ lv = .int .i64 ((L : Nat) : Int) ∧ nn ≤ i + 1 ∧ L ≤ i + 1 ∧ ss.live = L ∧ ss.pages = p ∧ OwnK wx oo (3, 0) 2 (.slice av nn cv) nn (hsc HS) ∧ IsSlab wx oo 1 S ss ∧ RSlab wx oo 2 R ss ∧ Fr T123 o0 oo w wx
/-- The ask in block A, the handle in block B. -/
def AB (A B : Nat) (K N Z C H : Int) (D : ByteArray) (T : Bool) (hc hk : Int) (X : World) : Prop :=
  X.cell? ⟨B, 0, none⟩ = some (.int .i64 hc) ∧ X.cell? ⟨B, 1, none⟩ = some (.int .i64 hk) ∧ X.cell? ⟨A, 0, none⟩ = some (.int .i64 K) ∧ X.cell? ⟨A, 1, none⟩ = some (.int .i64 N) ∧ X.cell? ⟨A, 2, none⟩ = some (.int .i64 Z) ∧ X.cell? ⟨A, 3, none⟩ = some (.string D) ∧ X.cell? ⟨A, 4, none⟩ = some (.int .i64 C) ∧ X.cell? ⟨A, 5, none⟩ = some (.int .i64 H) ∧ X.cell? ⟨A, 6, none⟩ = some (.bool T)
theorem AB.fr {A B : Nat} {K N Z C H : Int} {D : ByteArray} {T : Bool} {hc hk : Int} {X Y : World} {U : Nat × Nat → Prop} {o o' : (Nat → Nat × Nat)} (h : AB A B K N Z C H D T hc hk X) (f : Fr U o o' X Y) (hA : ¬ U (o A)) (hB : ¬ U (o B)) : AB A B K N Z C H D T hc hk Y := by
  obtain ⟨b0, b1, a0, a1, a2, a3, a4, a5, a6⟩ := h
  exact ⟨f.cell b0 hB, f.cell b1 hB, f.cell a0 hA, f.cell a1 hA, f.cell a2 hA, f.cell a3 hA, f.cell a4 hA, f.cell a5 hA, f.cell a6 hA⟩
theorem AB.up {A B : Nat} {K N Z C H : Int} {D : ByteArray} {T : Bool} {hc hk : Int} {X Y : World} (h : AB A B K N Z C H D T hc hk X) (f : Below X.heap.size X Y) : AB A B K N Z C H D T hc hk Y :=
  h.fr (Fr.ofBelow (fun _ => False) o0 f) (fun x => x) (fun x => x)
/-- What region 18 reads: the two answers, the ask. -/
def S11 (X1 X2 A : Nat) (ci ck : Nat) (N Z C H : Int) (D : ByteArray) (T : Bool) (X : World) : Prop :=
  X.cell? ⟨X1, 0, none⟩ = some (.int .i64 (ci : Int)) ∧ X.cell? ⟨X1, 1, none⟩ = some (.int .i64 (ck : Int)) ∧ X.cell? ⟨X2, 0, none⟩ = some (.int .i64 (ci : Int)) ∧ X.cell? ⟨X2, 1, none⟩ = some (.int .i64 (ck : Int)) ∧ X.cell? ⟨A, 0, none⟩ = some (.int .i64 1) ∧ X.cell? ⟨A, 1, none⟩ = some (.int .i64 N) ∧ X.cell? ⟨A, 2, none⟩ = some (.int .i64 Z) ∧ X.cell? ⟨A, 3, none⟩ = some (.string D) ∧ X.cell? ⟨A, 4, none⟩ = some (.int .i64 C) ∧ X.cell? ⟨A, 5, none⟩ = some (.int .i64 H) ∧ X.cell? ⟨A, 6, none⟩ = some (.bool T)
theorem S11.up {X1 X2 A ci ck : Nat} {N Z C H : Int} {D : ByteArray} {T : Bool} {X Y : World} (h : S11 X1 X2 A ci ck N Z C H D T X) (f : Below X.heap.size X Y) : S11 X1 X2 A ci ck N Z C H D T Y := by
  obtain ⟨h1, h2, h3, h4, h5, h6, h7, h8, h9, h10, h11⟩ := h
  exact ⟨cell_up f h1, cell_up f h2, cell_up f h3, cell_up f h4, cell_up f h5, cell_up f h6, cell_up f h7, cell_up f h8, cell_up f h9, cell_up f h10, cell_up f h11⟩
/-- What stands behind the choice of the handle. -/
def Mid2 (w : World) (S R A B n : Nat) (s : St) (hs : List (Nat × Nat)) (tv : Value) (K N Z C H : Int) (D : ByteArray) (T : Bool) (wx : World) : Prop :=
  ∃ (hc hk : Int) (o : (Nat → Nat × Nat)), AB A B K N Z C H D T hc hk wx ∧ o A = (9, 0) ∧ o B = (9, 0) ∧ OwnK wx o (3, 0) 2 tv n (hsc hs) ∧ IsSlab wx o 1 S s ∧ RSlab wx o 2 R s ∧ Fr T123 o0 o w wx
set_option maxHeartbeats 0 in
set_option maxRecDepth 100000 in
theorem plays_walk (pages page : Int) (la : Option Addr) (ln lc : Nat) (q : Nat → AskD) (hln : ln ≤ 9223372036854775807) (w : World) (ri : AskF w la q ln) :
    Calls Try.prog 4 #[.int .i64 pages, .int .i64 page, .slice la ln lc] w fun e w' => e = .returned (.bool true) ∧ Below w.heap.size w w' := by
  have RI : Hid (AskF w la q ln) := ri
  clear ri
  by_cases hright : rightN pages page
  · obtain ⟨p, rfl⟩ : ∃ p : Nat, pages = p := ⟨pages.toNat, by have := hright.1; omega⟩
    obtain ⟨size, rfl⟩ : ∃ p : Nat, page = p := ⟨page.toNat, by have := hright.2.2.1; omega⟩
    obtain ⟨r1, r2, r3, r4⟩ := hright
    have p64 : p ≤ 64 := by omega
    go_enter Try.func4, Try.ntmps4
    go_wp2_with fail
    refine (new_yes 1 p size p size rfl rfl (by omega) (by omega) (by omega) (by omega) _ o0 (fun b _ e => by cases e)).mono ?_
    rintro e w1 ⟨S, rfl, o1, m, I1, F1⟩
    have HF1 : Hid (Fr T123 o0 (only 1 w.heap.size o1) w w1) := ⟨F1.os, F1.tape, F1.output, F1.size, fun b hb => by rw [only, if_pos (.inl hb)]; exact F1.lab b hb, fun b hb _ => F1.block b hb (fun x => x)⟩
    have HI1 : Hid (IsSlab w1 (only 1 w.heap.size o1) 1 S (St.new p size m)) := I1.relab (fun b e => by rw [only, if_pos (.inr e)])
    have HX : Hid (∀ b, b < w1.heap.size → (only 1 w.heap.size o1 b).1 ≠ 2) := fun b hb => by
      unfold only
      split
      · rename_i h
        rcases h with h | h
        · rw [F1.lab b h]; intro e; cases e
        · rw [h]; decide
      · decide
    clear F1 I1
    go_wp2_with fail
    refine (rnew_yes 2 p size p size rfl rfl (by omega) (by omega) (by omega) (by omega) _ _ HX.out).mono ?_
    rintro e w2 ⟨R, rfl, o2, m2, I2, F2⟩
    have hm : m2 = m := by
      have h1 := HI1.out.ok.n1
      have h2 := I2.ok.n1
      have a1 : ∀ i, i < m ↔ sz i ≤ size := h1
      have a2 : ∀ i, i < m2 ↔ sz i ≤ size := h2
      by_cases e : m2 < m
      · have := (a2 m2).2 ((a1 m2).1 e); omega
      · by_cases e' : m < m2
        · have := (a1 m).2 ((a2 m).1 e'); omega
        · omega
    subst hm
    have HF2 : Hid (Fr T123 o0 o2 w w2) := HF1.out.trans (F2.mono (fun _ h => h.elim))
    have HI2 : Hid (IsSlab w2 o2 1 S (St.new p size m2)) := HI1.out.fr F2 (fun _ x => x)
    have HR2 : Hid (RSlab w2 o2 2 R (St.new p size m2)) := I2
    have HL2 : Hid ((St.new p size m2).live = 0) := sumN_zero (fun _ _ => rfl)
    clear F2 I2 HF1 HI1 HX
    go_wp2_with fail
    go_loopw [11, 12, 13] (fun tv lv iv wr => ∃ (i n L : Nat) (hs : List (Nat × Nat)) (s : St) (o : (Nat → Nat × Nat)) (a : Option Addr) (c : Nat), tv = .slice a n c ∧ lv = .int .i64 (L : Int) ∧ iv = .int .i64 (i : Int) ∧ i ≤ 60 ∧ i ≤ ln ∧ n ≤ i ∧ L ≤ i ∧ Hid (s.live = L) ∧ Hid (s.pages = p) ∧ Hid (OwnK wr o (3, 0) 2 (.slice a n c) n (hsc hs)) ∧ Hid (IsSlab wr o 1 S s) ∧ Hid (RSlab wr o 2 R s) ∧ Hid (Fr T123 o0 o w wr)) (fun _ _ iv _ => 60 - (intOf iv).toNat)
    case atStart => exact ⟨0, 0, 0, [], _, o2, none, 0, rfl, rfl, rfl, by omega, by omega, by omega, by omega, HL2, rfl, OwnK.nil _ _ _ _, HI2, HR2, HF2⟩
    case round =>
      clear HL2 HI2 HR2 HF2
      obtain ⟨i, n, L, hs, s, o, a, c, rfl, rfl, rfl, hi60, hiln, hni, hLi, HL, HP, OH, HI, HR, HF⟩ := hrel
      by_cases hlt : i < ln ∧ i < 60
      · obtain ⟨g1, g2⟩ := hlt
        have k1 : (i : Int) < (ln : Int) := by omega
        have k2 : (i : Int) < (60 : Int) := by omega
        obtain ⟨pp, off, rfl, hask⟩ := RI.out.there g1 (o0_T123 w HF.out)
        obtain ⟨d0, d1, d2, d3, d4, d5, d6⟩ := hask
        obtain ⟨⟨K, N, Z, D, C, H, T⟩, hq⟩ : ∃ x, q i = x := ⟨_, rfl⟩
        rw [hq] at d0 d1 d2 d3 d4 d5 d6
        simp only at d0 d1 d2 d3 d4 d5 d6
        clear hq
        go_upto_region 11 with fail
        obtain ⟨A, hA⟩ : ∃ A, A = wr.heap.size := ⟨_, rfl⟩
        obtain ⟨w3, hw3⟩ : ∃ w3, w3 = wr.alloc (.cells #[.int .i64 K, .int .i64 N, .int .i64 Z, .string D, .int .i64 C, .int .i64 H, .bool T] 45) := ⟨_, rfl⟩
        have AA : AskAt w3 A 0 ⟨K, N, Z, D, C, H, T⟩ := by
          rw [hw3, hA]; refine ⟨?_, ?_, ?_, ?_, ?_, ?_, ?_⟩ <;> (rw [World.cell?_alloc_new]; rfl)
        obtain ⟨e0, e1, e2, e3, e4, e5, e6⟩ := AA
        simp only [Nat.zero_add] at e0 e1 e2 e3 e4 e5 e6
        have FA : ∀ U, Fr U o (lab o A (9, 0)) wr w3 := fun U => by rw [hw3, hA]; exact Fr.new U o wr _ _
        rw [← hw3, ← hA]
        have hA3 : A < w3.heap.size := World.block_lt_of_cell? _ _ e0
        have hWA : w.heap.size ≤ A := by rw [hA]; exact HF.out.size
        clear d0 d1 d2 d3 d4 d5 d6 hA hw3
        go_upto_region 12 with fail
        obtain ⟨B, hB⟩ : ∃ B, B = w3.heap.size := ⟨_, rfl⟩
        obtain ⟨w4, hw4⟩ : ∃ w4, w4 = w3.alloc (.cells #[.int .i64 C, .int .i64 H] 34) := ⟨_, rfl⟩
        have B4 : Below w3.heap.size w3 w4 := by rw [hw4]; exact (Below.refl _ _).alloc (Nat.le_refl _) _
        have b0 : w4.cell? ⟨B, 0, none⟩ = some (.int .i64 C) := by rw [hw4, hB, World.cell?_alloc_new]; rfl
        have b1 : w4.cell? ⟨B, 1, none⟩ = some (.int .i64 H) := by rw [hw4, hB, World.cell?_alloc_new]; rfl
        have z0 : w4.frozen? ⟨B, 0, none⟩ = false := by rw [hw4, hB, World.frozen?_alloc_new]
        have z1 : w4.frozen? ⟨B, 1, none⟩ = false := by rw [hw4, hB, World.frozen?_alloc_new]
        have FB : ∀ U, Fr U (lab o A (9, 0)) (lab (lab o A (9, 0)) B (9, 0)) w3 w4 := fun U => by rw [hw4, hB]; exact Fr.new U _ w3 _ _
        have hBw : w.heap.size ≤ B := by omega
        have hAB : A < B := by omega
        obtain ⟨o, OA, OB, OH4, HI4, HR4, HF4⟩ : ∃ om : Nat → Nat × Nat, Hid (om A = (9, 0)) ∧ Hid (om B = (9, 0)) ∧ Hid (OwnK w4 om (3, 0) 2 (.slice a n c) n (hsc hs)) ∧ Hid (IsSlab w4 om 1 S s) ∧ Hid (RSlab w4 om 2 R s) ∧ Hid (Fr T123 o0 om w w4) :=
          ⟨_, ((FB (fun _ => False)).lab A hA3).trans (lab_same _ _ _), lab_same _ _ _, (OH.out.fr (FA (fun _ => False)) (fun x => x)).fr (FB (fun _ => False)) (fun x => x), (IsSlab.fr HI.out (FA (fun _ => False)) (fun _ x => x)).fr (FB (fun _ => False)) (fun _ x => x), (RSlab.fr HR.out (FA (fun _ => False)) (fun _ x => x)).fr (FB (fun _ => False)) (fun _ x => x), (HF.out.trans (FA T123)).trans (FB T123)⟩
        have f0 := cell_up B4 e0
        have f1 := cell_up B4 e1
        have f2 := cell_up B4 e2
        have f3 := cell_up B4 e3
        have f4 := cell_up B4 e4
        have f5 := cell_up B4 e5
        have f6 := cell_up B4 e6
        have AB4 : Hid (AB A B K N Z C H D T C H w4) := ⟨b0, b1, f0, f1, f2, f3, f4, f5, f6⟩
        rw [← hw4, ← hB]
        clear FA FB OH HI HR HF hB hw4 B4 e0 e1 e2 e3 e4 e5 e6
        obtain ⟨bb, hbb⟩ : ∃ bb, bb = decide (T = true ∧ 0 < n) := ⟨_, rfl⟩
        have HBB : Hid (bb = decide (T = true ∧ 0 < n)) := hbb
        clear hbb
        go_cut [75] from 49 to 193 (fun cv wx => cv = .bool bb ∧ w4 = wx)
        case first =>
          cases T
          · go_wp2_with fail
            go_meet
            exact ⟨by rw [HBB.out]; simp, rfl⟩
          · by_cases hn0 : 0 < n
            · have k3 : decide (0 < n) = true := by simpa using hn0
              go_wp2_with fail
              go_meet
              exact ⟨by rw [HBB.out]; simp [hn0], rfl⟩
            · have k3 : decide (0 < n) = false := by simpa using hn0
              go_wp2_with fail
              go_meet
              exact ⟨by rw [HBB.out]; simp [hn0], rfl⟩
        case rest =>
          obtain ⟨rfl, rfl⟩ := hcut
          go_upto_if 75 with fail
          go_cut [12] from 49 to 193 (fun lv wx => lv = .int .i64 (L : Int) ∧ Mid2 w S R A B n s hs (.slice a n c) K N Z C H D T wx)
          case first =>
            by_cases hb : bb = true
            · subst hb
              have hkn : T = true ∧ 0 < n := of_decide_eq_true HBB.out.symm
              obtain ⟨_, hn0⟩ := hkn
              clear HBB
              go_wp2_with fail
              refine (within_any N 0 ((n : Int) - 1) (by omega) (by omega) (by omega) _).mono ?_
              rintro e w5 ⟨⟨r, rfl, hr0, hrn⟩, rfl⟩
              obtain ⟨kk, rfl⟩ : ∃ kk : Nat, r = kk := ⟨r.toNat, by omega⟩
              have hkk : kk < n := by omega
              have hkk' : (kk : Int) < (n : Int) := by omega
              obtain ⟨g, cap, eg, og, gl, hcap, hmx, hcell, _⟩ := OH4.out.there hn0
              injection eg with e1' _ e3'
              subst e1' e3'
              have hsl : hs.length = n := by have := OH4.out.1; rw [hsc_length] at this; omega
              obtain ⟨h, hh⟩ : ∃ h, hs[kk]? = some h := ⟨_, List.getElem?_eq_getElem (by rw [hsl]; exact hkk)⟩
              obtain ⟨c1, c2⟩ := hsc_at _ _ _ hh
              have x0 := hcell _ _ c1
              have x1 := hcell _ _ c2
              have neB : g ≠ B := fun e => by rw [e, OB.out] at og; cases og
              have FW : ∀ U : Nat × Nat → Prop, U (9, 0) → Fr U o o w4 ((w4.setCell ⟨B, 0, none⟩ (.int .i64 ((h.1 : Nat) : Int))).setCell ⟨B, 1, none⟩ (.int .i64 ((h.2 : Nat) : Int))) := fun U hU =>
                (Fr.set (T := U) (a := ⟨B, 0, none⟩) (by show U (o B); rw [OB.out]; exact hU) _).trans (Fr.set (T := U) (a := ⟨B, 1, none⟩) (by show U (o B); rw [OB.out]; exact hU) _)
              have tc := two_cells b0 b1 (.int .i64 ((h.1 : Nat) : Int)) (.int .i64 ((h.2 : Nat) : Int))
              have nAB : A ≠ B := by omega
              have DONE : Hid (Mid2 w S R A B n s hs (.slice (some ⟨g, 0, none⟩) n c) K N Z C H D T ((w4.setCell ⟨B, 0, none⟩ (.int .i64 ((h.1 : Nat) : Int))).setCell ⟨B, 1, none⟩ (.int .i64 ((h.2 : Nat) : Int)))) := by
                have ot : ∀ k, ((w4.setCell ⟨B, 0, none⟩ (.int .i64 ((h.1 : Nat) : Int))).setCell ⟨B, 1, none⟩ (.int .i64 ((h.2 : Nat) : Int))).cell? ⟨A, k, none⟩ = w4.cell? ⟨A, k, none⟩ := fun k =>
                  (World.cell?_setCell_other _ _ _ _ (fun e => by injection e with e; exact nAB e.symm)).trans (World.cell?_setCell_other _ _ _ _ (fun e => by injection e with e; exact nAB e.symm))
                refine ⟨h.1, h.2, o, ⟨?_, tc.2, (ot 0).trans f0, (ot 1).trans f1, (ot 2).trans f2, (ot 3).trans f3, (ot 4).trans f4, (ot 5).trans f5, (ot 6).trans f6⟩, OA.out, OB.out, OH4.out.fr (FW (· = (9, 0)) rfl) (fun e => by cases e), IsSlab.fr HI4.out (FW (· = (9, 0)) rfl) (fun _ e => by cases e), RSlab.fr HR4.out (FW (· = (9, 0)) rfl) (fun _ e => by cases e), (HF4.out.setNew (a := ⟨B, 0, none⟩) hBw _).setNew (a := ⟨B, 1, none⟩) hBw _⟩
                exact (World.cell?_setCell_other _ _ _ _ (fun e => by injection e with _ e; cases e)).trans tc.1
              clear hcell c1 c2 hh hsl FW tc
              go_wp2_with fail
              go_meet
              exact ⟨rfl, DONE.out⟩
            · have hb : bb = false := by simpa using hb
              subst hb
              clear HBB
              go_wp2_with fail
              go_meet
              exact ⟨rfl, C, H, o, AB4.out, OA.out, OB.out, OH4.out, HI4.out, HR4.out, HF4.out⟩
          case rest =>
            obtain ⟨rfl, hc, hk, oo, ab, oa, ob, oh, hi, hr, hf⟩ := hcut
            have HAB : Hid (AB A B K N Z C H D T hc hk wc) := ab
            have MA : Hid (oo A = (9, 0)) := oa
            have MB : Hid (oo B = (9, 0)) := ob
            have MH : Hid (OwnK wc oo (3, 0) 2 (.slice a n c) n (hsc hs)) := oh
            have MI : Hid (IsSlab wc oo 1 S s) := hi
            have MR : Hid (RSlab wc oo 2 R s) := hr
            have MF : Hid (Fr T123 o0 oo w wc) := hf
            obtain ⟨y0, y1, x0, x1, x2, x3, x4, x5, x6⟩ := ab
            clear oa ob oh hi hr hf b0 b1 z0 z1 f0 f1 f2 f3 f4 f5 f6 AB4 OA OB OH4 HI4 HR4 HF4 HBB
            go_upto_block 2 with fail
            go_cut [11, 12] from 49 to 193 (fun tv lv wx => Tail2 w S R p i tv lv wx)
            case first =>
              by_cases hk1 : K = 1
              · subst hk1
                have HOK : Hid (Ok s) := MI.out.ok
                go_wp2_with fail
                refine (data_any 1 N Z C H D T _).mono ?_
                rintro e w5 ⟨rfl, B5⟩
                have hdz := dt_size D Z
                obtain ⟨d, hd⟩ : ∃ d, d = dt D Z := ⟨_, rfl⟩
                rw [← hd] at hdz ⊢
                have HD : Hid (dt D Z = d) := hd.symm
                have MI5 : Hid (IsSlab w5 oo 1 S s) := IsSlab.below MI.out B5
                have HB5 : Hid (Below wc.heap.size wc w5) := B5
                clear hd B5
                go_wp2_with fail
                refine (alloc_any 1 S (by decide) s d (by omega) _ oo MI5.out).mono ?_
                rintro e w6 ⟨rfl, o6, I6, F6⟩
                obtain ⟨ci, ck, ec, hans⟩ : ∃ ci ck ec, (s.alloc d).1 = (ci, ck, ec) := ⟨_, _, _, rfl⟩
                have HAN : Hid ((s.alloc d).1 = (ci, ck, ec)) := hans
                rw [hans]
                unfold ansV
                have HI6 : Hid (IsSlab w6 o6 1 S (s.alloc d).2) := I6
                have HF6 : Hid (Fr (fun t => t.1 = 1) oo o6 w5 w6) := F6
                have AB5 : Hid (AB A B 1 N Z C H D T hc hk w5) := HAB.out.up HB5.out
                have AB6 := AB5.out.fr F6 (by rw [MA.out]; decide) (by rw [MB.out]; decide)
                have hA5 : Hid (A < w5.heap.size) := Nat.lt_of_lt_of_le (World.block_lt_of_cell? _ _ x0) HB5.out.size
                have hB5 : Hid (B < w5.heap.size) := Nat.lt_of_lt_of_le (World.block_lt_of_cell? _ _ y0) HB5.out.size
                have HAB6 : Hid (AB A B 1 N Z C H D T hc hk w6) := AB6
                obtain ⟨_, _, s0, s1, s2, s3, s4, s5, s6⟩ := AB6
                clear I6 F6 hans y0 y1 x0 x1 x2 x3 x4 x5 x6
                go_upto_region 17 with fail
                obtain ⟨X1, hX1⟩ : ∃ X1, X1 = w6.heap.size := ⟨_, rfl⟩
                obtain ⟨w7, hw7⟩ : ∃ w7, w7 = w6.alloc (.cells #[.int .i64 (ci : Int), .int .i64 (ck : Int)] 34) := ⟨_, rfl⟩
                have B7 : Below w6.heap.size w6 w7 := by rw [hw7]; exact (Below.refl _ _).alloc (Nat.le_refl _) _
                have FX : ∀ U, Fr U o6 (lab o6 X1 (9, 0)) w6 w7 := fun U => by rw [hw7, hX1]; exact Fr.new U _ w6 _ _
                have u0 : w7.cell? ⟨X1, 0, none⟩ = some (.int .i64 (ci : Int)) := by rw [hw7, hX1, World.cell?_alloc_new]; rfl
                have u1 : w7.cell? ⟨X1, 1, none⟩ = some (.int .i64 (ck : Int)) := by rw [hw7, hX1, World.cell?_alloc_new]; rfl
                have AB7 := HAB6.out.up B7
                obtain ⟨o7, M7, H7, I7, R7, G7⟩ : ∃ om : Nat → Nat × Nat, Hid (om A = (9, 0) ∧ om B = (9, 0) ∧ om X1 = (9, 0)) ∧ Hid (OwnK w7 om (3, 0) 2 (.slice a n c) n (hsc hs)) ∧ Hid (IsSlab w7 om 1 S (s.alloc d).2) ∧ Hid (RSlab w7 om 2 R s) ∧ Hid (Fr T123 o0 om w w7) := by
                  have FXf := FX (fun _ => False)
                  have l6 : A < w6.heap.size := Nat.lt_of_lt_of_le hA5.out HF6.out.size
                  have l6' : B < w6.heap.size := Nat.lt_of_lt_of_le hB5.out HF6.out.size
                  refine ⟨_, ⟨(FXf.lab A l6).trans ((HF6.out.lab A hA5.out).trans MA.out), (FXf.lab B l6').trans ((HF6.out.lab B hB5.out).trans MB.out), lab_same _ _ _⟩, ((MH.out.below HB5.out).fr HF6.out (fun e => by cases e)).fr FXf (fun x => x), IsSlab.fr HI6.out FXf (fun _ x => x), ((RSlab.below MR.out HB5.out).fr HF6.out (fun _ e => by cases e)).fr FXf (fun _ x => x), ?_⟩
                  exact ((MF.out.trans (Fr.ofBelow T123 oo HB5.out)).trans (HF6.out.mono (fun t e => .inl e))).trans (FX T123)
                have HAB7 : Hid (AB A B 1 N Z C H D T hc hk w7) := AB7
                obtain ⟨_, _, t0, t1, t2, t3, t4, t5, t6⟩ := AB7
                rw [← hw7, ← hX1]
                clear HI6 HF6 FX B7 hX1 hw7 AB5 HAB6 hA5 hB5 s0 s1 s2 s3 s4 s5 s6 MI5 HB5 MH MI MR MF MA MB HAB
                go_wp2_with fail
                refine (data_any 1 N Z C H D T _).mono ?_
                rintro e w8 ⟨rfl, B8⟩
                rw [HD.out]
                have HB8 : Hid (Below w7.heap.size w7 w8) := B8
                have R8 : Hid (RSlab w8 o7 2 R s) := RSlab.below R7.out B8
                clear B8
                go_wp2_with fail
                refine (ralloc_any 2 R (by decide) (by decide) s d _ o7 R8.out).mono ?_
                rintro e w9 ⟨rfl, o9, I9, F9⟩
                rw [HAN.out]
                unfold ansV
                have HI9 : Hid (RSlab w9 o9 2 R (s.alloc d).2) := I9
                have HF9 : Hid (Fr (fun t => t.1 = 2) o7 o9 w8 w9) := F9
                have AB9 := (HAB7.out.up HB8.out).fr F9 (by rw [M7.out.1]; decide) (by rw [M7.out.2.1]; decide)
                have v0 := F9.cell (cell_up HB8.out u0) (by rw [M7.out.2.2]; decide)
                have v1 := F9.cell (cell_up HB8.out u1) (by rw [M7.out.2.2]; decide)
                obtain ⟨_, _, s0, s1, s2, s3, s4, s5, s6⟩ := AB9
                have H9 : Hid (OwnK w9 o9 (3, 0) 2 (.slice a n c) n (hsc hs)) := (H7.out.below HB8.out).fr F9 (fun e => by cases e)
                have I9' : Hid (IsSlab w9 o9 1 S (s.alloc d).2) := (IsSlab.below I7.out HB8.out).fr F9 (fun _ e => by cases e)
                have G9 : Hid (Fr T123 o0 o9 w w9) := (G7.out.trans (Fr.ofBelow T123 o7 HB8.out)).trans (F9.mono (fun t e => .inr (.inl e)))
                clear I9 F9 t0 t1 t2 t3 t4 t5 t6 u0 u1 H7 I7 R7 R8 G7 HAB7 HB8
                go_upto_region 18 with fail
                obtain ⟨X2, hX2⟩ : ∃ X2, X2 = w9.heap.size := ⟨_, rfl⟩
                obtain ⟨wa, hwa⟩ : ∃ wa, wa = w9.alloc (.cells #[.int .i64 (ci : Int), .int .i64 (ck : Int)] 34) := ⟨_, rfl⟩
                have Ba : Below w9.heap.size w9 wa := by rw [hwa]; exact (Below.refl _ _).alloc (Nat.le_refl _) _
                have SA : Hid (S11 X1 X2 A ci ck N Z C H D T wa.drew) :=
                  S11.up (X := wa) ⟨cell_up Ba v0, cell_up Ba v1, by rw [hwa, hX2, World.cell?_alloc_new]; rfl, by rw [hwa, hX2, World.cell?_alloc_new]; rfl, cell_up Ba s0, cell_up Ba s1, cell_up Ba s2, cell_up Ba s3, cell_up Ba s4, cell_up Ba s5, cell_up Ba s6⟩ (Below.refl _ _).drew
                have Ha : Hid (OwnK wa.drew o9 (3, 0) 2 (.slice a n c) n (hsc hs)) := (H9.out.below Ba).below (Below.refl _ _).drew
                have Ia : Hid (IsSlab wa.drew o9 1 S (s.alloc d).2) := IsSlab.below (IsSlab.below I9'.out Ba) (Below.refl _ _).drew
                have Ra : Hid (RSlab wa.drew o9 2 R (s.alloc d).2) := RSlab.below (RSlab.below HI9.out Ba) (Below.refl _ _).drew
                have Ga : Hid (Fr T123 o0 o9 w wa.drew) := (G9.out.trans (Fr.ofBelow T123 o9 Ba)).trans (Fr.ofBelow T123 o9 (Below.refl _ _).drew)
                rw [← hwa, ← hX2]
                clear hwa hX2 Ba HI9 HF9 v0 v1 s0 s1 s2 s3 s4 s5 s6 H9 I9' G9
                have S0 := SA.out
                unfold S11 at S0
                have e1 : ((ec : Int) != (ec : Int)) = false := by simp
                go_region_held3 (fun X => X.cell? ⟨X1, 0, none⟩ = some (.int .i64 (ci : Int)) ∧ X.cell? ⟨X1, 1, none⟩ = some (.int .i64 (ck : Int)) ∧ X.cell? ⟨X2, 0, none⟩ = some (.int .i64 (ci : Int)) ∧ X.cell? ⟨X2, 1, none⟩ = some (.int .i64 (ck : Int)) ∧ X.cell? ⟨A, 0, none⟩ = some (.int .i64 1) ∧ X.cell? ⟨A, 1, none⟩ = some (.int .i64 N) ∧ X.cell? ⟨A, 2, none⟩ = some (.int .i64 Z) ∧ X.cell? ⟨A, 3, none⟩ = some (.string D) ∧ X.cell? ⟨A, 4, none⟩ = some (.int .i64 C) ∧ X.cell? ⟨A, 5, none⟩ = some (.int .i64 H) ∧ X.cell? ⟨A, 6, none⟩ = some (.bool T)) (first | with_reducible exact S0 | with_reducible exact S1 | with_reducible exact S2 | with_reducible exact S3 | with_reducible exact S4 | exact S0 | exact S1 | exact S2 | exact S3 | exact S4)
                  (first
                    | (go_at_call 17; refine (data_any 1 N Z C H D T wa.drew).mono ?_; rintro e wb ⟨rfl, Bb⟩; rw [HD.out]; have SB : Hid (S11 X1 X2 A ci ck N Z C H D T wb) := SA.out.up Bb; have HBb : Hid (Below wa.drew.heap.size wa.drew wb) := Bb; have S1 := SB.out; unfold S11 at S1; clear Bb)
                    | (go_at_call 19; refine (class_any 1 S (s.alloc d).2 d.size wb o9 (IsSlab.below Ia.out HBb.out)).mono ?_; rintro e wd ⟨r1, rfl, cl1, Bd⟩; have CL1 : Hid (ClsIs (s.alloc d).2 d.size r1) := cl1; have SD : Hid (S11 X1 X2 A ci ck N Z C H D T wd) := SB.out.up Bd; have HBd : Hid (Below wa.drew.heap.size wa.drew wd) := HBb.out.trans (Bd.mono HBb.out.size); have S2 := SD.out; unfold S11 at S2; clear Bd cl1)
                    | (go_at_call 17; refine (data_any 1 N Z C H D T wd).mono ?_; rintro e wf ⟨rfl, Bf⟩; rw [HD.out]; have SF : Hid (S11 X1 X2 A ci ck N Z C H D T wf) := SD.out.up Bf; have HBf : Hid (Below wa.drew.heap.size wa.drew wf) := HBd.out.trans (Bf.mono HBd.out.size); have S3 := SF.out; unfold S11 at S3; clear Bf)
                    | (go_at_call 20; refine (rclass_any 2 R (s.alloc d).2 d.size wf o9 (RSlab.below Ra.out HBf.out)).mono ?_; rintro e wg ⟨r2, rfl, cl2, Bg⟩; have hr := ClsIs.one cl2 CL1.out; subst hr; have SG : Hid (S11 X1 X2 A ci ck N Z C H D T wg) := SF.out.up Bg; have HBg : Hid (Below wa.drew.heap.size wa.drew wg) := HBf.out.trans (Bg.mono HBf.out.size); have S4 := SG.out; unfold S11 at S4; clear Bg cl2))
                have Hg : OwnK wg o9 (3, 0) 2 (.slice a n c) n (hsc hs) := Ha.out.below HBg.out
                have Ig := IsSlab.below Ia.out HBg.out
                have Rg := RSlab.below Ra.out HBg.out
                have Gg := Ga.out.trans (Fr.ofBelow T123 o9 HBg.out)
                obtain ⟨_, _, c0, c1, _⟩ := SG.out
                by_cases he : ec = 0
                · subst he
                  obtain ⟨vk, wk, ok, hrun, Ok', Fk⟩ := app_h Hg (ci, ck) (by omega)
                  obtain ⟨ax, cx, rfl, _⟩ := Ok'.form
                  dsimp only at hrun
                  have hw := HOK.out.wt_alloc d (fun _ => 1)
                  rw [St.wt_one, St.wt_one, HL.out, HAN.out] at hw
                  have TU : Hid (Tail2 w S R p i (.slice ax (n + 1) cx) (.int .i64 ((L : Int) + 1)) wk) :=
                    ⟨n + 1, L + 1, hs ++ [(ci, ck)], (s.alloc d).2, ok, ax, cx, rfl, by simp, by omega, by omega, by simpa using hw, (s.alloc_same d).2.1.trans HP.out, Ok', IsSlab.fr Ig Fk (fun _ e => by cases e), RSlab.fr Rg Fk (fun _ e => by cases e), Gg.trans (Fk.mono (fun t e => .inr (.inr (by rw [e]))))⟩
                  clear Hg Ig Rg Gg Ok' Fk hw Ha Ia Ra Ga SA SB SD SF SG HBb HBd HBf HBg S0 S1 S2 S3 S4 CL1
                  go_wp2_with (at_builtin; refine wpList_append_run rfl (.tmp 126) (.tmp 128) 43 43 rfl _ _ _ rfl rfl hrun ?_)
                  go_meet
                  exact TU.out
                · have hbad := s.alloc_bad d (by rw [HAN.out]; exact he)
                  rw [hbad.1] at Ig Rg
                  have xb : ((ec : Int) == 0) = false := beq_eq_false_iff_ne.2 (by omega)
                  have TU : Hid (Tail2 w S R p i (.slice a n c) (.int .i64 ((L : Nat) : Int)) wg) :=
                    ⟨n, L, hs, s, o9, a, c, rfl, rfl, by omega, by omega, HL.out, HP.out, Hg, Ig, Rg, Gg⟩
                  clear Hg Ig Rg Gg hbad Ha Ia Ra Ga SA SB SD SF SG HBb HBd HBf HBg S0 S1 S2 S3 S4 CL1
                  go_wp2_with fail
                  go_meet
                  exact TU.out
              · have q1 : (K == 1) = false := beq_eq_false_iff_ne.2 hk1
                by_cases hk2 : K = 2
                · subst hk2
                  go_wp2_with fail
                  refine (rfree_any 2 R (by decide) s hc hk _ oo MR.out).mono ?_
                  rintro e w5 ⟨rfl, o5, R5, F5⟩
                  have AB5 : AB A B 2 N Z C H D T hc hk w5 := HAB.out.fr F5 (by rw [MA.out]; decide) (by rw [MB.out]; decide)
                  have HI5 : Hid (IsSlab w5 o5 1 S s) := IsSlab.fr MI.out F5 (fun _ e => by cases e)
                  have HR5 : Hid (RSlab w5 o5 2 R (s.free hc hk)) := R5
                  have HF5 : Hid (Fr (fun t => t.1 = 2) oo o5 wc w5) := F5
                  obtain ⟨yy0, yy1, _⟩ := AB5
                  have hw := MI.out.ok.wt_free hc hk (fun _ => 1)
                  rw [St.wt_one, St.wt_one, HL.out] at hw
                  obtain ⟨bh, hbh⟩ : ∃ bh, bh = s.has hc hk := ⟨_, rfl⟩
                  rw [← hbh] at hw ⊢
                  have HBH : Hid (bh = s.has hc hk) := hbh
                  clear R5 F5 hbh
                  go_wp2_with fail
                  refine (free_any 1 S (by decide) s hc hk _ o5 HI5.out).mono ?_
                  rintro e w6 ⟨rfl, o6, I6, F6⟩
                  rw [← HBH.out]
                  have TT : Hid (∀ L', (s.free hc hk).live = L' → L' ≤ i + 1 → Tail2 w S R p i (.slice a n c) (.int .i64 ((L' : Nat) : Int)) w6) := fun L' hL' hi' =>
                    ⟨n, L', hs, s.free hc hk, o6, a, c, rfl, rfl, by omega, hi', hL', (s.free_same _ _).2.1.trans HP.out, (MH.out.fr HF5.out (fun e => by cases e)).fr F6 (fun e => by cases e), I6, RSlab.fr HR5.out F6 (fun _ e => by cases e), (MF.out.trans (HF5.out.mono (fun t e => .inr (.inl e)))).trans (F6.mono (fun t e => .inl e))⟩
                  clear I6 F6 HI5 HR5 HF5
                  cases bh
                  · have TU : Hid (Tail2 w S R p i (.slice a n c) (.int .i64 ((L : Nat) : Int)) w6) := TT.out L (by simpa using hw) (by omega)
                    clear TT hw
                    go_wp2_with fail
                    go_meet
                    exact TU.out
                  · have hw' : (s.free hc hk).live + 1 = L := by simpa using hw
                    have TU : Hid (Tail2 w S R p i (.slice a n c) (.int .i64 ((L : Int) - 1)) w6) := by
                      have := TT.out (L - 1) (by omega) (by omega)
                      rw [show (((L - 1 : Nat)) : Int) = (L : Int) - 1 by omega] at this
                      exact this
                    have wl : IntKind.i64.wrap ((L : Int) - 1) = (L : Int) - 1 := by rw [IntKind.wrap_i64]; omega
                    clear TT hw hw'
                    go_wp2_with fail
                    go_meet
                    exact TU.out
                · have q2 : (K == 2) = false := beq_eq_false_iff_ne.2 hk2
                  by_cases hk3 : K = 3
                  · subst hk3
                    go_wp2_with fail
                    refine (read_any 1 S s hc hk _ oo MI.out).mono ?_
                    rintro e w5 ⟨rfl, B5⟩
                    have HR5 : Hid (RSlab w5 oo 2 R s) := RSlab.below MR.out B5
                    have yy0 := cell_up B5 y0
                    have yy1 := cell_up B5 y1
                    have HB5 : Hid (Below wc.heap.size wc w5) := B5
                    obtain ⟨bh, hbh⟩ : ∃ bh, bh = s.has hc hk := ⟨_, rfl⟩
                    obtain ⟨rh, hrh⟩ : ∃ rh, rh = s.rd hc hk := ⟨_, rfl⟩
                    have HBH : Hid (bh = s.has hc hk) := hbh
                    have HRH : Hid (rh = s.rd hc hk) := hrh
                    rw [← hbh, ← hrh]
                    clear B5 hbh hrh
                    go_wp2_with fail
                    refine (rread_any 2 R s hc hk _ oo HR5.out).mono ?_
                    rintro e w6 ⟨rfl, B6⟩
                    rw [← HBH.out, ← HRH.out]
                    have B56 : Below wc.heap.size wc w6 := HB5.out.trans (B6.mono HB5.out.size)
                    have TU : Hid (Tail2 w S R p i (.slice a n c) (.int .i64 ((L : Nat) : Int)) w6) :=
                      ⟨n, L, hs, s, oo, a, c, rfl, rfl, by omega, by omega, HL.out, HP.out, MH.out.below B56, IsSlab.below MI.out B56, RSlab.below MR.out B56, MF.out.trans (Fr.ofBelow T123 oo B56)⟩
                    clear B6 B56 HB5 HR5
                    go_wp2_with fail
                    go_meet
                    exact TU.out
                  · have q3 : (K == 3) = false := beq_eq_false_iff_ne.2 hk3
                    go_wp2_with fail
                    go_meet
                    exact ⟨n, L, hs, s, oo, a, c, rfl, rfl, by omega, by omega, HL.out, HP.out, MH.out, MI.out, MR.out, MF.out⟩
            case rest =>
              obtain ⟨nn, L2, HS, ss, o7, av, cv, rfl, rfl, hnn, hL2, tl, tp, toh, ti, tr, tf⟩ := hcut
              have TL : Hid (ss.live = L2) := tl
              have TP : Hid (ss.pages = p) := tp
              have TH : Hid (OwnK wc o7 (3, 0) 2 (.slice av nn cv) nn (hsc HS)) := toh
              have TI : Hid (IsSlab wc o7 1 S ss) := ti
              have TR : Hid (RSlab wc o7 2 R ss) := tr
              have TF : Hid (Fr T123 o0 o7 w wc) := tf
              clear tl tp toh ti tr tf MA MB MH MI MR MF HAB y0 y1 x0 x1 x2 x3 x4 x5 x6 HL HP
              go_wp2_with fail
              refine (pages_any 1 S ss _ o7 TI.out).mono ?_
              rintro e w8 ⟨rfl, B8⟩
              have TI8 : Hid (IsSlab w8 o7 1 S ss) := IsSlab.below TI.out B8
              have TR8 := RSlab.below TR.out B8
              have c1 := TR8.c1
              have hl1 : ss.left ≤ p := by have := TI.out.ok.l1; rw [TP.out] at this; exact this
              rw [TP.out]
              obtain ⟨lf, hlf⟩ : ∃ lf, lf = ss.left := ⟨_, rfl⟩
              rw [← hlf] at c1 hl1 ⊢
              obtain ⟨us, hus⟩ : ∃ us, us = p - lf := ⟨_, rfl⟩
              rw [← hus]
              have q4 : IntKind.i64.wrap ((p : Int) - (lf : Int)) = (us : Int) := by rw [IntKind.wrap_i64]; omega
              have q4' : (p : Int) - (lf : Int) = (us : Int) := by omega
              have q5 : ((lf : Int) != (lf : Int)) = false := by simp
              have q6 : ((us : Int) != (us : Int)) = false := by simp
              have TB8 : Hid (Below wc.heap.size wc w8) := B8
              clear hlf hus B8 TR8
              go_wp2_with fail
              refine (live_any 1 S ss _ o7 TI8.out).mono ?_
              rintro e w9 ⟨rfl, B9⟩
              rw [TL.out]
              have TB9 : Below wc.heap.size wc w9 := TB8.out.trans (B9.mono TB8.out.size)
              have q7 : ((L2 : Int) != (L2 : Int)) = false := by simp
              have TH9 : Hid (OwnK w9 o7 (3, 0) 2 (.slice av nn cv) nn (hsc HS)) := TH.out.below TB9
              have TI9 : Hid (IsSlab w9 o7 1 S ss) := IsSlab.below TI.out TB9
              have TR9 : Hid (RSlab w9 o7 2 R ss) := RSlab.below TR.out TB9
              have TF9 : Hid (Fr T123 o0 o7 w w9) := TF.out.trans (Fr.ofBelow T123 o7 TB9)
              clear B9 TB8 TB9 TI8
              go_wp2_with fail
              exact ⟨⟨i + 1, nn, L2, HS, ss, o7, av, cv, rfl, rfl, by go_num, by omega, by omega, by omega, by omega, TL, TP, TH9, TI9, TR9, TF9⟩, by simp [intOf]; omega⟩
      · have hcase : (¬ i < ln) ∨ (i < ln ∧ ¬ i < 60) := by omega
        rcases hcase with g | ⟨g, g'⟩
        case' inl =>
          have k1 : decide ((i : Int) < (ln : Int)) = false := by simp; omega
        case' inr =>
          have k1 : (i : Int) < (ln : Int) := by omega
          have k2 : decide ((i : Int) < (60 : Int)) = false := by simp; omega
        all_goals
          clear hlt
          go_wp2_with fail
          refine (runs_any _).mono ?_
          rintro e w4 ⟨rfl, B4⟩
          have HB4 : Hid (Below w.heap.size w w4) := (o0_T123 w HF.out).trans (B4.mono HF.out.size)
          clear B4
          go_wp2_with fail
          go_ret
          exact ⟨rfl, HB4.out⟩
  · go_enter Try.func4, Try.ntmps4
    go_wp2_with fail
    refine (new_no pages page hright _).mono ?_
    rintro e w1 ⟨rfl, rfl⟩
    go_wp2_with fail
    refine (rnew_no pages page hright _).mono ?_
    rintro e w1 ⟨rfl, rfl⟩
    go_wp2_with fail
    go_loopw [13] (fun iv wr => iv = .int .i64 0 ∧ w = wr) (fun _ _ => 0)
    case atStart => exact ⟨rfl, rfl⟩
    case round =>
      obtain ⟨rfl, rfl⟩ := hrel
      by_cases hz : 0 < ln
      case' pos =>
        have k1 : decide ((0 : Int) < (ln : Int)) = true := by simp; omega
      case' neg =>
        have k1 : decide ((0 : Int) < (ln : Int)) = false := by simp; omega
      all_goals
        go_wp2_with fail
        refine (runs_any _).mono ?_
        rintro e w4 ⟨rfl, B4⟩
        have HB4 : Hid (Below w.heap.size w w4) := B4
        clear B4
        go_wp2_with fail
        go_ret
        exact ⟨rfl, HB4.out⟩
end Go.Proofs.Ytjokabpdaihgpaa
