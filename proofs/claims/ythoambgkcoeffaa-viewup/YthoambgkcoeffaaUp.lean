/-
  VIEWUP walked.
-/
import Derived.Test.YthoambgkcoeffaaFw
namespace Go.Proofs.Ythoambgkcoeffaa
open Go.RowKit

def upd (g : Nat → Bool) (j : Nat) (b : Bool) : Nat → Bool := fun i => if i = j then b else g i
/-- A law's memory: the view, two rows of twelve bools. -/
structure Al (w0 W : World) (o : Nat → Nat × Nat) (X : Nat) (l : Vs) (B C : Nat) (g h : Nat → Bool) : Prop where
  L : Lv w0 W o X l
  oB : o B = (8, 1)
  oC : o C = (8, 2)
  cB : ∀ j, j < 12 → W.cell? ⟨B, j, none⟩ = some (.bool (g j)) ∧ W.frozen? ⟨B, j, none⟩ = false
  cC : ∀ j, j < 12 → W.cell? ⟨C, j, none⟩ = some (.bool (h j)) ∧ W.frozen? ⟨C, j, none⟩ = false
theorem Al.fr {w0 W W' : World} {o : Nat → Nat × Nat} {X : Nat} {l l' : Vs} {B C : Nat} {g h : Nat → Bool} {T : Nat × Nat → Prop} (a : Al w0 W o X l B C g h) (L : Lv w0 W' o X l') (f : Fr T o o W W') (h1 : ¬ T (8, 1)) (h2 : ¬ T (8, 2)) : Al w0 W' o X l' B C g h :=
  ⟨L, a.oB, a.oC, fun j hj => ⟨f.cell (a.cB j hj).1 (by rw [a.oB]; exact h1), (f.frozen (World.block_lt_of_cell? _ _ (a.cB j hj).1) (by rw [a.oB]; exact h1)).trans (a.cB j hj).2⟩,
    fun j hj => ⟨f.cell (a.cC j hj).1 (by rw [a.oC]; exact h2), (f.frozen (World.block_lt_of_cell? _ _ (a.cC j hj).1) (by rw [a.oC]; exact h2)).trans (a.cC j hj).2⟩⟩
theorem Lv.set8 {w0 W : World} {o : Nat → Nat × Nat} {X : Nat} {l : Vs} (L : Lv w0 W o X l) {B : Nat} {k : Nat} (oB : o B = (8, k)) (j : Nat) (v : Value) : Lv w0 (W.setCell ⟨B, j, none⟩ v) o X l ∧ Fr (· = (8, k)) o o W (W.setCell ⟨B, j, none⟩ v) := by
  have f : Fr (· = (8, k)) o o W (W.setCell ⟨B, j, none⟩ v) := Fr.set (a := ⟨B, j, none⟩) oB v
  exact ⟨⟨L.I.fr f (fun e => by cases e) (fun e => by cases e), L.G.trans (f.mono (fun t e => by rw [e]; intro h; cases h))⟩, f⟩
theorem Al.setB {w0 W : World} {o : Nat → Nat × Nat} {X : Nat} {l : Vs} {B C : Nat} {g h : Nat → Bool} (a : Al w0 W o X l B C g h) (j : Nat) (hj : j < 12) (b : Bool) : Al w0 (W.setCell ⟨B, j, none⟩ (.bool b)) o X l B C (upd g j b) h := by
  obtain ⟨L, f⟩ := a.L.set8 a.oB j (.bool b)
  refine ⟨L, a.oB, a.oC, fun i hi => ⟨?_, by rw [World.frozen?_setCell]; exact (a.cB i hi).2⟩, fun i hi => ⟨f.cell (a.cC i hi).1 (by rw [a.oC]; intro e; cases e), by rw [World.frozen?_setCell]; exact (a.cC i hi).2⟩⟩
  unfold upd
  by_cases e : i = j
  · rw [if_pos e, e]; exact World.cell?_setCell_same _ _ _ (a.cB j hj).1
  · rw [if_neg e]; exact (World.cell?_setCell_other _ _ _ _ (fun x => by injection x with _ x; exact e x.symm)).trans (a.cB i hi).1
theorem Al.setC {w0 W : World} {o : Nat → Nat × Nat} {X : Nat} {l : Vs} {B C : Nat} {g h : Nat → Bool} (a : Al w0 W o X l B C g h) (j : Nat) (hj : j < 12) (b : Bool) : Al w0 (W.setCell ⟨C, j, none⟩ (.bool b)) o X l B C g (upd h j b) := by
  obtain ⟨L, f⟩ := a.L.set8 a.oC j (.bool b)
  refine ⟨L, a.oB, a.oC, fun i hi => ⟨f.cell (a.cB i hi).1 (by rw [a.oB]; intro e; cases e), by rw [World.frozen?_setCell]; exact (a.cB i hi).2⟩, fun i hi => ⟨?_, by rw [World.frozen?_setCell]; exact (a.cC i hi).2⟩⟩
  unfold upd
  by_cases e : i = j
  · rw [if_pos e, e]; exact World.cell?_setCell_same _ _ _ (a.cC j hj).1
  · rw [if_neg e]; exact (World.cell?_setCell_other _ _ _ _ (fun x => by injection x with _ x; exact e x.symm)).trans (a.cC i hi).1
/-- What is begun, and filled. -/
def bgf (l : Vs) : Nat → Bool := fun j => decide ((l.getD j (0, 0)).1 ≠ 0)
def flf (l : Vs) : Nat → Bool := fun j => decide ((l.getD j (0, 0)).1 = 2)
theorem getD_set (l : Vs) (s : Nat) (h : s < l.length) (q : Int × Int) (i : Nat) : (l.set s q).getD i (0, 0) = if i = s then q else l.getD i (0, 0) := by
  rw [List.getD_eq_getElem?_getD, List.getD_eq_getElem?_getD, List.getElem?_set]
  by_cases e : s = i
  · subst e; rw [if_pos rfl, if_pos h, if_pos rfl]; rfl
  · rw [if_neg e, if_neg (fun x => e x.symm)]
theorem bgf_set (l : Vs) (s : Nat) (h : s < l.length) (q : Int × Int) : bgf (l.set s q) = upd (bgf l) s (decide (q.1 ≠ 0)) := by
  funext i; unfold bgf upd; rw [getD_set l s h]; split <;> rfl
theorem flf_set (l : Vs) (s : Nat) (h : s < l.length) (q : Int × Int) : flf (l.set s q) = upd (flf l) s (decide (q.1 = 2)) := by
  funext i; unfold flf upd; rw [getD_set l s h]; split <;> rfl
theorem upd_upd (g : Nat → Bool) (s : Nat) (a b : Bool) : upd (upd g s a) s b = upd g s b := by
  funext i; unfold upd; split <;> rfl
theorem upd_self (g : Nat → Bool) (s : Nat) : upd g s (g s) = g := by
  funext i; unfold upd; split
  · next e => rw [e]
  · rfl
theorem al_next {w0 W : World} {o : Nat → Nat × Nat} {X : Nat} {l l' : Vs} {B C : Nat} {g h : Nat → Bool} {k : Int} {b : Bool} (a : Al w0 W o X l B C g h) (i e : Int) (hk : l.ok k) (hk0 : 0 ≤ k) (hk1 : k ≤ 1000) (hn : l.nxt i e = (b, l')) :
    Calls Try.prog 8 #[.pointer (some ⟨X, 0, none⟩), .int .i64 i, .int .i64 e] W fun x w' => x = .returned (.bool b) ∧ Al w0 w' o X l' B C g h :=
  (next_any X l i e k W o a.L.I hk hk0 hk1).mono (by
    rintro x w' ⟨rfl, I, f⟩
    rw [hn] at I ⊢
    exact ⟨rfl, a.fr ⟨I, a.L.G.trans (f.mono (fun t e => by rw [e]; intro h; cases h))⟩ f (fun e => by cases e) (fun e => by cases e)⟩)
theorem stp_cases (s c e : Int) : (e = 1 ∧ stp (s, c) e = some (0, c + 1)) ∨ (e = 2 ∧ s = 0 ∧ stp (s, c) e = some (1, c)) ∨ (e = 3 ∧ s = 1 ∧ stp (s, c) e = some (2, c)) ∨ stp (s, c) e = none := by
  unfold stp
  by_cases e1 : e = 1
  · exact .inl ⟨e1, if_pos e1⟩
  by_cases e2 : e = 2
  · by_cases h : s = 0 ∧ c ≠ 0
    · exact .inr (.inl ⟨e2, h.1, by rw [if_neg e1, if_pos e2, if_pos h]⟩)
    · exact .inr (.inr (.inr (by rw [if_neg e1, if_pos e2, if_neg h])))
  by_cases e3 : e = 3
  · by_cases h : s = 1
    · exact .inr (.inr (.inl ⟨e3, h, by rw [if_neg e1, if_neg e2, if_pos e3, if_pos h]⟩))
    · exact .inr (.inr (.inr (by rw [if_neg e1, if_neg e2, if_pos e3, if_neg h])))
  · exact .inr (.inr (.inr (by rw [if_neg e1, if_neg e2, if_neg e3])))
/-- Twelve bools. -/
def no12 : Array Value := #[.bool false, .bool false, .bool false, .bool false, .bool false, .bool false, .bool false, .bool false, .bool false, .bool false, .bool false, .bool false]
theorem no12_at (j : Nat) (hj : j < 12) : no12[j]? = some (.bool false) := by
  have : j = 0 ∨ j = 1 ∨ j = 2 ∨ j = 3 ∨ j = 4 ∨ j = 5 ∨ j = 6 ∨ j = 7 ∨ j = 8 ∨ j = 9 ∨ j = 10 ∨ j = 11 := by omega
  rcases this with rfl | rfl | rfl | rfl | rfl | rfl | rfl | rfl | rfl | rfl | rfl | rfl <;> rfl
theorem al_new {w0 W : World} {o : Nat → Nat × Nat} {X k : Nat} (L : Lv w0 W o X (nw k)) : ∃ o', Al w0 ((W.alloc (.cells no12 39)).alloc (.cells no12 39)) o' X (nw k) W.heap.size (W.heap.size + 1) (bgf (nw k)) (flf (nw k)) := by
  have f1 : Fr (fun _ => False) o (lab o W.heap.size (8, 1)) W (W.alloc (.cells no12 39)) := Fr.new _ o W _ _
  have f2 : Fr (fun _ => False) (lab o W.heap.size (8, 1)) (lab (lab o W.heap.size (8, 1)) (W.alloc (.cells no12 39)).heap.size (8, 2)) (W.alloc (.cells no12 39)) ((W.alloc (.cells no12 39)).alloc (.cells no12 39)) := Fr.new _ _ _ _ _
  have s1 : (W.alloc (.cells no12 39)).heap.size = W.heap.size + 1 := by simp
  have hf : ∀ j, bgf (nw k) j = false ∧ flf (nw k) j = false := fun j => by unfold bgf flf; rw [nw_at]; exact ⟨rfl, rfl⟩
  refine ⟨_, ⟨L.I.fr (f1.trans f2) id id, L.G.trans ((f1.trans f2).mono (fun _ e => e.elim))⟩, ?_, ?_, fun j hj => ⟨?_, ?_⟩, fun j hj => ⟨?_, ?_⟩⟩
  · rw [lab_other _ _ _ (by rw [s1]; omega)]; exact lab_same _ _ _
  · rw [← s1]; exact lab_same _ _ _
  · rw [(hf j).1]; exact f2.cell (by rw [World.cell?_alloc_new]; exact no12_at j hj) id
  · exact (f2.frozen (by rw [s1]; omega) id).trans (World.frozen?_alloc_new _ _ _ _)
  · rw [(hf j).2, ← s1, World.cell?_alloc_new]; exact no12_at j hj
  · rw [← s1]; exact World.frozen?_alloc_new _ _ _ _
set_option maxRecDepth 100000 in
set_option maxHeartbeats 2000000 in
theorem up_walk (n : Int) (a1 : Option Addr) (len1 cap1 : Nat) (z1 : Nat → Int) (a2 : Option Addr) (len2 cap2 : Nat) (z2 : Nat → Int) (w : World) (_ : len1 ≤ 9223372036854775807) (_ : len2 ≤ 9223372036854775807) (s1 : IntsF w a1 z1 len1) (s2 : IntsF w a2 z2 len2) :
    Calls Try.prog 5 #[.int .i64 n, .slice a1 len1 cap1, .slice a2 len2 cap2] w fun e w' => e = .returned (.bool true) ∧ Below w.heap.size w w' := by
  have hb := wi_bd n 1 12 (by omega)
  obtain ⟨k, hk⟩ : ∃ k : Nat, wi n 1 12 = (k : Int) := ⟨(wi n 1 12).toNat, by omega⟩
  rw [hk] at hb
  have HA := hid s1
  have HB := hid s2
  have HK := hid hk
  clear s1 s2 hk
  go_enter Try.func5, Try.ntmps5
  go_wp2_with fail
  refine (within_any n 1 12 (by omega) (by omega) (by omega) _).mono ?_
  rintro e w3 ⟨rfl, rfl⟩
  rw [HK.out]
  go_wp2_with fail
  refine (lv_new k (by omega) (by omega) _ rfl _).mono ?_
  rintro e w3 ⟨X, o', rfl, L0⟩
  obtain ⟨o, A0⟩ := al_new L0
  have H0 := hid A0
  obtain ⟨W0, hW0⟩ : ∃ W0, W0 = ((w3.alloc (.cells no12 39)).alloc (.cells no12 39)) := ⟨_, rfl⟩
  obtain ⟨B, hB⟩ : ∃ B, B = w3.heap.size := ⟨_, rfl⟩
  obtain ⟨C, hC⟩ : ∃ C, C = w3.heap.size + 1 := ⟨_, rfl⟩
  rw [← hW0, ← hC, ← hB] at H0
  have HW := hid hW0
  have HBB := hid hB
  have HCC := hid hC
  clear L0 A0 hW0 hB hC
  go_wp2_with fail
  have e1 : ((w3.alloc (.cells no12 39)).alloc (.cells no12 39)) = W0 := HW.out.symm
  have e2 : w3.heap.size = B := HBB.out.symm
  have e3 : w3.heap.size + 1 = C := HCC.out.symm
  unfold no12 at e1
  rw [e1, e3, e2]
  clear e1 e2 e3 HW HBB HCC
  go_loopw [12] (fun i wr => ∃ j : Nat, j ≤ 80 ∧ i = .int .i64 (j : Int) ∧ Hid (∃ l : Vs, l.ok (j : Int) ∧ l.length = k ∧ Al w wr o X l B C (bgf l) (flf l))) (fun i _ => 80 - (intOf i).toNat)
  case atStart => exact ⟨0, by omega, rfl, nw k, nw_ok k, nw_len k, H0.out⟩
  case round =>
    clear H0
    obtain ⟨j, hj, rfl, HL⟩ := hrel
    obtain ⟨l, hok, hlen, A⟩ := HL.out
    have HR := hid A.L.fin
    clear HL
    by_cases hin : j < len1 ∧ j < len2 ∧ j < 80
    · obtain ⟨h1, h2, h3⟩ := hin
      have c1 : (j : Int) < (len1 : Int) := by omega
      have c2 : (j : Int) < (len2 : Int) := by omega
      have c3 : (j : Int) < 80 := by omega
      have c3' : decide ((j : Int) < 80) = true := decide_eq_true c3
      obtain ⟨p1, f1, rfl, d1⟩ := HA.out.at HR.out h1
      obtain ⟨p2, f2, rfl, d2⟩ := HB.out.at HR.out h2
      obtain ⟨x, hx⟩ : ∃ s, s = z1 j := ⟨_, rfl⟩
      obtain ⟨e, he⟩ : ∃ e, e = z2 j := ⟨_, rfl⟩
      rw [← hx] at d1
      have wb := wi_bd x 0 ((k : Int) - 1) (by omega)
      obtain ⟨s, hs⟩ : ∃ s : Nat, wi x 0 ((k : Int) - 1) = (s : Int) := ⟨(wi x 0 ((k : Int) - 1)).toNat, by omega⟩
      rw [hs] at wb
      have hsl : s < l.length := by omega
      have hs12 : s < 12 := by omega
      have HE : Hid (∀ w4 l' g h, Al w w4 o X l' B C g h → w4.cell? ⟨p2, f2 + j, none⟩ = some (.int .i64 e)) := fun w4 l' g h L => (HB.out.mem L.L.fin h2).trans (by rw [he])
      have HW := hid (fun w => within_any x 0 ((k : Int) - 1) (by omega) (by omega) (by omega) w)
      rw [hs] at HW
      obtain ⟨⟨st, c⟩, hp⟩ : ∃ p, p = l.getD s (0, 0) := ⟨_, rfl⟩
      have hz := hok.getD (by omega) s
      rw [← hp] at hz
      have HI := hid (lv_inc A.L (s : Int) c (by rw [at_in l hsl, ← hp]))
      have HAL := hid A
      clear hx hs h1 h2 A d2 he
      go_wp2_with fail
      refine (HW.out _).mono ?_
      rintro e9 w9 ⟨rfl, rfl⟩
      clear HW d1
      go_wp2_with fail
      refine HI.out.mono ?_
      rintro e9 w9 ⟨rfl, rfl⟩
      have d2 := HE.out _ _ _ _ HAL.out
      clear HI
      go_wp2_with fail
      rcases stp_cases st c e with ⟨rfl, hq⟩ | ⟨rfl, rfl, hq⟩ | ⟨rfl, rfl, hq⟩ | hq
      · have hok2 := Vs.nxt_ok hok (by omega) (s : Int) 1
        rw [(Vs.yes hsl (by rw [← hp]; exact hq))] at hok2
        refine (al_next HAL.out (s : Int) _ (b := true) (l' := l.set s (0, c + 1)) hok (by omega) (by omega) (Vs.yes hsl (by rw [← hp]; exact hq))).mono ?_
        rintro e9 w4 ⟨rfl, A0⟩
        have x0 := HE.out _ _ _ _ A0
        obtain ⟨⟨y0, v0⟩, ⟨t0, u0⟩⟩ := And.intro (A0.cB s hs12) (A0.cC s hs12)
        have A1 := A0.setB s hs12 false
        have x1 := HE.out _ _ _ _ A1
        obtain ⟨⟨y1, v1⟩, ⟨t1, u1⟩⟩ := And.intro (A1.cB s hs12) (A1.cC s hs12)
        have A2 := A1.setC s hs12 false
        have x2 := HE.out _ _ _ _ A2
        obtain ⟨⟨y2, v2⟩, ⟨t2, u2⟩⟩ := And.intro (A2.cB s hs12) (A2.cC s hs12)
        have A3 := A2.setB s hs12 false
        have x3 := HE.out _ _ _ _ A3
        obtain ⟨⟨y3, v3⟩, ⟨t3, u3⟩⟩ := And.intro (A3.cB s hs12) (A3.cC s hs12)
        have A4 := A3.setC s hs12 false
        have x4 := HE.out _ _ _ _ A4
        obtain ⟨⟨y4, v4⟩, ⟨t4, u4⟩⟩ := And.intro (A4.cB s hs12) (A4.cC s hs12)
        simp only [upd, if_true] at y1 t1 y2 t2 y3 t3 y4 t4
        have HF := hid A4
        have HS := hid (lv_state A4.L (s : Int) 0 (by rw [at_in _ (by rw [List.length_set]; exact hsl), getD_set l s hsl, if_pos rfl]))
        have HI := hid (lv_inc A4.L (s : Int) (c + 1) (by rw [at_in _ (by rw [List.length_set]; exact hsl), getD_set l s hsl, if_pos rfl]))
        have HQ : Hid (Al w (((((w4).setCell ⟨B, s, none⟩ (.bool false)).setCell ⟨C, s, none⟩ (.bool false)).setCell ⟨B, s, none⟩ (.bool false)).setCell ⟨C, s, none⟩ (.bool false)) o X (l.set s (0, c + 1)) B C (upd (bgf l) s (decide ((0 : Int) ≠ 0))) (upd (flf l) s (decide ((0 : Int) = 2)))) := by
          have := HF.out
          rw [upd_upd, upd_upd] at this
          exact this
        clear HF
        have l1 : decide (c + 1 < c) = false := by simp; omega
        have l2 : decide (c < c + 1) = true := by simp; omega
        clear HAL HR A0 A1 A2 A3 A4
        go_wp2_with fail
        refine HS.out.mono ?_
        rintro e9 w9 ⟨rfl, rfl⟩
        go_wp2_with fail
        refine HI.out.mono ?_
        rintro e9 w9 ⟨rfl, rfl⟩
        go_wp2_with fail
        refine HI.out.mono ?_
        rintro e9 w9 ⟨rfl, rfl⟩
        go_wp2_with fail
        exact ⟨⟨j + 1, by omega, by go_num, ⟨l.set s (0, c + 1), by simpa using hok2, by rw [List.length_set]; exact hlen, by rw [bgf_set l s hsl, flf_set l s hsl]; exact HQ.out⟩⟩, by simp [intOf]; omega⟩
      · have hok2 := Vs.nxt_ok hok (by omega) (s : Int) 2
        rw [(Vs.yes hsl (by rw [← hp]; exact hq))] at hok2
        refine (al_next HAL.out (s : Int) _ (b := true) (l' := l.set s (1, c)) hok (by omega) (by omega) (Vs.yes hsl (by rw [← hp]; exact hq))).mono ?_
        rintro e9 w4 ⟨rfl, A0⟩
        have x0 := HE.out _ _ _ _ A0
        obtain ⟨⟨y0, v0⟩, ⟨t0, u0⟩⟩ := And.intro (A0.cB s hs12) (A0.cC s hs12)
        rw [(show bgf l s = false by unfold bgf; rw [← hp]; rfl)] at y0
        rw [(show flf l s = false by unfold flf; rw [← hp]; rfl)] at t0
        have A1 := A0.setB s hs12 true
        have x1 := HE.out _ _ _ _ A1
        obtain ⟨⟨y1, v1⟩, ⟨t1, u1⟩⟩ := And.intro (A1.cB s hs12) (A1.cC s hs12)
        have A2 := A1.setC s hs12 false
        have x2 := HE.out _ _ _ _ A2
        obtain ⟨⟨y2, v2⟩, ⟨t2, u2⟩⟩ := And.intro (A2.cB s hs12) (A2.cC s hs12)
        simp only [upd, if_true] at y1 t1 y2 t2
        rw [(show flf l s = false by unfold flf; rw [← hp]; rfl)] at t1
        have HF := hid A2
        have HS := hid (lv_state A2.L (s : Int) 1 (by rw [at_in _ (by rw [List.length_set]; exact hsl), getD_set l s hsl, if_pos rfl]))
        have HI := hid (lv_inc A2.L (s : Int) c (by rw [at_in _ (by rw [List.length_set]; exact hsl), getD_set l s hsl, if_pos rfl]))
        have HQ : Hid (Al w (((w4).setCell ⟨B, s, none⟩ (.bool true)).setCell ⟨C, s, none⟩ (.bool false)) o X (l.set s (1, c)) B C (upd (bgf l) s (decide ((1 : Int) ≠ 0))) (upd (flf l) s (decide ((1 : Int) = 2)))) := HF.out
        clear HF
        have l1 : decide (c < c) = false := by simp
        clear HAL HR A0 A1 A2
        go_wp2_with fail
        refine HS.out.mono ?_
        rintro e9 w9 ⟨rfl, rfl⟩
        go_wp2_with fail
        refine HI.out.mono ?_
        rintro e9 w9 ⟨rfl, rfl⟩
        go_wp2_with fail
        refine HI.out.mono ?_
        rintro e9 w9 ⟨rfl, rfl⟩
        go_wp2_with fail
        exact ⟨⟨j + 1, by omega, by go_num, ⟨l.set s (1, c), by simpa using hok2, by rw [List.length_set]; exact hlen, by rw [bgf_set l s hsl, flf_set l s hsl]; exact HQ.out⟩⟩, by simp [intOf]; omega⟩
      · have hok2 := Vs.nxt_ok hok (by omega) (s : Int) 3
        rw [(Vs.yes hsl (by rw [← hp]; exact hq))] at hok2
        refine (al_next HAL.out (s : Int) _ (b := true) (l' := l.set s (2, c)) hok (by omega) (by omega) (Vs.yes hsl (by rw [← hp]; exact hq))).mono ?_
        rintro e9 w4 ⟨rfl, A0⟩
        have x0 := HE.out _ _ _ _ A0
        obtain ⟨⟨y0, v0⟩, ⟨t0, u0⟩⟩ := And.intro (A0.cB s hs12) (A0.cC s hs12)
        rw [(show bgf l s = true by unfold bgf; rw [← hp]; rfl)] at y0
        rw [(show flf l s = false by unfold flf; rw [← hp]; rfl)] at t0
        have A1 := A0.setB s hs12 true
        have x1 := HE.out _ _ _ _ A1
        obtain ⟨⟨y1, v1⟩, ⟨t1, u1⟩⟩ := And.intro (A1.cB s hs12) (A1.cC s hs12)
        have A2 := A1.setC s hs12 true
        have x2 := HE.out _ _ _ _ A2
        obtain ⟨⟨y2, v2⟩, ⟨t2, u2⟩⟩ := And.intro (A2.cB s hs12) (A2.cC s hs12)
        simp only [upd, if_true] at y1 t1 y2 t2
        rw [(show flf l s = false by unfold flf; rw [← hp]; rfl)] at t1
        have HF := hid A2
        have HS := hid (lv_state A2.L (s : Int) 2 (by rw [at_in _ (by rw [List.length_set]; exact hsl), getD_set l s hsl, if_pos rfl]))
        have HI := hid (lv_inc A2.L (s : Int) c (by rw [at_in _ (by rw [List.length_set]; exact hsl), getD_set l s hsl, if_pos rfl]))
        have HQ : Hid (Al w (((w4).setCell ⟨B, s, none⟩ (.bool true)).setCell ⟨C, s, none⟩ (.bool true)) o X (l.set s (2, c)) B C (upd (bgf l) s (decide ((2 : Int) ≠ 0))) (upd (flf l) s (decide ((2 : Int) = 2)))) := HF.out
        clear HF
        have l1 : decide (c < c) = false := by simp
        clear HAL HR A0 A1 A2
        go_wp2_with fail
        refine HS.out.mono ?_
        rintro e9 w9 ⟨rfl, rfl⟩
        go_wp2_with fail
        refine HI.out.mono ?_
        rintro e9 w9 ⟨rfl, rfl⟩
        go_wp2_with fail
        refine HI.out.mono ?_
        rintro e9 w9 ⟨rfl, rfl⟩
        go_wp2_with fail
        exact ⟨⟨j + 1, by omega, by go_num, ⟨l.set s (2, c), by simpa using hok2, by rw [List.length_set]; exact hlen, by rw [bgf_set l s hsl, flf_set l s hsl]; exact HQ.out⟩⟩, by simp [intOf]; omega⟩
      · have hok2 := hok.mono (k' := (j : Int) + 1) (by omega)
        rcases hz.1 with hz0 | hz0 | hz0
        · replace hz0 : st = 0 := hz0
          subst hz0
          refine (al_next HAL.out (s : Int) _ (b := false) (l' := l) hok (by omega) (by omega) (Vs.no hsl (by rw [← hp]; exact hq))).mono ?_
          rintro e9 w4 ⟨rfl, A0⟩
          have x0 := HE.out _ _ _ _ A0
          obtain ⟨⟨y0, v0⟩, ⟨t0, u0⟩⟩ := And.intro (A0.cB s hs12) (A0.cC s hs12)
          rw [(show bgf l s = false by unfold bgf; rw [← hp]; rfl)] at y0
          rw [(show flf l s = false by unfold flf; rw [← hp]; rfl)] at t0
          have A1 := A0.setB s hs12 false
          have x1 := HE.out _ _ _ _ A1
          obtain ⟨⟨y1, v1⟩, ⟨t1, u1⟩⟩ := And.intro (A1.cB s hs12) (A1.cC s hs12)
          have A2 := A1.setC s hs12 false
          have x2 := HE.out _ _ _ _ A2
          obtain ⟨⟨y2, v2⟩, ⟨t2, u2⟩⟩ := And.intro (A2.cB s hs12) (A2.cC s hs12)
          simp only [upd, if_true] at y1 t1 y2 t2
          rw [(show flf l s = false by unfold flf; rw [← hp]; rfl)] at t1
          have HF := hid A2
          have HS := hid (lv_state A2.L (s : Int) 0 (by rw [at_in _ hsl, ← hp]))
          have HI := hid (lv_inc A2.L (s : Int) c (by rw [at_in _ hsl, ← hp]))
          have HQ : Hid (Al w (((w4).setCell ⟨B, s, none⟩ (.bool false)).setCell ⟨C, s, none⟩ (.bool false)) o X l B C (bgf l) (flf l)) := by
            have := HF.out
            rw [show upd (bgf l) s false = bgf l by rw [← (show bgf l s = false by unfold bgf; rw [← hp]; rfl)]; exact upd_self _ _, show upd (flf l) s false = flf l by rw [← (show flf l s = false by unfold flf; rw [← hp]; rfl)]; exact upd_self _ _] at this
            exact this
          clear HF
          have l1 : decide (c < c) = false := by simp
          clear HAL HR A0 A1 A2
          go_wp2_with fail
          refine HS.out.mono ?_
          rintro e9 w9 ⟨rfl, rfl⟩
          go_wp2_with fail
          refine HI.out.mono ?_
          rintro e9 w9 ⟨rfl, rfl⟩
          go_wp2_with fail
          refine HI.out.mono ?_
          rintro e9 w9 ⟨rfl, rfl⟩
          go_wp2_with fail
          exact ⟨⟨j + 1, by omega, by go_num, ⟨l, by simpa using hok2, hlen, HQ.out⟩⟩, by simp [intOf]; omega⟩
        · replace hz0 : st = 1 := hz0
          subst hz0
          refine (al_next HAL.out (s : Int) _ (b := false) (l' := l) hok (by omega) (by omega) (Vs.no hsl (by rw [← hp]; exact hq))).mono ?_
          rintro e9 w4 ⟨rfl, A0⟩
          have x0 := HE.out _ _ _ _ A0
          obtain ⟨⟨y0, v0⟩, ⟨t0, u0⟩⟩ := And.intro (A0.cB s hs12) (A0.cC s hs12)
          rw [(show bgf l s = true by unfold bgf; rw [← hp]; rfl)] at y0
          rw [(show flf l s = false by unfold flf; rw [← hp]; rfl)] at t0
          have A1 := A0.setB s hs12 true
          have x1 := HE.out _ _ _ _ A1
          obtain ⟨⟨y1, v1⟩, ⟨t1, u1⟩⟩ := And.intro (A1.cB s hs12) (A1.cC s hs12)
          have A2 := A1.setC s hs12 false
          have x2 := HE.out _ _ _ _ A2
          obtain ⟨⟨y2, v2⟩, ⟨t2, u2⟩⟩ := And.intro (A2.cB s hs12) (A2.cC s hs12)
          simp only [upd, if_true] at y1 t1 y2 t2
          rw [(show flf l s = false by unfold flf; rw [← hp]; rfl)] at t1
          have HF := hid A2
          have HS := hid (lv_state A2.L (s : Int) 1 (by rw [at_in _ hsl, ← hp]))
          have HI := hid (lv_inc A2.L (s : Int) c (by rw [at_in _ hsl, ← hp]))
          have HQ : Hid (Al w (((w4).setCell ⟨B, s, none⟩ (.bool true)).setCell ⟨C, s, none⟩ (.bool false)) o X l B C (bgf l) (flf l)) := by
            have := HF.out
            rw [show upd (bgf l) s true = bgf l by rw [← (show bgf l s = true by unfold bgf; rw [← hp]; rfl)]; exact upd_self _ _, show upd (flf l) s false = flf l by rw [← (show flf l s = false by unfold flf; rw [← hp]; rfl)]; exact upd_self _ _] at this
            exact this
          clear HF
          have l1 : decide (c < c) = false := by simp
          clear HAL HR A0 A1 A2
          go_wp2_with fail
          refine HS.out.mono ?_
          rintro e9 w9 ⟨rfl, rfl⟩
          go_wp2_with fail
          refine HI.out.mono ?_
          rintro e9 w9 ⟨rfl, rfl⟩
          go_wp2_with fail
          refine HI.out.mono ?_
          rintro e9 w9 ⟨rfl, rfl⟩
          go_wp2_with fail
          exact ⟨⟨j + 1, by omega, by go_num, ⟨l, by simpa using hok2, hlen, HQ.out⟩⟩, by simp [intOf]; omega⟩
        · replace hz0 : st = 2 := hz0
          subst hz0
          refine (al_next HAL.out (s : Int) _ (b := false) (l' := l) hok (by omega) (by omega) (Vs.no hsl (by rw [← hp]; exact hq))).mono ?_
          rintro e9 w4 ⟨rfl, A0⟩
          have x0 := HE.out _ _ _ _ A0
          obtain ⟨⟨y0, v0⟩, ⟨t0, u0⟩⟩ := And.intro (A0.cB s hs12) (A0.cC s hs12)
          rw [(show bgf l s = true by unfold bgf; rw [← hp]; rfl)] at y0
          rw [(show flf l s = true by unfold flf; rw [← hp]; rfl)] at t0
          have A1 := A0.setB s hs12 true
          have x1 := HE.out _ _ _ _ A1
          obtain ⟨⟨y1, v1⟩, ⟨t1, u1⟩⟩ := And.intro (A1.cB s hs12) (A1.cC s hs12)
          have A2 := A1.setC s hs12 true
          have x2 := HE.out _ _ _ _ A2
          obtain ⟨⟨y2, v2⟩, ⟨t2, u2⟩⟩ := And.intro (A2.cB s hs12) (A2.cC s hs12)
          simp only [upd, if_true] at y1 t1 y2 t2
          rw [(show flf l s = true by unfold flf; rw [← hp]; rfl)] at t1
          have HF := hid A2
          have HS := hid (lv_state A2.L (s : Int) 2 (by rw [at_in _ hsl, ← hp]))
          have HI := hid (lv_inc A2.L (s : Int) c (by rw [at_in _ hsl, ← hp]))
          have HQ : Hid (Al w (((w4).setCell ⟨B, s, none⟩ (.bool true)).setCell ⟨C, s, none⟩ (.bool true)) o X l B C (bgf l) (flf l)) := by
            have := HF.out
            rw [show upd (bgf l) s true = bgf l by rw [← (show bgf l s = true by unfold bgf; rw [← hp]; rfl)]; exact upd_self _ _, show upd (flf l) s true = flf l by rw [← (show flf l s = true by unfold flf; rw [← hp]; rfl)]; exact upd_self _ _] at this
            exact this
          clear HF
          have l1 : decide (c < c) = false := by simp
          clear HAL HR A0 A1 A2
          go_wp2_with fail
          refine HS.out.mono ?_
          rintro e9 w9 ⟨rfl, rfl⟩
          go_wp2_with fail
          refine HI.out.mono ?_
          rintro e9 w9 ⟨rfl, rfl⟩
          go_wp2_with fail
          refine HI.out.mono ?_
          rintro e9 w9 ⟨rfl, rfl⟩
          go_wp2_with fail
          exact ⟨⟨j + 1, by omega, by go_num, ⟨l, by simpa using hok2, hlen, HQ.out⟩⟩, by simp [intOf]; omega⟩
    · by_cases h1 : j < len1
      · have c1 : (j : Int) < (len1 : Int) := by omega
        by_cases h2 : j < len2
        · have c2 : (j : Int) < (len2 : Int) := by omega
          have c3 : decide ((j : Int) < 80) = false := by simp; omega
          clear hin
          go_wp2_with fail
          refine (runs_any _).mono ?_
          rintro e w9 ⟨rfl, b9⟩
          go_wp2_with fail
          go_ret
          exact ⟨rfl, HR.out.trans (b9.mono HR.out.size)⟩
        · have c2 : decide ((j : Int) < (len2 : Int)) = false := by simp; omega
          clear hin
          go_wp2_with fail
          refine (runs_any _).mono ?_
          rintro e w9 ⟨rfl, b9⟩
          go_wp2_with fail
          go_ret
          exact ⟨rfl, HR.out.trans (b9.mono HR.out.size)⟩
      · have c1 : decide ((j : Int) < (len1 : Int)) = false := by simp; omega
        clear hin
        go_wp2_with fail
        refine (runs_any _).mono ?_
        rintro e w9 ⟨rfl, b9⟩
        go_wp2_with fail
        go_ret
        exact ⟨rfl, HR.out.trans (b9.mono HR.out.size)⟩
end Go.Proofs.Ythoambgkcoeffaa
