/-
  CLEARCOLUMN of the program: its contract at rows that share no memory.
-/
import Derived.Test.YtmhhegkpkncebaaClear
import Derived.Test.YtmhhegkpkncebaaRed
namespace Go.Proofs.Ytmhhegkpkncebaa
open Go.RowKit

/-- Row r's first q places times v. -/
def scalePart (r v q : Nat) (A : Nat → Nat → Nat) : Nat → Nat → Nat := fun x j => if x = r ∧ j < q then Gf.mul (A r j) v else A x j
/-- The multiples of row r were added to the rows before s. -/
def addUpto (r c s : Nat) (A : Nat → Nat → Nat) : Nat → Nat → Nat := fun x j => if x < s ∧ x ≠ r then A x j ^^^ Gf.mul (A x c) (A r j) else A x j
theorem addUpto_B8 {A : Nat → Nat → Nat} (h : Gf.B8 A) (r c s : Nat) : Gf.B8 (addUpto r c s A) := by
  intro i j; unfold addUpto; split
  · exact Gf.xor_lt (h _ _) (Gf.mul_lt _ _)
  · exact h _ _
set_option maxHeartbeats 2000000 in
set_option maxRecDepth 100000 in
theorem clear_any {B g m n : Nat} {P : Nat → Nat} {A : Nat → Nat → Nat} (b r c : Nat) (R C : Int) (hR : R = (r : Int)) (hC : C = (c : Int)) (hA : Gf.B8 A) (hr : r < m) (hc : c < n) (hm : m ≤ 64) (hn : n ≤ 64) (w : World) (G : Grid w B g P A m n m) (hT : HasTab w b) :
    Calls Try.prog 64 #[.pointer (some ⟨b, 1, none⟩), .slice (some ⟨g, 0, none⟩) m m, .int .i64 R, .int .i64 C] w fun e w' => e = .returned (.tuple #[]) ∧ Grid w' B g P (Gf.clr r c A) m n m ∧ HasTab w' b ∧ Below B w w' := by
  subst hR hC
  have HA : Hid (Gf.B8 A) := hA
  have t1 := G.tcell hr
  have t2 := G.cell hr hc
  have hx := hA r c
  have i1 : (r : Int) < (m : Int) := by omega
  have i2 : (c : Int) < (n : Int) := by omega
  have G0 : Hid (Grid w B g P A m n m) := G
  clear G hA
  obtain ⟨v, hv⟩ : ∃ v, v = Gf.inv (A r c) := ⟨_, rfl⟩
  have hv1 : v < 256 := by rw [hv]; exact Gf.inv_lt _
  have EV : Hid (v = Gf.inv (A r c)) := hv
  go_enter Try.func64, Try.ntmps64
  go_wp2_with fail
  refine (inv_c b (A r c) _ (v : Int) rfl (by rw [hv]) hx _ hT).mono ?_
  rintro e w1 ⟨rfl, n1, rfl⟩
  clear hv
  have G1 : Hid (Grid (w.drewN n1) B g P (scalePart r v 0 A) m n m) := (G0.out.drewN n1).congr (fun x _ j _ => by unfold scalePart; rw [if_neg (by omega)])
  have T1 : HasTab (w.drewN n1) b := hT.drewN n1
  have B1 : Hid (Below B w (w.drewN n1)) := below_drewN (Below.refl _ _) n1
  clear G0 hT t1 t2
  go_wp2_with fail
  go_loopw [25] (fun x wr => ∃ q : Nat, q ≤ n ∧ x = .int .i64 (q : Int) ∧ Hid (Grid wr B g P (scalePart r v q A) m n m) ∧ HasTab wr b ∧ Hid (Below B w wr)) (fun x _ => n - (intOf x).toNat)
  case atStart => exact ⟨0, by omega, rfl, G1, T1, B1⟩
  case round =>
    obtain ⟨q, hq, rfl, HG, hT', HB⟩ := hrel
    clear G1 T1 B1
    by_cases hlt : q < n
    · have hi1 : (q : Int) < (n : Int) := by omega
      have d1 : wr.cell? ⟨P r, q, none⟩ = some (.int .u8 ((A r q : Nat) : Int)) := by
        rw [HG.out.cell hr hlt]; unfold scalePart; rw [if_neg (by omega)]
      have hy := HA.out r q
      go_wp2_with fail
      refine (mul_any b (A r q) v hy hv1 _ hT').mono ?_
      rintro e w2 ⟨rfl, n2, rfl⟩
      have fz : (wr.drewN n2).frozen? ⟨P r, q, none⟩ = false := (HG.out.drewN n2).fz hr q
      have d2 : (wr.drewN n2).cell? ⟨P r, q, none⟩ = some (.int .u8 ((A r q : Nat) : Int)) := d1
      have G3 : Hid (Grid ((wr.drewN n2).setCell ⟨P r, q, none⟩ (.int .u8 ((Gf.mul (A r q) v : Nat) : Int))) B g P (scalePart r v (q + 1) A) m n m) :=
        ((HG.out.drewN n2).set (v := Gf.mul (A r q) v) hr hlt).congr (fun x _ j _ => by
          unfold upd scalePart
          by_cases e : x = r ∧ j = q
          · rw [if_pos e, if_pos (by omega), e.2]
          · rw [if_neg e]
            by_cases e2 : x = r ∧ j < q
            · rw [if_pos e2, if_pos (by omega)]
            · rw [if_neg e2, if_neg (by omega)])
      have T3 : Hid (HasTab ((wr.drewN n2).setCell ⟨P r, q, none⟩ (.int .u8 ((Gf.mul (A r q) v : Nat) : Int))) b) := (hT'.drewN n2).set (hT'.ne HG.out hr) _
      have B3 : Hid (Below B w ((wr.drewN n2).setCell ⟨P r, q, none⟩ (.int .u8 ((Gf.mul (A r q) v : Nat) : Int)))) := (below_drewN HB.out n2).setCell (HG.out.row r hr).1 _
      clear HG hT' HB d1
      go_wp2_with fail
      exact ⟨⟨q + 1, by omega, by go_num, G3.out.alike ⟨rfl, rfl, rfl, rfl⟩, T3.out.alike ⟨rfl, rfl, rfl, rfl⟩, below_alike B3.out ⟨rfl, rfl, rfl, rfl⟩⟩, by simp [intOf]; omega⟩
    · have hqn : q = n := by omega
      subst hqn
      have j1 : decide ((q : Int) < (q : Int)) = false := by simp
      obtain ⟨A2, hA2⟩ : ∃ A2, A2 = Gf.scaleR r v A := ⟨_, rfl⟩
      have EA : Hid (A2 = Gf.scaleR r v A) := hA2
      have HA2 : Hid (Gf.B8 A2) := by rw [hA2]; exact Gf.scaleR_B8 HA.out r v
      have G1 : Hid (Grid wr B g P (addUpto r c 0 A2) m q m) := HG.out.congr (fun x _ j hj => by
        unfold addUpto; rw [if_neg (by omega), hA2]; unfold scalePart Gf.scaleR
        by_cases e : x = r
        · rw [if_pos ⟨e, hj⟩, if_pos e]
        · rw [if_neg (fun h => e h.1), if_neg e])
      clear HG hA2
      go_wp2_with fail
      go_loopw [41] (fun x wr => ∃ s : Nat, s ≤ m ∧ x = .int .i64 (s : Int) ∧ Hid (Grid wr B g P (addUpto r c s A2) m q m) ∧ HasTab wr b ∧ Hid (Below B w wr)) (fun x _ => m - (intOf x).toNat)
      case atStart => exact ⟨0, by omega, rfl, G1, hT', HB⟩
      case round =>
        obtain ⟨s, hs, rfl, HG, hT', HB⟩ := hrel
        clear G1
        by_cases hlt : s < m
        · have hi1 : (s : Int) < (m : Int) := by omega
          have d0 := HG.out.tcell hlt
          by_cases hsr : s = r
          · have n1 : ((s : Int) != (r : Int)) = false := by simp; omega
            have G3 : Hid (Grid wr B g P (addUpto r c (s + 1) A2) m q m) := HG.out.congr (fun x _ j _ => by
              unfold addUpto
              by_cases e : x < s ∧ x ≠ r
              · rw [if_pos e, if_pos (by omega)]
              · rw [if_neg e, if_neg (by omega)])
            clear HG hsr
            go_wp2_with fail
            exact ⟨⟨s + 1, by omega, by go_num, G3, hT', HB⟩, by simp [intOf]; omega⟩
          · have n1 : ((s : Int) != (r : Int)) = true := by simp; omega
            have d1 := HG.out.cell hlt hc
            have hb := addUpto_B8 HA2.out r c s
            go_wp2_with fail
            refine (addmul_any b s r (addUpto r c s A2 s c) _ rfl (hb s c) hb hlt hr hn _ HG.out hT').mono ?_
            rintro e w2 ⟨rfl, G4, T4, B4⟩
            have G5 : Hid (Grid w2 B g P (addUpto r c (s + 1) A2) m q m) := G4.congr (fun x _ j hj => by
              unfold addPart
              have e1 : addUpto r c s A2 s c = A2 s c := by unfold addUpto; rw [if_neg (by omega)]
              have e2 : addUpto r c s A2 s j = A2 s j := by unfold addUpto; rw [if_neg (by omega)]
              have e3 : addUpto r c s A2 r j = A2 r j := by unfold addUpto; rw [if_neg (by omega)]
              by_cases e : x = s
              · rw [if_pos ⟨e, hj⟩, e1, e2, e3, e]; unfold addUpto; rw [if_pos (by omega), Gf.mul_comm]
              · rw [if_neg (fun h => e h.1)]; unfold addUpto
                by_cases e5 : x < s ∧ x ≠ r
                · rw [if_pos e5, if_pos (by omega)]
                · rw [if_neg e5, if_neg (by omega)])
            have B5 : Hid (Below B w w2) := HB.out.trans B4
            clear HG hT' HB G4 B4 hb
            go_wp2_with fail
            exact ⟨⟨s + 1, by omega, by go_num, G5, T4, B5⟩, by simp [intOf]; omega⟩
        · have hsm : s = m := by omega
          subst hsm
          have j2 : decide ((s : Int) < (s : Int)) = false := by simp
          go_wp2_with fail
          go_end0
          exact ⟨rfl, HG.out.congr (fun x hx' j _ => by
            unfold addUpto Gf.clr Gf.addAll
            rw [← EV.out, ← EA.out]
            by_cases e : x = r
            · rw [if_neg (fun h => h.2 e), if_pos e, e]
            · rw [if_pos ⟨hx', e⟩, if_neg e]), hT', HB.out⟩
end Go.Proofs.Ytmhhegkpkncebaa
