/-
  INVERT of the program: its contract at squares: the inverse, from both sides, or there is a kernel.
-/
import Derived.Test.YtmhhegkpkncebaaWiden
namespace Go.Proofs.Ytmhhegkpkncebaa
open Go.RowKit

/-- The matrix beside the identity's first k ones. -/
def augA (A : Nat → Nat → Nat) (n k : Nat) : Nat → Nat → Nat := fun i j => if j < n then A i j else if j = n + i ∧ i < k then 1 else 0
theorem augA_B8 {A : Nat → Nat → Nat} (h : Gf.B8 A) (n k : Nat) : Gf.B8 (augA A n k) := by
  intro i j; unfold augA; split
  · exact h _ _
  · split <;> decide
theorem augA_aug {A : Nat → Nat → Nat} (h : Gf.B8 A) (n : Nat) : Gf.Aug n A (augA A n n) :=
  .start h (augA_B8 h n n) (fun i _ j hj => by unfold augA; rw [if_pos hj]) (fun i hi j hj => by
    unfold augA Gf.idm
    rw [if_neg (by omega)]
    by_cases e : i = j
    · rw [if_pos e, if_pos (by omega)]
    · rw [if_neg e, if_neg (by omega)])

set_option maxHeartbeats 4000000 in
set_option maxRecDepth 100000 in
theorem invert_any (a : Option Addr) (b n c : Nat) (A : Nat → Nat → Nat) (hA : Gf.B8 A) (hn1 : 1 ≤ n) (hn : n ≤ 12) (w : World) (ra : MatF w a A n n) (hT : HasTab w b) :
    Calls Try.prog 46 #[.pointer (some ⟨b, 1, none⟩), .slice a n c] w fun e w' => Below w.heap.size w w' ∧
      ((∃ g P V, e = .returned (.tuple #[.slice (some ⟨g, 0, none⟩) n n, .bool true]) ∧ Grid w' w.heap.size g P V n n n ∧ Gf.B8 V ∧ Gf.EqN n (Gf.mm n V A) Gf.idm ∧ Gf.EqN n (Gf.mm n A V) Gf.idm ∧ Gf.Inj n A) ∨
        (e = .returned (.tuple #[.slice none 0 0, .bool false]) ∧ ¬ Gf.Inj n A)) := by
  obtain ⟨p, o, rfl, q1⟩ := ra.at' hn1
  obtain ⟨x, xc, h1, _, _⟩ := q1 0 (by omega)
  rw [Nat.add_zero] at h1
  clear q1
  have i1 : (0 : Int) < (n : Int) := by omega
  have nn : ((n : Int) != (n : Int)) = false := by simp
  obtain ⟨N, hN⟩ : ∃ N, N = n + n := ⟨_, rfl⟩
  go_enter Try.func46, Try.ntmps46
  go_wp2_with fail
  refine (right_yes (some ⟨p, o, none⟩) n n c A hn1 hn hn1 hn _ ra).mono ?_
  rintro e w1 ⟨rfl, rfl⟩
  go_wp2_with fail
  refine (widened_any (some ⟨p, o, none⟩) n n c N _ A (by omega) hn1 (by omega) hn1 (by omega) (by omega) _ ra).mono ?_
  rintro e w1 ⟨g, P, rfl, G1, B1⟩
  have G0 : Hid (Grid w1 w.heap.size g P (augA A n 0) n N n) := G1.congr (fun i _ j _ => by
    unfold wideA augA
    by_cases e : j < n
    · rw [if_pos e, if_pos e]
    · rw [if_neg e, if_neg e, if_neg (by omega)])
  have HB1 : Hid (Below w.heap.size w w1) := B1
  have HN : Hid (N = n + n) := hN
  have HA : Hid (Gf.B8 A) := hA
  have HT : Hid (HasTab w b) := hT
  clear G1 B1 hA ra h1 hT
  clear hN
  go_wp2_with fail
  go_loopw [31] (fun x wr => ∃ k : Nat, k ≤ n ∧ x = .int .i64 (k : Int) ∧ Hid (Grid wr w.heap.size g P (augA A n k) n N n) ∧ Hid (Below w.heap.size w wr)) (fun x _ => n - (intOf x).toNat)
  case atStart => exact ⟨0, by omega, rfl, G0, HB1⟩
  case round =>
    obtain ⟨k, hk, rfl, HG, HB⟩ := hrel
    clear G0 HB1
    have hNn := HN.out
    by_cases hlt : k < n
    · have hi1 : (k : Int) < (n : Int) := by omega
      have hi2 : (n : Int) + (k : Int) < (N : Int) := by omega
      have hnk : n + k < N := by omega
      have c1 := HG.out.tcell hlt
      have c2 := HG.out.cell hlt hnk
      have c3 := HG.out.fz hlt (n + k)
      have G3 : Hid (Grid (wr.setCell ⟨P k, n + k, none⟩ (.int .u8 1)) w.heap.size g P (augA A n (k + 1)) n N n) := by
        have h := (HG.out.set (v := 1) hlt hnk).congr (A' := augA A n (k + 1)) (fun i _ j _ => by
          unfold upd augA
          by_cases e : i = k ∧ j = n + k
          · rw [if_pos e, if_neg (by omega), if_pos (by omega)]
          · rw [if_neg e]
            by_cases e2 : j < n
            · rw [if_pos e2, if_pos e2]
            · rw [if_neg e2, if_neg e2]
              by_cases e3 : j = n + i ∧ i < k
              · rw [if_pos e3, if_pos (by omega)]
              · rw [if_neg e3, if_neg (by omega)])
        exact h
      have B3 : Hid (Below w.heap.size w (wr.setCell ⟨P k, n + k, none⟩ (.int .u8 1))) := HB.out.setCell (HG.out.row k hlt).1 _
      clear HG HB hNn hnk
      go_wp2_with fail
      exact ⟨⟨k + 1, by omega, by go_num, G3, B3⟩, by simp [intOf]; omega⟩
    · have hkn : k = n := by omega
      subst hkn
      have j1 : decide ((k : Int) < (k : Int)) = false := by simp
      go_wp2_with fail
      refine (reduce_any b k _ rfl (augA_B8 HA.out k k) (by omega) (by omega) (by omega) _ HG.out (HT.out.up HB.out)).mono ?_
      rintro e w2 ⟨r, pc, P', A', rfl, G2, _, B2, S2, R2⟩
      have BB : Hid (Below w.heap.size w w2) := HB.out.trans B2
      have HAug : Hid (Gf.Aug k A A') := S2.aug HA.out (augA_aug HA.out k)
      have HR2 : Hid (Gf.Red k k r pc A') := R2
      have hle := R2.le
      have HG2 : Hid (Grid w2 w.heap.size g P' A' k N k) := G2
      clear HG HB B2 S2 R2 G2 hNn
      by_cases hrn : r < k
      · have j2 : (r : Int) < (k : Int) := by omega
        go_wp2_with fail
        go_ret2
        exact ⟨BB.out, Or.inr ⟨rfl, HR2.out.ker hrn HA.out HAug.out⟩⟩
      · have hrk : r = k := by omega
        subst hrk
        go_wp2_with fail
        refine (zeros_any r r _ _ rfl rfl (by omega) (by omega) _).mono ?_
        rintro e w3 ⟨g2, P2, rfl, G3, B3⟩
        obtain ⟨D, eD⟩ : ∃ D, D = w2.heap.size := ⟨_, rfl⟩
        have ED : Hid (D = w2.heap.size) := eD
        have hwD : Hid (w.heap.size ≤ D) := by rw [eD]; exact BB.out.size
        have G4 : Hid (Grid w3 w.heap.size g P' A' r N r) := HG2.out.up B3
        have G5 : Hid (Grid w3 D g2 P2 (fun x j => if x < 0 then A' x (r + j) else 0) r r r) := by
          rw [eD]; exact G3.congr (fun i _ j _ => by simp)
        have B5 : Hid (Below w.heap.size w w3) := BB.out.trans (B3.mono BB.out.size)
        have L1 : Hid (g < D) := by rw [eD]; exact HG2.out.glt
        have L2 : Hid (∀ i, i < r → P' i < D) := fun i hi => by rw [eD]; exact HG2.out.lt hi
        clear eD HG2 G3 B3 BB
        go_wp2_with fail
        go_loopw [54] (fun x wr => ∃ k : Nat, k ≤ r ∧ x = .int .i64 (k : Int) ∧ Hid (Grid wr w.heap.size g P' A' r N r) ∧ Hid (Grid wr D g2 P2 (fun x j => if x < k then A' x (r + j) else 0) r r r) ∧ Hid (Below w.heap.size w wr)) (fun x _ => r - (intOf x).toNat)
        case atStart => exact ⟨0, by omega, rfl, G4, G5, B5⟩
        case round =>
          obtain ⟨k, hk, rfl, HG, HV, HB⟩ := hrel
          clear G4 G5 B5
          by_cases hlt : k < r
          · have hi1 : (k : Int) < (r : Int) := by omega
            have hsl : ∀ w, (Instr.sliceAt 54 (.slice (some ⟨P' k, 0, none⟩) N N) (some (.int .i64 (r : Int))) none none).run Try.prog w = .ok (.slice (sl (some ⟨P' k, 0, none⟩) r N) r r) w := fun w => by
              have := slice_lo (some ⟨P' k, 0, none⟩) N N r (by have := HN.out; omega) w
              rwa [show N - r = r by have := HN.out; omega] at this
            go_wp2_with fail
            refine wp_region_still_tail 10 (by kernel_rfl) (by kernel_rfl) ?_
            simp only [List.take_succ_cons, List.take_zero, List.drop_succ_cons, List.drop_zero]
            obtain ⟨Y, eY, yG, yV, yB⟩ : ∃ Y, Y = ({ wr with drawn := wr.drawn + 1 } : World) ∧ Grid Y w.heap.size g P' A' r N r ∧ Grid Y D g2 P2 (fun x j => if x < k then A' x (r + j) else 0) r r r ∧ Below w.heap.size w Y :=
              ⟨_, rfl, HG.out.drewN 1, HV.out.drewN 1, below_drewN HB.out 1⟩
            rw [← eY]
            have c1 := yG.tcell hlt
            have c2 := yV.tcell hlt
            have hrow : RowF Y (sl (some ⟨P' k, 0, none⟩) r N) (fun j => A' k (r + j)) r := by
              have := (yG.rowF hlt).cut r N (Nat.le_refl _)
              rwa [show N - r = r by have := HN.out; omega] at this
            obtain ⟨w4, hrun, V4, B4⟩ := yV.copy (c := r) hlt hrow hn1 (Nat.le_refl _)
            have V5 : Hid (Grid w4 D g2 P2 (fun x j => if x < k + 1 then A' x (r + j) else 0) r r r) := V4.congr (fun x _ j hj => by
              show (if x = k ∧ j < r then A' k (r + j) else if x < k then A' x (r + j) else 0) = if x < k + 1 then A' x (r + j) else 0
              by_cases e : x = k
              · rw [if_pos ⟨e, hj⟩, if_pos (by omega), e]
              · rw [if_neg (fun h => e h.1)]
                by_cases e3 : x < k
                · rw [if_pos e3, if_pos (by omega)]
                · rw [if_neg e3, if_neg (by omega)])
            have G5 : Hid (Grid w4 w.heap.size g P' A' r N r) := yG.keep L1.out L2.out B4
            have B5 : Hid (Below w.heap.size w w4) := yB.trans (B4.mono hwD.out)
            clear eY HG HV HB yG yV yB V4 B4 hrow
            repeat still_step
            refine wpStill_nil ?_
            go_wp2_with fail
            exact ⟨⟨k + 1, by omega, by go_num, G5, V5, B5⟩, by simp [intOf]; omega⟩
          · have hkr : k = r := by omega
            subst hkr
            have hV : Hid (Grid wr w.heap.size g2 P2 (Gf.half k A') k k k) := (HV.out.mono hwD.out).congr (fun x hx j _ => by rw [if_pos hx]; rfl)
            obtain ⟨d1, d2, d3⟩ := HAug.out.done HA.out HR2.out.cols
            have D1 : Hid (Gf.EqN k (Gf.mm k (Gf.half k A') A) Gf.idm) := d1
            have D2 : Hid (Gf.EqN k (Gf.mm k A (Gf.half k A')) Gf.idm) := d2
            have D3 : Hid (Gf.Inj k A) := d3
            clear HG HV d1 d2 d3
            go_wp2_with fail
            go_ret2
            exact ⟨HB.out, Or.inl ⟨g2, P2, Gf.half k A', rfl, hV.out, Gf.half_B8 HAug.out.b k, D1.out, D2.out, D3.out⟩⟩
end Go.Proofs.Ytmhhegkpkncebaa
