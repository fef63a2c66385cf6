/-
  ADDMULTIPLE, CLEARCOLUMN of the program: their contracts at rows that share no memory.
-/
import Derived.Test.YtmhhegkpkncebaaGrid
import Derived.Test.YtmhhegkpkncebaaGauss
import Derived.StillTailTactics
import Derived.Deep.RegionWith
namespace Go.Proofs.Ytmhhegkpkncebaa
open Go.RowKit

/-- The tables lie in no row. -/
theorem HasTab.ne {w : World} {b B g m n k i : Nat} {P : Nat → Nat} {A : Nat → Nat → Nat} (hT : HasTab w b) (h : Grid w B g P A m n k) (hi : i < k) : b ≠ P i := by
  obtain ⟨_, R, h2, _⟩ := h.row i hi
  obtain ⟨C0, hT, _⟩ := hT
  intro e
  rw [← e, show w.heap[b]? = _ from hT] at h2
  injection h2 with h2; injection h2 with _ e2 _
  exact absurd e2 (by decide)
theorem HasTab.neg {w : World} {b B g m n k : Nat} {P : Nat → Nat} {A : Nat → Nat → Nat} (hT : HasTab w b) (h : Grid w B g P A m n k) : b ≠ g := by
  obtain ⟨C, h2, _⟩ := h.top
  obtain ⟨C0, hT, _⟩ := hT
  intro e
  rw [← e, show w.heap[b]? = _ from hT] at h2
  injection h2 with h2; injection h2 with _ e2 _
  exact absurd e2 (by decide)
theorem HasTab.set {w : World} {b : Nat} (h : HasTab w b) {ad : Addr} (hne : b ≠ ad.block) (u : Value) : HasTab (w.setCell ad u) b := by
  obtain ⟨C, h1, h2⟩ := h
  exact ⟨C, by rw [Below.heap_setCell _ _ _ _ hne]; exact h1, h2⟩

/-- Two worlds that part by draws alone. -/
structure Alike (w w' : World) : Prop where
  heap : w'.heap = w.heap
  os : w'.os = w.os
  tape : w'.tape = w.tape
  output : w'.output = w.output
theorem Alike.below {w w' : World} (h : Alike w w') (B : Nat) : Below B w w' := ⟨h.os, h.tape, h.output, by rw [h.heap]; exact Nat.le_refl _, fun k _ => by rw [h.heap]⟩
theorem below_alike {B : Nat} {w w1 w2 : World} (h : Below B w w1) (e : Alike w1 w2) : Below B w w2 := h.trans (e.below B)
theorem Grid.alike {w w' : World} {B g m n k : Nat} {P : Nat → Nat} {A : Nat → Nat → Nat} (h : Grid w B g P A m n k) (e : Alike w w') : Grid w' B g P A m n k := h.up (e.below _)
theorem HasTab.alike {w w' : World} {b : Nat} (h : HasTab w b) (e : Alike w w') : HasTab w' b := h.up (e.below _)

/-- A multiple of row r was added to row i's first q places. -/
def addPart (i r v q : Nat) (A : Nat → Nat → Nat) : Nat → Nat → Nat := fun x j => if x = i ∧ j < q then A i j ^^^ Gf.mul (A r j) v else A x j

set_option maxHeartbeats 1000000 in
set_option maxRecDepth 100000 in
theorem addmul_any {B g m n k : Nat} {P : Nat → Nat} {A : Nat → Nat → Nat} (b i r v : Nat) (V : Int) (hV : V = (v : Int)) (hv : v < 256) (hA : Gf.B8 A) (hi : i < k) (hr : r < k) (hn : n ≤ 64) (w : World) (G : Grid w B g P A m n k) (hT : HasTab w b) :
    Calls Try.prog 67 #[.pointer (some ⟨b, 1, none⟩), .slice (some ⟨P i, 0, none⟩) n n, .slice (some ⟨P r, 0, none⟩) n n, .int .u8 V] w fun e w' => e = .returned (.tuple #[]) ∧ Grid w' B g P (addPart i r v n A) m n k ∧ HasTab w' b ∧ Below B w w' := by
  subst hV
  have G0 : Hid (Grid w B g P (addPart i r v 0 A) m n k) := G.congr (fun x _ j _ => by unfold addPart; rw [if_neg (by omega)])
  clear G
  have HA : Hid (Gf.B8 A) := hA
  clear hA
  go_enter Try.func67, Try.ntmps67
  go_wp2_with fail
  go_loopw [11] (fun c wr => ∃ q : Nat, q ≤ n ∧ c = .int .i64 (q : Int) ∧ Hid (Grid wr B g P (addPart i r v q A) m n k) ∧ HasTab wr b ∧ Hid (Below B w wr)) (fun c _ => n - (intOf c).toNat)
  case atStart => exact ⟨0, by omega, rfl, G0, hT, Below.refl _ _⟩
  case round =>
    obtain ⟨q, hq, rfl, HG, hT', HB⟩ := hrel
    clear G0 hT
    by_cases hlt : q < n
    · have hi1 : (q : Int) < (n : Int) := by omega
      go_wp2_with fail
      have d1 : wr.cell? ⟨P i, q, none⟩ = some (.int .u8 ((A i q : Nat) : Int)) := by
        rw [HG.out.cell hi hlt]; unfold addPart; rw [if_neg (by omega)]
      have d2 : wr.cell? ⟨P r, q, none⟩ = some (.int .u8 ((A r q : Nat) : Int)) := by
        rw [HG.out.cell hr hlt]; unfold addPart; rw [if_neg (by omega)]
      have fz : wr.frozen? ⟨P i, q, none⟩ = false := HG.out.fz hi q
      have hx := HA.out r q
      have hxor := xor_u8 (A i q) (Gf.mul (A r q) v) (HA.out i q) (Gf.mul_lt _ _)
      have G3 : Hid (Grid (wr.setCell ⟨P i, q, none⟩ (.int .u8 ((A i q ^^^ Gf.mul (A r q) v : Nat) : Int))) B g P (addPart i r v (q + 1) A) m n k) :=
        (HG.out.set (v := A i q ^^^ Gf.mul (A r q) v) hi hlt).congr (fun x _ j _ => by
          unfold upd addPart
          by_cases e : x = i ∧ j = q
          · rw [if_pos e, if_pos (by omega), e.2]
          · rw [if_neg e]
            by_cases e2 : x = i ∧ j < q
            · rw [if_pos e2, if_pos (by omega)]
            · rw [if_neg e2, if_neg (by omega)])
      have T3 : Hid (HasTab (wr.setCell ⟨P i, q, none⟩ (.int .u8 ((A i q ^^^ Gf.mul (A r q) v : Nat) : Int))) b) := hT'.set (hT'.ne HG.out hi) _
      have B3 : Hid (Below B w (wr.setCell ⟨P i, q, none⟩ (.int .u8 ((A i q ^^^ Gf.mul (A r q) v : Nat) : Int)))) := HB.out.setCell (HG.out.row i hi).1 _
      have T4 : ∀ d, HasTab (wr.drewN d) b := fun d => hT'.drewN d
      clear HG hT' HB
      go_region_with (go_at_call 45; refine (mul_any b (A r q) v hx hv _ (T4 1)).mono ?_; rintro e w2 ⟨rfl, n1, rfl⟩)
      all_goals
        go_wp2_with fail
        exact ⟨⟨q + 1, by omega, by go_num, G3.out.alike ⟨rfl, rfl, rfl, rfl⟩, T3.out.alike ⟨rfl, rfl, rfl, rfl⟩, below_alike B3.out ⟨rfl, rfl, rfl, rfl⟩⟩, by simp [intOf]; omega⟩
    · have hqn : q = n := by omega
      subst hqn
      have i1 : decide ((q : Int) < (q : Int)) = false := by simp
      go_wp2_with fail
      go_end0
      exact ⟨rfl, HG.out, hT', HB.out⟩
end Go.Proofs.Ytmhhegkpkncebaa
