/-
  INFORM of the program: may each of these be a fragment?
-/
import Derived.Test.YtmhhegkpkncebaaEncode
import Derived.Laws.IdiomStrings
namespace Go.Proofs.Ytmhhegkpkncebaa
open Go.RowKit

/-- n fragments lie at a: places and data. -/
def PartF (w : World) (a : Option Addr) (A : Nat → Int) (D : Nat → ByteArray) (n : Nat) : Prop :=
  n = 0 ∨ ∃ p off, a = some ⟨p, off, none⟩ ∧ ∀ i, i < n → w.cell? ⟨p, off + i * 2, none⟩ = some (.int .i64 (A i)) ∧ w.cell? ⟨p, off + i * 2 + 1, none⟩ = some (.string (D i))
theorem PartF.up {w w' : World} {a : Option Addr} {A : Nat → Int} {D : Nat → ByteArray} {n : Nat} (h : PartF w a A D n) (hb : Below w.heap.size w w') : PartF w' a A D n := by
  rcases h with h | ⟨p, off, e, hr⟩
  · exact Or.inl h
  · exact Or.inr ⟨p, off, e, fun i hi => ⟨cell_later hb (hr i hi).1, cell_later hb (hr i hi).2⟩⟩
theorem IsCode.drewN {w : World} {b k n : Nat} (h : IsCode w b k n) (d : Nat) : IsCode (w.drewN d) b k n := h.up (below_drewN (Below.refl _ _) d)

/-- It may be a fragment. -/
def OkP (k N z : Nat) (x : Int) (s : ByteArray) : Prop := 0 ≤ x ∧ x < (N : Int) ∧ s.size = szk k z

set_option maxHeartbeats 1000000 in
set_option maxRecDepth 100000 in
theorem inform_any (b k N z n c : Nat) (Z : Int) (hZ : Z = (z : Int)) (a : Option Addr) (A : Nat → Int) (D : Nat → ByteArray) (hk1 : 1 ≤ k) (hk : k ≤ 8) (hz : z ≤ 1048576) (hn : n ≤ 4194304) (w : World) (hC : IsCode w b k N) (hp : PartF w a A D n) :
    Calls Try.prog 31 #[.pointer (some ⟨b, 0, none⟩), .int .i64 Z, .slice a n c] w fun e w' => ((e = .returned (.bool true) ∧ ∀ i, i < n → OkP k N z (A i) (D i)) ∨ (e = .returned (.bool false) ∧ ∃ i, i < n ∧ ¬ OkP k N z (A i) (D i))) ∧ Below w.heap.size w w' := by
  subst hZ
  have HC : Hid (IsCode w b k N) := hC
  have HP : Hid (PartF w a A D n) := hp
  clear hC hp
  go_enter Try.func31, Try.ntmps31
  go_wp2_with fail
  go_loopw [11] (fun i wr => ∃ t : Nat, t ≤ n ∧ i = .int .i64 (t : Int) ∧ Hid (∀ i, i < t → OkP k N z (A i) (D i)) ∧ Hid (Below w.heap.size w wr)) (fun i _ => n - (intOf i).toNat)
  case atStart => exact ⟨0, by omega, rfl, fun i hi => by omega, Below.refl _ _⟩
  case round =>
    obtain ⟨t, ht, rfl, HO, HB⟩ := hrel
    by_cases hlt : t < n
    · have hi1 : (t : Int) < (n : Int) := by omega
      obtain ⟨p, o, rfl, q1⟩ : ∃ p off, a = some ⟨p, off, none⟩ ∧ ∀ i, i < n → wr.cell? ⟨p, off + i * 2, none⟩ = some (.int .i64 (A i)) ∧ wr.cell? ⟨p, off + i * 2 + 1, none⟩ = some (.string (D i)) := by
        rcases HP.out.up HB.out with r | r
        · exfalso; omega
        · exact r
      obtain ⟨d1, d2⟩ := q1 t hlt
      clear q1
      go_wp2_with fail
      obtain ⟨B, W, eB, eW, g1, g2, BW⟩ : ∃ B W, B = wr.heap.size ∧ W = wr.alloc (.cells #[.int .i64 (A t), .string (D t)] 31) ∧ W.cell? ⟨B, 0, none⟩ = some (.int .i64 (A t)) ∧ W.cell? ⟨B, 1, none⟩ = some (.string (D t)) ∧ Below w.heap.size w W :=
        ⟨_, _, rfl, rfl, World.cell?_alloc_mark wr _ 31 (0, 0) 0, World.cell?_alloc_mark wr _ 31 (0, 0) 1, HB.out.alloc HB.out.size _⟩
      rw [← eB, ← eW]
      have HCW : ∀ d, IsCode (W.drewN d) b k N := fun d => (HC.out.up BW).drewN d
      have HBW : Hid (Below w.heap.size w W) := BW
      clear eB eW HB BW d1 d2
      by_cases hpl : 0 ≤ A t ∧ A t < (N : Int)
      · by_cases hsz : (D t).size = szk k z
        · have hne : (((D t).size : Int) != ((szk k z : Nat) : Int)) = false := by rw [hsz]; simp
          have O2 : Hid (∀ i, i < t + 1 → OkP k N z (A i) (D i)) := fun i hi => by
            by_cases e : i = t
            · subst e; exact ⟨hpl.1, hpl.2, hsz⟩
            · exact HO.out i (by omega)
          clear HO
          go_quiet (first | (go_at_call 34; exact Calls.quiet_of ((place_yes b k N (A t) hpl _ (HCW _)).mono fun e w' ⟨h1, h2⟩ => ⟨h1, 0, h2.symm⟩)) | (go_at_call 18; exact Calls.quiet_of ((size_any b k N z _ rfl hk1 hk (by omega) _ (HCW _)).mono fun e w' ⟨h1, h2⟩ => ⟨h1, 0, h2.symm⟩)))
          have B2 : Hid (Below w.heap.size w (W.drewN nq)) := below_drewN HBW.out nq
          clear g1 g2 HCW
          go_wp2_with fail
          exact ⟨⟨t + 1, by omega, by go_num, O2, B2⟩, by simp [intOf]; omega⟩
        · have hne : (((D t).size : Int) != ((szk k z : Nat) : Int)) = true := by simp; omega
          go_quiet (first | (go_at_call 34; exact Calls.quiet_of ((place_yes b k N (A t) hpl _ (HCW _)).mono fun e w' ⟨h1, h2⟩ => ⟨h1, 0, h2.symm⟩)) | (go_at_call 18; exact Calls.quiet_of ((size_any b k N z _ rfl hk1 hk (by omega) _ (HCW _)).mono fun e w' ⟨h1, h2⟩ => ⟨h1, 0, h2.symm⟩)))
          have B2 : Hid (Below w.heap.size w (W.drewN nq)) := below_drewN HBW.out nq
          clear g1 g2 HCW
          go_wp2_with fail
          go_ret
          exact ⟨Or.inr ⟨rfl, t, hlt, fun h => hsz h.2.2⟩, B2.out⟩
      · go_quiet (first | (go_at_call 34; exact Calls.quiet_of ((place_no b k N (A t) (by omega) _ (HCW _)).mono fun e w' ⟨h1, h2⟩ => ⟨h1, 0, h2.symm⟩)))
        have B2 : Hid (Below w.heap.size w (W.drewN nq)) := below_drewN HBW.out nq
        clear g1 g2 HCW
        go_wp2_with fail
        go_ret
        exact ⟨Or.inr ⟨rfl, t, hlt, fun h => hpl ⟨h.1, h.2.1⟩⟩, B2.out⟩
    · have htk : t = n := by omega
      subst htk
      have i1 : decide ((t : Int) < (t : Int)) = false := by simp
      go_wp2_with fail
      go_ret
      exact ⟨Or.inl ⟨rfl, HO.out⟩, HB.out⟩
end Go.Proofs.Ytmhhegkpkncebaa
