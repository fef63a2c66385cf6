/-
  MATRIXTELLS: the rows with room behind them, two lists that are gathered side by side.
-/
import Derived.Test.YtdinhkcdllmmkaaRInv
import Derived.Test.YtdinhkcdllmmkaaTimes2
import Derived.Test.YtdinhkcdllmmkaaMRuns
namespace Go.Proofs.Ytdinhkcdllmmkaa
open Go.RowKit

set_option maxHeartbeats 1000000 in
theorem roomy_b (a : Option Addr) (l c M : Nat) (X : Int) (f : Nat → Nat) (hX : X = (M : Int)) (hl : l ≤ 140737488351232) (w : World) (ra : RowF w a f l) :
    Calls Try.prog 16 #[.slice a l c, .int .u8 X] w fun e w' => e = .returned (.slice (some ⟨w.heap.size, 0, none⟩) (l + 80) (l + 80)) ∧ RowB w' w.heap.size (roomF f l M) (l + 80) ∧ Below w.heap.size w w' := by
  subst hX
  go_enter Try.func16, Try.ntmps16
  go_wp2_with fail
  obtain ⟨w3, cur, hrun, hg, hcs, hb3⟩ := make_bytes_c w (l + 80) ((l : Int) + 80) (by omega) (by omega)
  rw [hrun]
  clear hrun
  obtain ⟨G, eG⟩ : ∃ G, G = w.heap.size := ⟨_, rfl⟩
  have hG : w.heap.size ≤ G := by omega
  have EG : Hid (G = w.heap.size) := eG
  rw [← eG]
  rw [← eG] at hg
  clear eG
  go_wp2_with fail
  obtain ⟨w4, C0, hrun, hg4, hC0, hQ0, hb4⟩ := copy_bytes (c := c) (ra.below hb3) hg hcs (by omega) hG hb3
  rw [hrun]
  clear hrun hg hcs hb3 ra
  have hQ1 : ∀ q, q < l → C0[q]? = some (.int .u8 ((roomF f l M q : Nat) : Int)) := fun q hq => by rw [hQ0 q hq]; unfold roomF; rw [if_pos hq]
  have HQ1 : Hid (∀ q, q < l → C0[q]? = some (.int .u8 ((roomF f l M q : Nat) : Int))) := hQ1
  have HG4 : Hid (w4.heap[G]? = some (.cells C0 5 (0, 0))) := hg4
  clear hQ0 hQ1 hg4
  unfold goInt
  go_wp2_with fail
  go_loopw [6] (fun i wr => ∃ (j : Nat) (C : Array Value), l ≤ j ∧ j ≤ l + 80 ∧ i = .int .i64 (j : Int) ∧ C.size = l + 80 ∧ Hid (wr.heap[G]? = some (.cells C 5 (0, 0))) ∧ Hid (∀ q, q < j → C[q]? = some (.int .u8 ((roomF f l M q : Nat) : Int))) ∧ Below w.heap.size w wr) (fun i _ => l + 80 - (intOf i).toNat)
  case atStart => exact ⟨l, C0, by omega, by omega, rfl, hC0, HG4, HQ1, hb4⟩
  case round =>
    obtain ⟨j, C, hj1, hj2, rfl, hC, HG, HQ, hB⟩ := hrel
    clear HQ1 HG4 hC0 hb4
    by_cases hlt : j < l + 80
    · have c3' : wr.cell? ⟨G, j, none⟩ = some (C[j]'(by omega)) := by rw [cell_of_row wr G j C 5 (0, 0) HG.out]; simp
      have fz : wr.frozen? ⟨G, j, none⟩ = false := by simp [World.frozen?, HG.out]
      have hi1 : (j : Int) < (l : Int) + 80 := by omega
      have HM : Hid (M = roomF f l M j) := by show _ = _; unfold roomF; rw [if_neg (by omega)]
      go_wp2_with fail
      have hs := fill_step (g := roomF f l M) (M := l + 80 - (intOf (Value.int IntKind.i64 ((j : Int) + 1))).toNat < l + 80 - (intOf (Value.int IntKind.i64 (j : Int))).toNat) hj1 hlt hC hG HG.out HQ.out hB (by simp [intOf]; omega)
      rw [← HM.out] at hs
      exact hs
    · go_wp2_with fail
      go_ret
      refine ⟨?_, ?_, hB⟩
      · rw [EG.out]; rfl
      · rw [← EG.out]
        have : j = l + 80 := by omega
        exact ⟨C, HG.out, hC, fun i hi => HQ.out i (by omega)⟩


theorem newcell_of {X : World} {b : Nat} {v : Value} (h : X.heap[b]? = some (.cells #[v] 31 (0, 0))) : ∀ j u, [v][j]? = some u → X.cell? ((⟨b, 0, none⟩ : Addr).add j) = some u := by
  intro j u hj
  match j, hj with
  | 0, hj => simp at hj; subst hj; rw [show (⟨b, 0, none⟩ : Addr).add 0 = ⟨b, 0, none⟩ from by simp [Addr.add], cell_of_row X b 0 _ 31 (0, 0) h]; rfl
/-- What is the call's own stays while another list grows that begins otherwise. -/
theorem own_keep2 {X w1 : World} {B k : Nat} {v v' : Value} {xs : List Value} (h : X.ownsRow B 31 1 v k xs) (hgrow : X.grownBy w1 v'.ownBlock) (hap : ∀ q, v.ownBlock = some q → v'.ownBlock ≠ some q) : w1.ownsRow B 31 1 v k xs := by
  obtain ⟨h1, h2⟩ := h
  refine ⟨h1, ?_⟩
  rcases h2 with h2 | ⟨g, cap, cur, hv, hg, hh, r⟩
  · exact Or.inl h2
  · refine Or.inr ⟨g, cap, cur, hv, hg, ?_, r⟩
    rw [hgrow.block g (Array.getElem?_eq_some_iff.1 hh).1 (fun e => hap g (by rw [hv]; rfl) e.symm)]; exact hh
theorem own_apart {X : World} {B B' k k' : Nat} {v v' : Value} {xs xs' : List Value} (h : X.ownsRow B 31 1 v k xs) (h' : X.ownsRow B' 31 1 v' k' xs') (hk : k' = 0 → v' = .slice none 0 0) (hne : 1 ≤ k' → 1 ≤ k ∧ xs[0]? ≠ xs'[0]?) : ∀ q, v.ownBlock = some q → v'.ownBlock ≠ some q := by
  intro q e1 e2
  by_cases k0 : k' = 0
  · rw [hk k0] at e2; cases e2
  · obtain ⟨hk1, hx⟩ := hne (by omega)
    obtain ⟨g, c, rfl, _, _, _, hc⟩ := own_cells h hk1
    obtain ⟨g', c', rfl, _, _, _, hc'⟩ := own_cells h' (by omega)
    injection e1 with e1
    injection e2 with e2
    have eg : g = g' := e1.trans e2.symm
    subst eg
    have l1 : 0 < xs.length := by have := h.1; omega
    have l2 : 0 < xs'.length := by have := h'.1; omega
    have q1 := hc 0 _ (List.getElem?_eq_getElem l1)
    have q2 := hc' 0 _ (List.getElem?_eq_getElem l2)
    rw [q1] at q2
    apply hx
    rw [List.getElem?_eq_getElem l1, List.getElem?_eq_getElem l2]; exact q2
theorem keep5 {X w1 : World} {B k p : Nat} {v : Value} {xs : List Value} {R : Array Value} (own : X.ownsRow B 31 1 v k xs) (hgrow : X.grownBy w1 v.ownBlock) (hp : X.heap[p]? = some (.cells R 5 (0, 0))) : w1.heap[p]? = some (.cells R 5 (0, 0)) := by
  have hne : some p ≠ v.ownBlock := by
    rcases own.2 with ⟨rfl, _⟩ | ⟨g, cap, cur, rfl, _, hh, _⟩
    · intro e; cases e
    · intro e
      injection e with e
      subst e
      rw [show X.heap[p]? = _ from hh] at hp
      injection hp with hp; injection hp with _ e2 _
      exact absurd e2 (by decide)
  rw [hgrow.block p (Array.getElem?_eq_some_iff.1 hp).1 hne]; exact hp
theorem RowB.up {w w' : World} {G n : Nat} {f : Nat → Nat} (h : RowB w G f n) (hb : Below w.heap.size w w') : RowB w' G f n := by
  obtain ⟨C, h1, h2⟩ := h
  exact ⟨C, (hb.block _ (Array.getElem?_eq_some_iff.1 h1).1).trans h1, h2⟩
theorem RowB.grow {X w1 : World} {B k G n : Nat} {v : Value} {xs : List Value} {f : Nat → Nat} (h : RowB X G f n) (own : X.ownsRow B 31 1 v k xs) (hgrow : X.grownBy w1 v.ownBlock) : RowB w1 G f n := by
  obtain ⟨C, h1, h2⟩ := h
  exact ⟨C, keep5 own hgrow h1, h2⟩

/-- Both lists, i rows each: the whole rows, and their heads; the row t in block G t. -/
structure Both (w : World) (D : Nat) (vf vo : Value) (xf xo : List Value) (G K : Nat → Nat) (A : Nat → Nat → Nat) (i : Nat) : Prop where
  full : w.ownsRow D 31 1 vf i xf
  own : w.ownsRow D 31 1 vo i xo
  nil : i = 0 → vf = .slice none 0 0 ∧ vo = .slice none 0 0
  af : ∀ t, t < i → xf[t]? = some (.slice (some ⟨G t, 0, none⟩) (K t + 80) (K t + 80))
  ao : ∀ t, t < i → xo[t]? = some (.slice (some ⟨G t, 0, none⟩) (K t) (K t + 80))
  row : ∀ t, t < i → RowB w (G t) (roomF (A t) (K t) 9) (K t + 80)
theorem Both.start (w : World) (D : Nat) (G K : Nat → Nat) (A : Nat → Nat → Nat) : Both w D (.slice none 0 0) (.slice none 0 0) [] [] G K A 0 :=
  ⟨World.ownsRow_nil _ _ _ _, World.ownsRow_nil _ _ _ _, fun _ => ⟨rfl, rfl⟩, fun t h => by omega, fun t h => by omega, fun t h => by omega⟩
theorem Both.up {w w' : World} {D i : Nat} {vf vo : Value} {xf xo : List Value} {G K : Nat → Nat} {A : Nat → Nat → Nat} (h : Both w D vf vo xf xo G K A i) (hb : Below w.heap.size w w') : Both w' D vf vo xf xo G K A i :=
  ⟨own_up h.full hb, own_up h.own hb, h.nil, h.af, h.ao, fun t ht => (h.row t ht).up hb⟩
theorem Both.ne {w : World} {D i : Nat} {vf vo : Value} {xf xo : List Value} {G K : Nat → Nat} {A : Nat → Nat → Nat} (h : Both w D vf vo xf xo G K A i) (hi : 1 ≤ i) : xf[0]? ≠ xo[0]? := by
  rw [h.af 0 (by omega), h.ao 0 (by omega)]
  intro e; injection e with e; injection e with _ e _; omega
/-- The first append, then the second one, in whatever worlds between. -/
theorem Both.step {w X1 w5 X2 w6 : World} {D i q : Nat} {vf vo v5 v6 : Value} {xf xo : List Value} {G K : Nat → Nat} {A : Nat → Nat → Nat} (h : Both w D vf vo xf xo G K A i) (hq : RowB w q (roomF (A i) (K i) 9) (K i + 80))
    (b1 : Below w.heap.size w X1) (o5 : w5.ownsRow D 31 1 v5 (i + 1) (xf ++ [.slice (some ⟨q, 0, none⟩) (K i + 80) (K i + 80)])) (g5 : X1.grownBy w5 vf.ownBlock)
    (b2 : Below w5.heap.size w5 X2) (o6 : w6.ownsRow D 31 1 v6 (i + 1) (xo ++ [.slice (some ⟨q, 0, none⟩) (K i) (K i + 80)])) (g6 : X2.grownBy w6 vo.ownBlock) :
    Both w6 D v5 v6 (xf ++ [.slice (some ⟨q, 0, none⟩) (K i + 80) (K i + 80)]) (xo ++ [.slice (some ⟨q, 0, none⟩) (K i) (K i + 80)]) (fun t => if t = i then q else G t) K A (i + 1) := by
  have h1 := h.up b1
  have lf : xf.length = i := by have := h.full.1; omega
  have lo : xo.length = i := by have := h.own.1; omega
  have fo : X1.ownsRow D 31 1 vo i xo := h1.own
  have ap1 := own_apart fo h1.full (fun e => (h.nil e).1) (fun hi => ⟨hi, (h1.ne hi).symm⟩)
  have fo5 : w5.ownsRow D 31 1 vo i xo := own_keep2 fo g5 ap1
  have fo6 : X2.ownsRow D 31 1 vo i xo := own_up fo5 b2
  have o5' : X2.ownsRow D 31 1 v5 (i + 1) _ := own_up o5 b2
  have ap2 := own_apart o5' fo6 (fun e => (h.nil e).2) (fun hi => ⟨by omega, by
    rw [List.getElem?_append_left (by omega)]; exact h.ne hi⟩)
  have rows : ∀ g f n, RowB w g f n → RowB w6 g f n := fun g f n hr => ((((hr.up b1).grow h1.full g5).up b2).grow fo6 g6)
  refine ⟨own_keep2 o5' g6 ap2, o6, fun e => by omega, fun t ht => ?_, fun t ht => ?_, fun t ht => ?_⟩
  · by_cases e : t = i
    · simp only [if_pos e]; rw [List.getElem?_append_right (by omega), lf, e, Nat.sub_self]; rfl
    · simp only [if_neg e]; rw [List.getElem?_append_left (by omega)]; exact h.af t (by omega)
  · by_cases e : t = i
    · simp only [if_pos e]; rw [List.getElem?_append_right (by omega), lo, e, Nat.sub_self]; rfl
    · simp only [if_neg e]; rw [List.getElem?_append_left (by omega)]; exact h.ao t (by omega)
  · by_cases e : t = i
    · simp only [if_pos e]; rw [e]; exact rows _ _ _ hq
    · simp only [if_neg e]; exact rows _ _ _ (h.row t (by omega))
/-- The heads, as rows of whatever lengths. -/
theorem Both.matL {w : World} {D i : Nat} {vf vo : Value} {xf xo : List Value} {G K : Nat → Nat} {A : Nat → Nat → Nat} (h : Both w D vf vo xf xo G K A i) : ∃ a c, vo = .slice a i c ∧ MatL w a A K i :=
  RowsIn.matL (W := w) (fun t ht => by
    refine ⟨_, _, h.ao t ht, by omega, ?_⟩
    obtain ⟨C, h1, h2, h3⟩ := h.row t ht
    exact Or.inr ⟨G t, 0, rfl, fun j hj => by
      rw [Nat.zero_add, cell_of_row w (G t) j C 5 (0, 0) h1, h3 j (by omega)]; unfold roomF; rw [if_pos hj]⟩) h.own (Below.refl _ _)
end Go.Proofs.Ytdinhkcdllmmkaa
