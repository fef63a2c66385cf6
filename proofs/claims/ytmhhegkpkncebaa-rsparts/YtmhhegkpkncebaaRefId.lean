/-
  IDENTITY of the reference: its contract.
-/
import Derived.Test.YtmhhegkpkncebaaSquare
import Derived.Test.YtmhhegkpkncebaaLin
namespace Go.Proofs.Ytmhhegkpkncebaa
open Go.RowKit

theorem rid_none (n : Int) (h : n < 1 ∨ 12 < n) (w : World) :
    Calls Try.prog 35 #[.int .i64 n] w fun e w' => e = .returned (.slice none 0 0) ∧ w' = w := by
  by_cases h1 : n < 1
  · have i1 : decide ((0 : Int) < n) = false := by simp; omega
    go_enter Try.func35, Try.ntmps35
    go_wp2_with fail
    refine wp_loop_rounds 1 ?_
    rw [rounds_succ]
    go_wp2
    go_ret
    exact ⟨rfl, rfl⟩
  · have i1 : (0 : Int) < n := by omega
    have i2 : decide (n ≤ (12 : Int)) = false := by simp; omega
    go_enter Try.func35, Try.ntmps35
    go_wp2_with fail
    refine wp_loop_rounds 1 ?_
    rw [rounds_succ]
    go_wp2
    go_ret
    exact ⟨rfl, rfl⟩

/-- Rows that are the call's own, read. -/
theorem own_matF {w : World} {B m n : Nat} {v : Value} {xs : List Value} {A : Nat → Nat → Nat} (hm : 1 ≤ m) (hown : w.ownsRow B 54 1 v m xs) (hr : RowsOwn w xs A n m) : ∃ g cap, v = .slice (some ⟨g, 0, none⟩) m cap ∧ MatF w (some ⟨g, 0, none⟩) A m n ∧ m ≤ cap := by
  rcases hown.2 with ⟨_, h0⟩ | ⟨g, cap, cur, rfl, _, hh, hcap, _, hcs, hx⟩
  · exfalso; omega
  · refine ⟨g, cap, rfl, Or.inr ⟨g, 0, rfl, fun i hi => ?_⟩, hcap⟩
    obtain ⟨p, R, h1, h2, h3, h4⟩ := hr i hi
    refine ⟨some ⟨p, 0, none⟩, n, ?_, Nat.le_refl _, Or.inr ⟨p, 0, rfl, fun j hj => ?_⟩⟩
    · rw [Nat.zero_add, cell_of_row w g i cur 54 (0, 0) hh, ← h1, ← hx, List.getElem?_take_of_lt (by omega)]; simp
    · rw [Nat.zero_add, cell_of_row w p j R 5 (0, 0) h2]; exact h4 j hj

set_option maxHeartbeats 1000000 in
set_option maxRecDepth 100000 in
theorem rid_own (n : Nat) (hn : n ≤ 12) (w : World) :
    Calls Try.prog 35 #[.int .i64 (n : Int)] w fun e w' => ∃ v xs, e = .returned v ∧ w'.ownsRow w.heap.size 54 1 v n xs ∧ RowsOwn w' xs Gf.idm n n ∧ Below w.heap.size w w' := by
  obtain ⟨B, eB⟩ : ∃ B, B = w.heap.size := ⟨_, rfl⟩
  have EB : Hid (B = w.heap.size) := eB
  clear eB
  have hn12 : (n : Int) ≤ 12 := by omega
  go_enter Try.func35, Try.ntmps35
  go_wp2_with fail
  go_loopw [3, 4] (fun v i wr => ∃ (k : Nat) (xs : List Value), k ≤ n ∧ i = .int .i64 (k : Int) ∧ wr.ownsRow B 54 1 v k xs ∧ Hid (RowsOwn wr xs Gf.idm n k) ∧ Below w.heap.size w wr) (fun _ i _ => n - (intOf i).toNat)
  case atStart => exact ⟨0, [], by omega, rfl, World.ownsRow_nil _ _ _ _, fun t ht => by omega, Below.refl _ _⟩
  case round =>
    obtain ⟨k, xs, hk, rfl, hown, HR, hB⟩ := hrel
    by_cases hlt : k < n
    · have hi1 : (k : Int) < (n : Int) := by omega
      go_wp2_with fail
      obtain ⟨w3, cur, hrun, hg, hcs, hz, hb3⟩ := make_zeros wr n (by omega)
      rw [hrun]
      clear hrun
      obtain ⟨G, eG⟩ : ∃ G, G = wr.heap.size := ⟨_, rfl⟩
      have own3 := own_up hown hb3
      have HR3 : RowsOwn w3 xs Gf.idm n k := HR.out.up hb3
      have B3 : Below w.heap.size w w3 := hB.trans (hb3.mono hB.size)
      have hX : ∀ t p, t < k → xs[t]? = some (.slice (some ⟨p, 0, none⟩) n n) → p ≠ G := fun t p ht hx => by
        obtain ⟨p', R, h1, h2, _⟩ := HR.out t ht
        rw [hx] at h1
        injection h1 with h1; injection h1 with h1 _ _; injection h1 with h1; injection h1 with h1 _ _
        have := (Array.getElem?_eq_some_iff.1 h2).1
        omega
      have hGB : w.heap.size ≤ G := by rw [eG]; exact hB.size
      rw [← eG] at hg ⊢
      clear eG hown HR hB hb3
      have own4 : (w3.setCell ⟨G, k, none⟩ (.int .u8 1)).ownsRow B 54 1 u3 k xs := own_set own3 hg (by decide)
      have H4 : Hid (RowsOwn (w3.setCell ⟨G, k, none⟩ (.int .u8 1)) xs Gf.idm n k) := HR3.set hX
      have B4 : Below w.heap.size w (w3.setCell ⟨G, k, none⟩ (.int .u8 1)) := B3.setCell hGB _
      obtain ⟨C, HG, hC4, HRow⟩ : ∃ C, Hid ((w3.setCell ⟨G, k, none⟩ (.int .u8 1)).heap[G]? = some (.cells C 5 (0, 0))) ∧ C.size = n ∧ Hid (∀ t, t < n → C[t]? = some (.int .u8 ((Gf.idm k t : Nat) : Int))) := by
        refine ⟨cur.setIfInBounds k (.int .u8 1), ?_, by simp [hcs], fun t ht => ?_⟩
        · show _ = _
          rw [setCell_eq_setRow w3 G k cur 5 (0, 0) _ hg]; exact setRow_heap w3 G cur _ 5 (0, 0) hg
        · unfold Gf.idm
          by_cases e : t = k
          · subst e; rw [Array.getElem?_setIfInBounds_self_of_lt (by omega), if_pos rfl]; rfl
          · rw [Array.getElem?_setIfInBounds_ne (by omega), hz t ht, if_neg (fun e' => e e'.symm)]; rfl
      obtain ⟨u, d2⟩ : ∃ u, w3.cell? ⟨G, k, none⟩ = some u := ⟨cur[k]'(by omega), by rw [cell_of_row w3 G k cur 5 (0, 0) hg]; simp⟩
      have fz : w3.frozen? ⟨G, k, none⟩ = false := by simp [World.frozen?, hg]
      have hsz : B ≤ w3.heap.size := by rw [EB.out]; exact B3.size
      clear hg hz own3 HR3 B3 hX hcs
      obtain ⟨i0, hi, hz0, hz1, hz2⟩ := info_parts info31
      go_wp2_with (at_builtin; refine wpList_append_own _ rfl _ _ 34 rfl B 54 i0 (.slice none 0 0) 1 24 under27 hi hz0 hz1 hz2 rfl (by decide) _ _ _ rfl (own4.alloc _) ⟨w3.heap.size, 0, none⟩ 1 1 [.slice (some ⟨G, 0, none⟩) n n] rfl rfl ?c1 ?c2 ?c3 ?c4 ?c5 ?_)
      case c1 =>
        intro j u hj
        match j, hj with
        | 0, hj => simp at hj; subst hj; simp [Addr.add, World.cell?_alloc_at, World.setCell]
      case c2 => intro u hu; simp at hu; subst hu; rfl
      case c3 => unfold maxLen; omega
      case c4 => omega
      case c5 => simp [World.setCell]; omega
      intro v' w1 hown' hgrow _
      have R1 : Hid (RowsOwn w1 (xs ++ [.slice (some ⟨G, 0, none⟩) n n]) Gf.idm n (k + 1)) := rows_step own4 H4.out HG.out hC4 HRow.out hgrow
      have Bl : Below w.heap.size w w1 := below_step EB.out own4 B4 hgrow
      clear HG own4 H4 B4 hgrow HRow
      go_wp2
      go_roundw
      case rel => exact ⟨k + 1, _, by omega, by go_num, hown', R1, Bl⟩
      case measure => simp [intOf]; omega
    · have hkn : k = n := by omega
      subst hkn
      have hB1 := hB
      have O1 : wr.ownsRow w.heap.size 54 1 u3 k xs := by rw [← EB.out]; exact hown
      have i1 : decide ((k : Int) < (k : Int)) = false := by simp
      go_wp2_with fail
      go_ret
      exact ⟨_, xs, rfl, O1, HR.out, hB1⟩
theorem rid_any (n : Nat) (hn1 : 1 ≤ n) (hn : n ≤ 12) (w : World) :
    Calls Try.prog 35 #[.int .i64 (n : Int)] w fun e w' => ∃ g cap, e = .returned (.slice (some ⟨g, 0, none⟩) n cap) ∧ MatF w' (some ⟨g, 0, none⟩) Gf.idm n n ∧ n ≤ cap ∧ Below w.heap.size w w' :=
  (rid_own n hn w).mono fun e w' ⟨v, xs, he, ho, hr, hb⟩ => by
    obtain ⟨g, cap, hv, hM, hc⟩ := own_matF hn1 ho hr
    exact ⟨g, cap, by rw [he, hv], hM, hc, hb⟩
end Go.Proofs.Ytmhhegkpkncebaa
