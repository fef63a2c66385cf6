/-
  CAUCHY of the reference: its contract.
-/
import Derived.Test.YtmhhegkpkncebaaRefId
import Derived.Test.YtmhhegkpkncebaaRefM
import Derived.Test.YtmhhegkpkncebaaPoly
namespace Go.Proofs.Ytmhhegkpkncebaa
open Go.RowKit

theorem RowsOwn.congr {w : World} {xs : List Value} {A A' : Nat → Nat → Nat} {n i : Nat} (h : RowsOwn w xs A n i) (e : ∀ t, t < i → ∀ j, j < n → A t j = A' t j) : RowsOwn w xs A' n i := by
  intro t ht
  obtain ⟨p, R, h1, h2, h3, h4⟩ := h t ht
  exact ⟨p, R, h1, h2, h3, fun j hj => by rw [h4 j hj, e t ht j hj]⟩

set_option maxHeartbeats 2000000 in
set_option maxRecDepth 100000 in
theorem rcau_own (k m : Nat) (hk1 : 1 ≤ k) (hk : k ≤ 8) (hm : k + m ≤ 12) (w : World) :
    Calls Try.prog 13 #[.int .i64 (k : Int), .int .i64 (m : Int)] w fun e w' => ∃ v xs, e = .returned v ∧ w'.ownsRow w.heap.size 54 1 v (k + m) xs ∧ RowsOwn w' xs (Gf.cau k) k (k + m) ∧ Below w.heap.size w w' := by
  obtain ⟨D, eD⟩ : ∃ D, D = w.heap.size := ⟨_, rfl⟩
  have ED : Hid (D = w.heap.size) := eD
  clear eD
  have i1 : decide ((k : Int) < 1) = false := by simp; omega
  have i2 : decide ((8 : Int) < (k : Int)) = false := by simp; omega
  have i3 : decide ((m : Int) < 0) = false := by simp
  have i4 : decide ((12 : Int) - (k : Int) < (m : Int)) = false := by simp; omega
  go_enter Try.func13, Try.ntmps13
  go_wp2_with fail
  refine (rid_own k (by omega) _).mono ?_
  rintro e w1 ⟨v1, xs1, rfl, ho1, hr1, hb1⟩
  have O1 : w1.ownsRow D 54 1 v1 (k + 0) xs1 := by rw [ED.out]; exact ho1
  have R1 : Hid (RowsOwn w1 xs1 (Gf.cau k) k (k + 0)) := hr1.congr (fun t ht j _ => by unfold Gf.cau; rw [if_pos ht])
  clear ho1 hr1
  go_wp2_with fail
  go_loopw [5, 6] (fun v i wr => ∃ (r : Nat) (xs : List Value), r ≤ m ∧ i = .int .i64 (r : Int) ∧ wr.ownsRow D 54 1 v (k + r) xs ∧ Hid (RowsOwn wr xs (Gf.cau k) k (k + r)) ∧ Below w.heap.size w wr) (fun _ i _ => m - (intOf i).toNat)
  case atStart => exact ⟨0, xs1, by omega, rfl, O1, R1, hb1⟩
  case round =>
    obtain ⟨r, xs, hr, rfl, hown, HR, hBl⟩ := hrel
    clear O1 R1 hb1
    by_cases hlt : r < m
    · have hi1 : (r : Int) < (m : Int) := by omega
      go_wp2_with fail
      obtain ⟨w3, cur, hrun, hg, hcs, hz, hb3⟩ := make_zeros wr k (by omega)
      rw [hrun]
      clear hrun
      obtain ⟨G, eG⟩ : ∃ G, G = wr.heap.size := ⟨_, rfl⟩
      have own3 := own_up hown hb3
      have HR3 : Hid (RowsOwn w3 xs (Gf.cau k) k (k + r)) := HR.out.up hb3
      have B3 : Below w.heap.size w w3 := hBl.trans (hb3.mono hBl.size)
      have HX : Hid (∀ t p, t < k + r → xs[t]? = some (.slice (some ⟨p, 0, none⟩) k k) → p ≠ G) := fun t p ht hx => by
        obtain ⟨p', R, h1, h2, _⟩ := HR.out t ht
        rw [hx] at h1
        injection h1 with h1; injection h1 with h1 _ _; injection h1 with h1; injection h1 with h1 _ _
        have := (Array.getElem?_eq_some_iff.1 h2).1
        omega
      have hGB : w.heap.size ≤ G := by rw [eG]; exact hBl.size
      have HG3 : Hid (w3.heap[G]? = some (.cells cur 5 (0, 0))) := by rw [eG]; exact hg
      have HZ : Hid (∀ q, q < k → cur[q]? = some (.int .u8 0)) := hz
      rw [← eG]
      clear eG hg hz hown HR hBl hb3
      go_wp2_with fail
      go_loopw [8] (fun j w5 => ∃ (q : Nat) (C : Array Value), q ≤ k ∧ j = .int .i64 (q : Int) ∧ C.size = k ∧ Hid (w5.heap[G]? = some (.cells C 5 (0, 0))) ∧ Hid (∀ t, t < k → C[t]? = some (.int .u8 ((if t < q then Gf.inv ((k + r) ^^^ t) else 0 : Nat) : Int))) ∧ w5.ownsRow D 54 1 u5 (k + r) xs ∧ Hid (RowsOwn w5 xs (Gf.cau k) k (k + r)) ∧ Below w.heap.size w w5) (fun j _ => k - (intOf j).toNat)
      case atStart => exact ⟨0, cur, by omega, rfl, hcs, HG3, fun t ht => by rw [HZ.out t ht, if_neg (by omega)]; rfl, own3, HR3, B3⟩
      case round =>
        obtain ⟨q, C, hq, rfl, hC, HG, HC, own5, HR5, B5⟩ := hrel
        clear HG3 HZ own3 HR3 B3 hcs
        by_cases hqk : q < k
        · have hi2 : (q : Int) < (k : Int) := by omega
          have hX : (k + r) ^^^ q < 256 := Gf.xor_lt (by omega) (by omega)
          have hx : bits .xor .u8 ((k : Int) + (r : Int)) (q : Int) = (((k + r) ^^^ q : Nat) : Int) := by
            have := xor_u8 (k + r) q (by omega) (by omega)
            rwa [show ((k + r : Nat) : Int) = (k : Int) + (r : Int) from by omega] at this
          obtain ⟨u, d2⟩ : ∃ u, wr.cell? ⟨G, q, none⟩ = some u := ⟨C[q]'(by omega), by rw [cell_of_row wr G q C 5 (0, 0) HG.out]; simp⟩
          have fz : wr.frozen? ⟨G, q, none⟩ = false := by simp [World.frozen?, HG.out]
          go_wp2_with fail
          refine (rinv_any _ hX _).mono ?_
          rintro e w7 ⟨rfl, rfl⟩
          go_wp2_with fail
          refine ⟨⟨q + 1, C.setIfInBounds q (.int .u8 ((Gf.inv ((k + r) ^^^ q) : Nat) : Int)), by omega, by go_num, by simp [hC], ?_, ?_, own_set own5 HG.out (by decide), HR5.out.set HX.out, B5.setCell hGB _⟩, by simp [intOf]; omega⟩
          · show _ = _
            rw [setCell_eq_setRow _ G q C 5 (0, 0) _ HG.out]; exact setRow_heap _ G C _ 5 (0, 0) HG.out
          · intro t ht
            by_cases e : t = q
            · subst e; rw [Array.getElem?_setIfInBounds_self_of_lt (by omega), if_pos (by omega)]
            · rw [Array.getElem?_setIfInBounds_ne (by omega), HC.out t ht]
              by_cases h : t < q
              · rw [if_pos h, if_pos (by omega)]
              · rw [if_neg h, if_neg (by omega)]
        · have HRow : Hid (∀ t, t < k → C[t]? = some (.int .u8 ((Gf.cau k (k + r) t : Nat) : Int))) := fun t ht => by
            rw [HC.out t ht, if_pos (by omega)]; unfold Gf.cau; rw [if_neg (by omega)]
          obtain ⟨i0, hi, hz0, hz1, hz2⟩ := info_parts info31
          have hsz : D ≤ wr.heap.size := by rw [ED.out]; exact B5.size
          go_wp2_with (at_builtin; refine wpList_append_own _ rfl _ _ 34 rfl D 54 i0 (.slice none 0 0) 1 24 under27 hi hz0 hz1 hz2 rfl (by decide) _ _ _ rfl (own5.alloc _) ⟨wr.heap.size, 0, none⟩ 1 1 [.slice (some ⟨G, 0, none⟩) k k] rfl rfl ?c1 ?c2 ?c3 ?c4 ?c5 ?_)
          case c1 =>
            intro j u hj
            match j, hj with
            | 0, hj => simp at hj; subst hj; simp [Addr.add]
          case c2 => intro u hu; simp at hu; subst hu; rfl
          case c3 => unfold maxLen; omega
          case c4 => omega
          case c5 => simp; omega
          intro v' w1 hown' hgrow _
          have R1 : Hid (RowsOwn w1 (xs ++ [.slice (some ⟨G, 0, none⟩) k k]) (Gf.cau k) k (k + r + 1)) := rows_step own5 HR5.out HG.out hC HRow.out hgrow
          have Bl : Below w.heap.size w w1 := below_step ED.out own5 B5 hgrow
          clear HG HC own5 HR5 B5 hgrow HRow
          go_wp2
          go_roundw
          case rel => exact ⟨r + 1, _, by omega, by go_num, hown', R1, Bl⟩
          case measure => simp [intOf]; omega
    · have hrm : r = m := by omega
      subst hrm
      have hB1 := hBl
      have O2 : wr.ownsRow w.heap.size 54 1 u5 (k + r) xs := by rw [← ED.out]; exact hown
      go_wp2_with fail
      go_ret
      exact ⟨_, xs, rfl, O2, HR.out, hB1⟩
end Go.Proofs.Ytmhhegkpkncebaa
