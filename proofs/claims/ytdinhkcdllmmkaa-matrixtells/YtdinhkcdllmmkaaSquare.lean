/-
  SQUARE of the laws: a matrix of n rows of n bytes out of a row of bytes, in new memory.
-/
import Derived.Test.YtdinhkcdllmmkaaMat
namespace Go.Proofs.Ytdinhkcdllmmkaa
open Go.RowKit

theorem info31 : (Try.prog.info? 31).map (fun i => (i.zero, i.size, i.bytes)) = some (some (.slice none 0 0), 1, 24) := by kernel_rfl
theorem under27 : Try.prog.underlying 27 = some (.slice 31) := by kernel_rfl
/-- 'make([]byte, n)', its noughts told. -/
theorem make_zeros (w : World) (n : Nat) (h : n ≤ 281474976710656) : ∃ w' cur, (Instr.makeSlice 31 (.int .i64 (n : Int)) (.int .i64 (n : Int))).run Try.prog w = .ok (.slice (some ⟨w.heap.size, 0, none⟩) n n) w' ∧
    w'.heap[w.heap.size]? = some (.cells cur 5 (0, 0)) ∧ cur.size = n ∧ (∀ q, q < n → cur[q]? = some (.int .u8 0)) ∧ Below w.heap.size w w' := by
  obtain ⟨i0, hi, hz0, hz1, hz2⟩ := info_parts info5
  obtain ⟨w', hrun, own, gr⟩ := run_make_full (P := Try.prog) w w.heap.size 31 5 i0 (.int .u8 0) 1 (by kernel_rfl) hi hz0 hz1 .i64 .i64 n (by rw [hz2]; omega) (by unfold maxLen; omega) (Nat.le_refl _)
  have hb : Below w.heap.size w w' := (Below.refl _ _).grown gr (Nat.le_refl _) (fun k e => by cases e)
  rcases own.2 with ⟨h1, _⟩ | ⟨g, cap, cur, h1, _, h3, _, _, h6, h7⟩
  · cases h1
  · injection h1 with e1 e2 e3
    injection e1 with e1
    injection e1 with e1 e4 e5
    subst e1 e3
    refine ⟨w', cur, hrun, h3, by omega, fun q hq => ?_, hb⟩
    have h8 : cur.toList.take (n * 1) = (madeCells (Value.int .u8 0).cells (n * 1)).toList := h7
    have h9 : (cur.toList.take (n * 1))[q]? = cur[q]? := by
      rw [List.getElem?_take_of_lt (by omega)]; simp
    rw [← h9, h8, show (Value.int .u8 0).cells = #[Value.int .u8 0] from rfl, toList_madeCells_one]
    simp [hq]

/-- The number at a place of the square. -/
def sqA (f : Nat → Nat) (l n : Nat) : Nat → Nat → Nat := fun i j => if i * n + j < l then f (i * n + j) else 0
/-- Rows of n bytes, each in a block of its own. -/
def RowsOwn (w : World) (xs : List Value) (A : Nat → Nat → Nat) (n i : Nat) : Prop :=
  ∀ t, t < i → ∃ p R, xs[t]? = some (.slice (some ⟨p, 0, none⟩) n n) ∧ w.heap[p]? = some (.cells R 5 (0, 0)) ∧ R.size = n ∧ ∀ j, j < n → R[j]? = some (.int .u8 ((A t j : Nat) : Int))

theorem own_up {w w' : World} {B e s k : Nat} {v : Value} {xs : List Value} (h : w.ownsRow B e s v k xs) (hb : Below w.heap.size w w') : w'.ownsRow B e s v k xs := by
  obtain ⟨h1, h2⟩ := h
  refine ⟨h1, ?_⟩
  rcases h2 with h2 | ⟨g, cap, cur, hv, hg, hh, r⟩
  · exact Or.inl h2
  · exact Or.inr ⟨g, cap, cur, hv, hg, (hb.block g (Array.getElem?_eq_some_iff.1 hh).1).trans hh, r⟩
theorem RowsOwn.up {w w' : World} {xs : List Value} {A : Nat → Nat → Nat} {n i : Nat} (h : RowsOwn w xs A n i) (hb : Below w.heap.size w w') : RowsOwn w' xs A n i := by
  intro t ht
  obtain ⟨p, R, h1, h2, h3⟩ := h t ht
  exact ⟨p, R, h1, (hb.block p (Array.getElem?_eq_some_iff.1 h2).1).trans h2, h3⟩
theorem own_set {w : World} {B e s k G i : Nat} {v u : Value} {xs : List Value} {C : Array Value} (h : w.ownsRow B e s v k xs) (hG : w.heap[G]? = some (.cells C 5 (0, 0))) (he : e ≠ 5) : (w.setCell ⟨G, i, none⟩ u).ownsRow B e s v k xs := by
  obtain ⟨h1, h2⟩ := h
  refine ⟨h1, ?_⟩
  rcases h2 with h2 | ⟨g, cap, cur, hv, hg, hh, r⟩
  · exact Or.inl h2
  · have hne : g ≠ G := fun e' => by subst e'; rw [hG] at hh; injection hh with hh; injection hh with _ e2 _; exact he e2.symm
    exact Or.inr ⟨g, cap, cur, hv, hg, by rw [Below.heap_setCell _ _ _ _ hne]; exact hh, r⟩
theorem RowsOwn.set {w : World} {xs : List Value} {A : Nat → Nat → Nat} {n i G q : Nat} {u : Value} (h : RowsOwn w xs A n i) (hG : ∀ t p, t < i → xs[t]? = some (.slice (some ⟨p, 0, none⟩) n n) → p ≠ G) : RowsOwn (w.setCell ⟨G, q, none⟩ u) xs A n i := by
  intro t ht
  obtain ⟨p, R, h1, h2, h3⟩ := h t ht
  exact ⟨p, R, h1, by rw [Below.heap_setCell _ _ _ _ (hG t p ht h1)]; exact h2, h3⟩

theorem keeps5 {wr w1 : World} {B k p : Nat} {v : Value} {xs : List Value} {o : Obj} {R : Array Value} (own : wr.ownsRow B 31 1 v k xs) (hgrow : (wr.alloc o).grownBy w1 v.ownBlock) (hp : wr.heap[p]? = some (.cells R 5 (0, 0))) : w1.heap[p]? = some (.cells R 5 (0, 0)) := by
  have hlt : p < wr.heap.size := (Array.getElem?_eq_some_iff.1 hp).1
  have hne : some p ≠ v.ownBlock := by
    rcases own.2 with ⟨rfl, _⟩ | ⟨g, cap, cur, rfl, _, hh, _⟩
    · intro e; cases e
    · intro e
      injection e with e
      subst e
      rw [show wr.heap[p]? = _ from hh] at hp
      injection hp with hp; injection hp with _ e2 _
      exact absurd e2 (by decide)
  rw [hgrow.block p (by rw [World.size_alloc]; omega) hne, Below.heap_alloc _ _ _ hlt]; exact hp
theorem rows_step {wr w1 : World} {B k n G : Nat} {v : Value} {xs : List Value} {o : Obj} {C : Array Value} {A : Nat → Nat → Nat} (own : wr.ownsRow B 31 1 v k xs) (HR : RowsOwn wr xs A n k) (hG : wr.heap[G]? = some (.cells C 5 (0, 0))) (hC : C.size = n)
    (hrow : ∀ t, t < n → C[t]? = some (.int .u8 ((A k t : Nat) : Int))) (hgrow : (wr.alloc o).grownBy w1 v.ownBlock) : RowsOwn w1 (xs ++ [.slice (some ⟨G, 0, none⟩) n n]) A n (k + 1) := by
  have hlen : xs.length = k := by have := own.1; omega
  intro t ht
  by_cases e : t = k
  · subst e
    exact ⟨G, C, by rw [List.getElem?_append_right (by omega), hlen, Nat.sub_self]; rfl, keeps5 own hgrow hG, hC, hrow⟩
  · obtain ⟨p, R, h1, h2, h3⟩ := HR t (by omega)
    exact ⟨p, R, by rw [List.getElem?_append_left (by omega)]; exact h1, keeps5 own hgrow h2, h3⟩
theorem below_step {w wr w1 : World} {B k : Nat} {v : Value} {xs : List Value} {o : Obj} (hB : B = w.heap.size) (own : wr.ownsRow B 31 1 v k xs) (b5 : Below w.heap.size w wr) (hgrow : (wr.alloc o).grownBy w1 v.ownBlock) : Below w.heap.size w w1 :=
  (b5.alloc b5.size o).grown hgrow (by rw [World.size_alloc]; have := b5.size; omega) (fun k e => by have := (own.lt k e).1; omega)

set_option maxHeartbeats 1000000 in
theorem square_any (a : Option Addr) (l c n : Nat) (f : Nat → Nat) (hl : l ≤ 140737488351232) (hn1 : 1 ≤ n) (hn : n ≤ 64) (w : World) (ra : RowF w a f l) :
    Calls Try.prog 26 #[.slice a l c, .int .i64 (n : Int)] w fun e w' => ∃ g cap, e = .returned (.slice (some ⟨g, 0, none⟩) n cap) ∧ MatF w' (some ⟨g, 0, none⟩) (sqA f l n) n n ∧ n ≤ cap ∧ Below w.heap.size w w' := by
  obtain ⟨B, eB⟩ : ∃ B, B = w.heap.size := ⟨_, rfl⟩
  have EB : Hid (B = w.heap.size) := eB
  clear eB
  go_enter Try.func26, Try.ntmps26
  go_wp2_with fail
  go_loopw [5, 6] (fun v i wr => ∃ (k : Nat) (xs : List Value), k ≤ n ∧ i = .int .i64 (k : Int) ∧ wr.ownsRow B 31 1 v k xs ∧ Hid (RowsOwn wr xs (sqA f l n) n k) ∧ Below w.heap.size w wr) (fun _ i _ => n - (intOf i).toNat)
  case atStart => exact ⟨0, [], by omega, rfl, World.ownsRow_nil _ _ _ _, fun t ht => by omega, Below.refl _ _⟩
  case round =>
    obtain ⟨k, xs, hk, rfl, hown, HR, hB⟩ := hrel
    by_cases hlt : k < n
    · have hi1 : (k : Int) < (n : Int) := by omega
      go_wp2_with fail
      obtain ⟨w3, cur, hrun, hg, hcs, hz, hb3⟩ := make_zeros wr n (by omega)
      rw [hrun]
      clear hrun
      obtain ⟨G, eG⟩ : ∃ G, G = wr.heap.size := ⟨_, rfl⟩
      obtain ⟨P, hP⟩ : ∃ P, P = k * n := ⟨_, rfl⟩
      have hP1 : P ≤ 4096 := by rw [hP]; exact Nat.le_trans (Nat.mul_le_mul hk (Nat.le_refl n)) (Nat.le_trans (Nat.mul_le_mul hn hn) (by decide))
      have hw : wrap64 ((k : Int) * (n : Int)) = (P : Int) := by
        rw [show (k : Int) * (n : Int) = (P : Int) from by rw [hP]; simp]
        unfold wrap64; omega
      have HP : Hid (P = k * n) := hP
      have own3 := own_up hown hb3
      have HR3 : Hid (RowsOwn w3 xs (sqA f l n) n k) := HR.out.up hb3
      have B3 : Below w.heap.size w w3 := hB.trans (hb3.mono hB.size)
      have HX : Hid (∀ t p, t < k → xs[t]? = some (.slice (some ⟨p, 0, none⟩) n n) → p ≠ G) := fun t p ht hx => by
        obtain ⟨p', R, h1, h2, _⟩ := HR.out t ht
        rw [hx] at h1
        injection h1 with h1; injection h1 with h1 _ _; injection h1 with h1; injection h1 with h1 _ _
        have := (Array.getElem?_eq_some_iff.1 h2).1
        omega
      have hGB : w.heap.size ≤ G := by rw [eG]; exact hB.size
      have HG3 : Hid (w3.heap[G]? = some (.cells cur 5 (0, 0))) := by rw [eG]; exact hg
      have HZ : Hid (∀ q, q < n → cur[q]? = some (.int .u8 0)) := hz
      rw [← eG]
      clear eG hP hg hz hown HR hB hb3
      go_wp2_with fail
      go_loopw [8] (fun j w5 => ∃ (q : Nat) (C : Array Value), q ≤ n ∧ (q = 0 ∨ P + q ≤ l) ∧ j = .int .i64 (q : Int) ∧ C.size = n ∧ Hid (w5.heap[G]? = some (.cells C 5 (0, 0))) ∧ Hid (∀ t, t < n → C[t]? = some (.int .u8 ((if t < q then f (P + t) else 0 : Nat) : Int))) ∧ w5.ownsRow B 31 1 u5 k xs ∧ Hid (RowsOwn w5 xs (sqA f l n) n k) ∧ Below w.heap.size w w5) (fun j _ => n - (intOf j).toNat)
      case atStart => exact ⟨0, cur, by omega, Or.inl rfl, rfl, hcs, HG3, fun t ht => by rw [HZ.out t ht, if_neg (by omega)]; rfl, own3, HR3, B3⟩
      case round =>
        obtain ⟨q, C, hq, hql, rfl, hC, HG, HC, own5, HR5, B5⟩ := hrel
        clear HG3 HZ own3 HR3 B3 hcs
        by_cases hin : q < n ∧ P + q < l
        · obtain ⟨g1, g2⟩ := hin
          obtain ⟨p, o, rfl, q1⟩ : ∃ p off, a = some ⟨p, off, none⟩ ∧ ∀ i, i < l → w.cell? ⟨p, off + i, none⟩ = some (.int .u8 ((f i : Nat) : Int)) := by
            rcases ra with r | r
            · exfalso; omega
            · exact r
          have d1 : wr.cell? ⟨p, o + (P + q), none⟩ = some (.int .u8 ((f (P + q) : Nat) : Int)) := cell_later B5 (q1 (P + q) g2)
          have d2 : wr.cell? ⟨G, q, none⟩ = some (C[q]'(by omega)) := by rw [cell_of_row wr G q C 5 (0, 0) HG.out]; simp
          have fz : wr.frozen? ⟨G, q, none⟩ = false := by simp [World.frozen?, HG.out]
          have i1 : (q : Int) < (n : Int) := by omega
          have i2 : (P : Int) + (q : Int) < (l : Int) := by omega
          clear q1 ra
          go_wp2_with fail
          refine ⟨⟨q + 1, C.setIfInBounds q (.int .u8 ((f (P + q) : Nat) : Int)), by omega, Or.inr (by omega), by go_num, by simp [hC], ?_, ?_, own_set own5 HG.out (by decide), HR5.out.set HX.out, B5.setCell hGB _⟩, by simp [intOf]; omega⟩
          · show _ = _
            rw [setCell_eq_setRow wr G q C 5 (0, 0) _ HG.out]; exact setRow_heap wr G C _ 5 (0, 0) HG.out
          · intro t ht
            by_cases e : t = q
            · subst e; rw [Array.getElem?_setIfInBounds_self_of_lt (by omega), if_pos (by omega)]
            · rw [Array.getElem?_setIfInBounds_ne (by omega), HC.out t ht]
              by_cases h : t < q
              · rw [if_pos h, if_pos (by omega)]
              · rw [if_neg h, if_neg (by omega)]
        · have HRow : Hid (∀ t, t < n → C[t]? = some (.int .u8 ((sqA f l n k t : Nat) : Int))) := fun t ht => by
            rw [HC.out t ht]; unfold sqA; rw [← HP.out]
            by_cases h : t < q
            · rw [if_pos h, if_pos (by omega)]
            · rw [if_neg h, if_neg (by omega)]
          obtain ⟨i0, hi, hz0, hz1, hz2⟩ := info_parts info31
          have hsz : B ≤ wr.heap.size := by rw [EB.out]; exact B5.size
          by_cases g1 : q < n
          · have i1 : (q : Int) < (n : Int) := by omega
            have i2 : decide ((P : Int) + (q : Int) < (l : Int)) = false := by simp; omega
            go_wp2_with (at_builtin; refine wpList_append_own _ rfl _ _ 27 rfl B 31 i0 (.slice none 0 0) 1 24 under27 hi hz0 hz1 hz2 rfl (by decide) _ _ _ rfl (own5.alloc _) ⟨wr.heap.size, 0, none⟩ 1 1 [.slice (some ⟨G, 0, none⟩) n n] rfl rfl ?c1 ?c2 ?c3 ?c4 ?c5 ?_)
            case c1 =>
              intro j u hj
              match j, hj with
              | 0, hj => simp at hj; subst hj; simp [Addr.add]
            case c2 => intro u hu; simp at hu; subst hu; rfl
            case c3 => unfold maxLen; omega
            case c4 => omega
            case c5 => simp; omega
            intro v' w1 hown' hgrow _
            have R1 : Hid (RowsOwn w1 (xs ++ [.slice (some ⟨G, 0, none⟩) n n]) (sqA f l n) n (k + 1)) := rows_step own5 HR5.out HG.out hC HRow.out hgrow
            have Bl : Below w.heap.size w w1 := below_step EB.out own5 B5 hgrow
            clear HG HC own5 HR5 B5 hgrow HRow
            go_wp2
            go_roundw
            case rel => exact ⟨k + 1, _, by omega, by go_num, hown', R1, Bl⟩
            case measure => simp [intOf]; omega
          · have i1 : decide ((q : Int) < (n : Int)) = false := by simp; omega
            go_wp2_with (at_builtin; refine wpList_append_own _ rfl _ _ 27 rfl B 31 i0 (.slice none 0 0) 1 24 under27 hi hz0 hz1 hz2 rfl (by decide) _ _ _ rfl (own5.alloc _) ⟨wr.heap.size, 0, none⟩ 1 1 [.slice (some ⟨G, 0, none⟩) n n] rfl rfl ?e1 ?e2 ?e3 ?e4 ?e5 ?_)
            case e1 =>
              intro j u hj
              match j, hj with
              | 0, hj => simp at hj; subst hj; simp [Addr.add]
            case e2 => intro u hu; simp at hu; subst hu; rfl
            case e3 => unfold maxLen; omega
            case e4 => omega
            case e5 => simp; omega
            intro v' w1 hown' hgrow _
            have R1 : Hid (RowsOwn w1 (xs ++ [.slice (some ⟨G, 0, none⟩) n n]) (sqA f l n) n (k + 1)) := rows_step own5 HR5.out HG.out hC HRow.out hgrow
            have Bl : Below w.heap.size w w1 := below_step EB.out own5 B5 hgrow
            clear HG HC own5 HR5 B5 hgrow HRow
            go_wp2
            go_roundw
            case rel => exact ⟨k + 1, _, by omega, by go_num, hown', R1, Bl⟩
            case measure => simp [intOf]; omega
    · have hkn : k = n := by omega
      subst hkn
      have hB1 := hB
      rcases hown.2 with ⟨_, h0⟩ | ⟨g, cap, cur, rfl, _, hh, hcap, _, hcs, hx⟩
      · exfalso; omega
      · have hM : MatF wr (some ⟨g, 0, none⟩) (sqA f l k) k k := Or.inr ⟨g, 0, rfl, fun i hi => by
          obtain ⟨p, R, h1, h2, h3, h4⟩ := HR.out i hi
          refine ⟨some ⟨p, 0, none⟩, k, ?_, Nat.le_refl _, Or.inr ⟨p, 0, rfl, fun j hj => ?_⟩⟩
          · rw [Nat.zero_add, cell_of_row wr g i cur 31 (0, 0) hh, ← h1, ← hx, List.getElem?_take_of_lt (by omega)]; simp
          · rw [Nat.zero_add, cell_of_row wr p j R 5 (0, 0) h2]; exact h4 j hj⟩
        clear hh hcs hx
        go_wp2_with fail
        go_ret
        exact ⟨g, cap, rfl, hM, hcap, hB1⟩
end Go.Proofs.Ytdinhkcdllmmkaa
