/-
  TIMES of the reference: its contract where both are matrices that fit.
-/
import Derived.Test.YtdinhkcdllmmkaaRefRight
import Derived.Test.YtdinhkcdllmmkaaRefM
import Derived.Test.YtdinhkcdllmmkaaLin
namespace Go.Proofs.Ytdinhkcdllmmkaa
open Go.RowKit

theorem MatF.drewN {w : World} {a : Option Addr} {A : Nat → Nat → Nat} {m n : Nat} (h : MatF w a A m n) (k : Nat) : MatF (w.drewN k) a A m n := h
theorem MatF.matL {w : World} {a : Option Addr} {A : Nat → Nat → Nat} {m n : Nat} (h : MatF w a A m n) : MatL w a A (fun _ => n) m := h
theorem MatF.at {w : World} {a : Option Addr} {A : Nat → Nat → Nat} {m n i : Nat} (h : MatF w a A m n) (hi : i < m) (hn : 1 ≤ n) :
    ∃ p off pr o rc, a = some ⟨p, off, none⟩ ∧ w.cell? ⟨p, off + i, none⟩ = some (.slice (some ⟨pr, o, none⟩) n rc) ∧ ∀ j, j < n → w.cell? ⟨pr, o + j, none⟩ = some (.int .u8 ((A i j : Nat) : Int)) := by
  rcases h with h | ⟨p, off, e, hr⟩
  · exfalso; omega
  · obtain ⟨ra, rc, h1, _, h3⟩ := hr i hi
    rcases h3 with h3 | ⟨pr, o, rfl, hc⟩
    · exfalso; omega
    · exact ⟨p, off, pr, o, rc, e, h1, hc⟩

set_option maxHeartbeats 4000000 in
theorem rtimes_any (a0 a1 : Option Addr) (m k n c0 c1 : Nat) (A B : Nat → Nat → Nat) (hA : Gf.B8 A) (hB : Gf.B8 B) (hm1 : 1 ≤ m) (hm : m ≤ 12) (hk1 : 1 ≤ k) (hk : k ≤ 12) (hn1 : 1 ≤ n) (hn : n ≤ 12) (w : World) (ra : MatF w a0 A m k) (rb : MatF w a1 B k n) :
    Calls Try.prog 18 #[.slice a0 m c0, .slice a1 k c1] w fun e w' => ∃ g cap, e = .returned (.tuple #[.slice (some ⟨g, 0, none⟩) m cap, .bool true]) ∧ MatF w' (some ⟨g, 0, none⟩) (Gf.mm k A B) m n ∧ m ≤ cap ∧ Below w.heap.size w w' := by
  obtain ⟨D, eD⟩ : ∃ D, D = w.heap.size := ⟨_, rfl⟩
  have ED : Hid (D = w.heap.size) := eD
  clear eD
  obtain ⟨pa, oa, pr0, or0, rc0, rfl, z1, _⟩ := ra.at (i := 0) (by omega) hk1
  obtain ⟨pb, ob, pq0, oq0, qc0, rfl, z2, _⟩ := rb.at (i := 0) (by omega) hn1
  rw [Nat.add_zero] at z1 z2
  have nn : ((k : Int) != (k : Int)) = false := by simp
  have m0 : (0 : Int) < (m : Int) := by omega
  have k0 : (0 : Int) < (k : Int) := by omega
  go_enter Try.func18, Try.ntmps18
  go_wp2_with fail
  refine (rright_any (some ⟨pa, oa, none⟩) m c0 A (fun _ => k) true hm1 hm (fun _ _ => by omega) ⟨fun _ => ⟨hm1, hm, fun _ _ => ⟨rfl, hk1, hk⟩⟩, fun _ => rfl⟩ _ ra.matL).mono ?_
  rintro e w1 ⟨rfl, n1, rfl⟩
  go_wp2_with fail
  refine (rright_any (some ⟨pb, ob, none⟩) k c1 B (fun _ => n) true hk1 hk (fun _ _ => by omega) ⟨fun _ => ⟨hk1, hk, fun _ _ => ⟨rfl, hn1, hn⟩⟩, fun _ => rfl⟩ _ (rb.drewN n1).matL).mono ?_
  rintro e w1 ⟨rfl, n2, rfl⟩
  go_wp2_with fail
  go_loopw [6, 7] (fun v i wr => ∃ (r : Nat) (xs : List Value), r ≤ m ∧ i = .int .i64 (r : Int) ∧ wr.ownsRow D 31 1 v r xs ∧ Hid (RowsOwn wr xs (Gf.mm k A B) n r) ∧ Below w.heap.size w wr) (fun _ i _ => m - (intOf i).toNat)
  case atStart => exact ⟨0, [], by omega, rfl, World.ownsRow_nil _ _ _ _, fun t ht => by omega, below_drewN (Below.refl _ _) _⟩
  case round =>
    obtain ⟨r, xs, hr, rfl, hown, HR, hBl⟩ := hrel
    by_cases hlt : r < m
    · have hi1 : (r : Int) < (m : Int) := by omega
      have zz : wr.cell? ⟨pb, ob, none⟩ = some (.slice (some ⟨pq0, oq0, none⟩) n qc0) := cell_later hBl z2
      clear z1 z2
      go_wp2_with fail
      obtain ⟨w3, cur, hrun, hg, hcs, hz, hb3⟩ := make_zeros wr n (by omega)
      rw [hrun]
      clear hrun
      obtain ⟨G, eG⟩ : ∃ G, G = wr.heap.size := ⟨_, rfl⟩
      have own3 := own_up hown hb3
      have HR3 : Hid (RowsOwn w3 xs (Gf.mm k A B) n r) := HR.out.up hb3
      have B3 : Below w.heap.size w w3 := hBl.trans (hb3.mono hBl.size)
      have HX : Hid (∀ t p, t < r → xs[t]? = some (.slice (some ⟨p, 0, none⟩) n n) → p ≠ G) := fun t p ht hx => by
        obtain ⟨p', R, h1, h2, _⟩ := HR.out t ht
        rw [hx] at h1
        injection h1 with h1; injection h1 with h1 _ _; injection h1 with h1; injection h1 with h1 _ _
        have := (Array.getElem?_eq_some_iff.1 h2).1
        omega
      have hGB : w.heap.size ≤ G := by rw [eG]; exact hBl.size
      have HG3 : Hid (w3.heap[G]? = some (.cells cur 5 (0, 0))) := by rw [eG]; exact hg
      have HZ : Hid (∀ q, q < n → cur[q]? = some (.int .u8 0)) := hz
      rw [← eG]
      clear eG hg hz hown HR hBl hb3 zz
      go_wp2_with fail
      go_loopw [9] (fun j w5 => ∃ (q : Nat) (C : Array Value), q ≤ n ∧ j = .int .i64 (q : Int) ∧ C.size = n ∧ Hid (w5.heap[G]? = some (.cells C 5 (0, 0))) ∧ Hid (∀ t, t < n → C[t]? = some (.int .u8 ((if t < q then Gf.mm k A B r t else 0 : Nat) : Int))) ∧ w5.ownsRow D 31 1 u6 r xs ∧ Hid (RowsOwn w5 xs (Gf.mm k A B) n r) ∧ Below w.heap.size w w5) (fun j _ => n - (intOf j).toNat)
      case atStart => exact ⟨0, cur, by omega, rfl, hcs, HG3, fun t ht => by rw [HZ.out t ht, if_neg (by omega)]; rfl, own3, HR3, B3⟩
      case round =>
        obtain ⟨q, C, hq, rfl, hC, HG, HC, own5, HR5, B5⟩ := hrel
        clear HG3 HZ own3 HR3 B3 hcs
        by_cases hqn : q < n
        · have hi2 : (q : Int) < (n : Int) := by omega
          go_wp2_with fail
          go_loopw [10] (fun j w7 => ∃ (s : Nat) (C : Array Value), s ≤ k ∧ j = .int .i64 (s : Int) ∧ C.size = n ∧ Hid (w7.heap[G]? = some (.cells C 5 (0, 0))) ∧ Hid (∀ t, t < n → C[t]? = some (.int .u8 ((if t < q then Gf.mm k A B r t else if t = q then Gf.xs (fun l => Gf.mul (A r l) (B l q)) s else 0 : Nat) : Int))) ∧ w7.ownsRow D 31 1 u6 r xs ∧ Hid (RowsOwn w7 xs (Gf.mm k A B) n r) ∧ Below w.heap.size w w7) (fun j _ => k - (intOf j).toNat)
          case atStart => exact ⟨0, C, by omega, rfl, hC, HG, fun t ht => by
            rw [HC.out t ht]
            by_cases h : t < q
            · rw [if_pos h, if_pos h]
            · rw [if_neg h, if_neg h]; by_cases e : t = q
              · rw [if_pos e]; rfl
              · rw [if_neg e], own5, HR5, B5⟩
          case round =>
            obtain ⟨s, C, hs, rfl, hC, HG, HC, own5, HR5, B5⟩ := hrel
            by_cases hsk : s < k
            · obtain ⟨pa', oa', pr, o, rc, ea, h1, h2⟩ := ra.at hlt hk1
              injection ea with ea; injection ea with e1 e2 _; subst e1 e2
              obtain ⟨pb', ob', ps, o2, sc, eb, h3, h4⟩ := rb.at hsk hn1
              injection eb with eb; injection eb with e1 e2 _; subst e1 e2
              obtain ⟨X, hX⟩ : ∃ v, Gf.xs (fun l => Gf.mul (A r l) (B l q)) s = v := ⟨_, rfl⟩
              have hXl : X < 256 := by rw [← hX]; exact Gf.xs_lt (fun _ => Gf.mul_lt _ _) s
              have hxor := xor_u8 X (Gf.mul (A r s) (B s q)) hXl (Gf.mul_lt _ _)
              go_wp2_with fail
              refine wp_region_still_tail 23 (by kernel_rfl) (by kernel_rfl) ?_
              simp only [List.take_succ_cons, List.take_zero, List.drop_succ_cons, List.drop_zero]
              obtain ⟨Y, eY, yG, yo, yr, yB⟩ : ∃ Y, Y = ({ wr with drawn := wr.drawn + 1 } : World) ∧ Y.heap[G]? = some (.cells C 5 (0, 0)) ∧ Y.ownsRow D 31 1 u6 r xs ∧ RowsOwn Y xs (Gf.mm k A B) n r ∧ Below w.heap.size w Y :=
                ⟨_, rfl, HG.out, own5, HR5.out, below_drewN B5 1⟩
              rw [← eY]
              have d1 : Y.cell? ⟨pa, oa + r, none⟩ = some (.slice (some ⟨pr, o, none⟩) k rc) := cell_later yB h1
              have d2 : Y.cell? ⟨pr, o + s, none⟩ = some (.int .u8 ((A r s : Nat) : Int)) := cell_later yB (h2 s hsk)
              have d3 : Y.cell? ⟨pb, ob + s, none⟩ = some (.slice (some ⟨ps, o2, none⟩) n sc) := cell_later yB h3
              have d4 : Y.cell? ⟨ps, o2 + q, none⟩ = some (.int .u8 ((B s q : Nat) : Int)) := cell_later yB (h4 q hqn)
              have d5 : Y.cell? ⟨G, q, none⟩ = some (.int .u8 (X : Int)) := by
                rw [cell_of_row Y G q C 5 (0, 0) yG, HC.out q hqn, if_neg (Nat.lt_irrefl q), if_pos rfl, hX]
              have fz : Y.frozen? ⟨G, q, none⟩ = false := by simp [World.frozen?, yG]
              have HY : Hid (Y.heap[G]? = some (.cells C 5 (0, 0))) := yG
              have YR : Hid (RowsOwn Y xs (Gf.mm k A B) n r) := yr
              have H1 : Hid (Gf.xs (fun l => Gf.mul (A r l) (B l q)) s = X) := hX
              have s1 : (s : Int) < (k : Int) := by omega
              have hAs := hA r s
              have hBs := hB s q
              clear eY h1 h2 h3 h4 yG yr hX HG own5 HR5 B5 ra rb
              repeat still_step
              still_call (rmul_any (A r s) (B s q) hAs hBs _)
              repeat still_step
              refine wpStill_nil ?_
              go_wp2_with fail
              refine ⟨⟨s + 1, C.setIfInBounds q (.int .u8 ((X ^^^ Gf.mul (A r s) (B s q) : Nat) : Int)), by omega, by go_num, by simp [hC], ?_, ?_, own_set yo HY.out (by decide), YR.out.set HX.out, yB.setCell hGB _⟩, by simp [intOf]; omega⟩
              · show _ = _
                rw [setCell_eq_setRow Y G q C 5 (0, 0) _ HY.out]; exact setRow_heap Y G C _ 5 (0, 0) HY.out
              · intro t ht
                by_cases e : t = q
                · subst e
                  rw [Array.getElem?_setIfInBounds_self_of_lt (by omega), if_neg (Nat.lt_irrefl t), if_pos rfl, ← H1.out]; rfl
                · rw [Array.getElem?_setIfInBounds_ne (by omega), HC.out t ht, if_neg e, if_neg e]
            · have hsk' : s = k := by omega
              subst hsk'
              have HC' : Hid (∀ t, t < n → C[t]? = some (.int .u8 ((if t < q + 1 then Gf.mm s A B r t else 0 : Nat) : Int))) := fun t ht => by
                rw [HC.out t ht]
                by_cases h : t < q
                · rw [if_pos h, if_pos (by omega)]
                · by_cases e : t = q
                  · subst e; rw [if_neg h, if_pos rfl, if_pos (by omega)]; rfl
                  · rw [if_neg h, if_neg e, if_neg (by omega)]
              clear HC
              go_wp2
              go_roundw
              case rel => exact ⟨q + 1, C, by omega, by go_num, hC, HG, HC', own5, HR5, B5⟩
              case measure => simp [intOf]; omega
        · have HRow : Hid (∀ t, t < n → C[t]? = some (.int .u8 ((Gf.mm k A B r t : Nat) : Int))) := fun t ht => by
            rw [HC.out t ht, if_pos (by omega)]
          obtain ⟨i0, hi, hz0, hz1, hz2⟩ := info_parts info31
          have hsz : D ≤ wr.heap.size := by rw [ED.out]; exact B5.size
          go_wp2_with (at_builtin; refine wpList_append_own _ rfl _ _ 27 rfl D 31 i0 (.slice none 0 0) 1 24 under27 hi hz0 hz1 hz2 rfl (by decide) _ _ _ rfl (own5.alloc _) ⟨wr.heap.size, 0, none⟩ 1 1 [.slice (some ⟨G, 0, none⟩) n n] rfl rfl ?c1 ?c2 ?c3 ?c4 ?c5 ?_)
          case c1 =>
            intro j u hj
            match j, hj with
            | 0, hj => simp at hj; subst hj; simp [Addr.add]
          case c2 => intro u hu; simp at hu; subst hu; rfl
          case c3 => unfold maxLen; omega
          case c4 => omega
          case c5 => simp; omega
          intro v' w1 hown' hgrow _
          have R1 : Hid (RowsOwn w1 (xs ++ [.slice (some ⟨G, 0, none⟩) n n]) (Gf.mm k A B) n (r + 1)) := rows_step own5 HR5.out HG.out hC HRow.out hgrow
          have Bl : Below w.heap.size w w1 := below_step ED.out own5 B5 hgrow
          clear HG HC own5 HR5 B5 hgrow HRow
          go_wp2
          go_roundw
          case rel => exact ⟨r + 1, _, by omega, by go_num, hown', R1, Bl⟩
          case measure => simp [intOf]; omega
    · have hrm : r = m := by omega
      subst hrm
      have hB1 := hBl
      rcases hown.2 with ⟨_, h0⟩ | ⟨g, cap, cur, rfl, _, hh, hcap, _, hcs, hx⟩
      · exfalso; omega
      · have hM : MatF wr (some ⟨g, 0, none⟩) (Gf.mm k A B) r n := Or.inr ⟨g, 0, rfl, fun i hi => by
          obtain ⟨p, R, h1, h2, h3, h4⟩ := HR.out i hi
          refine ⟨some ⟨p, 0, none⟩, n, ?_, Nat.le_refl _, Or.inr ⟨p, 0, rfl, fun j hj => ?_⟩⟩
          · rw [Nat.zero_add, cell_of_row wr g i cur 31 (0, 0) hh, ← h1, ← hx, List.getElem?_take_of_lt (by omega)]; simp
          · rw [Nat.zero_add, cell_of_row wr p j R 5 (0, 0) h2]; exact h4 j hj⟩
        clear hh hcs hx
        go_wp2_with fail
        go_ret2
        exact ⟨g, cap, rfl, hM, hcap, hB1⟩
end Go.Proofs.Ytdinhkcdllmmkaa
