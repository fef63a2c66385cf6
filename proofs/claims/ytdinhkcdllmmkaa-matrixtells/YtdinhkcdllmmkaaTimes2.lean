/-
  COLUMNOF, TIMES of the program: their contracts where the matrices fit.
-/
import Derived.Test.YtdinhkcdllmmkaaWiden
namespace Go.Proofs.Ytdinhkcdllmmkaa
open Go.RowKit

theorem dotN_xs (f g : Nat → Nat) (n : Nat) : Gf.dotN f g n = Gf.xs (fun l => Gf.mul (f l) (g l)) n := by
  induction n with
  | zero => rfl
  | succ n ih => show Gf.dotN f g n ^^^ _ = Gf.xs _ n ^^^ _; rw [ih]

/-- A row of bytes in a block of its own. -/
def RowB (w : World) (G : Nat) (f : Nat → Nat) (n : Nat) : Prop := ∃ C, w.heap[G]? = some (.cells C 5 (0, 0)) ∧ C.size = n ∧ ∀ t, t < n → C[t]? = some (.int .u8 ((f t : Nat) : Int))
theorem RowB.rowF {w : World} {G n : Nat} {f : Nat → Nat} (h : RowB w G f n) : RowF w (some ⟨G, 0, none⟩) f n := by
  obtain ⟨C, h1, _, h3⟩ := h
  exact Or.inr ⟨G, 0, rfl, fun i hi => by rw [Nat.zero_add, cell_of_row w G i C 5 (0, 0) h1]; exact h3 i hi⟩
theorem RowB.set {w : World} {G n : Nat} {f : Nat → Nat} (h : RowB w G f n) {ad : Addr} (hne : G ≠ ad.block) (u : Value) : RowB (w.setCell ad u) G f n := by
  obtain ⟨C, h1, h2⟩ := h
  exact ⟨C, by rw [Below.heap_setCell _ _ _ _ hne]; exact h1, h2⟩
theorem RowB.alike {w w' : World} {G n : Nat} {f : Nat → Nat} (h : RowB w G f n) (e : Alike w w') : RowB w' G f n := by
  obtain ⟨C, h1, h2⟩ := h
  exact ⟨C, by rw [e.heap]; exact h1, h2⟩

set_option maxHeartbeats 1000000 in
theorem column_any (a : Option Addr) (m n c q : Nat) (A : Nat → Nat → Nat) (hm1 : 1 ≤ m) (hm : m ≤ 64) (hq : q < n) (w : World) (ra : MatF w a A m n) :
    Calls Try.prog 34 #[.slice a m c, .int .i64 (q : Int)] w fun e w' => ∃ G, e = .returned (.slice (some ⟨G, 0, none⟩) m m) ∧ w.heap.size ≤ G ∧ RowB w' G (fun i => A i q) m ∧ Below w.heap.size w w' := by
  obtain ⟨p, o, rfl, q1⟩ := ra.at' hm1
  have Q1 : Hid (∀ i, i < m → ∃ ra rc, w.cell? ⟨p, o + i, none⟩ = some (.slice ra n rc) ∧ n ≤ rc ∧ RowF w ra (A i) n) := q1
  clear q1 ra
  have hi2 : (q : Int) < (n : Int) := by omega
  go_enter Try.func34, Try.ntmps34
  go_wp2_with fail
  obtain ⟨w3, cur, hrun, hg, hcs, hb3⟩ := make_bytes w m (by omega)
  rw [hrun]
  clear hrun
  obtain ⟨G, eG⟩ : ∃ G, G = w.heap.size := ⟨_, rfl⟩
  have hGB : w.heap.size ≤ G := by omega
  have HG0 : Hid (w3.heap[G]? = some (.cells cur 5 (0, 0))) := by rw [eG]; exact hg
  rw [← eG]
  clear eG hg
  go_wp2_with fail
  go_loopw [13] (fun x wr => ∃ (k : Nat) (C : Array Value), k ≤ m ∧ x = .int .i64 (k : Int) ∧ C.size = m ∧ Hid (wr.heap[G]? = some (.cells C 5 (0, 0))) ∧ Hid (∀ t, t < k → C[t]? = some (.int .u8 ((A t q : Nat) : Int))) ∧ Hid (Below w.heap.size w wr)) (fun x _ => m - (intOf x).toNat)
  case atStart => exact ⟨0, cur, by omega, rfl, hcs, HG0, fun t ht => by omega, hb3⟩
  case round =>
    obtain ⟨k, C, hk, rfl, hC, HG, HC, HB⟩ := hrel
    clear HG0 hb3 hcs
    by_cases hlt : k < m
    · have hi1 : (k : Int) < (m : Int) := by omega
      obtain ⟨ra, rc, h1, _, h3⟩ := Q1.out k hlt
      obtain ⟨pr, po, rfl, h4⟩ : ∃ pr po, ra = some ⟨pr, po, none⟩ ∧ ∀ i, i < n → w.cell? ⟨pr, po + i, none⟩ = some (.int .u8 ((A k i : Nat) : Int)) := by
        rcases h3 with h3 | h3
        · exfalso; omega
        · exact h3
      have c1 : wr.cell? ⟨p, o + k, none⟩ = some (.slice (some ⟨pr, po, none⟩) n rc) := cell_later HB.out h1
      have c2 : wr.cell? ⟨pr, po + q, none⟩ = some (.int .u8 ((A k q : Nat) : Int)) := cell_later HB.out (h4 q hq)
      obtain ⟨u, c3⟩ : ∃ u, wr.cell? ⟨G, k, none⟩ = some u := ⟨C[k]'(by omega), by rw [cell_of_row wr G k C 5 (0, 0) HG.out]; simp⟩
      have fz : wr.frozen? ⟨G, k, none⟩ = false := by simp [World.frozen?, HG.out]
      clear h1 h3 h4
      go_wp2_with fail
      refine ⟨⟨k + 1, C.setIfInBounds k (.int .u8 ((A k q : Nat) : Int)), by omega, by go_num, by simp [hC], ?_, ?_, HB.out.setCell hGB _⟩, by simp [intOf]; omega⟩
      · show _ = _
        rw [setCell_eq_setRow wr G k C 5 (0, 0) _ HG.out]; exact setRow_heap wr G C _ 5 (0, 0) HG.out
      · intro t ht
        by_cases e : t = k
        · subst e; rw [Array.getElem?_setIfInBounds_self_of_lt (by omega)]
        · rw [Array.getElem?_setIfInBounds_ne (by omega)]; exact HC.out t (by omega)
    · have hkm : k = m := by omega
      subst hkm
      have i1 : decide ((k : Int) < (k : Int)) = false := by simp
      go_wp2_with fail
      go_ret
      exact ⟨G, rfl, hGB, ⟨C, HG.out, hC, HC.out⟩, HB.out⟩

/-- The product's places that are reckoned: the columns before c, and column c's before row s. -/
def prodPart (M : Nat → Nat → Nat) (c s : Nat) : Nat → Nat → Nat := fun i j => if j < c ∨ (j = c ∧ i < s) then M i j else 0

set_option maxHeartbeats 4000000 in
theorem times_any (a0 a1 : Option Addr) (b m k n c0 c1 : Nat) (A B : Nat → Nat → Nat) (hA : Gf.B8 A) (hB : Gf.B8 B) (hm1 : 1 ≤ m) (hm : m ≤ 12) (hk1 : 1 ≤ k) (hk : k ≤ 12) (hn1 : 1 ≤ n) (hn : n ≤ 12) (w : World) (ra : MatF w a0 A m k) (rb : MatF w a1 B k n) (hT : HasTab w b) :
    Calls Try.prog 17 #[.pointer (some ⟨b, 0, none⟩), .slice a0 m c0, .slice a1 k c1] w fun e w' => ∃ g P, e = .returned (.tuple #[.slice (some ⟨g, 0, none⟩) m m, .bool true]) ∧ Grid w' w.heap.size g P (Gf.mm k A B) m n m ∧ Below w.heap.size w w' := by
  obtain ⟨pa, oa, rfl, qa⟩ := ra.at' hm1
  obtain ⟨pb, ob, rfl, qb⟩ := rb.at' hk1
  obtain ⟨xa, xc, z1, _, _⟩ := qa 0 (by omega)
  obtain ⟨xb, yc, z2, _, _⟩ := qb 0 (by omega)
  rw [Nat.add_zero] at z1 z2
  have nn : ((k : Int) != (k : Int)) = false := by simp
  have m0 : (0 : Int) < (m : Int) := by omega
  have k0 : (0 : Int) < (k : Int) := by omega
  have HQ : Hid (∀ i, i < m → ∃ ra rc, w.cell? ⟨pa, oa + i, none⟩ = some (.slice ra k rc) ∧ k ≤ rc ∧ RowF w ra (A i) k) := qa
  have HRb : Hid (MatF w (some ⟨pb, ob, none⟩) B k n) := rb
  have HT : Hid (HasTab w b) := hT
  clear qa qb
  go_enter Try.func17, Try.ntmps17
  go_wp2_with fail
  refine (right_yes (some ⟨pa, oa, none⟩) m k c0 A hm1 hm hk1 hk _ ra).mono ?_
  rintro e w1 ⟨rfl, rfl⟩
  go_wp2_with fail
  refine (right_yes (some ⟨pb, ob, none⟩) k n c1 B hk1 hk hn1 hn _ rb).mono ?_
  rintro e w1 ⟨rfl, rfl⟩
  go_wp2_with fail
  refine (zeros_any m n _ _ rfl rfl (by omega) (by omega) _).mono ?_
  rintro e w1 ⟨g, P, rfl, G1, B1⟩
  have G0 : Hid (Grid w1 w.heap.size g P (prodPart (Gf.mm k A B) 0 0) m n m) := G1.congr (fun i _ j _ => by unfold prodPart; rw [if_neg (by omega)])
  have HB1 : Hid (Below w.heap.size w w1) := B1
  have z3 : w1.cell? ⟨pb, ob, none⟩ = some (.slice xb n yc) := cell_later B1 z2
  clear G1 B1 ra rb hT z1 z2
  go_wp2_with fail
  clear z3
  go_loopw [41] (fun x wr => ∃ c : Nat, c ≤ n ∧ x = .int .i64 (c : Int) ∧ Hid (Grid wr w.heap.size g P (prodPart (Gf.mm k A B) c 0) m n m) ∧ Hid (Below w.heap.size w wr)) (fun x _ => n - (intOf x).toNat)
  case atStart => exact ⟨0, by omega, rfl, G0, HB1⟩
  case round =>
    obtain ⟨c, hc, rfl, HG, HB0⟩ := hrel
    clear G0 HB1
    by_cases hlt : c < n
    · have hi1 : (c : Int) < (n : Int) := by omega
      go_wp2_with fail
      refine (column_any (some ⟨pb, ob, none⟩) k n c1 c B hk1 (by omega) hlt _ (HRb.out.below HB0.out)).mono ?_
      rintro e w2 ⟨G, rfl, hG, hC, B2⟩
      have hX : Hid (∀ i, i < m → G ≠ P i) := fun i hi => by have := HG.out.lt hi; omega
      have G2 : Hid (Grid w2 w.heap.size g P (prodPart (Gf.mm k A B) c 0) m n m) := HG.out.up B2
      have HC2 : Hid (RowB w2 G (fun i => B i c) k) := hC
      have B3 : Hid (Below w.heap.size w w2) := HB0.out.trans (B2.mono HB0.out.size)
      clear HG HB0 hC B2 hG
      go_wp2_with fail
      go_loopw [49] (fun x wr => ∃ s : Nat, s ≤ m ∧ x = .int .i64 (s : Int) ∧ Hid (Grid wr w.heap.size g P (prodPart (Gf.mm k A B) c s) m n m) ∧ Hid (RowB wr G (fun i => B i c) k) ∧ Hid (Below w.heap.size w wr)) (fun x _ => m - (intOf x).toNat)
      case atStart => exact ⟨0, by omega, rfl, G2, HC2, B3⟩
      case round =>
        obtain ⟨s, hs, rfl, HG, HC, HB⟩ := hrel
        clear G2 HC2 B3
        by_cases hsm : s < m
        · have hi2 : (s : Int) < (m : Int) := by omega
          obtain ⟨ra, rc, h1, _, h3⟩ := HQ.out s hsm
          have d1 : wr.cell? ⟨pa, oa + s, none⟩ = some (.slice ra k rc) := cell_later HB.out h1
          have d2 := HG.out.tcell hsm
          have d3 := HG.out.cell hsm hlt
          have f3 := HG.out.fz hsm c
          have hT' : HasTab wr b := HT.out.up HB.out
          have R1 : RowF wr ra (A s) k := h3.below HB.out
          have R2 : RowF wr (some ⟨G, 0, none⟩) (fun i => B i c) k := HC.out.rowF
          have ev : Gf.dotN (A s) (fun i => B i c) (min k k) = Gf.mm k A B s c := by rw [Nat.min_self, dotN_xs]; rfl
          have hf : ∀ i, A s i < 256 := hA s
          have hg : ∀ i, B i c < 256 := fun i => hB i c
          have D4 : ∀ d, Calls Try.prog 35 #[.pointer (some ⟨b, 0, none⟩), .slice ra k rc, .slice (some ⟨G, 0, none⟩) k k] (wr.drewN d) fun e w' => e = .returned (.int .u8 ((Gf.mm k A B s c : Nat) : Int)) ∧ ∃ n, w' = (wr.drewN d).drewN n := fun d => by
            have := dot_any b k k rc k ra (some ⟨G, 0, none⟩) (A s) (fun i => B i c) hf hg (by omega) (by omega) (wr.drewN d) (hT'.drewN d) (R1.drewN d) (R2.drewN d)
            rwa [ev] at this
          have G3 : Hid (Grid (wr.setCell ⟨P s, c, none⟩ (.int .u8 ((Gf.mm k A B s c : Nat) : Int))) w.heap.size g P (prodPart (Gf.mm k A B) c (s + 1)) m n m) :=
            (HG.out.set (v := Gf.mm k A B s c) hsm hlt).congr (fun i _ j _ => by
              unfold upd prodPart
              by_cases e : i = s ∧ j = c
              · rw [if_pos e, if_pos (by omega), e.1, e.2]
              · rw [if_neg e]
                by_cases e2 : j < c ∨ (j = c ∧ i < s)
                · rw [if_pos e2, if_pos (by omega)]
                · rw [if_neg e2, if_neg (by omega)])
          have C3 : Hid (RowB (wr.setCell ⟨P s, c, none⟩ (.int .u8 ((Gf.mm k A B s c : Nat) : Int))) G (fun i => B i c) k) := HC.out.set (hX.out s hsm) _
          have B3 : Hid (Below w.heap.size w (wr.setCell ⟨P s, c, none⟩ (.int .u8 ((Gf.mm k A B s c : Nat) : Int)))) := HB.out.setCell (HG.out.row s hsm).1 _
          clear HG HC HB h1 h3 ev hf hg R1 R2 hT'
          go_wp2_with fail
          go_region_with (go_at_call 35; refine (D4 1).mono ?_; rintro e w2 ⟨rfl, n1, rfl⟩)
          all_goals
            go_wp2_with fail
            exact ⟨⟨s + 1, by omega, by go_num, G3.out.alike ⟨rfl, rfl, rfl, rfl⟩, C3.out.alike ⟨rfl, rfl, rfl, rfl⟩, below_alike B3.out ⟨rfl, rfl, rfl, rfl⟩⟩, by simp [intOf]; omega⟩
        · have hsm' : s = m := by omega
          have j1 : decide ((s : Int) < (m : Int)) = false := by simp; omega
          have G3 : Hid (Grid wr w.heap.size g P (prodPart (Gf.mm k A B) (c + 1) 0) m n m) := HG.out.congr (fun i hi j _ => by
            unfold prodPart
            by_cases e2 : j < c ∨ (j = c ∧ i < s)
            · rw [if_pos e2, if_pos (by omega)]
            · rw [if_neg e2, if_neg (by omega)])
          clear HG hsm'
          go_wp2_with fail
          exact ⟨⟨c + 1, by omega, by go_num, G3, HB⟩, by simp [intOf]; omega⟩
    · have hcn : c = n := by omega
      subst hcn
      have j1 : decide ((c : Int) < (c : Int)) = false := by simp
      go_wp2_with fail
      go_ret2
      exact ⟨g, P, rfl, HG.out.congr (fun i _ j hj => by unfold prodPart; rw [if_pos (Or.inl hj)]), HB0.out⟩
end Go.Proofs.Ytdinhkcdllmmkaa
