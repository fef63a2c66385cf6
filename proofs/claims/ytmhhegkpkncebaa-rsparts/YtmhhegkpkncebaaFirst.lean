/-
  FIRSTOFEACH of the program: the first k fragments of other places.
-/
import Derived.Test.YtmhhegkpkncebaaInForm
namespace Go.Proofs.Ytmhhegkpkncebaa
open Go.RowKit

/-- Which of n places are the first k of other ones. -/
def fst (A : Nat → Int) (k : Nat) : Nat → List Nat
  | 0 => []
  | n + 1 => if (fst A k n).length = k ∨ ∃ j ∈ fst A k n, A j = A n then fst A k n else fst A k n ++ [n]
theorem fst_old {A : Nat → Int} {k n : Nat} (h : (fst A k n).length = k ∨ ∃ j ∈ fst A k n, A j = A n) : fst A k (n + 1) = fst A k n := by
  show (if _ then _ else _) = _; rw [if_pos h]
theorem fst_new {A : Nat → Int} {k n : Nat} (h1 : (fst A k n).length ≠ k) (h2 : ∀ j ∈ fst A k n, A j ≠ A n) : fst A k (n + 1) = fst A k n ++ [n] := by
  show (if _ then _ else _) = _
  rw [if_neg]
  rintro (h | ⟨j, hj, e⟩)
  · exact h1 h
  · exact h2 j hj e
theorem fst_stop {A : Nat → Int} {k t : Nat} (h : (fst A k t).length = k) : ∀ d, fst A k (t + d) = fst A k t
  | 0 => rfl
  | d + 1 => by
    have := fst_stop h d
    show fst A k (t + d + 1) = _
    rw [fst_old (Or.inl (by rw [this]; exact h)), this]
theorem fst_len (A : Nat → Int) (k : Nat) : ∀ n, (fst A k n).length ≤ k
  | 0 => Nat.zero_le _
  | n + 1 => by
    have ih := fst_len A k n
    by_cases h : (fst A k n).length = k ∨ ∃ j ∈ fst A k n, A j = A n
    · rw [fst_old h]; exact ih
    · have h1 : (fst A k n).length ≠ k := fun e => h (Or.inl e)
      rw [fst_new h1 (fun j hj e => h (Or.inr ⟨j, hj, e⟩)), List.length_append]
      simp; omega
theorem fst_lt (A : Nat → Int) (k : Nat) : ∀ n, ∀ j ∈ fst A k n, j < n
  | 0 => fun j hj => by simp [fst] at hj
  | n + 1 => fun j hj => by
    have ih := fst_lt A k n
    by_cases h : (fst A k n).length = k ∨ ∃ j ∈ fst A k n, A j = A n
    · rw [fst_old h] at hj; have := ih j hj; omega
    · rw [fst_new (fun e => h (Or.inl e)) (fun j hj e => h (Or.inr ⟨j, hj, e⟩))] at hj
      rcases List.mem_append.1 hj with h1 | h1
      · have := ih j h1; omega
      · simp at h1; omega
/-- The cells of these fragments. -/
def pc (A : Nat → Int) (D : Nat → ByteArray) : List Nat → List Value
  | [] => []
  | i :: l => .int .i64 (A i) :: .string (D i) :: pc A D l
theorem pc_append (A : Nat → Int) (D : Nat → ByteArray) (l m : List Nat) : pc A D (l ++ m) = pc A D l ++ pc A D m := by
  induction l with
  | nil => rfl
  | cons i l ih => show _ :: _ :: pc A D (l ++ m) = _; rw [ih]; rfl
theorem pc_at (A : Nat → Int) (D : Nat → ByteArray) : ∀ (l : List Nat) (i : Nat), i < l.length → (pc A D l)[i * 2]? = some (.int .i64 (A (l.getD i 0))) ∧ (pc A D l)[i * 2 + 1]? = some (.string (D (l.getD i 0)))
  | [], i, h => absurd h (Nat.not_lt_zero _)
  | x :: l, 0, _ => ⟨rfl, rfl⟩
  | x :: l, i + 1, h => by
    have := pc_at A D l i (by simpa using h)
    rw [show (i + 1) * 2 = i * 2 + 1 + 1 by omega]
    exact this
theorem getD_mem {l : List Nat} {i : Nat} (h : i < l.length) : l.getD i 0 ∈ l := by
  rw [List.getD_eq_getElem?_getD, List.getElem?_eq_getElem h]; exact List.getElem_mem h
theorem mem_getD {l : List Nat} {j : Nat} (h : j ∈ l) : ∃ i, i < l.length ∧ l.getD i 0 = j := by
  obtain ⟨i, hi, e⟩ := List.mem_iff_getElem.1 h
  exact ⟨i, hi, by rw [List.getD_eq_getElem?_getD, List.getElem?_eq_getElem hi]; exact e⟩
theorem own_partF {w : World} {B n : Nat} {v : Value} {A : Nat → Int} {D : Nat → ByteArray} {l : List Nat} (hn : n = l.length) (h : w.ownsRow B 31 2 v n (pc A D l)) :
    (v = .slice none 0 0 ∧ n = 0) ∨ ∃ g cap, v = .slice (some ⟨g, 0, none⟩) n cap ∧ B ≤ g ∧ n ≤ cap ∧ PartF w (some ⟨g, 0, none⟩) (fun i => A (l.getD i 0)) (fun i => D (l.getD i 0)) n := by
  subst hn
  rcases h.2 with h2 | ⟨g, cap, cur, hv, hg, hh, hc, _, hs, hx⟩
  · exact Or.inl h2
  · refine Or.inr ⟨g, cap, hv, hg, hc, Or.inr ⟨g, 0, rfl, fun i hi => ?_⟩⟩
    have := pc_at A D l i hi
    rw [← hx, List.getElem?_take_of_lt (by omega), List.getElem?_take_of_lt (by omega)] at this
    rw [Nat.zero_add, cell_of_row w g (i * 2) cur 31 (0, 0) hh, cell_of_row w g (i * 2 + 1) cur 31 (0, 0) hh]
    simpa using this

theorem info31p : (Try.prog.info? 31).map (fun i => (i.zero, i.size, i.bytes)) = some (some (.agg #[.int .i64 0, .string ⟨#[]⟩]), 2, 24) := by kernel_rfl
theorem under44 : Try.prog.underlying 44 = some (.slice 31) := by kernel_rfl

set_option maxHeartbeats 2000000 in
set_option maxRecDepth 100000 in
theorem first_any (b k N n c : Nat) (a : Option Addr) (A : Nat → Int) (D : Nat → ByteArray) (hk1 : 1 ≤ k) (hk : k ≤ 8) (hn : n ≤ 4194304) (w : World) (hC : IsCode w b k N) (hp : PartF w a A D n) :
    Calls Try.prog 32 #[.pointer (some ⟨b, 0, none⟩), .slice a n c] w fun e w' => ∃ g cap, e = .returned (.slice (some ⟨g, 0, none⟩) (fst A k n).length cap) ∧ PartF w' (some ⟨g, 0, none⟩) (fun i => A ((fst A k n).getD i 0)) (fun i => D ((fst A k n).getD i 0)) (fst A k n).length ∧ Below w.heap.size w w' := by
  have HC : Hid (IsCode w b k N) := hC
  have HP : Hid (PartF w a A D n) := hp
  have c0 := hC.kcell
  clear hC hp
  go_enter Try.func32, Try.ntmps32
  go_wp2_with fail
  go_step3
  go_wp2_with fail
  obtain ⟨i0, hi, hz0, hz1, hz2⟩ := info_parts info31p
  obtain ⟨w1, hrun, ho1, hg1⟩ := run_make_own (P := Try.prog) w w.heap.size 44 31 i0 _ 2 under44 hi hz0 hz1 .i64 .i64 k (by rw [hz2]; omega) (by unfold maxLen; omega) (Nat.le_refl _)
  rw [hrun]
  clear hrun
  obtain ⟨G0, eG⟩ : ∃ G, G = w.heap.size := ⟨_, rfl⟩
  rw [← eG] at ho1 ⊢
  have O1 : Hid (w1.ownsRow w.heap.size 31 2 (.slice (some ⟨G0, 0, none⟩) 0 k) 0 (pc A D (fst A k 0))) := by rw [eG] at ho1 ⊢; exact ho1
  have HB1 : Hid (Below w.heap.size w w1) := (Below.refl _ _).grown hg1 (Nat.le_refl _) (fun k e => by cases e)
  clear ho1 hg1 eG c0
  go_wp2_with fail
  go_step3
  go_wp2_with fail
  go_loopw [5, 17] (fun v i wr => ∃ (t m g cap : Nat), t ≤ n ∧ i = .int .i64 (t : Int) ∧ Hid (m = (fst A k t).length) ∧ m ≤ k ∧ v = .slice (some ⟨g, 0, none⟩) m cap ∧ Hid (wr.ownsRow w.heap.size 31 2 (.slice (some ⟨g, 0, none⟩) m cap) m (pc A D (fst A k t))) ∧ Hid (Below w.heap.size w wr)) (fun _ i _ => n - (intOf i).toNat)
  case atStart => exact ⟨0, 0, G0, k, by omega, rfl, rfl, by omega, rfl, O1, HB1⟩
  case round =>
    obtain ⟨t, m, g, cap, ht, rfl, Hm, hmk, rfl, HO, HB⟩ := hrel
    clear O1 HB1
    by_cases hlt : t < n
    · have hi1 : (t : Int) < (n : Int) := by omega
      obtain ⟨p, o, rfl, q1⟩ : ∃ p off, a = some ⟨p, off, none⟩ ∧ ∀ i, i < n → wr.cell? ⟨p, off + i * 2, none⟩ = some (.int .i64 (A i)) ∧ wr.cell? ⟨p, off + i * 2 + 1, none⟩ = some (.string (D i)) := by
        rcases HP.out.up HB.out with r | r
        · exfalso; omega
        · exact r
      obtain ⟨d1, d2⟩ := q1 t hlt
      clear q1
      have g1 : (wr.alloc (.cells #[.int .i64 (A t), .string (D t)] 31)).cell? ⟨wr.heap.size, 0, none⟩ = some (.int .i64 (A t)) := World.cell?_alloc_mark wr _ 31 (0, 0) 0
      have g2 : (wr.alloc (.cells #[.int .i64 (A t), .string (D t)] 31)).cell? ⟨wr.heap.size, 1, none⟩ = some (.string (D t)) := World.cell?_alloc_mark wr _ 31 (0, 0) 1
      have BW2 : Below wr.heap.size wr (wr.alloc (.cells #[.int .i64 (A t), .string (D t)] 31)) := (Below.refl _ _).alloc (Nat.le_refl _) _
      have HBW : Hid (Below w.heap.size w (wr.alloc (.cells #[.int .i64 (A t), .string (D t)] 31))) := HB.out.alloc HB.out.size _
      have OW : Hid ((wr.alloc (.cells #[.int .i64 (A t), .string (D t)] 31)).ownsRow w.heap.size 31 2 (.slice (some ⟨g, 0, none⟩) m cap) m (pc A D (fst A k t))) := own_up HO.out BW2
      have c0 := (HC.out.up HBW.out).kcell
      clear BW2 HB HO
      by_cases hmk' : m = k
      · have he : ((m : Int) == (k : Int)) = true := by simp; omega
        have HF : Hid (fst A k n = fst A k t) := by
          have := fst_stop (A := A) (k := k) (t := t) (by rw [← Hm.out]; exact hmk') (n - t)
          rw [show t + (n - t) = n by omega] at this
          exact this
        have HPF : Hid (PartF (wr.alloc (.cells #[.int .i64 (A t), .string (D t)] 31)) (some ⟨g, 0, none⟩) (fun i => A ((fst A k n).getD i 0)) (fun i => D ((fst A k n).getD i 0)) (fst A k n).length) := by
          rcases own_partF Hm.out OW.out with ⟨h1, _⟩ | ⟨g', cap', h1, _, _, h2⟩
          · cases h1
          · injection h1 with e1 _ _; injection e1 with e1; injection e1 with e1 _ _
            subst e1
            rw [HF.out, ← Hm.out]; exact h2
        have HL : Hid (m = (fst A k n).length) := by show m = _; rw [HF.out]; exact Hm.out
        clear OW hmk'
        go_wp2_with fail
        simp only [Exit.noGoto_ret]
        go_ret
        exact ⟨g, cap, by rw [← HL.out]; rfl, HPF.out, HBW.out⟩
      · have he : ((m : Int) == (k : Int)) = false := by simp; omega
        obtain ⟨B, W, eB, eW⟩ : ∃ B W, B = wr.heap.size ∧ W = wr.alloc (.cells #[.int .i64 (A t), .string (D t)] 31) := ⟨_, _, rfl, rfl⟩
        have EB : Hid (B = wr.heap.size) := eB
        have EW : Hid (W = wr.alloc (.cells #[.int .i64 (A t), .string (D t)] 31)) := eW
        have G1 : Hid (W.cell? ⟨B, 0, none⟩ = some (.int .i64 (A t))) := by rw [eB, eW]; exact g1
        have G2 : Hid (W.cell? ⟨B, 1, none⟩ = some (.string (D t))) := by rw [eB, eW]; exact g2
        have HBW' : Hid (Below w.heap.size w W) := by rw [eW]; exact HBW.out
        have OW' : Hid (W.ownsRow w.heap.size 31 2 (.slice (some ⟨g, 0, none⟩) m cap) m (pc A D (fst A k t))) := by rw [eW]; exact OW.out
        have HL : Hid (m = (fst A k t).length) := Hm.out
        have HPF : Hid (PartF W (some ⟨g, 0, none⟩) (fun i => A ((fst A k t).getD i 0)) (fun i => D ((fst A k t).getD i 0)) m) := by
          rcases own_partF Hm.out OW'.out with ⟨h1, _⟩ | ⟨g', cap', h1, _, _, h2⟩
          · cases h1
          · injection h1 with e1 _ _; injection e1 with e1; injection e1 with e1 _ _
            subst e1
            exact h2
        clear eB eW
        go_wp2_with fail
        rw [← EB.out, ← EW.out]
        clear EB EW g1 g2 d1 d2 OW HBW Hm c0
        go_loopw [30] (fun i wr => ∃ r : Nat, r ≤ m ∧ i = .int .i64 (r : Int) ∧ Hid (∀ s, s < r → A ((fst A k t).getD s 0) ≠ A t) ∧ Hid (Below W.heap.size W wr)) (fun i _ => m - (intOf i).toNat)
        case atStart => exact ⟨0, by omega, rfl, fun s hs => by omega, Below.refl _ _⟩
        case round =>
          obtain ⟨r, hr, rfl, HN, HB⟩ := hrel
          by_cases hrm : r < m
          · have hi2 : (r : Int) < (m : Int) := by omega
            obtain ⟨p2, o2, e2, q2⟩ : ∃ p off, (some ⟨g, 0, none⟩ : Option Addr) = some ⟨p, off, none⟩ ∧ ∀ i, i < m → wr.cell? ⟨p, off + i * 2, none⟩ = some (.int .i64 (A ((fst A k t).getD i 0))) ∧ wr.cell? ⟨p, off + i * 2 + 1, none⟩ = some (.string (D ((fst A k t).getD i 0))) := by
              rcases HPF.out.up HB.out with r | r
              · exfalso; omega
              · exact r
            injection e2 with e2; injection e2 with e3 e4 _
            subst e3 e4
            obtain ⟨d1, d2⟩ := q2 r hrm
            rw [Nat.zero_add] at d1 d2
            clear q2
            obtain ⟨y, ey⟩ : ∃ y, y = (fst A k t).getD r 0 := ⟨_, rfl⟩
            rw [← ey] at d1 d2
            have EY : Hid (y = (fst A k t).getD r 0) := ey
            clear ey
            have f1 : (wr.alloc (.cells #[.int .i64 (A y), .string (D y)] 31)).cell? ⟨wr.heap.size, 0, none⟩ = some (.int .i64 (A y)) := World.cell?_alloc_mark wr _ 31 (0, 0) 0
            have BA : Hid (Below W.heap.size W (wr.alloc (.cells #[.int .i64 (A y), .string (D y)] 31))) := HB.out.alloc HB.out.size _
            have f2 : (wr.alloc (.cells #[.int .i64 (A y), .string (D y)] 31)).cell? ⟨B, 0, none⟩ = some (.int .i64 (A t)) := cell_later BA.out G1.out
            by_cases hay : A y = A t
            · have he2 : (A y == A t) = true := by simp [hay]
              have HN2 : Hid (fst A k (t + 1) = fst A k t) := fst_old (Or.inr ⟨y, by rw [EY.out]; exact getD_mem (by rw [← HL.out]; exact hrm), hay⟩)
              have H3 : Hid ((wr.alloc (.cells #[.int .i64 (A y), .string (D y)] 31)).ownsRow w.heap.size 31 2 (.slice (some ⟨g, 0, none⟩) m cap) m (pc A D (fst A k (t + 1)))) := by rw [HN2.out]; exact own_up OW'.out BA.out
              have H4 : Hid (Below w.heap.size w (wr.alloc (.cells #[.int .i64 (A y), .string (D y)] 31))) := HBW'.out.trans (BA.out.mono HBW'.out.size)
              have H5 : Hid (m = (fst A k (t + 1)).length) := by show m = _; rw [HN2.out]; exact HL.out
              clear hay HN HB
              go_wp2_with fail
              exact ⟨⟨t + 1, m, g, cap, by omega, by go_num, H5, hmk, rfl, H3, H4⟩, by simp [intOf]; omega⟩
            · have he2 : (A y == A t) = false := by simp [hay]
              have HN2 : Hid (∀ s, s < r + 1 → A ((fst A k t).getD s 0) ≠ A t) := fun s hs => by
                by_cases e : s = r
                · rw [e, ← EY.out]; exact hay
                · exact HN.out s (by omega)
              clear hay HN HB
              go_wp2_with fail
              exact ⟨⟨r + 1, by omega, by go_num, HN2, BA⟩, by simp [intOf]; omega⟩
          · have hrm' : r = m := by omega
            subst hrm'
            have i1 : decide ((r : Int) < (r : Int)) = false := by simp
            have f1 : wr.cell? ⟨B, 0, none⟩ = some (.int .i64 (A t)) := cell_later HB.out G1.out
            have f2 : wr.cell? ⟨B, 1, none⟩ = some (.string (D t)) := cell_later HB.out G2.out
            have O6 : wr.ownsRow w.heap.size 31 2 (.slice (some ⟨g, 0, none⟩) r cap) r (pc A D (fst A k t)) := own_up OW'.out HB.out
            have B6 : Hid (Below w.heap.size w wr) := HBW'.out.trans (HB.out.mono HBW'.out.size)
            have hsz : w.heap.size ≤ wr.heap.size := B6.out.size
            obtain ⟨i0, hi, hz0, hz1, hz2⟩ := info_parts info31p
            have HN2 : Hid (fst A k (t + 1) = fst A k t ++ [t]) := fst_new (by rw [← HL.out]; exact hmk') (fun j hj => by
              obtain ⟨s, hs, e⟩ := mem_getD hj
              rw [← e]; exact HN.out s (by rw [HL.out]; exact hs))
            clear HN HB
            go_wp2_with (at_builtin; refine wpList_append_own _ rfl _ _ 44 rfl w.heap.size 31 i0 (.agg #[.int .i64 0, .string ⟨#[]⟩]) 2 24 under44 hi hz0 hz1 hz2 rfl (by decide) _ _ _ rfl (O6.alloc _) ⟨wr.heap.size, 0, none⟩ 1 1 [.int .i64 (A t), .string (D t)] rfl rfl ?c1 ?c2 ?c3 ?c4 ?c5 ?_)
            case c1 =>
              intro j u hj
              match j, hj with
              | 0, hj => simp at hj; subst hj; simp [Addr.add]
              | 1, hj => simp at hj; subst hj; simp [Addr.add]
            case c2 => intro u hu; simp at hu; rcases hu with hu | hu <;> subst hu <;> rfl
            case c3 => unfold maxLen; omega
            case c4 => omega
            case c5 => simp; omega
            intro v' w8 hown' hgrow hnil
            have O8 : Hid (w8.ownsRow w.heap.size 31 2 v' (r + 1) (pc A D (fst A k (t + 1)))) := by
              rw [HN2.out, pc_append]; exact hown'
            have B8 : Hid (Below w.heap.size w w8) := (B6.out.alloc hsz _).grown hgrow (by rw [World.size_alloc]; omega) (fun k e => by
              have := (O6.lt k e).1; omega)
            have H5 : Hid (r + 1 = (fst A k (t + 1)).length) := by show _ = _; rw [HN2.out, List.length_append, ← HL.out]; rfl
            obtain ⟨g8, cap8, rfl⟩ : ∃ g8 cap8, v' = .slice (some ⟨g8, 0, none⟩) (r + 1) cap8 := by
              rcases hown'.2 with ⟨_, h0⟩ | ⟨g8, cap8, cur, hv, _⟩
              · exfalso; omega
              · exact ⟨g8, cap8, hv⟩
            clear hown' hgrow hnil O6 B6 f1 f2
            go_wp2_with fail
            exact ⟨⟨t + 1, r + 1, g8, cap8, by omega, by go_num, H5, by omega, by go_num, O8, B8⟩, by simp [intOf]; omega⟩
    · have htn : t = n := by omega
      subst htn
      have i1 : decide ((t : Int) < (t : Int)) = false := by simp
      have HPF : Hid (PartF wr (some ⟨g, 0, none⟩) (fun i => A ((fst A k t).getD i 0)) (fun i => D ((fst A k t).getD i 0)) (fst A k t).length) := by
        rcases own_partF Hm.out HO.out with ⟨h1, _⟩ | ⟨g', cap', h1, _, _, h2⟩
        · cases h1
        · injection h1 with e1 _ _; injection e1 with e1; injection e1 with e1 _ _
          subst e1
          rw [← Hm.out]; exact h2
      clear HO
      go_wp2_with fail
      simp only [Exit.noGoto_ret]
      go_ret
      exact ⟨g, cap, by rw [← Hm.out]; rfl, HPF.out, HB.out⟩
end Go.Proofs.Ytmhhegkpkncebaa
