/-
  PICKED of the reference: the first k fragments of other places; an error.
-/
import Derived.Test.YtmhhegkpkncebaaRefEnc
namespace Go.Proofs.Ytmhhegkpkncebaa
open Go.RowKit

/-- What has been seen: a row of 12 truths. -/
def SeenB (w : World) (g : Nat) (S : Nat → Bool) : Prop := ∃ C, w.heap[g]? = some (.cells C 83 (0, 0)) ∧ C.size = 12 ∧ ∀ x, x < 12 → C[x]? = some (.bool (S x))
theorem SeenB.cell {w : World} {g x : Nat} {S : Nat → Bool} (h : SeenB w g S) (hx : x < 12) : w.cell? ⟨g, x, none⟩ = some (.bool (S x)) := by
  obtain ⟨C, h1, _, h2⟩ := h
  rw [cell_of_row w g x C 83 (0, 0) h1]; exact h2 x hx
theorem SeenB.fz {w : World} {g : Nat} {S : Nat → Bool} (h : SeenB w g S) (x : Nat) : w.frozen? ⟨g, x, none⟩ = false := by
  obtain ⟨C, h1, _⟩ := h
  simp [World.frozen?, h1]
theorem SeenB.up {w w' : World} {g : Nat} {S : Nat → Bool} (h : SeenB w g S) (hb : Below w.heap.size w w') : SeenB w' g S := by
  obtain ⟨C, h1, h2⟩ := h
  exact ⟨C, (hb.block g (Array.getElem?_eq_some_iff.1 h1).1).trans h1, h2⟩
theorem SeenB.set {w : World} {g x : Nat} {S : Nat → Bool} (h : SeenB w g S) (hx : x < 12) : SeenB (w.setCell ⟨g, x, none⟩ (.bool true)) g (fun y => if y = x then true else S y) := by
  obtain ⟨C, h1, h2, h3⟩ := h
  refine ⟨C.setIfInBounds x (.bool true), by rw [setCell_eq_setRow w g x C 83 (0, 0) _ h1]; exact setRow_heap w g C _ 83 (0, 0) h1, by simp [h2], fun y hy => ?_⟩
  by_cases e : y = x
  · subst e; rw [Array.getElem?_setIfInBounds_self_of_lt (by omega)]; simp only [if_true]
  · rw [Array.getElem?_setIfInBounds_ne (by omega)]; simp only [if_neg e]; exact h3 y hy
/-- The seen ones are those that were picked. -/
def SeenR (A : Nat → Int) (l : List Nat) (S : Nat → Bool) : Prop := ∀ x : Nat, S x = true ↔ ∃ j ∈ l, A j = (x : Int)

theorem own_off {w : World} {B e s k g t : Nat} {v : Value} {xs : List Value} {C : Array Value} (h : w.ownsRow B e s v k xs) (hg : w.heap[g]? = some (.cells C t (0, 0))) (hne : t ≠ e) : some g ≠ v.ownBlock := by
  rcases h.2 with ⟨rfl, _⟩ | ⟨g', cap', cur', rfl, _, hh', _⟩
  · intro e0; cases e0
  · intro e0
    injection e0 with e0
    subst e0
    rw [show w.heap[g]? = _ from hh'] at hg
    injection hg with hg; injection hg with _ e2 _
    exact hne e2.symm
theorem own_drew {w : World} {B e s k : Nat} {v : Value} {xs : List Value} (h : w.ownsRow B e s v k xs) (d : Nat) : (w.drewN d).ownsRow B e s v k xs := own_up h (below_drewN (Below.refl _ _) d)

/-- What Picked answers. -/
def RPk (k m n : Nat) (A : Nat → Int) (D : Nat → ByteArray) (Z : Int) (e : Ending) (w' : World) : Prop :=
  ((Z < 0 ∨ 1048576 < Z) ∧ e = .returned (.tuple #[.slice none 0 0, .int .i64 1])) ∨ ∃ z : Nat, Z = (z : Int) ∧ z ≤ 1048576 ∧
    (((∃ i, i < n ∧ ¬ OkP k (k + m) z (A i) (D i)) ∧ e = .returned (.tuple #[.slice none 0 0, .int .i64 4])) ∨
     ((∀ i, i < n → OkP k (k + m) z (A i) (D i)) ∧ (fst A k n).length < k ∧ e = .returned (.tuple #[.slice none 0 0, .int .i64 3])) ∨
     ((∀ i, i < n → OkP k (k + m) z (A i) (D i)) ∧ (fst A k n).length = k ∧ ∃ g cap, e = .returned (.tuple #[.slice (some ⟨g, 0, none⟩) k cap, .int .i64 0]) ∧ PartF w' (some ⟨g, 0, none⟩) (fun i => A ((fst A k n).getD i 0)) (fun i => D ((fst A k n).getD i 0)) k))

set_option maxHeartbeats 2000000 in
set_option maxRecDepth 100000 in
theorem rpick_any (k m n c : Nat) (Z : Int) (a : Option Addr) (A : Nat → Int) (D : Nat → ByteArray) (hk1 : 1 ≤ k) (hk : k ≤ 8) (hm : k + m ≤ 12) (hn : n ≤ 4096) (w : World) (hp : PartF w a A D n) :
    Calls Try.prog 38 #[.int .i64 (k : Int), .int .i64 (m : Int), .int .i64 Z, .slice a n c] w fun e w' => Below w.heap.size w w' ∧ RPk k m n A D Z e w' := by
  have HP : Hid (PartF w a A D n) := hp
  clear hp
  go_enter Try.func38, Try.ntmps38
  go_wp2_with fail
  refine (rcau_own k m hk1 hk hm _).mono ?_
  rintro e w1 ⟨v1, xs, rfl, ho, hr, hb1⟩
  obtain ⟨g1, cap1, ev, _, _⟩ := own_matF (by omega) ho hr
  subst ev
  have HB1 : Hid (Below w.heap.size w w1) := hb1
  have hnil := fun w => Lib.run_eql_slice_nil (P := Try.prog) w 34 54 (some ⟨g1, 0, none⟩) (k + m) cap1 0 0 under27
  clear hb1 ho hr
  by_cases h1 : Z < 0
  · go_wp2_with fail
    go_ret2
    exact ⟨HB1.out, Or.inl ⟨Or.inl h1, rfl⟩⟩
  have i1 : decide (Z < 0) = false := by simp; omega
  by_cases h2 : 1048576 < Z
  · go_wp2_with fail
    go_ret2
    exact ⟨HB1.out, Or.inl ⟨Or.inr h2, rfl⟩⟩
  have i2 : decide (1048576 < Z) = false := by simp; omega
  obtain ⟨z, rfl⟩ : ∃ z : Nat, Z = (z : Int) := ⟨Z.toNat, by omega⟩
  have hz : z ≤ 1048576 := by omega
  clear h1 h2
  go_wp2_with fail
  obtain ⟨G, eG⟩ : ∃ G, G = w1.heap.size := ⟨_, rfl⟩
  obtain ⟨W, eW⟩ : ∃ W, W = w1.alloc (.cells #[.bool false, .bool false, .bool false, .bool false, .bool false, .bool false, .bool false, .bool false, .bool false, .bool false, .bool false, .bool false] 83) := ⟨_, rfl⟩
  rw [← eG, ← eW]
  have S0 : Hid (SeenB W G (fun _ => false)) := ⟨_, by rw [eW, eG]; exact heap_alloc_last _ _, rfl, fun x hx => by
    match x, hx with
    | 0, _ => rfl
    | 1, _ => rfl
    | 2, _ => rfl
    | 3, _ => rfl
    | 4, _ => rfl
    | 5, _ => rfl
    | 6, _ => rfl
    | 7, _ => rfl
    | 8, _ => rfl
    | 9, _ => rfl
    | 10, _ => rfl
    | 11, _ => rfl⟩
  have B0 : Hid (Below w1.heap.size w1 W) := by rw [eW]; exact (Below.refl _ _).alloc (Nat.le_refl _) _
  have hG : Hid (w1.heap.size ≤ G) := by show _ ≤ _; omega
  have R0 : Hid (SeenR A (fst A k 0) (fun _ => false)) := fun x => ⟨fun h => (by cases h), fun ⟨j, hj, _⟩ => (by simp [fst] at hj)⟩
  clear eG eW hnil
  go_loopw [10, 12] (fun v i wr => ∃ (t q : Nat) (S : Nat → Bool), t ≤ n ∧ i = .int .i64 (t : Int) ∧ Hid (q = (fst A k t).length) ∧ q ≤ k ∧ wr.ownsRow w1.heap.size 31 2 v q (pc A D (fst A k t)) ∧ Hid (SeenB wr G S) ∧ Hid (SeenR A (fst A k t) S) ∧ Hid (∀ i, i < t → OkP k (k + m) z (A i) (D i)) ∧ Hid (Below w1.heap.size w1 wr)) (fun _ i _ => n - (intOf i).toNat)
  case atStart => exact ⟨0, 0, _, by omega, rfl, rfl, by omega, World.ownsRow_nil _ _ _ _, S0, R0, fun i hi => by omega, B0⟩
  case round =>
    obtain ⟨t, q, S, ht, rfl, Hq, hqk, own, HS, HR, HO, HB⟩ := hrel
    clear S0 R0 B0
    by_cases hlt : t < n
    · have hi1 : (t : Int) < (n : Int) := by omega
      obtain ⟨p, o, rfl, q1⟩ : ∃ p off, a = some ⟨p, off, none⟩ ∧ ∀ i, i < n → wr.cell? ⟨p, off + i * 2, none⟩ = some (.int .i64 (A i)) ∧ wr.cell? ⟨p, off + i * 2 + 1, none⟩ = some (.string (D i)) := by
        rcases (HP.out.up HB1.out).up HB.out with r | r
        · exfalso; omega
        · exact r
      obtain ⟨d1, d2⟩ := q1 t hlt
      have D1 : Hid (wr.cell? ⟨p, o + t * 2, none⟩ = some (.int .i64 (A t))) := d1
      have D2 : Hid (wr.cell? ⟨p, o + t * 2 + 1, none⟩ = some (.string (D t))) := d2
      clear q1
      have OWN : Hid (wr.ownsRow w1.heap.size 31 2 u10 q (pc A D (fst A k t))) := own
      clear own
      by_cases hneg : A t < 0
      · have j1 : decide (A t < 0) = true := by simp; exact hneg
        go_wp2_with fail
        go_quiet (fail)
        have B2 : Hid (Below w.heap.size w (wr.drewN nq)) := below_drewN (HB1.out.trans (HB.out.mono HB1.out.size)) nq
        go_wp2_with fail
        go_ret2
        exact ⟨B2.out, Or.inr ⟨z, rfl, hz, Or.inl ⟨⟨t, hlt, fun h => by have := h.1; omega⟩, rfl⟩⟩⟩
      have j1 : decide (A t < 0) = false := by simp; omega
      by_cases hbig : (k : Int) + (m : Int) ≤ A t
      · have j2 : decide ((k : Int) + (m : Int) ≤ A t) = true := by simp; exact hbig
        go_wp2_with fail
        go_quiet (fail)
        have B2 : Hid (Below w.heap.size w (wr.drewN nq)) := below_drewN (HB1.out.trans (HB.out.mono HB1.out.size)) nq
        go_wp2_with fail
        go_ret2
        exact ⟨B2.out, Or.inr ⟨z, rfl, hz, Or.inl ⟨⟨t, hlt, fun h => by have := h.2.1; omega⟩, rfl⟩⟩⟩
      have j2 : decide ((k : Int) + (m : Int) ≤ A t) = false := by simp; omega
      by_cases hsz : (D t).size = szk k z
      · have hne : (((D t).size : Int) != ((szk k z : Nat) : Int)) = false := by rw [hsz]; simp
        go_wp2_with fail
        go_quiet (first | (go_at_call 19; exact Calls.quiet_of ((rsize_any k z hk1 hk (by omega) _).mono fun e w' ⟨h1, h2⟩ => ⟨h1, 0, h2.symm⟩)))
        obtain ⟨X, eX, c1, c2, xO, xS, xB⟩ : ∃ X, X = wr.drewN nq ∧ X.cell? ⟨p, o + t * 2, none⟩ = some (.int .i64 (A t)) ∧ X.cell? ⟨p, o + t * 2 + 1, none⟩ = some (.string (D t)) ∧ X.ownsRow w1.heap.size 31 2 u10 q (pc A D (fst A k t)) ∧ SeenB X G S ∧ Below w1.heap.size w1 X :=
          ⟨_, rfl, D1.out, D2.out, own_drew OWN.out nq, HS.out.up (below_drewN (Below.refl _ _) nq), below_drewN HB.out nq⟩
        rw [← eX]
        have XO : Hid (X.ownsRow w1.heap.size 31 2 u10 q (pc A D (fst A k t))) := xO
        have XS : Hid (SeenB X G S) := xS
        have XB : Hid (Below w1.heap.size w1 X) := xB
        have HO2 : Hid (∀ i, i < t + 1 → OkP k (k + m) z (A i) (D i)) := fun i hi => by
          by_cases e : i = t
          · subst e; exact ⟨by omega, by omega, hsz⟩
          · exact HO.out i (by omega)
        clear eX xO xS xB d1 d2 D1 D2 OWN HS HB HO hne
        obtain ⟨x, hx⟩ : ∃ x : Nat, A t = (x : Int) := ⟨(A t).toNat, by omega⟩
        have hx12 : x < 12 := by omega
        have hx12' : (x : Int) < 12 := by omega
        have s1 := XS.out.cell hx12
        rw [hx] at c1
        have HX : Hid (A t = (x : Int)) := hx
        obtain ⟨au, cu, hu⟩ : ∃ au cu, u10 = .slice au q cu := by
          rcases XO.out.2 with ⟨h1, h2⟩ | ⟨g, cap, cur, h1, _⟩
          · exact ⟨none, 0, by rw [h1, h2]⟩
          · exact ⟨some ⟨g, 0, none⟩, cap, h1⟩
        subst hu
        by_cases hs : S x = true
        · rw [hs] at s1
          have HN : Hid (fst A k (t + 1) = fst A k t) := fst_old (Or.inr (by rw [hx]; exact (HR.out x).1 hs))
          have O3 : X.ownsRow w1.heap.size 31 2 (.slice au q cu) q (pc A D (fst A k (t + 1))) := by rw [HN.out]; exact XO.out
          have R3 : Hid (SeenR A (fst A k (t + 1)) S) := by rw [HN.out]; exact HR.out
          have Q3 : Hid (q = (fst A k (t + 1)).length) := by rw [HN.out]; exact Hq.out
          clear hs hx XO HR
          go_wp2_with fail
          exact ⟨⟨t + 1, q, S, by omega, by go_num, Q3, hqk, O3, XS, R3, HO2, XB⟩, by simp [intOf]; omega⟩
        · have hs' : S x = false := by simpa using hs
          rw [hs'] at s1
          by_cases hq : q < k
          · have hq' : (q : Int) < (k : Int) := by omega
            have HN : Hid (fst A k (t + 1) = fst A k t ++ [t]) := fst_new (by rw [← Hq.out]; omega) (fun j hj e => by
              have := (HR.out x).2 ⟨j, hj, by rw [e, hx]⟩
              rw [hs'] at this; cases this)
            obtain ⟨cg, hcg, _, _⟩ := XS.out
            have NE : Hid (some G ≠ (Value.slice au q cu).ownBlock) := own_off XO.out hcg (by decide)
            have HGlt : Hid (G < X.heap.size) := (Array.getElem?_eq_some_iff.1 hcg).1
            have own5 := XO.out
            have hszX : w1.heap.size ≤ X.heap.size := XB.out.size
            have HP1 : Hid (PartF w1 (some ⟨p, o, none⟩) A D n) := HP.out.up HB1.out
            obtain ⟨i0, hi, hz0, hz1, hz2⟩ := info_parts info31p
            clear hs hcg
            go_wp2_with (at_builtin; refine wpList_append_own _ rfl _ _ 44 rfl w1.heap.size 31 i0 (.agg #[.int .i64 0, .string ⟨#[]⟩]) 2 24 under44 hi hz0 hz1 hz2 rfl (by decide) _ _ _ rfl (own5.alloc _) ⟨X.heap.size, 0, none⟩ 1 1 [.int .i64 (x : Int), .string (D t)] rfl rfl ?c1 ?c2 ?c3 ?c4 ?c5 ?_)
            case c1 =>
              intro j u hj
              match j, hj with
              | 0, hj => simp at hj; subst hj; simp [Addr.add]
              | 1, hj => simp at hj; subst hj; simp [Addr.add]
            case c2 => intro u hu; simp at hu; rcases hu with hu | hu <;> subst hu <;> rfl
            case c3 => unfold maxLen; omega
            case c4 => omega
            case c5 => simp; omega
            intro v' w8 hown' hgrow _
            have O8 : w8.ownsRow w1.heap.size 31 2 v' (q + 1) (pc A D (fst A k (t + 1))) := by
              rw [HN.out, pc_append]
              show w8.ownsRow w1.heap.size 31 2 v' (q + 1) (pc A D (fst A k t) ++ [.int .i64 (A t), .string (D t)])
              rw [HX.out]; exact hown'
            have B8 : Below w1.heap.size w1 w8 := (XB.out.alloc hszX _).grown hgrow (by rw [World.size_alloc]; omega) (fun k e => (own5.lt k e).1)
            have c8 : w8.cell? ⟨p, o + t * 2, none⟩ = some (.int .i64 (x : Int)) := by
              rcases HP1.out.up B8 with r | ⟨p', o', e, r⟩
              · exfalso; omega
              · injection e with e; injection e with e1 e2 _
                subst e1 e2
                rw [(r t hlt).1, HX.out]
            have S8 : SeenB w8 G S := by
              obtain ⟨C, h1, h2⟩ := XS.out
              exact ⟨C, by rw [hgrow.block G (by rw [World.size_alloc]; have := HGlt.out; omega) NE.out, Below.heap_alloc _ _ _ HGlt.out]; exact h1, h2⟩
            have s8 := S8.cell hx12
            have f8 := S8.fz x
            obtain ⟨cg8, hcg8, _⟩ := S8
            have S9 : Hid (SeenB (w8.setCell ⟨G, x, none⟩ (.bool true)) G (fun y => if y = x then true else S y)) := SeenB.set ⟨cg8, hcg8, by assumption⟩ hx12
            have O9 : Hid ((w8.setCell ⟨G, x, none⟩ (.bool true)).ownsRow w1.heap.size 31 2 v' (q + 1) (pc A D (fst A k (t + 1)))) := own_set' O8 hcg8 (by decide)
            have B9 : Hid (Below w1.heap.size w1 (w8.setCell ⟨G, x, none⟩ (.bool true))) := B8.setCell hG.out _
            have Q9 : Hid (q + 1 = (fst A k (t + 1)).length) := by show _ = _; rw [HN.out, List.length_append, ← Hq.out]; rfl
            have R9 : Hid (SeenR A (fst A k (t + 1)) (fun y => if y = x then true else S y)) := fun y => by
              rw [HN.out]
              by_cases e : y = x
              · subst e
                simp only [if_true]
                exact ⟨fun _ => ⟨t, by simp, HX.out⟩, fun _ => trivial⟩
              · simp only [if_neg e]
                rw [HR.out y]
                refine ⟨fun ⟨j, hj, h⟩ => ⟨j, List.mem_append_left _ hj, h⟩, fun ⟨j, hj, h⟩ => ?_⟩
                rcases List.mem_append.1 hj with h1 | h1
                · exact ⟨j, h1, h⟩
                · exfalso
                  have : j = t := by simpa using h1
                  subst this
                  rw [HX.out] at h; omega
            clear hown' hgrow own5 XO XS XB HR NE HGlt O8 B8 hcg8 hx hs' c1 c2
            go_wp2_with fail
            exact ⟨⟨t + 1, q + 1, _, by omega, by go_num, Q9, by omega, O9.out, S9, R9, HO2, B9⟩, by simp [intOf]; omega⟩
          · have hq' : decide ((q : Int) < (k : Int)) = false := by simp; omega
            have HN : Hid (fst A k (t + 1) = fst A k t) := fst_old (Or.inl (by rw [← Hq.out]; omega))
            have O3 : X.ownsRow w1.heap.size 31 2 (.slice au q cu) q (pc A D (fst A k (t + 1))) := by rw [HN.out]; exact XO.out
            have R3 : Hid (SeenR A (fst A k (t + 1)) S) := by rw [HN.out]; exact HR.out
            have Q3 : Hid (q = (fst A k (t + 1)).length) := by rw [HN.out]; exact Hq.out
            clear hs hs' hx XO HR
            go_wp2_with fail
            exact ⟨⟨t + 1, q, S, by omega, by go_num, Q3, hqk, O3, XS, R3, HO2, XB⟩, by simp [intOf]; omega⟩
      · have hne : (((D t).size : Int) != ((szk k z : Nat) : Int)) = true := by simp; omega
        go_wp2_with fail
        go_quiet (first | (go_at_call 19; exact Calls.quiet_of ((rsize_any k z hk1 hk (by omega) _).mono fun e w' ⟨h1, h2⟩ => ⟨h1, 0, h2.symm⟩)))
        have B2 : Hid (Below w.heap.size w (wr.drewN nq)) := below_drewN (HB1.out.trans (HB.out.mono HB1.out.size)) nq
        go_wp2_with fail
        go_ret2
        exact ⟨B2.out, Or.inr ⟨z, rfl, hz, Or.inl ⟨⟨t, hlt, fun h => hsz h.2.2⟩, rfl⟩⟩⟩
    · have htn : t = n := by omega
      subst htn
      have i3 : decide ((t : Int) < (t : Int)) = false := by simp
      have BB : Hid (Below w.heap.size w wr) := HB1.out.trans (HB.out.mono HB1.out.size)
      obtain ⟨au, cu, hu⟩ : ∃ au cu, u10 = .slice au q cu := by
        rcases own.2 with ⟨h1, h2⟩ | ⟨g, cap, cur, h1, _⟩
        · exact ⟨none, 0, by rw [h1, h2]⟩
        · exact ⟨some ⟨g, 0, none⟩, cap, h1⟩
      subst hu
      by_cases hqk' : q < k
      · have i4 : (q : Int) < (k : Int) := by omega
        clear own
        go_wp2_with fail
        go_ret2
        exact ⟨BB.out, Or.inr ⟨z, rfl, hz, Or.inr (Or.inl ⟨HO.out, by rw [← Hq.out]; exact hqk', rfl⟩)⟩⟩
      · have hqe : q = k := by omega
        subst hqe
        have i4 : decide ((q : Int) < (q : Int)) = false := by simp
        rcases own_partF Hq.out own with ⟨_, h0⟩ | ⟨g, cap, hv, _, _, hpf⟩
        · exfalso; omega
        injection hv with e1 _ e3
        subst e1 e3
        have HPF : Hid (PartF wr (some ⟨g, 0, none⟩) (fun i => A ((fst A q t).getD i 0)) (fun i => D ((fst A q t).getD i 0)) q) := hpf
        clear own hpf
        go_wp2_with fail
        go_ret2
        exact ⟨BB.out, Or.inr ⟨z, rfl, hz, Or.inr (Or.inr ⟨HO.out, Hq.out.symm, g, cu, rfl, HPF.out⟩)⟩⟩
end Go.Proofs.Ytmhhegkpkncebaa
