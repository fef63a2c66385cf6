/-
  ANY FRAGMENTS: the law's walk.
-/
import Derived.Test.YtmhhegkpkncebaaRDR
import Derived.Test.YtmhhegkpkncebaaPBk
import Derived.Deep.Upon
namespace Go.Proofs.Ytmhhegkpkncebaa
open Go.RowKit

/-- n fragments of the call's own in a row of their own. -/
def MyP (B : Nat) (w : World) (a : Option Addr) (A : Nat → Int) (D : Nat → ByteArray) (n : Nat) : Prop :=
  n = 0 ∨ ∃ g C, a = some ⟨g, 0, none⟩ ∧ B ≤ g ∧ w.heap[g]? = some (.cells C 31 (0, 0)) ∧ n * 2 ≤ C.size ∧ ∀ i, i < n → C[i * 2]? = some (.int .i64 (A i)) ∧ C[i * 2 + 1]? = some (.string (D i))
theorem MyP.partF {B : Nat} {w : World} {a : Option Addr} {A : Nat → Int} {D : Nat → ByteArray} {n : Nat} (h : MyP B w a A D n) : PartF w a A D n := by
  rcases h with h | ⟨g, C, e, _, hg, _, hc⟩
  · exact Or.inl h
  · exact Or.inr ⟨g, 0, e, fun i hi => by rw [Nat.zero_add, cell_of_row w g _ C 31 (0, 0) hg, cell_of_row w g _ C 31 (0, 0) hg]; exact hc i hi⟩

theorem own_myP {w : World} {B n : Nat} {v : Value} {A : Nat → Int} {D : Nat → ByteArray} (h : w.ownsRow B 31 2 v n (pcs A D n)) : ∃ am cm, v = .slice am n cm ∧ n ≤ cm ∧ MyP B w am A D n := by
  rcases h.2 with ⟨rfl, rfl⟩ | ⟨g, cap, cur, rfl, hB, hh, hc, _, hcs, ht⟩
  · exact ⟨none, 0, rfl, Nat.le_refl _, Or.inl rfl⟩
  · refine ⟨_, cap, rfl, hc, Or.inr ⟨g, cur, rfl, hB, hh, by omega, fun i hi => ?_⟩⟩
    have := pcs_at A D n i hi
    rw [← ht, List.getElem?_take_of_lt (by omega), List.getElem?_take_of_lt (by omega)] at this
    simpa using this
theorem wpList_append_run {P : Program} {w w' : World} {ops : Array Oper} {rest : List Oper} {o : Oper} {a : Act} {Q : Exit → Act → World → Prop} (hgd : o.guard = none) (s x : Operand) (t : TypeId)
    (ho : o.op = .call { callee := .builtin .append, args := #[s, x], argTypes := #[t, t] }) (v xv v' : Value) (hs : a.eval s = v) (hx : a.eval x = xv)
    (hr : (Builtin.append_ #[t, t] o.type #[v, xv]).run P w = .ok v' w') (h : wpList P ops Q rest (a.put o.dst v') w') : wpList P ops Q (o :: rest) a w := by
  refine wpList_plain hgd fun K hK => ?_
  unfold Oper.wp execOp
  simp only [ho, resolve, invoke, builtin, Sem.run_bind, Sem.run_pure, Result.andThen_ok, List.map_toArray, List.map_cons, List.map_nil, hs, hx, hr]
  exact hK _ _ h
theorem append_parts {w1 : World} {a : Option Addr} {A : Nat → Int} {D : Nat → ByteArray} (N0 c : Nat) (hN : N0 ≤ 14) (hp : PartF w1 a A D N0) :
    ∃ N am cm w', (Builtin.append_ #[44, 44] 44 #[.slice (some ⟨w1.heap.size, 0, none⟩) 0 0, .slice a N0 c]).run Try.prog (w1.alloc (.cells #[] 31)) = .ok (.slice am N cm) w' ∧ N ≤ 14 ∧ N ≤ cm ∧ MyP w1.heap.size w' am A D N ∧ Below w1.heap.size w1 w' := by
  obtain ⟨i0, hi, hz0, hz1, hz2⟩ := info_parts infoP
  have hB0 : Below w1.heap.size w1 (w1.alloc (.cells #[] 31)) := (Below.refl _ _).alloc (Nat.le_refl _) _
  refine ⟨N0, ?_⟩
  by_cases h0 : N0 = 0
  · subst h0
    have hsrc : Src Try.prog i0.size 44 (.slice a 0 c) 0 [] (w1.alloc (.cells #[] 31)) := by
      cases a with
      | none => exact Src.ofNil _ under44 c
      | some ad => exact Src.ofSlice _ under44 ad 0 c [] (by simp) (fun j u h => by simp at h) (fun u h => by cases h)
    exact ⟨_, _, _, run_append_nothing _ 44 44 44 31 i0 under44 hi _ 0 0 (Nat.le_refl _) _ hsrc, hN, Nat.le_refl _, Or.inl rfl, hB0⟩
  · have hp' : PartF (w1.alloc (.cells #[] 31)) a A D N0 := hp.up hB0
    obtain ⟨ad, rfl, hsrc⟩ := hp'.src (by omega)
    have own0 : (w1.alloc (.cells #[] 31)).ownsRow w1.heap.size 31 2 (.slice (some ⟨w1.heap.size, 0, none⟩) 0 0) 0 [] := World.ownsRow_lit w1 #[] 0 (Nat.le_refl _) (Nat.zero_le _) rfl
    obtain ⟨v', w', hr, h2, h3, h4⟩ := run_append_own (P := Try.prog) (w1.alloc (.cells #[] 31)) w1.heap.size 44 44 31 i0 _ 2 24 under44 hi hz0 hz1 hz2 rfl (by decide) _ 0 [] own0 ad N0 c (pcs A D N0) (pcs_length A D N0) hsrc (pcs_one A D N0) (by unfold maxLen; omega) (by omega) (by rw [World.size_alloc]; omega)
    rw [Nat.zero_add, List.nil_append] at h2
    obtain ⟨am, cm, rfl, hcm, hM⟩ := own_myP h2
    exact ⟨am, cm, w', hr, hN, hcm, hM, hB0.grown h3 (by rw [World.size_alloc]; omega) (fun k e => (own0.lt k e).1)⟩
theorem dec_rng {k N n : Nat} {A : Nat → Int} {D : Nat → ByteArray} {Z : Int} {s : ByteArray} {r : Int} (h : DecR k N n A D Z s r) : 0 ≤ r ∧ r ≤ 4 := by
  rcases h with ⟨_, _, h⟩ | ⟨z, _, hz, ⟨_, _, h⟩ | ⟨_, _, _, h⟩ | ⟨hok, hlen, V, _, ⟨_, _, h⟩ | ⟨_, _, h⟩⟩⟩ <;> omega
theorem reb_rng {k N n : Nat} {A : Nat → Int} {D : Nat → ByteArray} {Z at' : Int} {s : ByteArray} {r : Int} (h : RebR k N n A D Z at' s r) : 0 ≤ r ∧ r ≤ 4 := by
  rcases h with ⟨_, _, h⟩ | ⟨_, _, v, e, hd, ⟨_, _, h⟩ | ⟨_, _, h⟩⟩
  · omega
  · have := dec_rng hd; omega
  · omega
theorem cell_setCell_block {w : World} {G g o q : Nat} {x : Value} (h : G ≠ g) : (w.setCell ⟨g, q, none⟩ x).cell? ⟨G, o, none⟩ = w.cell? ⟨G, o, none⟩ := by
  rw [World.cell?_setCell_other]
  intro e
  injection e with e
  exact h (by first | exact e | exact e.symm)
theorem MyP.up {B : Nat} {w w' : World} {a : Option Addr} {A : Nat → Int} {D : Nat → ByteArray} {n : Nat} (h : MyP B w a A D n) (hb : Below w.heap.size w w') : MyP B w' a A D n := by
  rcases h with h | ⟨g, C, e, hB, hg, hs, hc⟩
  · exact Or.inl h
  · exact Or.inr ⟨g, C, e, hB, (hb.block g (Array.getElem?_eq_some_iff.1 hg).1).trans hg, hs, hc⟩
theorem MyP.setA {B g : Nat} {w : World} {A : Nat → Int} {D : Nat → ByteArray} {n i : Nat} {x : Int} (h : MyP B w (some ⟨g, 0, none⟩) A D n) (hi : i < n) : MyP B (w.setCell ⟨g, i * 2, none⟩ (.int .i64 x)) (some ⟨g, 0, none⟩) (fun j => if j = i then x else A j) D n := by
  rcases h with h | ⟨g', C, e, hB, hg, hs, hc⟩
  · exact Or.inl h
  · injection e with e; injection e with e1 _ _
    subst e1
    refine Or.inr ⟨g, C.setIfInBounds (i * 2) (.int .i64 x), rfl, hB, ?_, by simpa using hs, fun j hj => ?_⟩
    · rw [setCell_eq_setRow w g (i * 2) C 31 (0, 0) _ hg]; exact setRow_heap w g C _ 31 (0, 0) hg
    · rw [Array.getElem?_setIfInBounds_ne (j := j * 2 + 1) (by omega)]
      refine ⟨?_, (hc j hj).2⟩
      by_cases ej : j = i
      · subst ej; rw [Array.getElem?_setIfInBounds_self_of_lt (by omega)]; simp
      · rw [Array.getElem?_setIfInBounds_ne (by omega)]; simp only [if_neg ej]; exact (hc j hj).1
theorem MyP.setD {B g : Nat} {w : World} {A : Nat → Int} {D : Nat → ByteArray} {n i : Nat} {x : ByteArray} (h : MyP B w (some ⟨g, 0, none⟩) A D n) (hi : i < n) : MyP B (w.setCell ⟨g, i * 2 + 1, none⟩ (.string x)) (some ⟨g, 0, none⟩) A (fun j => if j = i then x else D j) n := by
  rcases h with h | ⟨g', C, e, hB, hg, hs, hc⟩
  · exact Or.inl h
  · injection e with e; injection e with e1 _ _
    subst e1
    refine Or.inr ⟨g, C.setIfInBounds (i * 2 + 1) (.string x), rfl, hB, ?_, by simpa using hs, fun j hj => ?_⟩
    · rw [setCell_eq_setRow w g (i * 2 + 1) C 31 (0, 0) _ hg]; exact setRow_heap w g C _ 31 (0, 0) hg
    · rw [Array.getElem?_setIfInBounds_ne (j := j * 2) (by omega)]
      refine ⟨(hc j hj).1, ?_⟩
      by_cases ej : j = i
      · subst ej; rw [Array.getElem?_setIfInBounds_self_of_lt (by omega)]; simp
      · rw [Array.getElem?_setIfInBounds_ne (by omega)]; simp only [if_neg ej]; exact (hc j hj).2
theorem MyP.fz {B g : Nat} {w : World} {A : Nat → Int} {D : Nat → ByteArray} {n i q : Nat} (h : MyP B w (some ⟨g, 0, none⟩) A D n) (hi : i < n) : w.frozen? ⟨g, q, none⟩ = false := by
  rcases h with h | ⟨g', C, e, hB, hg, hs, hc⟩
  · exfalso; omega
  · injection e with e; injection e with e1 _ _
    subst e1
    simp [World.frozen?, hg]

set_option maxHeartbeats 8000000 in
set_option maxRecDepth 100000 in
theorem rparts_walk (a0 a1 Z at' : Int) (s : ByteArray) (a5 : Option Addr) (n c5 : Nat) (A : Nat → Int) (D : Nat → ByteArray) (own : Bool) (hn : n ≤ 9223372036854775807) (hc : n ≤ c5) (w : World) (hp : PartF w a5 A D n) :
    Calls Try.prog 5 #[.int .i64 a0, .int .i64 a1, .int .i64 Z, .int .i64 at', .string s, .slice a5 n c5, .bool own] w fun e w' => e = .returned (.bool true) ∧ Below w.heap.size w w' := by
  have HP : Hid (PartF w a5 A D n) := hp
  clear hp
  go_enter Try.func5, Try.ntmps5
  go_wp2_with fail
  refine (within_l a0 _ _ 1 8 rfl rfl (by decide) (by decide) _).mono ?_
  rintro e w1 ⟨⟨a, ha1, ha8, rfl⟩, rfl⟩
  go_wp2_with fail
  refine (within_0 a1 _ _ (12 - a) rfl (by omega) (by omega) _).mono ?_
  rintro e w1 ⟨⟨b', hb', rfl⟩, rfl⟩
  go_wp2_with fail
  refine (new_any a b' _ _ rfl rfl ha1 ha8 (by omega) _).mono ?_
  rintro e w1 ⟨b, rfl, hC1, hb1⟩
  have HC1 : Hid (IsCode w1 b a (a + b')) := hC1
  have HB1 : Hid (Below w.heap.size w w1) := hb1
  have HP1 : Hid (PartF w1 a5 A D n) := HP.out.up hb1
  have hm12 : a + b' ≤ 12 := by omega
  clear hC1 hb1 hb' HP
  cases own
  case true =>
    by_cases h14 : n ≤ 14
    case' pos =>
      have i14 : decide ((14 : Int) < (n : Int)) = false := by simp; omega
      obtain ⟨N, am, cm, W, hrun, hN, hcm, hM, hb2⟩ := append_parts n c5 h14 HP1.out
      have HM : Hid (MyP w1.heap.size W am A D N) := hM
      have HB2 : Hid (Below w1.heap.size w1 W) := hb2
      clear hM hb2 HP1
      go_wp2_with (at_builtin; refine wpList_append_run rfl _ _ 44 rfl _ _ _ rfl rfl hrun ?_)
    case' neg =>
      have i14 : (14 : Int) < (n : Int) := by omega
      have i15 : (14 : Int) ≤ (c5 : Int) := by omega
      obtain ⟨N, am, cm, W, hrun, hN, hcm, hM, hb2⟩ := append_parts 14 c5 (Nat.le_refl _) (HP1.out.head (by omega : 14 ≤ n))
      have HM : Hid (MyP w1.heap.size W am A D N) := hM
      have HB2 : Hid (Below w1.heap.size w1 W) := hb2
      clear hM hb2 HP1
      go_wp2_with (at_builtin; refine wpList_append_run rfl _ _ 44 rfl _ _ _ rfl rfl hrun ?_)
    all_goals
      refine (short_any s 100 _ rfl _).mono ?_
      rintro e w4 ⟨v, rfl, hv, rfl⟩
      go_wp2_with fail
      refine (renc_any a b' v ha1 ha8 hm12 (by omega) _).mono ?_
      rintro e w4 ⟨gf, cf, rfl, hS, hb4⟩
      have HS0 : Hid (StrF w4 (some ⟨gf, 0, none⟩) (fragS a v) (a + b')) := hS
      have HM4 : Hid (MyP w1.heap.size w4 am A D N) := HM.out.up hb4
      have HB4 : Hid (Below w1.heap.size w1 w4) := HB2.out.trans (hb4.mono HB2.out.size)
      clear hS hb4 HM HB2
      go_wp2_with fail
      go_loopw [22] (fun x wr => ∃ (i : Nat) (A' : Nat → Int) (D' : Nat → ByteArray), i ≤ N ∧ x = .int .i64 (i : Int) ∧ Hid (MyP w1.heap.size wr am A' D' N) ∧ Hid (StrF wr (some ⟨gf, 0, none⟩) (fragS a v) (a + b')) ∧ Hid (Below w1.heap.size w1 wr)) (fun x _ => N - (intOf x).toNat)
      case atStart => exact ⟨0, _, _, by omega, rfl, HM4, HS0, HB4⟩
      case round =>
        clear HM4 HS0 HB4
        obtain ⟨i, A, D, hi, rfl, HM, HS, HB2⟩ := hrel
        by_cases hlt : i < N
        · have hi1 : (i : Int) < (N : Int) := by omega
          obtain ⟨g, rfl⟩ : ∃ g, am = some ⟨g, 0, none⟩ := by
            rcases HM.out with h | ⟨g, C, e, _⟩
            · exfalso; omega
            · exact ⟨g, e⟩
          have hgB : w1.heap.size ≤ g := by
            rcases HM.out with h | ⟨g', C, e, h, _⟩
            · exfalso; omega
            · injection e with e; injection e with e1 _ _; subst e1; exact h
          have hpq : ∀ j, j < N → wr.cell? ⟨g, j * 2, none⟩ = some (.int .i64 (A j)) ∧ wr.cell? ⟨g, j * 2 + 1, none⟩ = some (.string (D j)) := fun j hj => by
            rcases HM.out.partF with h | ⟨p, o, e, h⟩
            · exfalso; omega
            · injection e with e; injection e with e1 e2 _
              subst e1 e2
              have := h j hj
              rwa [Nat.zero_add] at this
          have hsf : ∀ j, j < a + b' → wr.cell? ⟨gf, j, none⟩ = some (.string (fragS a v j)) := fun j hj => by
            rcases HS.out with h | ⟨p, o, e, h⟩
            · exfalso; omega
            · injection e with e; injection e with e1 e2 _
              subst e1 e2
              have := h j hj
              rwa [Nat.zero_add] at this
          have hne : gf ≠ g := by
            intro e
            subst e
            have h1 := (hpq 0 (by omega)).1
            have h2 := hsf 0 (by omega)
            rw [Nat.zero_mul] at h1
            rw [h1] at h2
            injection h2 with h2
            cases h2
          have d1 := (hpq i hlt).1
          have d2 := (hpq i hlt).2
          have fz := HM.out.fz (q := i * 2) hlt
          have Hsf : Hid (∀ j, j < a + b' → wr.cell? ⟨gf, j, none⟩ = some (.string (fragS a v j))) := hsf
          clear hpq hsf
          go_wp2_with fail
          refine (within_0 (A i) _ _ (a + b' - 1) rfl (by omega) (by omega) _).mono ?_
          rintro e w5 ⟨⟨q, hq, rfl⟩, rfl⟩
          have hqs : q < a + b' := by omega
          have hqi : (q : Int) < (a : Int) + (b' : Int) := by omega
          have HM5 : MyP w1.heap.size (wr.setCell ⟨g, i * 2, none⟩ (.int .i64 (q : Int))) (some ⟨g, 0, none⟩) (fun j => if j = i then (q : Int) else A j) D N := HM.out.setA hlt
          have c3 := Hsf.out q hqs
          have e3 : (wr.setCell ⟨g, i * 2, none⟩ (.int .i64 (q : Int))).cell? ⟨gf, q, none⟩ = some (.string (fragS a v q)) := by rw [cell_setCell_block hne]; exact c3
          have e12 : (wr.setCell ⟨g, i * 2, none⟩ (.int .i64 (q : Int))).cell? ⟨g, i * 2, none⟩ = some (.int .i64 (q : Int)) ∧ (wr.setCell ⟨g, i * 2, none⟩ (.int .i64 (q : Int))).cell? ⟨g, i * 2 + 1, none⟩ = some (.string (D i)) := by
            rcases HM5.partF with h | ⟨p, o, e, h⟩
            · exfalso; omega
            · injection e with e; injection e with e1 e2 _
              subst e1 e2
              have := h i hlt
              rw [Nat.zero_add] at this
              simp only [if_true] at this
              exact this
          obtain ⟨e1, e2⟩ := e12
          have f2 := HM5.fz (q := i * 2 + 1) hlt
          obtain ⟨Y, eY⟩ : ∃ Y, Y = (wr.setCell ⟨g, i * 2, none⟩ (.int .i64 (q : Int))).setCell ⟨g, i * 2 + 1, none⟩ (.string (fragS a v q)) := ⟨_, rfl⟩
          have HM6 : Hid (MyP w1.heap.size Y (some ⟨g, 0, none⟩) (fun j => if j = i then (q : Int) else A j) (fun j => if j = i then fragS a v q else D j) N) := by rw [eY]; exact HM5.setD hlt
          have HB6 : Hid (Below w1.heap.size w1 Y) := by rw [eY]; exact (HB2.out.setCell hgB _).setCell hgB _
          have HS6 : Hid (StrF Y (some ⟨gf, 0, none⟩) (fragS a v) (a + b')) := Or.inr ⟨gf, 0, rfl, fun j hj => by rw [eY, cell_setCell_block hne, cell_setCell_block hne, Nat.zero_add]; exact Hsf.out j hj⟩
          have EY : Hid (Y = (wr.setCell ⟨g, i * 2, none⟩ (.int .i64 (q : Int))).setCell ⟨g, i * 2 + 1, none⟩ (.string (fragS a v q))) := eY
          clear eY HM5 HM HS HB2 Hsf
          go_wp2_with fail
          rw [← EY.out]
          exact ⟨⟨i + 1, _, _, by omega, by go_num, HM6, HS6, HB6⟩, by simp [intOf]; omega⟩
        · have i1 : decide ((i : Int) < (N : Int)) = false := by simp; omega
          clear HS
          go_wp2_with fail
          go_loopw [23] (fun x wr => ∃ (i : Nat) (A' : Nat → Int) (D' : Nat → ByteArray), i ≤ N ∧ x = .int .i64 (i : Int) ∧ Hid (MyP w1.heap.size wr am A' D' N) ∧ Hid (∀ j, j < i → (D' j).size ≤ 300) ∧ Hid (Below w1.heap.size w1 wr)) (fun x _ => N - (intOf x).toNat)
          case atStart => exact ⟨0, _, _, by omega, rfl, HM, fun j hj => by omega, HB2⟩
          case round =>
            clear HM HB2
            obtain ⟨i, A, D, hi, rfl, HM, HD, HB⟩ := hrel
            by_cases hlt : i < N
            · have hi1 : (i : Int) < (N : Int) := by omega
              obtain ⟨g, rfl⟩ : ∃ g, am = some ⟨g, 0, none⟩ := by
                rcases HM.out with h | ⟨g, C, e, _⟩
                · exfalso; omega
                · exact ⟨g, e⟩
              have hgB : w1.heap.size ≤ g := by
                rcases HM.out with h | ⟨g', C, e, h, _⟩
                · exfalso; omega
                · injection e with e; injection e with e1 _ _; subst e1; exact h
              have d1 : wr.cell? ⟨g, i * 2 + 1, none⟩ = some (.string (D i)) := by
                rcases HM.out.partF with h | ⟨p, o, e, h⟩
                · exfalso; omega
                · injection e with e; injection e with e1 e2 _
                  subst e1 e2
                  have := (h i hlt).2
                  rwa [Nat.zero_add] at this
              go_wp2_with fail
              refine (short_any (D i) 300 _ rfl _).mono ?_
              rintro e w5 ⟨v5, rfl, hv5, rfl⟩
              have fz := HM.out.fz (q := i * 2 + 1) hlt
              have HM5 : Hid (MyP w1.heap.size (wr.setCell ⟨g, i * 2 + 1, none⟩ (.string v5)) (some ⟨g, 0, none⟩) A (fun j => if j = i then v5 else D j) N) := HM.out.setD hlt
              have HB5 : Hid (Below w1.heap.size w1 (wr.setCell ⟨g, i * 2 + 1, none⟩ (.string v5))) := HB.out.setCell hgB _
              have HD5 : Hid (∀ j, j < i + 1 → ((fun j => if j = i then v5 else D j) j).size ≤ 300) := fun j hj => by
                by_cases e : j = i
                · simp only [if_pos e]; exact hv5
                · simp only [if_neg e]; exact HD.out j (by omega)
              clear HM HB HD
              go_wp2_with fail
              exact ⟨⟨i + 1, _, _, by omega, by go_num, HM5, HD5, HB5⟩, by simp [intOf]; omega⟩
            · have i1 : decide ((i : Int) < (N : Int)) = false := by simp; omega
              have HD3 : Hid (∀ j, j < N → (D j).size ≤ 300) := fun j hj => HD.out j (by omega)
              clear HD
              go_wp2_with fail
              obtain ⟨Wm, eW⟩ : ∃ Wm, Wm = wr.alloc (.cells #[.int .i64 (-8), .string ⟨#[]⟩] 31) := ⟨_, rfl⟩
              rw [← eW]
              have hW1 : Wm.cell? ⟨wr.heap.size, 0, none⟩ = some (.int .i64 (-8)) := by rw [eW]; exact World.cell?_alloc_mark wr _ 31 (0, 0) 0
              have hW2 : Wm.cell? ⟨wr.heap.size, 1, none⟩ = some (.string ⟨#[]⟩) := by rw [eW]; exact World.cell?_alloc_mark wr _ 31 (0, 0) 1
              have hWB : Below wr.heap.size wr Wm := by rw [eW]; exact (Below.refl _ _).alloc (Nat.le_refl _) _
              have hPm : PartF Wm am A D N := HM.out.partF.up hWB
              have hBm : Below w1.heap.size w1 Wm := HB.out.trans (hWB.mono HB.out.size)
              obtain ⟨mk, emk⟩ : ∃ mk, mk = wr.heap.size := ⟨_, rfl⟩
              rw [← emk] at hW1 hW2 ⊢
              clear eW hWB HM HB emk
              refine (roomyp_any am N cm (-8) ⟨#[]⟩ A D (by omega) _ hPm).mono ?_
              rintro e w6 ⟨G, rfl, hG, hR, hb6⟩
              have K1 : Hid (w6.cell? ⟨mk, 0, none⟩ = some (.int .i64 (-8))) := cell_later hb6 hW1
              have K2 : Hid (w6.cell? ⟨mk, 1, none⟩ = some (.string ⟨#[]⟩)) := cell_later hb6 hW2
              have HR : Hid (PartF w6 (some ⟨G, 0, none⟩) (roomA A N (-8)) (roomD D N ⟨#[]⟩) (N + 80)) := hR
              have HM6 : Hid (PartF w6 am A D N) := hPm.up hb6
              have HB6 : Hid (Below w1.heap.size w1 w6) := hBm.trans (hb6.mono hBm.size)
              clear hR hb6 hW1 hW2 hPm hBm
              have hN80 : (N : Int) ≤ (N : Int) + 80 := by omega
              have HF6 : Hid (PartF w6 (some ⟨G, 0, none⟩) A D N) := (HR.out.head (by omega)).congr (fun i hi => by unfold roomA roomD; rw [if_pos hi, if_pos hi]; exact ⟨rfl, rfl⟩)
              go_wp2_with fail
              refine (decode_any b a (a + b') N (N + 80) _ _ A D ha1 ha8 hm12 (by omega) _ (HC1.out.up HB6.out) HF6.out).mono ?_
              rintro e w7 ⟨x, p, rfl, hd1, hb7⟩
              have HB7 : Hid (Below w6.heap.size w6 w7) := hb7
              have HD1 : Hid (DecR a (a + b') N A D _ x p) := hd1
              clear hb7 hd1
              go_wp2_with fail
              refine (rdec_any a b' N cm _ _ A D ha1 ha8 hm12 (by omega) _ (HM6.out.up HB7.out)).mono ?_
              rintro e w8 ⟨y, q, rfl, hd2, hb8⟩
              obtain ⟨ex, ep⟩ := dec_one ha1 HD1.out hd2
              subst ex ep
              have HB8 : Hid (Below w6.heap.size w6 w8) := HB7.out.trans (hb8.mono HB7.out.size)
              obtain ⟨p0, p4⟩ := dec_rng hd2
              clear hd2 hb8 HB7 HD1
              go_wp2_with fail
              refine (rebuild_any b a (a + b') N (N + 80) _ _ _ A D ha1 ha8 hm12 (by omega) _ ((HC1.out.up HB6.out).up HB8.out) (HF6.out.up HB8.out)).mono ?_
              rintro e w9 ⟨u, r, rfl, hd3, hb9⟩
              have HB9 : Hid (Below w6.heap.size w6 w9) := HB8.out.trans (hb9.mono HB8.out.size)
              have HD3' : Hid (RebR a (a + b') N A D _ _ u r) := hd3
              clear hb9 hd3 HB8
              go_wp2_with fail
              refine (rreb_any a b' N cm _ _ _ A D ha1 ha8 hm12 (by omega) HD3.out _ (HM6.out.up HB9.out)).mono ?_
              rintro e w10 ⟨v, t, rfl, hd4, hb10⟩
              obtain ⟨eu, er⟩ := reb_one ha1 HD3'.out hd4
              subst eu er
              have HB10 : Hid (Below w6.heap.size w6 w10) := HB9.out.trans (hb10.mono HB9.out.size)
              obtain ⟨r0, r4⟩ := reb_rng hd4
              clear hd4 hb10 HB9 HD3'
              have k1 := cell_later HB10.out K1.out
              have k2 := cell_later HB10.out K2.out
              have x1 : (p == p) = true := by simp
              have x2 : (r == r) = true := by simp
              go_wp2_with fail
              refine (intactp_any G am N cm (-8) ⟨#[]⟩ A D (by omega) _ (HR.out.up HB10.out) (HM6.out.up HB10.out)).mono ?_
              rintro e w11 ⟨rfl, hb11⟩
              have HB11 : Hid (Below w6.heap.size w6 w11) := HB10.out.trans (hb11.mono HB10.out.size)
              clear hb11 HB10 k1 k2
              go_wp2_with fail
              refine (rruns_any _).mono ?_
              rintro e w12 ⟨rfl, hb12⟩
              have HB12 : Hid (Below w6.heap.size w6 w12) := HB11.out.trans (hb12.mono HB11.out.size)
              have HBf : Hid (Below w.heap.size w w12) := HB1.out.trans ((HB6.out.trans (HB12.out.mono HB6.out.size)).mono HB1.out.size)
              clear hb12
              go_wp2_with fail
              go_ret
              exact ⟨rfl, HBf.out⟩
  case false =>
    by_cases h14 : n ≤ 14
    case' pos =>
      have i14 : decide ((14 : Int) < (n : Int)) = false := by simp; omega
      obtain ⟨N, am, cm, W, hrun, hN, hcm, hM, hb2⟩ := append_parts n c5 h14 HP1.out
      have HM : Hid (MyP w1.heap.size W am A D N) := hM
      have HB2 : Hid (Below w1.heap.size w1 W) := hb2
      clear hM hb2 HP1
      go_wp2_with (at_builtin; refine wpList_append_run rfl _ _ 44 rfl _ _ _ rfl rfl hrun ?_)
    case' neg =>
      have i14 : (14 : Int) < (n : Int) := by omega
      have i15 : (14 : Int) ≤ (c5 : Int) := by omega
      obtain ⟨N, am, cm, W, hrun, hN, hcm, hM, hb2⟩ := append_parts 14 c5 (Nat.le_refl _) (HP1.out.head (by omega : 14 ≤ n))
      have HM : Hid (MyP w1.heap.size W am A D N) := hM
      have HB2 : Hid (Below w1.heap.size w1 W) := hb2
      clear hM hb2 HP1
      go_wp2_with (at_builtin; refine wpList_append_run rfl _ _ 44 rfl _ _ _ rfl rfl hrun ?_)
    all_goals
      go_loopw [23] (fun x wr => ∃ (i : Nat) (A' : Nat → Int) (D' : Nat → ByteArray), i ≤ N ∧ x = .int .i64 (i : Int) ∧ Hid (MyP w1.heap.size wr am A' D' N) ∧ Hid (∀ j, j < i → (D' j).size ≤ 300) ∧ Hid (Below w1.heap.size w1 wr)) (fun x _ => N - (intOf x).toNat)
      case atStart => exact ⟨0, _, _, by omega, rfl, HM, fun j hj => by omega, HB2⟩
      case round =>
        clear HM HB2
        obtain ⟨i, A, D, hi, rfl, HM, HD, HB⟩ := hrel
        by_cases hlt : i < N
        · have hi1 : (i : Int) < (N : Int) := by omega
          obtain ⟨g, rfl⟩ : ∃ g, am = some ⟨g, 0, none⟩ := by
            rcases HM.out with h | ⟨g, C, e, _⟩
            · exfalso; omega
            · exact ⟨g, e⟩
          have hgB : w1.heap.size ≤ g := by
            rcases HM.out with h | ⟨g', C, e, h, _⟩
            · exfalso; omega
            · injection e with e; injection e with e1 _ _; subst e1; exact h
          have d1 : wr.cell? ⟨g, i * 2 + 1, none⟩ = some (.string (D i)) := by
            rcases HM.out.partF with h | ⟨p, o, e, h⟩
            · exfalso; omega
            · injection e with e; injection e with e1 e2 _
              subst e1 e2
              have := (h i hlt).2
              rwa [Nat.zero_add] at this
          go_wp2_with fail
          refine (short_any (D i) 300 _ rfl _).mono ?_
          rintro e w5 ⟨v5, rfl, hv5, rfl⟩
          have fz := HM.out.fz (q := i * 2 + 1) hlt
          have HM5 : Hid (MyP w1.heap.size (wr.setCell ⟨g, i * 2 + 1, none⟩ (.string v5)) (some ⟨g, 0, none⟩) A (fun j => if j = i then v5 else D j) N) := HM.out.setD hlt
          have HB5 : Hid (Below w1.heap.size w1 (wr.setCell ⟨g, i * 2 + 1, none⟩ (.string v5))) := HB.out.setCell hgB _
          have HD5 : Hid (∀ j, j < i + 1 → ((fun j => if j = i then v5 else D j) j).size ≤ 300) := fun j hj => by
            by_cases e : j = i
            · simp only [if_pos e]; exact hv5
            · simp only [if_neg e]; exact HD.out j (by omega)
          clear HM HB HD
          go_wp2_with fail
          exact ⟨⟨i + 1, _, _, by omega, by go_num, HM5, HD5, HB5⟩, by simp [intOf]; omega⟩
        · have i1 : decide ((i : Int) < (N : Int)) = false := by simp; omega
          have HD3 : Hid (∀ j, j < N → (D j).size ≤ 300) := fun j hj => HD.out j (by omega)
          clear HD
          go_wp2_with fail
          obtain ⟨Wm, eW⟩ : ∃ Wm, Wm = wr.alloc (.cells #[.int .i64 (-8), .string ⟨#[]⟩] 31) := ⟨_, rfl⟩
          rw [← eW]
          have hW1 : Wm.cell? ⟨wr.heap.size, 0, none⟩ = some (.int .i64 (-8)) := by rw [eW]; exact World.cell?_alloc_mark wr _ 31 (0, 0) 0
          have hW2 : Wm.cell? ⟨wr.heap.size, 1, none⟩ = some (.string ⟨#[]⟩) := by rw [eW]; exact World.cell?_alloc_mark wr _ 31 (0, 0) 1
          have hWB : Below wr.heap.size wr Wm := by rw [eW]; exact (Below.refl _ _).alloc (Nat.le_refl _) _
          have hPm : PartF Wm am A D N := HM.out.partF.up hWB
          have hBm : Below w1.heap.size w1 Wm := HB.out.trans (hWB.mono HB.out.size)
          obtain ⟨mk, emk⟩ : ∃ mk, mk = wr.heap.size := ⟨_, rfl⟩
          rw [← emk] at hW1 hW2 ⊢
          clear eW hWB HM HB emk
          refine (roomyp_any am N cm (-8) ⟨#[]⟩ A D (by omega) _ hPm).mono ?_
          rintro e w6 ⟨G, rfl, hG, hR, hb6⟩
          have K1 : Hid (w6.cell? ⟨mk, 0, none⟩ = some (.int .i64 (-8))) := cell_later hb6 hW1
          have K2 : Hid (w6.cell? ⟨mk, 1, none⟩ = some (.string ⟨#[]⟩)) := cell_later hb6 hW2
          have HR : Hid (PartF w6 (some ⟨G, 0, none⟩) (roomA A N (-8)) (roomD D N ⟨#[]⟩) (N + 80)) := hR
          have HM6 : Hid (PartF w6 am A D N) := hPm.up hb6
          have HB6 : Hid (Below w1.heap.size w1 w6) := hBm.trans (hb6.mono hBm.size)
          clear hR hb6 hW1 hW2 hPm hBm
          have hN80 : (N : Int) ≤ (N : Int) + 80 := by omega
          have HF6 : Hid (PartF w6 (some ⟨G, 0, none⟩) A D N) := (HR.out.head (by omega)).congr (fun i hi => by unfold roomA roomD; rw [if_pos hi, if_pos hi]; exact ⟨rfl, rfl⟩)
          go_wp2_with fail
          refine (decode_any b a (a + b') N (N + 80) _ _ A D ha1 ha8 hm12 (by omega) _ (HC1.out.up HB6.out) HF6.out).mono ?_
          rintro e w7 ⟨x, p, rfl, hd1, hb7⟩
          have HB7 : Hid (Below w6.heap.size w6 w7) := hb7
          have HD1 : Hid (DecR a (a + b') N A D _ x p) := hd1
          clear hb7 hd1
          go_wp2_with fail
          refine (rdec_any a b' N cm _ _ A D ha1 ha8 hm12 (by omega) _ (HM6.out.up HB7.out)).mono ?_
          rintro e w8 ⟨y, q, rfl, hd2, hb8⟩
          obtain ⟨ex, ep⟩ := dec_one ha1 HD1.out hd2
          subst ex ep
          have HB8 : Hid (Below w6.heap.size w6 w8) := HB7.out.trans (hb8.mono HB7.out.size)
          obtain ⟨p0, p4⟩ := dec_rng hd2
          clear hd2 hb8 HB7 HD1
          go_wp2_with fail
          refine (rebuild_any b a (a + b') N (N + 80) _ _ _ A D ha1 ha8 hm12 (by omega) _ ((HC1.out.up HB6.out).up HB8.out) (HF6.out.up HB8.out)).mono ?_
          rintro e w9 ⟨u, r, rfl, hd3, hb9⟩
          have HB9 : Hid (Below w6.heap.size w6 w9) := HB8.out.trans (hb9.mono HB8.out.size)
          have HD3' : Hid (RebR a (a + b') N A D _ _ u r) := hd3
          clear hb9 hd3 HB8
          go_wp2_with fail
          refine (rreb_any a b' N cm _ _ _ A D ha1 ha8 hm12 (by omega) HD3.out _ (HM6.out.up HB9.out)).mono ?_
          rintro e w10 ⟨v, t, rfl, hd4, hb10⟩
          obtain ⟨eu, er⟩ := reb_one ha1 HD3'.out hd4
          subst eu er
          have HB10 : Hid (Below w6.heap.size w6 w10) := HB9.out.trans (hb10.mono HB9.out.size)
          obtain ⟨r0, r4⟩ := reb_rng hd4
          clear hd4 hb10 HB9 HD3'
          have k1 := cell_later HB10.out K1.out
          have k2 := cell_later HB10.out K2.out
          have x1 : (p == p) = true := by simp
          have x2 : (r == r) = true := by simp
          go_wp2_with fail
          refine (intactp_any G am N cm (-8) ⟨#[]⟩ A D (by omega) _ (HR.out.up HB10.out) (HM6.out.up HB10.out)).mono ?_
          rintro e w11 ⟨rfl, hb11⟩
          have HB11 : Hid (Below w6.heap.size w6 w11) := HB10.out.trans (hb11.mono HB10.out.size)
          clear hb11 HB10 k1 k2
          go_wp2_with fail
          refine (rruns_any _).mono ?_
          rintro e w12 ⟨rfl, hb12⟩
          have HB12 : Hid (Below w6.heap.size w6 w12) := HB11.out.trans (hb12.mono HB11.out.size)
          have HBf : Hid (Below w.heap.size w w12) := HB1.out.trans ((HB6.out.trans (HB12.out.mono HB6.out.size)).mono HB1.out.size)
          clear hb12
          go_wp2_with fail
          go_ret
          exact ⟨rfl, HBf.out⟩
end Go.Proofs.Ytmhhegkpkncebaa
