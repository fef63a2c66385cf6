/-
  FEW of the laws: no more than fourteen rows of no more than fourteen bytes; rows of whatever lengths that came in.
-/
import Derived.Test.YtdinhkcdllmmkaaPick
namespace Go.Proofs.Ytdinhkcdllmmkaa
open Go.RowKit

theorem MatL.below {w w' : World} {a : Option Addr} {A : Nat → Nat → Nat} {L : Nat → Nat} {m : Nat} (h : MatL w a A L m) (hb : Below w.heap.size w w') : MatL w' a A L m := by
  rcases h with h | ⟨p, off, e, hr⟩
  · exact Or.inl h
  · refine Or.inr ⟨p, off, e, fun i hi => ?_⟩
    obtain ⟨ra, rc, h1, h2, h3⟩ := hr i hi
    exact ⟨ra, rc, cell_later hb h1, h2, h3.below hb⟩
/-- The rows that a list holds lie in W. -/
def RowsIn (W : World) (xs : List Value) (A : Nat → Nat → Nat) (L : Nat → Nat) (k : Nat) : Prop := ∀ t, t < k → ∃ ra rc, xs[t]? = some (.slice ra (L t) rc) ∧ L t ≤ rc ∧ RowF W ra (A t) (L t)
theorem RowsIn.push {W : World} {xs : List Value} {A : Nat → Nat → Nat} {L : Nat → Nat} {k rc : Nat} {ra : Option Addr} (h : RowsIn W xs A L k) (hl : xs.length = k) (h1 : L k ≤ rc) (h2 : RowF W ra (A k) (L k)) : RowsIn W (xs ++ [.slice ra (L k) rc]) A L (k + 1) := by
  intro t ht
  by_cases e : t = k
  · subst e
    exact ⟨ra, rc, by rw [List.getElem?_append_right (by omega), hl, Nat.sub_self]; rfl, h1, h2⟩
  · obtain ⟨ra', rc', q1, q2, q3⟩ := h t (by omega)
    exact ⟨ra', rc', by rw [List.getElem?_append_left (by omega)]; exact q1, q2, q3⟩
theorem RowsIn.up {W W' : World} {xs : List Value} {A : Nat → Nat → Nat} {L : Nat → Nat} {k : Nat} (h : RowsIn W xs A L k) (hb : Below W.heap.size W W') : RowsIn W' xs A L k := fun t ht => by
  obtain ⟨ra, rc, q1, q2, q3⟩ := h t ht
  exact ⟨ra, rc, q1, q2, q3.below hb⟩
theorem RowsIn.matL {W w : World} {D k : Nat} {v : Value} {xs : List Value} {A : Nat → Nat → Nat} {L : Nat → Nat} (h : RowsIn W xs A L k) (hown : w.ownsRow D 31 1 v k xs) (hb : Below W.heap.size W w) :
    ∃ a c, v = .slice a k c ∧ MatL w a A L k := by
  by_cases hk : k = 0
  · subst hk
    rcases hown.2 with ⟨rfl, _⟩ | ⟨g, cap, cur, rfl, _⟩
    · exact ⟨none, 0, rfl, Or.inl rfl⟩
    · exact ⟨_, cap, rfl, Or.inl rfl⟩
  · obtain ⟨g, c, hv, _, _, _, hc⟩ := own_cells hown (by omega)
    refine ⟨_, c, hv, Or.inr ⟨g, 0, rfl, fun t ht => ?_⟩⟩
    obtain ⟨ra, rc, q1, q2, q3⟩ := h t ht
    exact ⟨ra, rc, by rw [Nat.zero_add]; exact hc t _ q1, q2, q3.below hb⟩
theorem one_slice' (ra : Option Addr) (a rc : Nat) : ∀ u ∈ [Value.slice ra a rc], u.oneCell' = true := by
  intro u hu; simp at hu; subst hu; rfl
theorem new_cell' (w : World) (v : Value) : ∀ j u, [v][j]? = some u → (w.alloc (.cells #[v] 31)).cell? ((⟨w.heap.size, 0, none⟩ : Addr).add j) = some u := by
  intro j u hj
  match j, hj with
  | 0, hj => simp at hj; subst hj; simp [Addr.add]

/-- At most fourteen. -/
def cap14 (n : Nat) : Nat := if n ≤ 14 then n else 14

set_option maxHeartbeats 4000000 in
theorem few_any (a : Option Addr) (m c : Nat) (A : Nat → Nat → Nat) (L : Nat → Nat) (hL : ∀ i, i < m → L i ≤ maxLen) (hm : m ≤ maxLen) (w : World) (ra : MatL w a A L m) :
    Calls Try.prog 15 #[.slice a m c, .int .i64 14] w fun e w' => ∃ a' c', e = .returned (.slice a' (cap14 m) c') ∧ MatL w' a' A (fun i => cap14 (L i)) (cap14 m) ∧ Below w.heap.size w w' := by
  obtain ⟨D, eD⟩ : ∃ D, w.heap.size = D := ⟨_, rfl⟩
  have ED : Hid (w.heap.size = D) := eD
  clear eD
  have HL : Hid (∀ i, i < m → L i ≤ maxLen) := hL
  have HR : Hid (MatL w a A L m) := ra
  clear ra hL
  unfold maxLen at hm
  go_enter Try.func15, Try.ntmps15
  go_wp2_with fail
  go_loopw [5, 6] (fun v x wr => ∃ (k : Nat) (xs : List Value), k ≤ cap14 m ∧ x = .int .i64 (k : Int) ∧ wr.ownsRow D 31 1 v k xs ∧ Hid (RowsIn w xs A (fun i => cap14 (L i)) k) ∧ Hid (Below D w wr)) (fun _ x _ => cap14 m - (intOf x).toNat)
  case atStart => exact ⟨0, [], by omega, rfl, World.ownsRow_nil _ _ _ _, fun t ht => by omega, Below.refl _ _⟩
  case round =>
    obtain ⟨k, xs, hk, rfl, own, HX, HB⟩ := hrel
    have hcm : cap14 m ≤ 14 ∧ cap14 m ≤ m ∧ (m < 14 → cap14 m = m) ∧ (14 ≤ m → cap14 m = 14) := by unfold cap14; split <;> omega
    by_cases hlt : k < cap14 m
    · have hkm : k < m := by omega
      obtain ⟨p, o, rfl, q1⟩ : ∃ p off, a = some ⟨p, off, none⟩ ∧ ∀ i, i < m → ∃ ra rc, w.cell? ⟨p, off + i, none⟩ = some (.slice ra (L i) rc) ∧ L i ≤ rc ∧ RowF w ra (A i) (L i) := by
        rcases HR.out with r | r
        · exfalso; omega
        · exact r
      obtain ⟨ra, rc, h1, h2, h3⟩ := q1 k hkm
      clear q1
      have hLk := HL.out k hkm
      obtain ⟨l, hl⟩ : ∃ l, L k = l := ⟨_, rfl⟩
      have hlL : Hid (L k = l) := hl
      rw [hl] at h1 h2 h3 hLk
      unfold maxLen at hLk
      have c1 : wr.cell? ⟨p, o + k, none⟩ = some (.slice ra l rc) := cell_later (by rw [ED.out]; exact HB.out) h1
      have hi1 : (k : Int) < (m : Int) := by omega
      have hi2 : (k : Int) < 14 := by omega
      obtain ⟨i0, z0, z1, z2, z3⟩ := info_parts info31
      have hsz : D ≤ wr.heap.size := by rw [← ED.out]; exact HB.out.size
      have hlen : xs.length = k := by have := own.1; omega
      clear h1 hl
      by_cases hbig : 14 < l
      · have hi3 : (14 : Int) < (l : Int) := by omega
        have hs1 : ∀ w, (Instr.sliceAt 31 (.slice ra l rc) none (some (.int .i64 (14 : Int))) none).run Try.prog w = .ok (.slice (sl ra 0 rc) 14 rc) w := fun w => slice_hi ra l rc 14 (by omega) w
        have R1 : Hid (RowsIn w (xs ++ [.slice (sl ra 0 rc) 14 rc]) A (fun i => cap14 (L i)) (k + 1)) := by
          have e14 : cap14 (L k) = 14 := by unfold cap14; rw [hlL.out, if_neg (by omega)]
          have h := HX.out.push (ra := sl ra 0 rc) (rc := rc) hlen (by show cap14 (L k) ≤ rc; omega) (by show RowF w _ (A k) (cap14 (L k)); rw [e14]; exact h3.head 14 rc (by omega) h2)
          show RowsIn w (xs ++ [.slice (sl ra 0 rc) 14 rc]) A (fun i => cap14 (L i)) (k + 1)
          rw [show (Value.slice (sl ra 0 rc) 14 rc) = .slice (sl ra 0 rc) (cap14 (L k)) rc from by rw [e14]]
          exact h
        go_wp2_with (at_builtin; refine wpList_append_own _ rfl _ _ 27 rfl D 31 i0 (.slice none 0 0) 1 24 under27 z0 z1 z2 z3 rfl (by decide) _ _ _ rfl (own.alloc _) ⟨wr.heap.size, 0, none⟩ 1 1 [.slice (sl ra 0 rc) 14 rc] rfl rfl (new_cell' _ _) (one_slice' _ _ _) (by unfold maxLen; omega) (by omega) (by rw [World.size_alloc]; omega) ?_)
        intro v' w4 own4 hgrow _
        have B4 : Hid (Below D w w4) := (HB.out.alloc hsz _).grown hgrow (by rw [World.size_alloc]; omega) (fun q e => (own.lt q e).1)
        clear own HB hgrow z0 z1 z2 z3 hsz hs1 HX
        go_wp2
        go_roundw
        case rel => exact ⟨k + 1, _, by omega, by go_num, own4, R1, B4⟩
        case measure => simp [intOf]; omega
      · have hi3 : decide ((14 : Int) < (l : Int)) = false := by simp; omega
        have R1 : Hid (RowsIn w (xs ++ [.slice ra l rc]) A (fun i => cap14 (L i)) (k + 1)) := by
          have e14 : cap14 (L k) = l := by unfold cap14; rw [hlL.out, if_pos (by omega)]
          have h := HX.out.push (ra := ra) (rc := rc) hlen (by show cap14 (L k) ≤ rc; omega) (by show RowF w _ (A k) (cap14 (L k)); rw [e14]; exact h3)
          show RowsIn w (xs ++ [.slice ra l rc]) A (fun i => cap14 (L i)) (k + 1)
          rw [show (Value.slice ra l rc) = .slice ra (cap14 (L k)) rc from by rw [e14]]
          exact h
        go_wp2_with (at_builtin; refine wpList_append_own _ rfl _ _ 27 rfl D 31 i0 (.slice none 0 0) 1 24 under27 z0 z1 z2 z3 rfl (by decide) _ _ _ rfl (own.alloc _) ⟨wr.heap.size, 0, none⟩ 1 1 [.slice ra l rc] rfl rfl (new_cell' _ _) (one_slice' _ _ _) (by unfold maxLen; omega) (by omega) (by rw [World.size_alloc]; omega) ?_)
        intro v' w4 own4 hgrow _
        have B4 : Hid (Below D w w4) := (HB.out.alloc hsz _).grown hgrow (by rw [World.size_alloc]; omega) (fun q e => (own.lt q e).1)
        clear own HB hgrow z0 z1 z2 z3 hsz HX
        go_wp2
        go_roundw
        case rel => exact ⟨k + 1, _, by omega, by go_num, own4, R1, B4⟩
        case measure => simp [intOf]; omega
    · have hkm : k = cap14 m := by omega
      have hBW : Below w.heap.size w wr := by rw [ED.out]; exact HB.out
      obtain ⟨a', c', ev, hM⟩ := HX.out.matL own hBW
      have HM : Hid (MatL wr a' A (fun i => cap14 (L i)) (cap14 m)) := by rw [← hkm]; exact hM
      have ev' : Hid (u5 = .slice a' (cap14 m) c') := by rw [← hkm]; exact ev
      clear hM ev own HX
      by_cases hm14 : m < 14
      · have i1 : decide ((k : Int) < (m : Int)) = false := by simp; omega
        clear hkm
        go_wp2_with fail
        go_ret
        exact ⟨a', c', by rw [ev'.out]; rfl, HM.out, hBW⟩
      · have i1 : decide ((k : Int) < 14) = false := by simp; omega
        by_cases hkm2 : k < m
        · have i2 : (k : Int) < (m : Int) := by omega
          clear hkm
          go_wp2_with fail
          go_ret
          exact ⟨a', c', by rw [ev'.out]; rfl, HM.out, hBW⟩
        · have i2 : decide ((k : Int) < (m : Int)) = false := by simp; omega
          clear hkm
          go_wp2_with fail
          go_ret
          exact ⟨a', c', by rw [ev'.out]; rfl, HM.out, hBW⟩
end Go.Proofs.Ytdinhkcdllmmkaa
