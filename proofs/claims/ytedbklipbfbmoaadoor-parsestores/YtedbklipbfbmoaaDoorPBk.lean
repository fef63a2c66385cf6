/-
  Rows of events put together; few keys; Within.
-/
import Derived.Test.YtedbklipbfbmoaaDoorPSs
import Derived.Test.YtedbklipbfbmoaaDoorOpen
namespace Go.Proofs.YtedbklipbfbmoaaDoor
open Go.RowKit

theorem tmod_bd (n : Int) (h : Nat) : -((h : Int) + 1) < n.tmod ((h : Int) + 1) ∧ n.tmod ((h : Int) + 1) < (h : Int) + 1 := by
  have h1 := Int.tmod_lt_of_pos n (show (0 : Int) < (h : Int) + 1 by omega)
  have h2 := Int.lt_tmod_of_pos n (show (0 : Int) < (h : Int) + 1 by omega)
  exact ⟨h2, h1⟩
/-- What Within answers. -/
def wi (n L H : Int) : Int := let q := n.tmod (H - L + 1); if q < 0 then L + (q + H - L + 1) else L + q
theorem wi_bd (n L H : Int) (hLH : L ≤ H) : L ≤ wi n L H ∧ wi n L H ≤ H := by
  obtain ⟨d, hd⟩ : ∃ d : Nat, H - L = (d : Int) := ⟨(H - L).toNat, by omega⟩
  obtain ⟨q1, q2⟩ := tmod_bd n d
  unfold wi
  rw [hd]
  simp only
  split <;> omega
set_option maxRecDepth 100000 in
set_option maxHeartbeats 400000 in
/-- Within: a number of the bounds. -/
theorem within_any (n L H : Int) (hL : -1000 ≤ L) (hLH : L ≤ H) (hH : H ≤ 1000000000000) (w : World) :
    Calls Tryd.prog 15 #[.int .i64 n, .int .i64 L, .int .i64 H] w fun e w' => e = .returned (.int .i64 (wi n L H)) ∧ w = w' := by
  obtain ⟨d, hd⟩ : ∃ d : Nat, H - L = (d : Int) := ⟨(H - L).toNat, by omega⟩
  have hHL : H = L + (d : Int) := by omega
  subst hHL
  obtain ⟨q1, q2⟩ := tmod_bd n d
  have HWI : Hid (wi n L (L + (d : Int)) = if n.tmod ((d : Int) + 1) < 0 then L + (n.tmod ((d : Int) + 1) + (L + d) - L + 1) else L + n.tmod ((d : Int) + 1)) := by
    show _ = _; unfold wi; rw [show L + (d : Int) - L + 1 = (d : Int) + 1 by omega]
  clear hd
  obtain ⟨q, hq⟩ : ∃ q, n.tmod ((d : Int) + 1) = q := ⟨_, rfl⟩
  rw [hq] at q1 q2 HWI
  have e1 : L + (d : Int) - L + 1 = (d : Int) + 1 := by omega
  have hne : ((d : Int) + 1 == 0) = false := by simp; omega
  have hne2 : ¬ ((d : Int) + 1 = -1) := by omega
  have hne3 : ¬ ((d : Int) + 1 = 0) := by omega
  by_cases q0 : q < 0
  · go_enter Tryd.func15, Tryd.ntmps15
    go_wp2
    go_ret
    exact ⟨ret_int (by rw [HWI.out, if_pos q0]), rfl⟩
  · go_enter Tryd.func15, Tryd.ntmps15
    go_wp2
    go_ret
    exact ⟨ret_int (by rw [HWI.out, if_neg (by omega)]), rfl⟩
/-- append(a, b...), of events. -/
theorem Evs.join {w : World} {o : Nat → Nat × Nat} {ta tb : Nat × Nat} {v u : Value} {l k : List Ev} (h : Evs w o ta v l) (ht : ta ≠ (9, 9)) (h' : Evs w o tb u k) (hl : l.length + k.length < 10000000000) :
    ∃ a c w' o', (Builtin.append_ #[24, 24] 24 #[v, u]).run Tryd.prog w = .ok (.slice a (l.length + k.length) c) w' ∧ Evs w' o' ta (.slice a (l.length + k.length) c) (l ++ k) ∧ Fr (· = ta) o o' w w' := by
  obtain ⟨cs, h1, h2, h3⟩ := h.ex
  obtain ⟨ds, g1, g2, g3⟩ := h'.ex
  obtain ⟨v', w', o', hr, O3, F3⟩ := app_own 24 24 36 _ 192 under24 info36 rfl h2 (g2.src (e := 36) under24) (by omega) (by omega)
  obtain ⟨a, c, rfl, _⟩ := O3.form
  have h9 : ¬ ((9, 9) = ta) := fun e => ht e.symm
  refine ⟨a, c, w', o', hr, ⟨cs ++ ds, by simp [h1, g1], ?_, fun i E' hi => ?_⟩, F3⟩
  · rw [List.length_append, List.flatten_append]
    exact O3
  · by_cases hlt : i < cs.length
    · rw [List.getElem?_append_left hlt] at hi
      obtain ⟨ev', h4, h5⟩ := h3 i E' hi
      exact ⟨ev', by rw [List.getElem?_append_left (by omega)]; exact h4, h5.fr F3 h9⟩
    · rw [List.getElem?_append_right (by omega)] at hi
      obtain ⟨ev', h4, h5⟩ := g3 _ E' hi
      exact ⟨ev', by rw [List.getElem?_append_right (by omega), ← h1]; exact h4, h5.fr F3 h9⟩
/-- Few keys. -/
theorem rd_few (ks : List Nat) : ∀ (l : List B) (i : Nat) (r r' : Rq), rd ks i l r = some r' → r'.keys.length ≤ r.keys.length + l.length
  | [], _, r, r', h => by cases h; simp
  | s :: l, i, r, r', h => by
    rw [rd] at h
    split at h
    · have := rd_few ks l (i + 1) _ r' h
      have h2 : (st (kd ks i) s r).1.keys.length ≤ r.keys.length + 1 := by
        generalize kd ks i = k
        unfold st
        split <;> simp
      simp only [List.length_cons]; omega
    · cases h
theorem line_few (s : B) : (line s).1.keys.length ≤ 100 := by
  unfold line
  split
  · simp [Rq.none]
  · rename_i w l _
    have hv := vb_lt w
    unfold lin
    split
    · simp [Rq.none]
    · split
      · simp [Rq.none]
      · rename_i h2
        split
        · simp [Rq.none]
        · rename_i r h
          have := rd_few _ _ _ _ r h
          have hm := (fm_ok (vb w) hv).2.2.2.2
          simp only [Rq.none, List.length_nil] at this
          show r.keys.length ≤ 100
          omega
def Kp (p : Ps) : Prop := p.rq.keys.length ≤ 100
theorem kp_none : Rq.none.keys.length ≤ 100 := by simp [Rq.none]
theorem kp_obey (l : B) : Kp (obey l).1 ∧ (obey l).2.rq.keys.length ≤ 100 := by
  unfold obey Kp
  have hf := line_few l
  generalize line l = r at *
  unfold obeyR
  split
  · exact ⟨kp_none, kp_none⟩
  · split
    · exact ⟨kp_none, kp_none⟩
    · split
      · exact ⟨kp_none, kp_none⟩
      · split
        · split
          · exact ⟨hf, kp_none⟩
          · refine ⟨kp_none, ?_⟩
            show (if r.1.quiet = true then Ev.none else ans 14 tooLarge).rq.keys.length ≤ 100
            split <;> exact kp_none
        · exact ⟨kp_none, hf⟩
theorem kp_step {p : Ps} (h : Kp p) (c : UInt8) : Kp (step p c).1 ∧ (step p c).2.rq.keys.length ≤ 100 := by
  unfold step
  split
  · split
    · exact kp_obey _
    · split
      · exact ⟨h, kp_none⟩
      · exact ⟨kp_none, kp_none⟩
  · split
    · unfold stepD
      by_cases c1 : p.left.length < p.rq.bytes.toNat
      · rw [if_pos c1]; exact ⟨h, kp_none⟩
      · rw [if_neg c1]
        by_cases c2 : c ≠ (if p.left.length = p.rq.bytes.toNat then 13 else 10)
        · rw [if_pos c2]
          refine ⟨?_, kp_none⟩
          show Kp (if c = 10 then pz 0 else pz 3)
          split <;> exact kp_none
        · rw [if_neg c2]
          by_cases c3 : p.left.length = p.rq.bytes.toNat
          · rw [if_pos c3]; exact ⟨h, kp_none⟩
          · rw [if_neg c3]; exact ⟨kp_none, h⟩
    · split
      · refine ⟨?_, kp_none⟩
        show Kp (if p.past ≤ 1 then pz 0 else _)
        split
        · exact kp_none
        · exact h
      · split
        · refine ⟨?_, kp_none⟩
          show Kp (if c = 10 then pz 0 else p)
          split
          · exact kp_none
          · exact h
        · exact ⟨h, kp_none⟩
theorem kp_feed : ∀ (b : B) {p : Ps}, Kp p → ∀ ev ∈ (feed p b).2, ev.rq.keys.length ≤ 100000
  | [], _, _, ev, h => by cases h
  | c :: b, p, hp, ev, h => by
    rw [feed_cons] at h
    simp only [thn] at h
    rcases List.mem_append.1 h with h | h
    · unfold evs at h
      split at h
      · cases h
      · simp at h
        subst h
        have := (kp_step hp c).2
        omega
    · exact kp_feed b (kp_step hp c).1 ev h
theorem str_mid (s : ByteArray) (i j : Nat) (hi : i ≤ j) (hj : j ≤ s.size) (w : World) : (Instr.sliceAt 9 (.string s) (some (.int .i64 (i : Int))) (some (.int .i64 (j : Int))) none).run Tryd.prog w = .ok (.string (S (((L s).take j).drop i))) w := by
  rw [run_sliceAt_string _ _ _ _ _ _ under9, run_slice_string_if _ _ _ _ _ _ _ under9, if_pos ⟨by omega, by omega⟩, if_pos ⟨by omega, by omega⟩]
  rw [show s.extract ((i : Int)).toNat ((j : Int)).toNat = S (((L s).take j).drop i) from L_inj (by rw [L_extract]; rfl)]
end Go.Proofs.YtedbklipbfbmoaaDoor
