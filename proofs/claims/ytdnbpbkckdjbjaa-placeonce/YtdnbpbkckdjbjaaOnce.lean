/-
  PLACEONCE walked.
-/
import Derived.Test.YtdnbpbkckdjbjaaOne
namespace Go.Proofs.Ytdnbpbkckdjbjaa
open Go.RowKit

theorem bel_alloc (w : World) (ob : Obj) : Below w.heap.size w (w.alloc ob) := (Below.refl _ _).alloc (Nat.le_refl _) ob
def upd (f : Nat → Bool) (u v : Nat) : Bool := if v = u then true else f v
/-- The array of what was seen. -/
def Seen (w : World) (G : Nat) (f : Nat → Bool) : Prop := ∀ v, v < 12 → w.cell? ⟨G, v, none⟩ = some (.bool (f v)) ∧ w.frozen? ⟨G, v, none⟩ = false
theorem Seen.new (w : World) : Seen (w.alloc (.cells #[.bool false, .bool false, .bool false, .bool false, .bool false, .bool false, .bool false, .bool false, .bool false, .bool false, .bool false, .bool false] 29)) w.heap.size (fun _ => false) := fun v hv => by
  refine ⟨?_, World.frozen?_alloc_new _ _ _ _⟩
  rw [World.cell?_alloc_new]
  have : v = 0 ∨ v = 1 ∨ v = 2 ∨ v = 3 ∨ v = 4 ∨ v = 5 ∨ v = 6 ∨ v = 7 ∨ v = 8 ∨ v = 9 ∨ v = 10 ∨ v = 11 := by omega
  rcases this with h | h | h | h | h | h | h | h | h | h | h | h <;> rw [h] <;> rfl
theorem Seen.below {w w' : World} {G : Nat} {f : Nat → Bool} (h : Seen w G f) (b : Below w.heap.size w w') : Seen w' G f := fun v hv => by
  have hb := b.block G (World.block_lt_of_cell? _ _ (h v hv).1)
  exact ⟨(World.cell?_of_block (a := ⟨G, v, none⟩) hb).trans (h v hv).1, (World.frozen?_of_block (a := ⟨G, v, none⟩) hb).trans (h v hv).2⟩
theorem Seen.set {w : World} {G : Nat} {f : Nat → Bool} (h : Seen w G f) (u : Nat) (hu : u < 12) : Seen (w.setCell ⟨G, u, none⟩ (.bool true)) G (upd f u) := fun v hv => by
  unfold upd
  refine ⟨?_, by rw [World.frozen?_setCell]; exact (h v hv).2⟩
  by_cases e : v = u
  · rw [if_pos e, e, World.cell?_setCell_same _ _ _ (h u hu).1]
  · rw [if_neg e, World.cell?_setCell_other _ _ _ _ (fun x => e (by injection x with _ x; exact x.symm))]
    exact (h v hv).1
theorem IR.set {w : World} {g n c G : Nat} {l : List Int} (h : IR w (.slice (some ⟨g, 0, none⟩) n c) l) (hg : g ≠ G) (u : Nat) (x : Value) : IR (w.setCell ⟨G, u, none⟩ x) (.slice (some ⟨g, 0, none⟩) n c) l := by
  rcases h with h | ⟨g', cap, e, h1, h2, h3⟩
  · exact .inl h
  · injection e with e1 e2 e3
    injection e1 with e1
    injection e1 with e1
    subst e1
    exact .inr ⟨g, cap, by rw [e2, e3], h1, by simpa [World.setCell] using h2, fun j y hy => by
      rw [World.cell?_setCell_other _ _ _ _ (fun x => hg (by injection x with x _; exact x.symm))]; exact h3 j y hy⟩
set_option maxRecDepth 100000 in
set_option maxHeartbeats 2000000 in
theorem once_a (key : ByteArray) (hz : key.size ≤ 9223372036854775807) (hs : ¬ 500 < key.size) (K0 S0 : Int) (w : World) : Calls Try.prog 5 #[.string key, .int .i64 K0, .int .i64 S0] w fun e w' => e = .returned (.bool true) ∧ Below w.heap.size w w' := by
  have hi1 : decide ((500 : Int) < (key.size : Int)) = false := by simp; omega
  have hz2 : key.size ≤ 140737488355328 := by omega
  clear hs
  go_enter Try.func5, Try.ntmps5
  go_wp2_with fail
  obtain ⟨k, hk⟩ : ∃ k, k = key := ⟨_, rfl⟩
  rw [← hk] at hz2 ⊢
  clear hk hi1 hz
  have HZ := hid hz2
  refine (within_any S0 1 12 (by omega) (by omega) (by omega) _).mono ?_
  rintro e w1 ⟨rfl, rfl⟩
  obtain ⟨b1, b2⟩ := wi_bd S0 1 12 (by omega)
  obtain ⟨S, hS⟩ : ∃ S : Nat, wi S0 1 12 = (S : Int) := ⟨(wi S0 1 12).toNat, by omega⟩
  rw [hS] at b1 b2 ⊢
  clear hS
  go_wp2_with fail
  refine (within_any K0 0 (S : Int) (by omega) (by omega) (by omega) _).mono ?_
  rintro e w1 ⟨rfl, rfl⟩
  obtain ⟨b3, b4⟩ := wi_bd K0 0 (S : Int) (by omega)
  obtain ⟨K, hK⟩ : ∃ K : Nat, wi K0 0 (S : Int) = (K : Int) := ⟨(wi K0 0 (S : Int)).toNat, by omega⟩
  rw [hK] at b3 b4 ⊢
  clear hK
  have hKS : K ≤ S := by omega
  have hS12 : S ≤ 12 := by omega
  have hS1 : 1 ≤ S := by omega
  go_wp2_with fail
  refine (stripe_yes k HZ.out K S hS1 hS12 hKS _).mono ?_
  rintro e w2 ⟨V, rfl, i2, c2⟩
  obtain ⟨a2, p2, rfl, _⟩ := i2.form
  rw [stl_length] at i2 ⊢
  have HI := hid i2
  have HB := hid c2
  clear i2 c2
  go_wp2_with fail
  refine (stripe_yes k HZ.out S S hS1 hS12 (Nat.le_refl _) _).mono ?_
  rintro e w3 ⟨V, rfl, i3, c3⟩
  obtain ⟨a3, p3, rfl, hp3⟩ := i3.form
  rw [stl_length] at i3 hp3 ⊢
  have HI3 := hid (HI.out.below c3)
  have HJ3 := hid i3
  have HB3 := hid (HB.out.trans (c3.mono HB.out.size))
  have HC := hid ((by rw [stl_take k hKS]; exact id : IR w3 (.slice a3 K p3) ((stl k S S).take K) → IR w3 (.slice a3 K p3) (stl k K S)) (i3.cut K hKS))
  obtain ⟨g, rfl, _⟩ := i3.read (j := 0) (stl_at k (by omega))
  clear i3 c3 HI HB
  have hcut : ∀ w, (Instr.sliceAt 22 (.slice (some ⟨g, 0, none⟩) S p3) none (some (.int .i64 (K : Int))) none).run Try.prog w = .ok (.slice (some ⟨g, 0, none⟩) K p3) w := fun w => slice_hiT g S p3 K (by omega) w
  have ek : ((K : Int) != (K : Int)) = false := by simp
  have es : ((S : Int) != (S : Int)) = false := by simp
  go_wp2_with fail
  refine (same_any (stl k K S) (by rw [stl_length]; omega) _ HC.out HI3.out).mono ?_
  rintro e w4 ⟨rfl, c4⟩
  have HJ4 := hid (HJ3.out.below c4)
  have HB4 := hid (HB3.out.trans (c4.mono HB3.out.size))
  clear c4 HI3 HB3 HC HJ3 ek es
  go_wp2_with fail
  obtain ⟨G, hG⟩ : ∃ G, G = w4.heap.size := ⟨_, rfl⟩
  rw [← hG] at ⊢
  have HJ5 := hid (HJ4.out.below (bel_alloc w4 (.cells #[.bool false, .bool false, .bool false, .bool false, .bool false, .bool false, .bool false, .bool false, .bool false, .bool false, .bool false, .bool false] 29)))
  have HB5 := hid (HB4.out.trans ((bel_alloc w4 (.cells #[.bool false, .bool false, .bool false, .bool false, .bool false, .bool false, .bool false, .bool false, .bool false, .bool false, .bool false, .bool false] 29)).mono HB4.out.size))
  have HS5 : Hid (Seen (w4.alloc (.cells #[.bool false, .bool false, .bool false, .bool false, .bool false, .bool false, .bool false, .bool false, .bool false, .bool false, .bool false, .bool false] 29)) G (fun _ => false)) := by
    rw [hG]; exact Seen.new w4
  have HG : Hid (w.heap.size ≤ G) := by rw [hG]; exact HB4.out.size
  have HGG : Hid (g ≠ G) := by
    obtain ⟨g', e1, h1, _⟩ := HJ4.out.read (j := 0) (stl_at k (by omega))
    injection e1 with e1; injection e1 with e1
    show g ≠ G
    omega
  obtain ⟨w5, hw5⟩ : ∃ w5, w5 = w4.alloc (.cells #[.bool false, .bool false, .bool false, .bool false, .bool false, .bool false, .bool false, .bool false, .bool false, .bool false, .bool false, .bool false] 29) := ⟨_, rfl⟩
  rw [← hw5] at HJ5 HB5 HS5 ⊢
  clear hw5 hG HJ4 HB4
  go_wp2_with fail
  go_loopw [12] (fun i wr => ∃ (j : Nat) (f : Nat → Bool), j ≤ S ∧ i = .int .i64 (j : Int) ∧ Hid (IR wr (.slice (some ⟨g, 0, none⟩) S p3) (stl k S S)) ∧ Hid (Below w.heap.size w wr) ∧ Hid (Seen wr G f) ∧ Hid (∀ v, f v = true → ((v : Nat) : Int) ∈ (stl k S S).take j)) (fun i _ => S - (intOf i).toNat)
  case atStart => exact ⟨0, _, by omega, rfl, HJ5, HB5, HS5, (fun v h => by cases h)⟩
  case round =>
    clear HJ5 HB5 HS5
    obtain ⟨j, f, hj, rfl, HJ, HB, HS, HF⟩ := hrel
    by_cases hlt : j < S
    · have hat := stl_at k (s := S) hlt
      have hno := stl_once k (Nat.le_refl S) hlt
      have hp := pos_at k hS1 hS12 hlt
      have hu : (fst k S + j) % S < S := Nat.mod_lt _ (by omega)
      obtain ⟨u, hue⟩ : ∃ u, (fst k S + j) % S = u := ⟨_, rfl⟩
      rw [hue] at hat hno hp hu
      clear hue
      obtain ⟨g', e1, _, d1⟩ := HJ.out.read hat
      injection e1 with e1; injection e1 with e1; subst e1
      have hu12 : u < 12 := by omega
      have q1 := (HS.out u hu12).1
      have z1 := (HS.out u hu12).2
      have hfu : f u = false := by
        cases hf : f u
        · rfl
        · exact absurd (HF.out u hf) hno
      rw [hfu] at q1
      have hi1 : (j : Int) < (S : Int) := by omega
      have t1 : decide ((u : Int) < 0) = false := by simp
      have t2 : decide ((S : Int) ≤ (u : Int)) = false := by simp; omega
      have ej : ((j : Int) != (j : Int)) = false := by simp
      have hul : (u : Int) < 12 := by omega
      have HP := hid hp
      have HAT := hid hat
      clear hat hno hp hfu
      go_wp2_with fail
      refine (pos_any k HZ.out (S : Int) (S : Int) (u : Int) _).mono ?_
      rintro e w6 ⟨rfl, c6⟩
      rw [HP.out]
      have HB6 := hid (HB.out.trans (c6.mono HB.out.size))
      have HJ6 := hid (HJ.out.below c6)
      have HS6 := hid (HS.out.below c6)
      obtain ⟨g', e1, _, d2⟩ := HJ6.out.read HAT.out
      injection e1 with e1; injection e1 with e1; subst e1
      have q2 := (HS6.out u hu12).1
      have z2 := (HS6.out u hu12).2
      clear c6 HB HJ HS d1 q1 z1
      have HB7 := hid (HB6.out.setCell (p := ⟨G, u, none⟩) HG.out (.bool true))
      have HS7 := hid (HS6.out.set u hu12)
      have HJ7 := hid (HJ6.out.set HGG.out u (.bool true))
      have HF7 : Hid (∀ v, upd f u v = true → ((v : Nat) : Int) ∈ (stl k S S).take (j + 1)) := by
        intro v hv
        unfold upd at hv
        rw [List.take_add_one, HAT.out]
        by_cases h : v = u
        · rw [h]; exact List.mem_append_right _ (List.mem_singleton.2 rfl)
        · rw [if_neg h] at hv
          exact List.mem_append_left _ (HF.out v hv)
      clear HB6 HJ6 HS6 HF
      go_wp2_with fail
      exact ⟨⟨j + 1, _, by omega, by go_num, HJ7, HB7, HS7, HF7⟩, by simp [intOf]; omega⟩
    · go_wp2_with fail
      refine (runs_any _).mono ?_
      rintro e w9 ⟨rfl, b9⟩
      have HB9 := hid (HB.out.trans (b9.mono HB.out.size))
      clear b9
      go_wp2_with fail
      go_ret
      exact ⟨rfl, HB9.out⟩
set_option maxRecDepth 100000 in
set_option maxHeartbeats 2000000 in
theorem once_b (key : ByteArray) (hz : key.size ≤ 9223372036854775807) (hs : 500 < key.size) (K0 S0 : Int) (w : World) : Calls Try.prog 5 #[.string key, .int .i64 K0, .int .i64 S0] w fun e w' => e = .returned (.bool true) ∧ Below w.heap.size w w' := by
  have hi1 : (500 : Int) < (key.size : Int) := by omega
  have hz2 : (key.extract 0 500).size ≤ 140737488355328 := by rw [ByteArray.size_extract]; omega
  clear hs
  go_enter Try.func5, Try.ntmps5
  go_wp2_with fail
  obtain ⟨k, hk⟩ : ∃ k, k = key.extract 0 500 := ⟨_, rfl⟩
  rw [← hk] at hz2 ⊢
  clear hk hi1 hz
  have HZ := hid hz2
  refine (within_any S0 1 12 (by omega) (by omega) (by omega) _).mono ?_
  rintro e w1 ⟨rfl, rfl⟩
  obtain ⟨b1, b2⟩ := wi_bd S0 1 12 (by omega)
  obtain ⟨S, hS⟩ : ∃ S : Nat, wi S0 1 12 = (S : Int) := ⟨(wi S0 1 12).toNat, by omega⟩
  rw [hS] at b1 b2 ⊢
  clear hS
  go_wp2_with fail
  refine (within_any K0 0 (S : Int) (by omega) (by omega) (by omega) _).mono ?_
  rintro e w1 ⟨rfl, rfl⟩
  obtain ⟨b3, b4⟩ := wi_bd K0 0 (S : Int) (by omega)
  obtain ⟨K, hK⟩ : ∃ K : Nat, wi K0 0 (S : Int) = (K : Int) := ⟨(wi K0 0 (S : Int)).toNat, by omega⟩
  rw [hK] at b3 b4 ⊢
  clear hK
  have hKS : K ≤ S := by omega
  have hS12 : S ≤ 12 := by omega
  have hS1 : 1 ≤ S := by omega
  go_wp2_with fail
  refine (stripe_yes k HZ.out K S hS1 hS12 hKS _).mono ?_
  rintro e w2 ⟨V, rfl, i2, c2⟩
  obtain ⟨a2, p2, rfl, _⟩ := i2.form
  rw [stl_length] at i2 ⊢
  have HI := hid i2
  have HB := hid c2
  clear i2 c2
  go_wp2_with fail
  refine (stripe_yes k HZ.out S S hS1 hS12 (Nat.le_refl _) _).mono ?_
  rintro e w3 ⟨V, rfl, i3, c3⟩
  obtain ⟨a3, p3, rfl, hp3⟩ := i3.form
  rw [stl_length] at i3 hp3 ⊢
  have HI3 := hid (HI.out.below c3)
  have HJ3 := hid i3
  have HB3 := hid (HB.out.trans (c3.mono HB.out.size))
  have HC := hid ((by rw [stl_take k hKS]; exact id : IR w3 (.slice a3 K p3) ((stl k S S).take K) → IR w3 (.slice a3 K p3) (stl k K S)) (i3.cut K hKS))
  obtain ⟨g, rfl, _⟩ := i3.read (j := 0) (stl_at k (by omega))
  clear i3 c3 HI HB
  have hcut : ∀ w, (Instr.sliceAt 22 (.slice (some ⟨g, 0, none⟩) S p3) none (some (.int .i64 (K : Int))) none).run Try.prog w = .ok (.slice (some ⟨g, 0, none⟩) K p3) w := fun w => slice_hiT g S p3 K (by omega) w
  have ek : ((K : Int) != (K : Int)) = false := by simp
  have es : ((S : Int) != (S : Int)) = false := by simp
  go_wp2_with fail
  refine (same_any (stl k K S) (by rw [stl_length]; omega) _ HC.out HI3.out).mono ?_
  rintro e w4 ⟨rfl, c4⟩
  have HJ4 := hid (HJ3.out.below c4)
  have HB4 := hid (HB3.out.trans (c4.mono HB3.out.size))
  clear c4 HI3 HB3 HC HJ3 ek es
  go_wp2_with fail
  obtain ⟨G, hG⟩ : ∃ G, G = w4.heap.size := ⟨_, rfl⟩
  rw [← hG] at ⊢
  have HJ5 := hid (HJ4.out.below (bel_alloc w4 (.cells #[.bool false, .bool false, .bool false, .bool false, .bool false, .bool false, .bool false, .bool false, .bool false, .bool false, .bool false, .bool false] 29)))
  have HB5 := hid (HB4.out.trans ((bel_alloc w4 (.cells #[.bool false, .bool false, .bool false, .bool false, .bool false, .bool false, .bool false, .bool false, .bool false, .bool false, .bool false, .bool false] 29)).mono HB4.out.size))
  have HS5 : Hid (Seen (w4.alloc (.cells #[.bool false, .bool false, .bool false, .bool false, .bool false, .bool false, .bool false, .bool false, .bool false, .bool false, .bool false, .bool false] 29)) G (fun _ => false)) := by
    rw [hG]; exact Seen.new w4
  have HG : Hid (w.heap.size ≤ G) := by rw [hG]; exact HB4.out.size
  have HGG : Hid (g ≠ G) := by
    obtain ⟨g', e1, h1, _⟩ := HJ4.out.read (j := 0) (stl_at k (by omega))
    injection e1 with e1; injection e1 with e1
    show g ≠ G
    omega
  obtain ⟨w5, hw5⟩ : ∃ w5, w5 = w4.alloc (.cells #[.bool false, .bool false, .bool false, .bool false, .bool false, .bool false, .bool false, .bool false, .bool false, .bool false, .bool false, .bool false] 29) := ⟨_, rfl⟩
  rw [← hw5] at HJ5 HB5 HS5 ⊢
  clear hw5 hG HJ4 HB4
  go_wp2_with fail
  go_loopw [12] (fun i wr => ∃ (j : Nat) (f : Nat → Bool), j ≤ S ∧ i = .int .i64 (j : Int) ∧ Hid (IR wr (.slice (some ⟨g, 0, none⟩) S p3) (stl k S S)) ∧ Hid (Below w.heap.size w wr) ∧ Hid (Seen wr G f) ∧ Hid (∀ v, f v = true → ((v : Nat) : Int) ∈ (stl k S S).take j)) (fun i _ => S - (intOf i).toNat)
  case atStart => exact ⟨0, _, by omega, rfl, HJ5, HB5, HS5, (fun v h => by cases h)⟩
  case round =>
    clear HJ5 HB5 HS5
    obtain ⟨j, f, hj, rfl, HJ, HB, HS, HF⟩ := hrel
    by_cases hlt : j < S
    · have hat := stl_at k (s := S) hlt
      have hno := stl_once k (Nat.le_refl S) hlt
      have hp := pos_at k hS1 hS12 hlt
      have hu : (fst k S + j) % S < S := Nat.mod_lt _ (by omega)
      obtain ⟨u, hue⟩ : ∃ u, (fst k S + j) % S = u := ⟨_, rfl⟩
      rw [hue] at hat hno hp hu
      clear hue
      obtain ⟨g', e1, _, d1⟩ := HJ.out.read hat
      injection e1 with e1; injection e1 with e1; subst e1
      have hu12 : u < 12 := by omega
      have q1 := (HS.out u hu12).1
      have z1 := (HS.out u hu12).2
      have hfu : f u = false := by
        cases hf : f u
        · rfl
        · exact absurd (HF.out u hf) hno
      rw [hfu] at q1
      have hi1 : (j : Int) < (S : Int) := by omega
      have t1 : decide ((u : Int) < 0) = false := by simp
      have t2 : decide ((S : Int) ≤ (u : Int)) = false := by simp; omega
      have ej : ((j : Int) != (j : Int)) = false := by simp
      have hul : (u : Int) < 12 := by omega
      have HP := hid hp
      have HAT := hid hat
      clear hat hno hp hfu
      go_wp2_with fail
      refine (pos_any k HZ.out (S : Int) (S : Int) (u : Int) _).mono ?_
      rintro e w6 ⟨rfl, c6⟩
      rw [HP.out]
      have HB6 := hid (HB.out.trans (c6.mono HB.out.size))
      have HJ6 := hid (HJ.out.below c6)
      have HS6 := hid (HS.out.below c6)
      obtain ⟨g', e1, _, d2⟩ := HJ6.out.read HAT.out
      injection e1 with e1; injection e1 with e1; subst e1
      have q2 := (HS6.out u hu12).1
      have z2 := (HS6.out u hu12).2
      clear c6 HB HJ HS d1 q1 z1
      have HB7 := hid (HB6.out.setCell (p := ⟨G, u, none⟩) HG.out (.bool true))
      have HS7 := hid (HS6.out.set u hu12)
      have HJ7 := hid (HJ6.out.set HGG.out u (.bool true))
      have HF7 : Hid (∀ v, upd f u v = true → ((v : Nat) : Int) ∈ (stl k S S).take (j + 1)) := by
        intro v hv
        unfold upd at hv
        rw [List.take_add_one, HAT.out]
        by_cases h : v = u
        · rw [h]; exact List.mem_append_right _ (List.mem_singleton.2 rfl)
        · rw [if_neg h] at hv
          exact List.mem_append_left _ (HF.out v hv)
      clear HB6 HJ6 HS6 HF
      go_wp2_with fail
      exact ⟨⟨j + 1, _, by omega, by go_num, HJ7, HB7, HS7, HF7⟩, by simp [intOf]; omega⟩
    · go_wp2_with fail
      refine (runs_any _).mono ?_
      rintro e w9 ⟨rfl, b9⟩
      have HB9 := hid (HB.out.trans (b9.mono HB.out.size))
      clear b9
      go_wp2_with fail
      go_ret
      exact ⟨rfl, HB9.out⟩
theorem once_walk (key : ByteArray) (hz : key.size ≤ 9223372036854775807) (k s : Int) (w : World) : Calls Try.prog 5 #[.string key, .int .i64 k, .int .i64 s] w fun e w' => e = .returned (.bool true) ∧ Below w.heap.size w w' := by
  by_cases h : 500 < key.size
  · exact once_b key hz h k s w
  · exact once_a key hz h k s w
end Go.Proofs.Ytdnbpbkckdjbjaa
