/-
  slices.Delete, of the first frames.
-/
import Derived.Test.YtfinaichajbnkaaGreatPcu
namespace Go.Proofs.YtfinaichajbnkaaGreat
open Go.RowKit
open Wi (F)

def DelP (w : World) (o : Nat → Nat × Nat) (t : Nat × Nat) (l : List F) (k : Nat) (e : Ending) (w' : World) : Prop :=
  ∃ D', e = .returned D' ∧ OwnK w' o t 9 D' (l.drop k).length (fcz (l.drop k)) ∧ Fr (· = t) o o w w'
theorem src_dropz {w : World} {o : Nat → Nat × Nat} {t : Nat × Nat} {n g cap : Nat} {cs : List Value} (h : OwnK w o t 9 (.slice (some ⟨g, 0, none⟩) n cap) n cs) (l : Nat) (hl : l ≤ n) :
    Src Tryz.prog 9 44 (.slice (some (cutB g l cap)) (n - l) (cap - l)) (n - l) (cs.drop (l * 9)) w := by
  obtain ⟨hlen, h1, h⟩ := h
  rcases h with ⟨e, _⟩ | ⟨g', cap', e, h2, h3, h4, h5, h6, h7⟩
  · cases e
  · injection e with e1 e2 e3
    injection e1 with e1
    injection e1 with e1
    subst e1 e3
    refine Src.ofSlice _ und44 _ _ _ _ (by rw [List.length_drop, hlen, Nat.sub_mul]) (fun j u hu => ?_) (fun u hu => h1 u (List.mem_of_mem_drop hu))
    have hj := (List.getElem?_eq_some_iff.1 hu).1
    rw [List.length_drop, hlen] at hj
    have hne : ¬ cap = l := fun e => by
      have : n = l := by omega
      rw [this] at hj; omega
    unfold cutB
    rw [if_neg hne, adz2]
    rw [List.getElem?_drop] at hu
    exact h6 _ _ hu
set_option maxRecDepth 100000 in
set_option maxHeartbeats 1000000 in
theorem del_none {o : Nat → Nat × Nat} {t : Nat × Nat} (l : List F) (D : Value) (hn : l.length ≤ 100000) (w : World) (h : OwnK w o t 9 D l.length (fcz l)) :
    Calls Tryz.prog 62 #[D, .int .i64 0, .int .i64 0] w fun e w' => DelP w o t l 0 e w' := by
  have HE : Hid (DelP w o t l 0 (.returned D) w) := hid ⟨D, rfl, h, Fr.refl _ _ _⟩
  obtain ⟨b, c, rfl, hc⟩ := h.form
  obtain ⟨n, hnn⟩ : ∃ n, l.length = n := ⟨_, rfl⟩
  have HN := hid hnn
  rw [hnn] at hn hc HE ⊢
  obtain ⟨S0, sl0⟩ := sl_lhm b n c 0 0 ((n : Nat) : Int) (by omega) (by omega) (by omega) (by omega)
  clear h hnn
  go_enter Tryz.func62, Tryz.ntmps62
  go_wp2_with fail
  go_ret
  exact HE.out
set_option maxRecDepth 100000 in
set_option maxHeartbeats 1000000 in
theorem del_some {o : Nat → Nat × Nat} {t : Nat × Nat} (l : List F) (k : Nat) (hk0 : 0 < k) (hk : k ≤ l.length) (D : Value) (hn : l.length ≤ 100000) (w : World) (h : OwnK w o t 9 D l.length (fcz l)) :
    Calls Tryz.prog 62 #[D, .int .i64 0, .int .i64 ((k : Nat) : Int)] w fun e w' => DelP w o t l k e w' := by
  obtain ⟨m, hm⟩ : ∃ m, m = l.length - k := ⟨_, rfl⟩
  obtain ⟨n, hnn⟩ : ∃ n, l.length = n := ⟨_, rfl⟩
  rw [hnn] at h hk hn hm
  have hD : OwnK w.drew o t 9 D n (fcz l) := h.fr (Fr.drew1 (fun _ => False) o w) id
  obtain ⟨g, cap, rfl, hg, hgs, hcap, hmx, h6, h7⟩ := hD.there (by omega)
  obtain ⟨i0, hi, hz0, hz1, hz2⟩ := info_parts info27
  have hs := src_dropz hD k hk
  rw [← hm, fcz_drop] at hs
  have hcB : cutB g k cap = cutB g k cap := rfl
  have hs' : Src Tryz.prog i0.size 44 (.slice (some (cutB g k cap)) m (cap - k)) m (fcz (l.drop k)) w.drew := by rw [hz1]; exact hs
  have hml : (fcz (l.drop k)).length = m * 9 := by rw [fcz_length, List.length_drop, hnn, hm]
  have run1 := run_append_room_src (P := Tryz.prog) w.drew 44 44 44 27 i0 und44 hi g 0 0 cap _ m _ hs' (by omega) (fun j hj => by
      rw [hml] at hj
      simp only [hz1, Nat.zero_mul, Nat.zero_add]
      exact (h7 j (by omega)).1) (fun j hj => by
      rw [hml] at hj
      simp only [hz1, Nat.zero_mul, Nat.zero_add]
      exact (h7 j (by omega)).2)
  rw [hz1, Nat.zero_add, Nat.zero_add, Nat.zero_mul] at run1
  have O1 := hD.sets (fcz (l.drop k)) 0 (fcz_one _) (by rw [hml]; omega)
  rw [List.take_zero, List.nil_append] at O1
  obtain ⟨W1, hW1⟩ : ∃ W1, W1 = w.drew.setCells g 0 (fcz (l.drop k)) := ⟨_, rfl⟩
  rw [← hW1] at run1 O1
  have F1 : Fr (· = t) o o w W1 := by rw [hW1]; exact (Fr.drew1 _ o w).trans (Fr.sets (T := (· = t)) hg _ _ _)
  have h71 : ∀ j, j < cap * 9 → (W1.cell? ⟨g, j, none⟩).isSome = true ∧ W1.frozen? ⟨g, j, none⟩ = false := fun j hj => by
    rw [hW1]
    exact ⟨some_setCells g _ _ _ _ (h7 j hj).1, by rw [World.frozen?_setCells]; exact (h7 j hj).2⟩
  have run2 := fun ty => run_clearz W1 ty g (m * 9) k (cap - m) hk0 (fun j hj => h71 (m * 9 + j) (by omega))
  have hzl : (Builtin.zeroCells (Wi.Z.v).cells k).toList.length = k * 9 := by rw [Array.length_toList, size_zeroCells, cells27]
  have O2 := (O1.sets (Builtin.zeroCells (Wi.Z.v).cells k).toList (m * 9) (zone k) (by rw [hzl]; omega)).cut m (by omega)
  rw [List.append_assoc, List.take_left' (by rw [List.length_take, List.length_append, hml]; omega), List.take_left' hml] at O2
  have HE : Hid (DelP w o t l k (.returned (.slice (some ⟨g, 0, none⟩) m cap)) (W1.setCells g (m * 9) (Builtin.zeroCells (Wi.Z.v).cells k).toList)) := hid ⟨_, rfl, by rw [List.length_drop, hnn, ← hm]; exact O2, F1.trans (Fr.sets (T := (· = t)) hg _ _ _)⟩
  obtain ⟨zs, hzs⟩ : ∃ zs, (Builtin.zeroCells (Wi.Z.v).cells k).toList = zs := ⟨_, rfl⟩
  rw [hzs] at HE
  simp only [hzs] at run2
  have HN := hid hnn
  obtain ⟨V0, sl0⟩ := sl_lhm (some ⟨g, 0, none⟩) n cap 0 (k : Int) ((n : Nat) : Int) (by omega) (by omega) (by omega) (by omega)
  have sl1 := sl_hi g n cap 0 (by omega)
  have sl2 : ∀ w, (Instr.sliceAt 44 (.slice (some ⟨g, 0, none⟩) n cap) (some (.int .i64 (k : Int))) none none).run Tryz.prog w = .ok (.slice (some (cutB g k cap)) m (cap - k)) w := fun w => by
    have := sl_lo g n cap k (by omega) w
    rw [← hm] at this
    exact this
  have sl3 : ∀ w, (Instr.sliceAt 44 (.slice (some ⟨g, 0, none⟩) m cap) (some (.int .i64 (m : Int))) (some (.int .i64 (n : Int))) none).run Tryz.prog w = .ok (.slice (some ⟨g, m * 9, none⟩) k (cap - m)) w := fun w => by
    have := sl_lh g m cap m n (by omega) (by omega) w
    unfold cutB at this
    rw [if_neg (by omega), show n - m = k by omega] at this
    exact this
  have ne : ((0 : Int) == (k : Int)) = false := by simp; omega
  have sl1' : ∀ w, (Instr.sliceAt 44 (.slice (some ⟨g, 0, none⟩) n cap) none (some (.int .i64 0)) none).run Tryz.prog w = .ok (.slice (some ⟨g, 0, none⟩) 0 cap) w := fun w => sl1 w
  clear hzs h hD h6 h7 h71 hs hs' O1 O2 F1 hW1 hi hz0 hz1 hz2 hg hgs hml hzl hcB sl1 hnn hm
  go_enter Tryz.func62, Tryz.ntmps62
  go_wp2_with fail
  go_region_law (refine step_appz run1 (.tmp 22) (.tmp 25) (by with_reducible rfl) (by rfl) (by rfl) (by rfl) (by simp [Act.eval, Act.put]) (by simp [Act.eval, Act.put]) ?_)
  all_goals
    go_wp2_with fail
    go_ret
    exact HE.out
/-- slices.Delete, of the first ones. -/
theorem delete_any {o : Nat → Nat × Nat} {t : Nat × Nat} (l : List F) (k : Nat) (hk : k ≤ l.length) (D : Value) (hn : l.length ≤ 100000) (w : World) (h : OwnK w o t 9 D l.length (fcz l)) :
    Calls Tryz.prog 62 #[D, .int .i64 0, .int .i64 ((k : Nat) : Int)] w fun e w' => DelP w o t l k e w' := by
  by_cases e : k = 0
  · subst e; exact del_none l D hn w h
  · exact del_some l k (by omega) hk D hn w h
end Go.Proofs.YtfinaichajbnkaaGreat
