/-
  slices.Insert, of one frame.
-/
import Derived.Test.YtfinaichajbnkaaGreatDoorPcu
import Derived.Lib.Overlaps
namespace Go.Proofs.YtfinaichajbnkaaGreatDoor
open Go.RowKit
open Wi (F)

set_option maxRecDepth 100000 in
/-- append(l[:n], make([]T, q)...) where there is no room. -/
theorem grow_zeros {w : World} {k n q : Nat} {cs : List Value} (T e : TypeId) (z : Value) (bz : Nat) (ht : Tryz.prog.underlying T = some (.slice e)) (hti : Tryz.prog.underlying 3 = some (.int .i64)) (hinfo : (Tryz.prog.info? e).map (fun i => (i.zero, i.size, i.bytes)) = some (some z, k, bz)) (hk : 0 < k) (hq : 0 < q) (hb : (n + q) * bz ≤ 140737488355328) (hb2 : n + q ≤ 140737488355328)
    (a : Option Addr) (c : Nat) (hc : c < n + q) (hold : (Builtin.firstCells k n (.slice a n c)).run Tryz.prog w.drew = .ok cs.toArray w.drew) :
    ∃ cap, n + q ≤ cap ∧ cap ≤ maxLen ∧ (Builtin.append_ #[T, 3] T #[.slice a n c, .int .i64 (q : Int)]).run Tryz.prog w = .ok (.slice (some ⟨w.heap.size, 0, none⟩) (n + q) cap) (w.drew.alloc (.cells ((cs ++ (Builtin.zeroCells z.cells q).toList).toArray ++ Builtin.zeroCells z.cells (cap - (n + q))) e)) := by
  obtain ⟨i0, hi, hz0, hz1, hz2⟩ := info_parts hinfo
  have hmax : n + q ≤ maxLen := by unfold maxLen; omega
  have hw : IntKind.i64.wrap (q : Int) = q := by rw [IntKind.wrap_i64]; omega
  have hneg : ¬ ((q : Int) < 0) := by omega
  have hqb : q * bz ≤ 140737488355328 := Nat.le_trans (Nat.mul_le_mul_right _ (by omega)) hb
  have h48i : ¬ (281474976710656 < (q : Int) * (bz : Int)) := by
    rw [← Int.natCast_mul]; omega
  have hns : ¬ (q * k = 0) := Nat.mul_ne_zero (by omega) (by omega)
  have h63 : ¬ (9223372036854775807 < (n : Int) + (q : Int)) := by omega
  have hn : ¬ (n + q ≤ c) := by omega
  have h48 : ¬ (281474976710656 < Builtin.nextslicecap (n + q) c * bz) := by have := growslice_fits hc hb; omega
  refine ⟨grownCap w (n + q) c e, grownCap_ge w (n + q) c e, grownCap_le_maxLen w (n + q) c e hmax, ?_⟩
  simp [Builtin.append_, run_underlying ht, run_underlying hti, sizeOf, typeInfo, zeroValue, hi, hz0, hz1, hz2, asInt, asIntOf, hw, hneg, hns, h48i, hn, h63, h48, Question.forced, hold, newRow, grownCap]
  congr 2
  apply Array.ext'
  simp [List.append_assoc]
theorem ins_list (T Y A R : List Value) (p : Nat) (hT : T.length = p) (hY : Y.length = 9 + R.length) (hA : A.length = 9) :
    ((T ++ Y).take p ++ A ++ (T ++ Y).drop (p + A.length)).take (p + 9) ++ R ++ ((T ++ Y).take p ++ A ++ (T ++ Y).drop (p + A.length)).drop (p + 9 + R.length) = T ++ A ++ R := by
  subst hT
  rw [List.take_left' rfl, hA, List.drop_append, List.drop_eq_nil_of_le (by omega), List.nil_append, show T.length + 9 - T.length = 9 by omega]
  have e : (T ++ A).length = T.length + 9 := by rw [List.length_append, hA]
  rw [List.take_left' e, List.drop_eq_nil_of_le (by rw [List.length_append, e, List.length_drop, hY]; omega), List.append_nil]
/-- A frame stored in its place, in a list that has the room. -/
theorem own_ins {w : World} {o : Nat → Nat × Nat} {t : Nat × Nat} {n cap g i : Nat} {cs A : List Value} (hl : cs.length = n * 9) (hA : A.length = 9) (hi : i ≤ n) (h1 : ∀ u ∈ cs, u.oneCell' = true) (h2 : ∀ u ∈ A, u.oneCell' = true) (hg : o g = t) (hgs : g < w.heap.size) (hroom : n + 1 ≤ cap) (hm : cap ≤ maxLen)
    (h6 : ∀ j u, cs[j]? = some u → w.cell? ⟨g, j, none⟩ = some u) (h7 : ∀ j, j < cap * 9 → (w.cell? ⟨g, j, none⟩).isSome = true ∧ w.frozen? ⟨g, j, none⟩ = false) :
    OwnK ((w.setCells g ((i + 1) * 9) (cs.drop (i * 9))).setCells g (i * 9) A) o t 9 (.slice (some ⟨g, 0, none⟩) (n + 1) cap) (n + 1) (cs.take (i * 9) ++ A ++ cs.drop (i * 9)) := by
  have hd : (cs.drop (i * 9)).length = n * 9 - i * 9 := by rw [List.length_drop, hl]
  have ht : (cs.take (i * 9)).length = i * 9 := by rw [List.length_take, hl]; omega
  refine ⟨by rw [List.length_append, List.length_append, hd, ht, hA]; omega, fun u hu => ?_, .inr ⟨g, cap, rfl, hg, by rw [size_setCells, size_setCells]; exact hgs, hroom, hm, fun j u hu => ?_, fun j hj => ⟨some_setCells g _ _ _ _ (some_setCells g _ _ _ _ (h7 j hj).1), by rw [World.frozen?_setCells, World.frozen?_setCells]; exact (h7 j hj).2⟩⟩⟩
  · rcases List.mem_append.1 hu with h | h
    · rcases List.mem_append.1 h with h | h
      · exact h1 u (List.mem_of_mem_take h)
      · exact h2 u h
    · exact h1 u (List.mem_of_mem_drop h)
  · have some7 : ∀ j, j < cap * 9 → ((w.setCells g ((i + 1) * 9) (cs.drop (i * 9))).cell? ⟨g, j, none⟩).isSome = true := fun j hj => some_setCells g _ _ _ _ (h7 j hj).1
    by_cases c1 : j < i * 9
    · rw [List.append_assoc, List.getElem?_append_left (by rw [ht]; exact c1), List.getElem?_take, if_pos c1] at hu
      rw [World.cell?_setCells_out g A (i * 9) _ ⟨g, j, none⟩ (fun _ _ => .inl c1), World.cell?_setCells_out g _ ((i + 1) * 9) _ ⟨g, j, none⟩ (fun _ _ => .inl (by show j < (i + 1) * 9; omega))]
      exact h6 j u hu
    · by_cases c2 : j < i * 9 + 9
      · rw [List.append_assoc, List.getElem?_append_right (by rw [ht]; omega), List.getElem?_append_left (by rw [ht, hA]; omega), ht] at hu
        have e := World.cell?_setCells_in g A (i * 9) (w.setCells g ((i + 1) * 9) (cs.drop (i * 9))) (fun q hq => some7 _ (by omega)) (j - i * 9) (by omega)
        rw [show i * 9 + (j - i * 9) = j by omega] at e
        rw [e]
        rw [List.getElem?_eq_getElem (by omega)] at hu; exact hu
      · have hu2 : (cs.drop (i * 9))[j - (i * 9 + 9)]? = some u := by
          rw [List.getElem?_append_right (by rw [List.length_append, ht, hA]; omega), List.length_append, ht, hA] at hu; exact hu
        have hjl := (List.getElem?_eq_some_iff.1 hu2).1
        rw [World.cell?_setCells_out g A (i * 9) _ ⟨g, j, none⟩ (fun _ _ => .inr (by show i * 9 + A.length ≤ j; omega))]
        have e := World.cell?_setCells_in g (cs.drop (i * 9)) ((i + 1) * 9) w (fun q hq => (h7 _ (by omega)).1) (j - (i * 9 + 9)) hjl
        rw [show (i + 1) * 9 + (j - (i * 9 + 9)) = j by omega] at e
        rw [e]
        rw [List.getElem?_eq_getElem hjl] at hu2; exact hu2
theorem drew_sets (g : Nat) : ∀ (vs : List Value) (j : Nat) (w : World), (w.setCells g j vs).drew = w.drew.setCells g j vs
  | [], _, _ => rfl
  | v :: r, j, w => by rw [World.setCells, World.setCells, drew_sets g r]; rfl
theorem F.clen (f : F) : f.cs.length = 9 := rfl
/-- A frame in a row of its own, as what is put in. -/
structure OneF (w : World) (o : Nat → Nat × Nat) (t : Nat × Nat) (V : Nat) (a : F) : Prop where
  q : ∀ j u, a.cs[j]? = some u → w.cell? ⟨V, j, none⟩ = some u
  ne : o V ≠ t
  lt : V < w.heap.size
  sh : w.shape? V = some (28, 9)
  f0 : ∀ j, w.frozen? ⟨V, j, none⟩ = false
theorem OneF.src {w : World} {o : Nat → Nat × Nat} {t : Nat × Nat} {V : Nat} {a : F} (h : OneF w o t V a) : Src Tryz.prog 9 39 (.slice (some ⟨V, 0, none⟩) 1 1) 1 a.cs w :=
  Src.ofSlice _ und44 _ 1 1 _ rfl (fun j u hu => by rw [adz]; exact h.q j u hu) (fz_one a)
def InsP (w : World) (o : Nat → Nat × Nat) (t : Nat × Nat) (l : List F) (i : Nat) (a : F) (e : Ending) (w' : World) : Prop :=
  ∃ D' o', e = .returned D' ∧ OwnK w' o' t 9 D' (l.length + 1) (fcz (l.take i ++ a :: l.drop i)) ∧ Fr (· = t) o o' w w'
set_option maxRecDepth 100000 in
set_option maxHeartbeats 1000000 in
theorem ins_end {o : Nat → Nat × Nat} {t : Nat × Nat} (l : List F) (a : F) (D : Value) (hn : l.length ≤ 100000) (w : World) (h : OwnK w o t 9 D l.length (fcz l)) (V : Nat) (hv : OneF w o t V a) :
    Calls Tryz.prog 29 #[D, .int .i64 ((l.length : Nat) : Int), .slice (some ⟨V, 0, none⟩) 1 1] w fun e w' => InsP w o t l l.length a e w' := by
  obtain ⟨v', w', o', hr, hO, hf⟩ := app_own (t := t) 39 39 28 Wi.Z.v 88 und44 info28 cells27 h hv.src (by omega) (by omega)
  have HE : Hid (InsP w o t l l.length a (.returned v') w') := hid ⟨v', o', rfl, by rw [List.take_length, List.drop_length, fcz_append, fcz_cons]; simpa [fcz] using hO, hf⟩
  obtain ⟨b, c, rfl, _⟩ := h.form
  obtain ⟨S0, sl0⟩ := sl_any b l.length c l.length (Nat.le_refl _)
  obtain ⟨n, hnn⟩ : ∃ n, l.length = n := ⟨_, rfl⟩
  have HN := hid hnn
  rw [hnn] at hr hO sl0 hn ⊢
  rw [hnn] at HE
  clear h hv hO hf hnn
  go_enter Tryz.func29, Tryz.ntmps29
  go_wp2_with (at_builtin; refine wpList_append_run rfl (.tmp 23) (.tmp 24) 39 39 rfl _ _ _ rfl rfl hr ?_)
  go_ret
  exact HE.out
set_option maxRecDepth 100000 in
set_option maxHeartbeats 1000000 in
theorem ins_room {o : Nat → Nat × Nat} {t : Nat × Nat} (l : List F) (a : F) (i : Nat) (hi : i < l.length) (g cap : Nat) (hn : l.length ≤ 100000) (w : World) (h : OwnK w o t 9 (.slice (some ⟨g, 0, none⟩) l.length cap) l.length (fcz l)) (hroom : l.length + 1 ≤ cap) (V : Nat) (hv : OneF w o t V a) :
    Calls Tryz.prog 29 #[.slice (some ⟨g, 0, none⟩) l.length cap, .int .i64 ((i : Nat) : Int), .slice (some ⟨V, 0, none⟩) 1 1] w fun e w' => InsP w o t l i a e w' := by
  obtain ⟨g', cap', e, hg, hgs, hcap, hmx, h6, h7⟩ := h.there (by omega)
  injection e with e1 e2 e3
  injection e1 with e1
  injection e1 with e1
  subst e1 e3
  clear e2
  have hl := h.1
  have hO := own_ins (i := i) hl (F.clen a) (by omega) h.2.1 (fz_one a) hg (by exact hgs) hroom hmx (w := w.drew) h6 h7
  rw [fcz_take, fcz_drop] at hO
  have hO2 : OwnK ((w.drew.setCells g ((i + 1) * 9) (fcz (l.drop i))).setCells g (i * 9) a.cs) o t 9 (.slice (some ⟨g, 0, none⟩) (l.length + 1) cap) (l.length + 1) (fcz (l.take i ++ a :: l.drop i)) := by
    rw [fcz_append, fcz_cons, ← List.append_assoc]; exact hO
  have F1 : Fr (· = t) o o w ((w.drew.setCells g ((i + 1) * 9) (fcz (l.drop i))).setCells g (i * 9) a.cs) := ((Fr.drew1 _ o w).trans (Fr.sets (T := (· = t)) hg _ _ _)).trans (Fr.sets (T := (· = t)) hg _ _ _)
  have HE : Hid (InsP w o t l i a (.returned (.slice (some ⟨g, 0, none⟩) (l.length + 1) cap)) ((w.drew.setCells g ((i + 1) * 9) (fcz (l.drop i))).setCells g (i * 9) a.cs)) := hid ⟨_, o, rfl, hO2, F1⟩
  have hVg : V ≠ g := fun e => hv.ne (by rw [e]; exact hg)
  have hdl : (fcz (l.drop i)).length = (l.length - i) * 9 := by rw [fcz_length, List.length_drop]
  have hsh := shape_of (h7 0 (by omega)).1
  obtain ⟨tB, kB, hsb, hkB⟩ := hsh
  have hov : ∀ lb cb, (callFunc 33 #[.slice (some ⟨V, 0, none⟩) 1 1, .slice (some ⟨g, (i + 1) * 9, none⟩) lb cb]).run Tryz.prog w = .ok (.value (.bool false)) w := fun lb cb => by
    rw [run_callFunc_extern Tryz.func33 (by kernel_rfl) (by kernel_rfl) (by kernel_rfl) (e := Extern.SlicesOverlaps.overlaps #[39, 39] #[4]) (by kernel_rfl),
      Lib.run_overlaps_apart w 39 4 28 und44 9 size27' ⟨V, 0, none⟩ ⟨g, (i + 1) * 9, none⟩ 1 1 lb cb hVg 28 tB 9 kB hv.sh hsb hkB (hv.f0 0) (hv.f0 9)]
    rfl
  obtain ⟨W1, hW1⟩ : ∃ W1, W1 = w.drew.setCells g ((i + 1) * 9) (fcz (l.drop i)) := ⟨_, rfl⟩
  have run1 : ∀ ty, (Builtin.copy_ #[39, 39] ty #[.slice (some ⟨g, (i + 1) * 9, none⟩) (l.length - i) (cap - (i + 1)), .slice (some ⟨g, i * 9, none⟩) (l.length + 1 - i) (cap - i)]).run Tryz.prog w.drew = .ok (goInt (((l.length - i : Nat)) : Int)) W1 := fun ty => by
    rw [hW1]
    exact run_copy_k 9 w.drew _ _ ty 28 g ((i + 1) * 9) (l.length - i) _ ⟨g, i * 9, none⟩ (l.length + 1 - i) _ (l.length - i) (fcz (l.drop i)) und44 size27 (by simp only [Nat.min_def]; split <;> omega) hdl
      (fun j v hj => by rw [adz2]; rw [← fcz_drop, List.getElem?_drop] at hj; exact h6 _ v hj) (fun j hj => (h7 _ (by rw [hdl] at hj; omega)).1) (fun j hj => (h7 _ (by rw [hdl] at hj; omega)).2) (fcz_one _)
  have h71 : ∀ j, j < cap * 9 → (W1.cell? ⟨g, j, none⟩).isSome = true ∧ W1.frozen? ⟨g, j, none⟩ = false := fun j hj => by
    rw [hW1]
    exact ⟨some_setCells g _ _ _ _ (h7 j hj).1, by rw [World.frozen?_setCells]; exact (h7 j hj).2⟩
  have run2 : ∀ ty, (Builtin.copy_ #[39, 39] ty #[.slice (some ⟨g, i * 9, none⟩) (l.length + 1 - i) (cap - i), .slice (some ⟨V, 0, none⟩) 1 1]).run Tryz.prog W1 = .ok (goInt 1) (W1.setCells g (i * 9) a.cs) := fun ty =>
    run_copy_k 9 W1 _ _ ty 28 g (i * 9) (l.length + 1 - i) _ ⟨V, 0, none⟩ 1 _ 1 a.cs und44 size27 (by simp only [Nat.min_def]; split <;> omega) (F.clen a)
      (fun j v hj => by rw [adz, hW1, World.cell?_setCells_out _ _ _ _ _ (fun e _ => absurd e hVg)]; exact hv.q j v hj) (fun j hj => (h71 _ (by rw [F.clen] at hj; omega)).1) (fun j hj => (h71 _ (by rw [F.clen] at hj; omega)).2) (fz_one a)
  rw [← hW1] at HE
  obtain ⟨n, hnn⟩ : ∃ n, l.length = n := ⟨_, rfl⟩
  have HN := hid hnn
  rw [hnn] at run1 run2 hn hroom hi HE ⊢
  obtain ⟨S0, sl0⟩ := sl_any (some ⟨g, 0, none⟩) n cap i (by omega)
  have sl1 : ∀ w, (Instr.sliceAt 39 (.slice (some ⟨g, 0, none⟩) n cap) none (some (.int .i64 ((n : Int) + 1))) none).run Tryz.prog w = .ok (.slice (some ⟨g, 0, none⟩) (n + 1) cap) w := fun w => sl_hi g n cap (n + 1) hroom w
  have sl2 : ∀ w, (Instr.sliceAt 39 (.slice (some ⟨g, 0, none⟩) (n + 1) cap) (some (.int .i64 ((i : Int) + 1))) none none).run Tryz.prog w = .ok (.slice (some ⟨g, (i + 1) * 9, none⟩) (n - i) (cap - (i + 1))) w := fun w => by
    have := sl_lo g (n + 1) cap (i + 1) (by omega) w
    rw [show n + 1 - (i + 1) = n - i by omega] at this
    unfold cutB at this
    rw [if_neg (by omega)] at this
    exact this
  have sl3 : ∀ w, (Instr.sliceAt 39 (.slice (some ⟨g, 0, none⟩) (n + 1) cap) (some (.int .i64 (i : Int))) none none).run Tryz.prog w = .ok (.slice (some ⟨g, i * 9, none⟩) (n + 1 - i) (cap - i)) w := fun w => by
    have := sl_lo g (n + 1) cap i (by omega) w
    unfold cutB at this
    rw [if_neg (by omega)] at this
    exact this
  have ne : ((i : Int) == (n : Int)) = false := by simp; omega
  have wr : IntKind.i64.wrap ((i : Int) + 1) = (i : Int) + 1 := by rw [IntKind.wrap_i64]; omega
  have lt : decide ((cap : Int) < (n : Int) + 1) = false := by simp; omega
  clear h hv hO hO2 F1 hg hgs hcap hmx h6 h7 h71 hl hdl hsb hkB hVg hW1 hnn
  go_enter Tryz.func29, Tryz.ntmps29
  go_wp2_with (simp only [hov])
  go_region_law (refine step_copy run1 (.tmp 73) (.tmp 76) (by with_reducible rfl) (by rfl) (by rfl) (by simp [Act.eval, Act.put]) (by simp [Act.eval, Act.put]) ?_)
  all_goals
    go_wp2_with (at_builtin; refine wpList_copy_run rfl (.tmp 80) (.tmp 81) 39 39 rfl _ _ _ rfl rfl (run2 _) ?_)
    go_ret
    exact HE.out
set_option maxRecDepth 100000 in
set_option maxHeartbeats 1000000 in
theorem ins_grow {o : Nat → Nat × Nat} {t : Nat × Nat} (l : List F) (a : F) (i : Nat) (hi : i < l.length) (g cap : Nat) (hn : l.length ≤ 100000) (w : World) (h : OwnK w o t 9 (.slice (some ⟨g, 0, none⟩) l.length cap) l.length (fcz l)) (hroom : cap < l.length + 1) (V : Nat) (hv : OneF w o t V a) :
    Calls Tryz.prog 29 #[.slice (some ⟨g, 0, none⟩) l.length cap, .int .i64 ((i : Nat) : Int), .slice (some ⟨V, 0, none⟩) 1 1] w fun e w' => InsP w o t l i a e w' := by
  obtain ⟨g', cap', e, hg, hgs, hcap, hmx, h6, h7⟩ := h.there (by omega)
  injection e with e1 e2 e3
  injection e1 with e1
  injection e1 with e1
  subst e1 e3
  clear e2
  have hl := h.1
  obtain ⟨n, hnn⟩ : ∃ n, l.length = n := ⟨_, rfl⟩
  have hdl : (fcz (l.drop i)).length = (n - i) * 9 := by rw [fcz_length, List.length_drop, hnn]
  rw [hnn] at hi hn hroom hcap hl ⊢
  obtain ⟨q, hq⟩ : ∃ q, q = n + 1 - i := ⟨_, rfl⟩
  have htl : ((fcz l).take (i * 9)).length = i * 9 := by rw [List.length_take, hl]; omega
  have hold : (Builtin.firstCells 9 i (.slice (some ⟨g, 0, none⟩) i cap)).run Tryz.prog w.drew = .ok ((fcz l).take (i * 9)).toArray w.drew :=
    run_firstCells_some (P := Tryz.prog) w.drew 9 i ⟨g, 0, none⟩ i cap _ htl (fun j u hu => by
      rw [adz]
      rw [List.getElem?_take] at hu
      split at hu
      · exact h6 j u hu
      · cases hu)
  obtain ⟨c2, hc2, hc2m, run1⟩ := grow_zeros (q := q) 39 28 Wi.Z.v 88 und44 Tryz.underlying3 info28 (by omega) (by omega) (by omega) (by omega) (some ⟨g, 0, none⟩) cap (by omega) hold
  have hqi : ((q : Nat) : Int) = (n : Int) + 1 - (i : Int) := by omega
  have hiq : i + q = n + 1 := by omega
  rw [hqi] at run1
  rw [hiq] at run1 hc2
  have hzl : (Builtin.zeroCells (Wi.Z.v).cells q).toList.length = q * 9 := by rw [Array.length_toList, size_zeroCells, cells27]
  have O1 := own_new (w := w.drew) (o := o) (t := t) (k := 9) (n := n + 1) (cap := c2) (e := 28) ((fcz l).take (i * 9) ++ (Builtin.zeroCells (Wi.Z.v).cells q).toList) (Builtin.zeroCells (Wi.Z.v).cells (c2 - (i + q))) (by rw [List.length_append, htl, hzl]; omega) (fun u hu => by
    rcases List.mem_append.1 hu with hu | hu
    · exact fcz_one l u (List.mem_of_mem_take hu)
    · exact zone q u hu) hc2 hc2m (by rw [size_zeroCells, cells27, hiq])
  rw [hiq] at O1
  obtain ⟨g2, hg2⟩ : ∃ g2, g2 = w.heap.size := ⟨_, rfl⟩
  have e2 : w.drew.heap.size = g2 := hg2.symm
  rw [e2] at O1
  rw [← hg2] at run1
  have b1 : Below w.heap.size w (w.drew.alloc (.cells (((fcz l).take (i * 9) ++ (Builtin.zeroCells (Wi.Z.v).cells q).toList).toArray ++ Builtin.zeroCells (Wi.Z.v).cells (c2 - (n + 1))) 28)) := (below_drewN (Below.refl _ _) 1).alloc (Nat.le_refl _) _
  have F1 : Fr (· = t) o (lab o g2 t) w (w.drew.alloc (.cells (((fcz l).take (i * 9) ++ (Builtin.zeroCells (Wi.Z.v).cells q).toList).toArray ++ Builtin.zeroCells (Wi.Z.v).cells (c2 - (n + 1))) 28)) := by
    rw [hg2]; exact (Fr.drew1 _ o w).trans (Fr.new _ o w.drew _ t)
  obtain ⟨W1, hW1⟩ : ∃ W1, W1 = w.drew.alloc (.cells (((fcz l).take (i * 9) ++ (Builtin.zeroCells (Wi.Z.v).cells q).toList).toArray ++ Builtin.zeroCells (Wi.Z.v).cells (c2 - (n + 1))) 28) := ⟨_, rfl⟩
  rw [← hW1] at run1 O1 b1 F1
  have gne : g ≠ g2 := by omega
  have Vne : V ≠ g2 := by have := hv.lt; omega
  have og2 : (lab o g2 t) g2 = t := lab_same _ _ _
  obtain ⟨k1, k2, k3, k4, k5, k6, k7, k8, k9⟩ := O1.there (by omega)
  injection k3 with d1 d2 d3
  injection d1 with d1
  injection d1 with d1
  subst d1 d3
  clear d2
  have O2 := O1.sets a.cs (i * 9) (fz_one a) (by rw [F.clen]; omega)
  obtain ⟨W2, hW2⟩ : ∃ W2, W2 = W1.setCells g2 (i * 9) a.cs := ⟨_, rfl⟩
  rw [← hW2] at O2
  have F2 : Fr (· = t) (lab o g2 t) (lab o g2 t) W1 W2 := by rw [hW2]; exact Fr.sets (T := (· = t)) og2 _ _ _
  have O3 := (O2.fr (Fr.drew1 (fun _ => False) (lab o g2 t) W2) id).sets (fcz (l.drop i)) (i * 9 + 9) (fcz_one _) (by rw [hdl]; omega)
  rw [ins_list _ _ _ _ _ htl (by rw [hzl, hdl]; omega) (F.clen a), fcz_take] at O3
  have O4 : OwnK (W2.drew.setCells g2 ((i + 1) * 9) (fcz (l.drop i))) (lab o g2 t) t 9 (.slice (some ⟨g2, 0, none⟩) (n + 1) c2) (n + 1) (fcz (l.take i ++ a :: l.drop i)) := by
    rw [fcz_append, fcz_cons, ← List.append_assoc, show (i + 1) * 9 = i * 9 + 9 by omega]; exact O3
  have F3 : Fr (· = t) (lab o g2 t) (lab o g2 t) W2 (W2.drew.setCells g2 ((i + 1) * 9) (fcz (l.drop i))) := (Fr.drew1 _ _ W2).trans (Fr.sets (T := (· = t)) og2 _ _ _)
  have HE : Hid (InsP w o t l i a (.returned (.slice (some ⟨g2, 0, none⟩) (n + 1) c2)) (W2.drew.setCells g2 ((i + 1) * 9) (fcz (l.drop i)))) := hid ⟨_, _, rfl, by rw [hnn]; exact O4, (F1.trans F2).trans F3⟩
  have run2 : ∀ ty, (Builtin.copy_ #[39, 39] ty #[.slice (some ⟨g2, i * 9, none⟩) (n + 1 - i) (c2 - i), .slice (some ⟨V, 0, none⟩) 1 1]).run Tryz.prog W1 = .ok (goInt 1) W2 := fun ty => by
    rw [hW2]
    exact run_copy_k 9 W1 _ _ ty 28 g2 (i * 9) (n + 1 - i) _ ⟨V, 0, none⟩ 1 _ 1 a.cs und44 size27 (by simp only [Nat.min_def]; split <;> omega) (F.clen a)
      (fun j v hj => by rw [adz]; exact cell_b (hv.q j v hj) b1) (fun j hj => (k9 _ (by rw [F.clen] at hj; omega)).1) (fun j hj => (k9 _ (by rw [F.clen] at hj; omega)).2) (fz_one a)
  have k92 : ∀ j, j < c2 * 9 → (W2.cell? ⟨g2, j, none⟩).isSome = true ∧ W2.frozen? ⟨g2, j, none⟩ = false := fun j hj => by
    rw [hW2]
    exact ⟨some_setCells g2 _ _ _ _ (k9 j hj).1, by rw [World.frozen?_setCells]; exact (k9 j hj).2⟩
  have run3 : ∀ ty, (Builtin.copy_ #[39, 39] ty #[.slice (some ⟨g2, (i + 1) * 9, none⟩) (n - i) (c2 - (i + 1)), .slice (some ⟨g, i * 9, none⟩) (n - i) (cap - i)]).run Tryz.prog W2.drew = .ok (goInt (((n - i : Nat)) : Int)) (W2.drew.setCells g2 ((i + 1) * 9) (fcz (l.drop i))) := fun ty => by
    exact run_copy_k 9 W2.drew _ _ ty 28 g2 ((i + 1) * 9) (n - i) _ ⟨g, i * 9, none⟩ (n - i) _ (n - i) (fcz (l.drop i)) und44 size27 (by simp only [Nat.min_def]; split <;> omega) hdl
      (fun j v hj => by
        rw [adz2]
        rw [← fcz_drop, List.getElem?_drop] at hj
        show W2.cell? _ = _
        rw [hW2, World.cell?_setCells_out _ _ _ _ _ (fun e _ => absurd e gne)]
        exact cell_b (h6 _ v hj) b1) (fun j hj => (k92 _ (by rw [hdl] at hj; omega)).1) (fun j hj => (k92 _ (by rw [hdl] at hj; omega)).2) (fcz_one _)
  have sl0 : ∀ w, (Instr.sliceAt 39 (.slice (some ⟨g, 0, none⟩) n cap) (some (.int .i64 (i : Int))) none none).run Tryz.prog w = .ok (.slice (some ⟨g, i * 9, none⟩) (n - i) (cap - i)) w := fun w => by
    have := sl_lo g n cap i (by omega) w
    unfold cutB at this
    rw [if_neg (by omega)] at this
    exact this
  have sl1 := sl_hi g n cap i (by omega)
  have sl2 : ∀ w, (Instr.sliceAt 39 (.slice (some ⟨g2, 0, none⟩) (n + 1) c2) (some (.int .i64 (i : Int))) none none).run Tryz.prog w = .ok (.slice (some ⟨g2, i * 9, none⟩) (n + 1 - i) (c2 - i)) w := fun w => by
    have := sl_lo g2 (n + 1) c2 i (by omega) w
    unfold cutB at this
    rw [if_neg (by omega)] at this
    exact this
  have sl3 : ∀ w, (Instr.sliceAt 39 (.slice (some ⟨g2, 0, none⟩) (n + 1) c2) (some (.int .i64 ((i : Int) + 1))) none none).run Tryz.prog w = .ok (.slice (some ⟨g2, (i + 1) * 9, none⟩) (n - i) (c2 - (i + 1))) w := fun w => by
    have := sl_lo g2 (n + 1) c2 (i + 1) (by omega) w
    rw [show n + 1 - (i + 1) = n - i by omega] at this
    unfold cutB at this
    rw [if_neg (by omega)] at this
    exact this
  have ne : ((i : Int) == (n : Int)) = false := by simp; omega
  have wr : IntKind.i64.wrap ((i : Int) + 1) = (i : Int) + 1 := by rw [IntKind.wrap_i64]; omega
  have lt : decide ((cap : Int) < (n : Int) + 1) = true := by simp; omega
  clear h hv O1 O2 O3 O4 F1 F2 F3 hg hgs hcap hmx h6 h7 k9 k92 k8 k4 k5 k6 k7 hl hdl hW1 hW2 hnn hq hqi hiq hold hzl htl b1 gne Vne og2 hg2 e2
  go_enter Tryz.func29, Tryz.ntmps29
  go_wp2_with (first
    | (at_builtin; refine wpList_append_run rfl (.tmp 34) (.tmp 39) 39 3 rfl _ _ _ rfl rfl run1 ?_)
    | (at_builtin; refine wpList_copy_run rfl (.tmp 43) (.tmp 44) 39 39 rfl _ _ _ rfl rfl (run2 _) ?_))
  go_region_law (refine step_copy run3 (.tmp 50) (.tmp 53) (by with_reducible rfl) (by rfl) (by rfl) (by simp [Act.eval, Act.put]) (by simp [Act.eval, Act.put]) ?_)
  all_goals
    go_wp2_with fail
    go_ret
    exact HE.out
set_option maxRecDepth 100000 in
/-- slices.Insert, of one frame. -/
theorem insert_any {o : Nat → Nat × Nat} {t : Nat × Nat} (l : List F) (a : F) (i : Nat) (hi : i ≤ l.length) (D : Value) (hn : l.length ≤ 100000) (w : World) (h : OwnK w o t 9 D l.length (fcz l)) (V : Nat) (hv : OneF w o t V a) :
    Calls Tryz.prog 29 #[D, .int .i64 ((i : Nat) : Int), .slice (some ⟨V, 0, none⟩) 1 1] w fun e w' => InsP w o t l i a e w' := by
  by_cases e : i = l.length
  · subst e; exact ins_end l a D hn w h V hv
  · obtain ⟨g, cap, rfl, _⟩ := h.there (by omega)
    by_cases hr : l.length + 1 ≤ cap
    · exact ins_room l a i (by omega) g cap hn w h hr V hv
    · exact ins_grow l a i (by omega) g cap hn w h (by omega) V hv
end Go.Proofs.YtfinaichajbnkaaGreatDoor
