/-
  PARTS OF LISTS; Clone and Delete of the library, at frames; List, Copy, remove, Deliver, Drop.
-/
import Derived.Test.YtgbjohipijpimaaNet
import Derived.Laws.IdiomCopy
namespace Go.Proofs.Ytgbjohipijpimaa
open Go.RowKit

/-- The address of a part. -/
def cutA (g l cap k : Nat) : Addr := if cap = l then ⟨g, 0, none⟩ else ⟨g, l * k, none⟩
theorem slice_hiT (T E : TypeId) (k : Nat) (el : Try.prog.underlying T = some (.slice (Try.prog.elem T))) (ee : Try.prog.elem T = E) (sE : ∀ w : World, (sizeOf E).run Try.prog w = .ok k w) (g len cap h : Nat) (hh : h ≤ cap) (w : World) :
    (Instr.sliceAt T (.slice (some ⟨g, 0, none⟩) len cap) none (some (.int .i64 (h : Int))) none).run Try.prog w = .ok (.slice (some ⟨g, 0, none⟩) h cap) w := by
  rw [run_sliceAt_slice _ _ _ _ _ _ el, run_slice_h _ _ _ _ _ el _ _ (by omega) (by omega), ee, sE]
  have ea : (⟨g, 0, none⟩ : Addr).add 0 = ⟨g, 0, none⟩ := by unfold Addr.add; split <;> simp_all
  simp [sliced, ea]
theorem slice_loT (T E : TypeId) (k : Nat) (el : Try.prog.underlying T = some (.slice (Try.prog.elem T))) (ee : Try.prog.elem T = E) (sE : ∀ w : World, (sizeOf E).run Try.prog w = .ok k w) (g len cap l : Nat) (hl : l ≤ len) (w : World) :
    (Instr.sliceAt T (.slice (some ⟨g, 0, none⟩) len cap) (some (.int .i64 (l : Int))) none none).run Try.prog w = .ok (.slice (some (cutA g l cap k)) (len - l) (cap - l)) w := by
  rw [run_sliceAt_slice _ _ _ _ _ _ el, run_slice_l _ _ _ _ _ el _ _ (by omega) (by omega), ee, sE]
  have ea : (⟨g, 0, none⟩ : Addr).add (l * k) = ⟨g, l * k, none⟩ := by unfold Addr.add; split <;> simp_all
  unfold cutA
  by_cases e : cap = l
  · simp [sliced, e]
  · simp [sliced, e, ea]
theorem slice_lhT (T E : TypeId) (k : Nat) (el : Try.prog.underlying T = some (.slice (Try.prog.elem T))) (ee : Try.prog.elem T = E) (sE : ∀ w : World, (sizeOf E).run Try.prog w = .ok k w) (g len cap l h : Nat) (hl : l ≤ h) (hh : h ≤ cap) (hc : l < cap) (w : World) :
    (Instr.sliceAt T (.slice (some ⟨g, 0, none⟩) len cap) (some (.int .i64 (l : Int))) (some (.int .i64 (h : Int))) none).run Try.prog w = .ok (.slice (some ⟨g, l * k, none⟩) (h - l) (cap - l)) w := by
  rw [run_sliceAt_slice _ _ _ _ _ _ el, run_slice_lh _ _ _ _ _ el _ _ _ _ (by omega) (by omega) (by omega), ee, sE]
  have ea : (⟨g, 0, none⟩ : Addr).add (l * k) = ⟨g, l * k, none⟩ := by unfold Addr.add; split <;> simp_all
  have e : ¬ cap = l := by omega
  simp [sliced, e, ea]
theorem slice_lhmT (T E : TypeId) (k : Nat) (el : Try.prog.underlying T = some (.slice (Try.prog.elem T))) (ee : Try.prog.elem T = E) (sE : ∀ w : World, (sizeOf E).run Try.prog w = .ok k w) (a : Option Addr) (len cap : Nat) (l h m : Int) (h0 : 0 ≤ l) (hl : l ≤ h) (hh : h ≤ m) (hm : m ≤ cap) :
    ∃ V, ∀ w, (Instr.sliceAt T (.slice a len cap) (some (.int .i64 l)) (some (.int .i64 h)) (some (.int .i64 m))).run Try.prog w = .ok V w :=
  ⟨sliced a l.toNat h.toNat m.toNat k, fun w => by
    rw [run_sliceAt_slice _ _ _ _ _ _ el, run_slice_lhm _ _ _ _ _ el _ _ _ _ _ _ h0 hl hh hm, ee, sE]
    rfl⟩
/-- A list behind a place, as what is appended. -/
theorem src_drop {w : World} {o : (Nat → Nat × Nat)} {t : Nat × Nat} {k n g cap : Nat} {cs : List Value} {T E : TypeId} (ht : Try.prog.underlying T = some (.slice E)) (h : OwnK w o t k (.slice (some ⟨g, 0, none⟩) n cap) n cs) (l : Nat) (hl : l ≤ n) :
    Src Try.prog k T (.slice (some (cutA g l cap k)) (n - l) (cap - l)) (n - l) (cs.drop (l * k)) w := by
  obtain ⟨hlen, h1, h⟩ := h
  rcases h with ⟨e, _⟩ | ⟨g', cap', e, h2, h3, h4, h5, h6, h7⟩
  · cases e
  · injection e with e1 e2 e3
    injection e1 with e1
    injection e1 with e1
    subst e1 e3
    refine Src.ofSlice _ ht _ _ _ _ (by rw [List.length_drop, hlen, Nat.sub_mul]) (fun j u hu => ?_) (fun u hu => h1 u (List.mem_of_mem_drop hu))
    have hj := (List.getElem?_eq_some_iff.1 hu).1
    rw [List.length_drop, hlen] at hj
    have hne : ¬ cap = l := fun e => by
      have : n = l := by omega
      rw [this] at hj; omega
    unfold cutA
    rw [if_neg hne]
    have e : (⟨g, l * k, none⟩ : Addr).add j = ⟨g, l * k + j, none⟩ := by unfold Addr.add; split <;> simp_all
    rw [e]
    rw [List.getElem?_drop] at hu
    exact h6 _ _ hu
/-- Other marks. -/
theorem OwnK.mark {w : World} {o o' : (Nat → Nat × Nat)} {t t' : Nat × Nat} {k n g cap : Nat} {cs : List Value} (h : OwnK w o t k (.slice (some ⟨g, 0, none⟩) n cap) n cs) (ho : o' g = t') : OwnK w o' t' k (.slice (some ⟨g, 0, none⟩) n cap) n cs := by
  obtain ⟨hl, h1, h⟩ := h
  rcases h with ⟨e, _⟩ | ⟨g', cap', e, h2, h3, h4, h5, h6, h7⟩
  · cases e
  · injection e with e1 e2 e3
    injection e1 with e1
    injection e1 with e1
    subst e1 e3
    exact ⟨hl, h1, .inr ⟨g, cap, rfl, ho, h3, h4, h5, h6, h7⟩⟩
/-- A list in new memory takes any mark. -/
theorem own_fresh {w w2 : World} {o o2 : (Nat → Nat × Nat)} {t t' : Nat × Nat} {k n : Nat} {v : Value} {cs : List Value} (h : OwnK w2 o2 t' k v n cs) (hn : ∀ b, b < w.heap.size → o2 b ≠ t') (hb : Below w.heap.size w w2) :
    ∃ o', OwnK w2 o' t k v n cs ∧ ∀ U, Fr U o o' w w2 := by
  have hh := h
  obtain ⟨hl, h1, h⟩ := h
  rcases h with ⟨rfl, rfl⟩ | ⟨g, cap, rfl, h2, h3, h4, h5, h6, h7⟩
  · exact ⟨o, ⟨hl, h1, .inl ⟨rfl, rfl⟩⟩, fun U => Fr.ofBelow U o hb⟩
  · have hg : w.heap.size ≤ g := Nat.le_of_not_lt fun e => hn g e h2
    exact ⟨lab o g t, hh.mark (lab_same _ _ _), fun U => ⟨hb.os, hb.tape, hb.output, hb.size, fun b hb => lab_other _ _ _ (by omega), fun b h _ => hb.block b h⟩⟩
/-- append(append([]T{}, l[:i]...), l[j:]...), or the first append alone. -/
theorem erase_own {w : World} {o : (Nat → Nat × Nat)} {t : Nat × Nat} (t' : Nat × Nat) {k n g cap i : Nat} {cs : List Value} (T E : TypeId) (z : Value) (bz : Nat) (ht : Try.prog.underlying T = some (.slice E)) (hinfo : (Try.prog.info? E).map (fun i => (i.zero, i.size, i.bytes)) = some (some z, k, bz)) (hz : z.cells.size = k)
    (h : OwnK w o t k (.slice (some ⟨g, 0, none⟩) n cap) n cs) (hi : i ≤ n) (hb : n * bz ≤ 140737488355328) (hb2 : n ≤ 140737488355328) :
    ∃ a1 c1 w1, (Builtin.append_ #[T, T] T #[.slice (some ⟨w.heap.size, 0, none⟩) 0 0, .slice (some ⟨g, 0, none⟩) i cap]).run Try.prog (w.alloc (.cells #[] E)) = .ok (.slice a1 i c1) w1 ∧ Below w.heap.size w w1 ∧
      (∃ o1, OwnK w1 o1 t' k (.slice a1 i c1) i (cs.take (i * k)) ∧ ∀ U, Fr U o o1 w w1) ∧
      (i < n → ∃ a2 c2 w2 o2, (Builtin.append_ #[T, T] T #[.slice a1 i c1, .slice (some (cutA g (i + 1) cap k)) (n - (i + 1)) (cap - (i + 1))]).run Try.prog w1 = .ok (.slice a2 (n - 1) c2) w2 ∧
      OwnK w2 o2 t' k (.slice a2 (n - 1) c2) (n - 1) (cs.take (i * k) ++ cs.drop ((i + 1) * k)) ∧ ∀ U, Fr U o o2 w w2) := by
  obtain ⟨q, hq⟩ : ∃ q : (Nat → Nat × Nat), q = lab (fun _ => (5, 5)) g (6, 6) := ⟨_, rfl⟩
  have qg : q g = (6, 6) := by rw [hq]; exact lab_same _ _ _
  have qn : ∀ b, q b ≠ (7, 7) := fun b e => by
    rw [hq] at e
    by_cases hbg : b = g
    · subst hbg; rw [lab_same] at e; cases e
    · rw [lab_other _ _ _ hbg] at e; cases e
  have h0 := h.mark (o' := q) qg
  have A1 : Fr (fun _ => False) q (lab q w.heap.size (7, 7)) w (w.alloc (.cells #[] E)) := Fr.new _ q w _ _
  have h1 := h0.fr A1 (fun x => x)
  have d1 : OwnK (w.alloc (.cells #[] E)) (lab q w.heap.size (7, 7)) (7, 7) k (.slice (some ⟨w.heap.size, 0, none⟩) 0 0) 0 [] := by
    have := own_new (w := w) (o := q) (t := (7, 7)) (k := k) (n := 0) (cap := 0) (e := E) [] #[] (by simp) (fun _ h => by cases h) (Nat.le_refl _) (by unfold maxLen; omega) (by simp)
    simpa using this
  obtain ⟨v1, w1, q1, r1, O1, F1⟩ := app_own (t := (7, 7)) T T E z bz ht hinfo hz d1 ((h1.cut i (by omega)).src ht) (Nat.le_trans (Nat.mul_le_mul_right _ (by omega)) hb) (by omega)
  rw [Nat.zero_add, List.nil_append] at O1
  obtain ⟨a1, c1, rfl, _⟩ := O1.form
  have FF1 : Fr (fun t => t = (7, 7)) q q1 w w1 := (A1.mono (fun _ h => h.elim)).trans F1
  have B1 : Below w.heap.size w w1 := FF1.below (Nat.le_refl _) (fun b _ => qn b)
  refine ⟨a1, c1, w1, r1, B1, own_fresh (o := o) (t := t') O1 (fun b hb => by rw [FF1.lab b hb]; exact qn b) B1, fun hin => ?_⟩
  have h2 := h1.fr F1 (fun e => by cases e)
  obtain ⟨v2, w2, q2, r2, O2, F2⟩ := app_own (t := (7, 7)) T T E z bz ht hinfo hz O1 (src_drop ht h2 (i + 1) (by omega)) (Nat.le_trans (Nat.mul_le_mul_right _ (by omega)) hb) (by omega)
  rw [show i + (n - (i + 1)) = n - 1 by omega] at O2
  obtain ⟨a2, c2, rfl, _⟩ := O2.form
  have FF : Fr (fun t => t = (7, 7)) q q2 w w2 := FF1.trans F2
  obtain ⟨o2, hO, hF⟩ := own_fresh (o := o) (t := t') O2 (fun b hb => by rw [FF.lab b hb]; exact qn b) (FF.below (Nat.le_refl _) (fun b _ => qn b))
  exact ⟨a2, c2, w2, o2, r2, hO, hF⟩
theorem elem32 : Try.prog.underlying 32 = some (.slice (Try.prog.elem 32)) := by kernel_rfl
theorem elem32' : Try.prog.elem 32 = 26 := by kernel_rfl
theorem size26' (w : World) : (sizeOf 26).run Try.prog w = .ok 9 w := by kernel_rfl
theorem eql_some (ad : Addr) (n c : Nat) (w : World) : (binOp .eql 32 (.slice (some ad) n c) (.slice none 0 0)).run Try.prog w = .ok (.bool false) w := by kernel_rfl
theorem eql_none (n c : Nat) (w : World) : (binOp .eql 32 (.slice none n c) (.slice none 0 0)).run Try.prog w = .ok (.bool true) w := by kernel_rfl
set_option maxRecDepth 100000 in
set_option maxHeartbeats 1000000 in
/-- Clone: the same frames, in new memory. -/
theorem clone_any {o : Nat → Nat × Nat} {t : Nat × Nat} (t' : Nat × Nat) {a : Option Addr} {n c : Nat} (l : List F) (hn : n ≤ 100000) (w : World) (h : OwnK w o t 9 (.slice a n c) n (fc l)) :
    Calls Try.prog 21 #[.slice a n c] w fun e w' => ∃ a' c' o', e = .returned (.slice a' n c') ∧ OwnK w' o' t' 9 (.slice a' n c') n (fc l) ∧ Fr (fun _ => False) o o' w w' := by
  have hl := h.1
  rw [fc_length] at hl
  rcases h.2.2 with ⟨e, hn0⟩ | ⟨g, cap, e, _⟩
  · injection e with e1 e2 e3
    subst e1 hn0 e3
    have hl0 : l = [] := List.eq_nil_of_length_eq_zero (by omega)
    subst hl0
    have HE : Hid (OwnK w o t' 9 (.slice none 0 0) 0 (fc [])) := OwnK.nil _ _ _ _
    have eqn := eql_none 0 0
    clear h hl e2
    go_enter Try.func21, Try.ntmps21
    go_wp2_with fail
    go_ret
    exact ⟨none, 0, o, rfl, HE.out, Fr.refl _ _ _⟩
  · injection e with e1 e2 e3
    subst e1 e3
    obtain ⟨a1, c1, w1, run1, _, ⟨o1, O1, F1⟩, _⟩ := erase_own (i := n) t' 32 26 Z.v 88 under32 info26 cells26 h (Nat.le_refl _) (by omega) (by omega)
    rw [fc_take, List.take_of_length_le (by omega)] at O1
    have HE : Hid (OwnK w1 o1 t' 9 (.slice a1 n c1) n (fc l) ∧ Fr (fun _ => False) o o1 w w1) := ⟨O1, F1 _⟩
    have eqn := eql_some ⟨g, 0, none⟩ n c
    clear h hl e2 O1 F1
    go_enter Try.func21, Try.ntmps21
    go_wp2_with (at_builtin; refine wpList_append_run rfl (.tmp 5) (.tmp 6) 32 32 rfl _ _ _ rfl rfl run1 ?_)
    go_ret
    exact ⟨a1, c1, o1, rfl, HE.out⟩
set_option maxRecDepth 100000 in
theorem list_any {o : Nat → Nat × Nat} {x b : Nat} {l : List F} (t' : Nat × Nat) (hl : l.length ≤ 100000) (w : World) (h : IsNet w o x b l) :
    Calls Try.prog 14 #[.pointer (some ⟨b, 0, none⟩)] w fun e w' => ∃ a' c' o', e = .returned (.slice a' l.length c') ∧ OwnK w' o' t' 9 (.slice a' l.length c') l.length (fc l) ∧ Fr (fun _ => False) o o' w w' := by
  obtain ⟨a, c, h1, h2⟩ := h.li
  obtain ⟨n, hn⟩ : ∃ n, n = l.length := ⟨_, rfl⟩
  rw [← hn] at h1 h2 hl ⊢
  have HO : Hid (OwnK w o (x, 1) 9 (.slice a n c) n (fc l)) := h2
  clear h h2 hn
  go_enter Try.func14, Try.ntmps14
  go_wp2_with fail
  refine (clone_any t' l hl _ HO.out).mono ?_
  rintro e w1 ⟨a', c', o', rfl, O', F'⟩
  have HE : Hid (OwnK w1 o' t' 9 (.slice a' n c') n (fc l) ∧ Fr (fun _ => False) o o' w w1) := ⟨O', F'⟩
  clear O' F' h1
  go_wp2_with fail
  go_ret
  exact ⟨a', c', o', rfl, HE.out⟩
/-- clear, of one frame. -/
theorem run_clear26 (w : World) (ty : TypeId) (g off c : Nat) (h7 : ∀ j, j < 9 → (w.cell? ⟨g, off + j, none⟩).isSome = true ∧ w.frozen? ⟨g, off + j, none⟩ = false) :
    (Builtin.clear_ #[32] ty #[.slice (some ⟨g, off, none⟩) 1 c]).run Try.prog w = .ok (.tuple #[]) (w.setCells g off Z.cs) := by
  have hzc : (Builtin.zeroCells (Value.agg #[.int .i64 0, .int .i64 0, .int .i64 0, .int .i64 0, .int .i64 0, .int .i64 0, .string ⟨#[]⟩, .int .i64 0, .string ⟨#[]⟩]).cells 1).toList = Z.cs := by kernel_rfl
  have hst := run_storeCells_cells (P := Try.prog) g off Z.cs 0 w (fun j hj => (h7 j hj).1) (fun j hj => (h7 j hj).2) (cs_one Z)
  simp only [Nat.add_zero] at hst
  simp [Builtin.clear_, run_underlying under32, hzc, hst]
/-- What Delete leaves. -/
def DelP (w : World) (o : Nat → Nat × Nat) (t : Nat × Nat) (g m cap k : Nat) (l : List F) (w' : World) : Prop := OwnK w' o t 9 (.slice (some ⟨g, 0, none⟩) m cap) m (fc (out l k)) ∧ Fr (· = t) o o w w'
set_option maxRecDepth 100000 in
set_option maxHeartbeats 1000000 in
/-- Delete, of one frame. -/
theorem delete_any {o : Nat → Nat × Nat} {t : Nat × Nat} {g m cap k : Nat} (l : List F) (hm : m ≤ 100000) (hk : k ≤ m) (w : World) (h : OwnK w o t 9 (.slice (some ⟨g, 0, none⟩) (m + 1) cap) (m + 1) (fc l)) :
    Calls Try.prog 22 #[.slice (some ⟨g, 0, none⟩) (m + 1) cap, .int .i64 (k : Int), .int .i64 ((k : Int) + 1)] w fun e w' => e = .returned (.slice (some ⟨g, 0, none⟩) m cap) ∧ DelP w o t g m cap k l w' := by
  have hD : OwnK w.drew o t 9 (.slice (some ⟨g, 0, none⟩) (m + 1) cap) (m + 1) (fc l) := h.fr (Fr.drew1 (fun _ => False) o w) id
  obtain ⟨g', cap', e, hg, hgs, hcap, hmx, h6, h7⟩ := hD.there (by omega)
  injection e with e1 e2 e3
  injection e1 with e1
  injection e1 with e1
  subst e1 e3
  clear e2
  obtain ⟨i0, hi, hz0, hz1, hz2⟩ := info_parts info26
  have hs := src_drop under32 hD (k + 1) (by omega)
  rw [show m + 1 - (k + 1) = m - k by omega] at hs
  have hs' : Src Try.prog i0.size 32 (.slice (some (cutA g (k + 1) cap 9)) (m - k) (cap - (k + 1))) (m - k) ((fc l).drop ((k + 1) * 9)) w.drew := by rw [hz1]; exact hs
  have run1 := run_append_room_src (P := Try.prog) w.drew 32 32 32 26 i0 under32 hi g 0 k cap _ (m - k) _ hs' (by omega) (fun j hj => by
      rw [hz1, Nat.zero_add]
      have := hs.newsLen
      exact (h7 (k * 9 + j) (by omega)).1) (fun j hj => by
      rw [hz1, Nat.zero_add]
      have := hs.newsLen
      exact (h7 (k * 9 + j) (by omega)).2)
  rw [hz1, Nat.zero_add, show k + (m - k) = m by omega] at run1
  have hC := hD.cut k (by omega)
  obtain ⟨hC1, hC2, hC3⟩ := hC
  have R1 := own_room (w := w.drew) (o := o) (t := t) (k := 9) (n := k) (m := m - k) (cap := cap) (g := g) (cs := (fc l).take (k * 9)) (news := (fc l).drop ((k + 1) * 9)) hC1 hs.newsLen hC2 hs.one hg hgs (by omega) hmx (fun j u hu => h6 j u (by
      rw [List.getElem?_take] at hu
      split at hu
      · exact hu
      · cases hu)) h7
  rw [show k + (m - k) = m by omega, fc_out] at R1
  obtain ⟨W1, hW1⟩ : ∃ W1, W1 = w.drew.setCells g (k * 9) ((fc l).drop ((k + 1) * 9)) := ⟨_, rfl⟩
  rw [← hW1] at run1 R1
  have F1 : Fr (· = t) o o w W1 := by rw [hW1]; exact (Fr.drew1 _ o w).trans (Fr.sets (T := (· = t)) hg _ _ _)
  have h71 : ∀ j, j < cap * 9 → (W1.cell? ⟨g, j, none⟩).isSome = true ∧ W1.frozen? ⟨g, j, none⟩ = false := fun j hj => by
    rw [hW1]
    exact ⟨some_setCells g _ _ _ _ (h7 j hj).1, by rw [World.frozen?_setCells]; exact (h7 j hj).2⟩
  have run2 := fun ty => run_clear26 W1 ty g (m * 9) (cap - m) (fun j hj => h71 (m * 9 + j) (by omega))
  have R2 := own_room (w := W1) (o := o) (t := t) (k := 9) (n := m) (m := 1) (cap := cap) (g := g) (cs := fc (out l k)) (news := Z.cs) R1.1 rfl R1.2.1 (cs_one Z) hg (Nat.lt_of_lt_of_le hgs F1.size) (by omega) hmx (fun j u hu => by
      have hj := (List.getElem?_eq_some_iff.1 hu).1
      rw [R1.1] at hj
      obtain ⟨g2, c2, e, _, _, _, _, q6, _⟩ := R1.there (by omega)
      injection e with e1
      injection e1 with e1
      injection e1 with e1
      subst e1
      exact q6 j u hu) h71
  have R3 := R2.cut m (by omega)
  rw [List.take_left' R1.1] at R3
  have HE : Hid (DelP w o t g m cap k l (W1.setCells g (m * 9) Z.cs)) := ⟨R3, F1.trans (Fr.sets (T := (· = t)) hg _ _ _)⟩
  obtain ⟨V0, sl0⟩ := slice_lhmT 32 26 9 elem32 elem32' size26' (some ⟨g, 0, none⟩) (m + 1) cap (k : Int) ((k : Int) + 1) ((m + 1 : Nat) : Int) (by omega) (by omega) (by omega) (by omega)
  have sl1 := slice_hiT 32 26 9 elem32 elem32' size26' g (m + 1) cap k (by omega)
  have sl2 : ∀ w, (Instr.sliceAt 32 (.slice (some ⟨g, 0, none⟩) (m + 1) cap) (some (.int .i64 ((k : Int) + 1))) none none).run Try.prog w = .ok (.slice (some (cutA g (k + 1) cap 9)) (m - k) (cap - (k + 1))) w := fun w => by
    have := slice_loT 32 26 9 elem32 elem32' size26' g (m + 1) cap (k + 1) (by omega) w
    rw [show m + 1 - (k + 1) = m - k by omega] at this
    exact this
  have sl3 : ∀ w, (Instr.sliceAt 32 (.slice (some ⟨g, 0, none⟩) m cap) (some (.int .i64 (m : Int))) (some (.int .i64 ((m + 1 : Nat) : Int))) none).run Try.prog w = .ok (.slice (some ⟨g, m * 9, none⟩) 1 (cap - m)) w := fun w => by
    have := slice_lhT 32 26 9 elem32 elem32' size26' g m cap m (m + 1) (by omega) (by omega) (by omega) w
    rw [show m + 1 - m = 1 by omega] at this
    exact this
  have ne : ((k : Int) == (k : Int) + 1) = false := by simp; omega
  clear h hD h6 h7 h71 hs hs' hC1 hC2 hC3 R1 R2 R3 F1 hW1 hi hz0 hz1 hz2 hg hgs
  go_enter Try.func22, Try.ntmps22
  go_wp2_with fail
  go_region_law (refine step_app4 run1 (.tmp 22) (.tmp 25) (by rfl) (by rfl) (by rfl) (by rfl) (by rfl) (by rfl) ?_)
  all_goals
    go_wp2_with fail
    go_ret
    exact ⟨rfl, HE.out⟩
/-- What a frame taken out leaves. -/
def OutP (w : World) (o : Nat → Nat × Nat) (x b k : Nat) (l : List F) (w' : World) : Prop := IsNet w' o x b (out l k) ∧ Fr (·.1 = x) o o w w'
set_option maxRecDepth 100000 in
theorem remove_any {o : Nat → Nat × Nat} {x b : Nat} {l : List F} (k : Nat) (hk : k < l.length) (hl : l.length ≤ 100000) (w : World) (h : IsNet w o x b l) :
    Calls Try.prog 19 #[.pointer (some ⟨b, 0, none⟩), .int .i64 (k : Int)] w fun e w' => e = .returned (.tuple #[]) ∧ OutP w o x b k l w' := by
  obtain ⟨a, c, h1, h2⟩ := h.li
  obtain ⟨m, hm⟩ : ∃ m, m + 1 = l.length := ⟨l.length - 1, by omega⟩
  rw [← hm] at h1 h2 hk hl
  obtain ⟨g, cap, e, _⟩ := h2.there (by omega)
  injection e with e1 e2 e3
  subst e1 e3
  have HO : Hid (OwnK w o (x, 1) 9 (.slice (some ⟨g, 0, none⟩) (m + 1) c) (m + 1) (fc l)) := h2
  have HI : Hid (IsNet w o x b l) := h
  have HM : Hid (m = (out l k).length) := by show _ = _; rw [out_length (by omega)]; omega
  have hb : ¬ (o b = (x, 1)) := by rw [h.ob]; intro e; cases e
  have HB : Hid (¬ (o b = (x, 1))) := hb
  clear h h2 hm e2 hb
  go_enter Try.func19, Try.ntmps19
  go_wp2_with fail
  refine (delete_any l (by omega) (show k ≤ m by omega) _ HO.out).mono ?_
  rintro e w1 ⟨rfl, hP⟩
  obtain ⟨O1, F1⟩ := hP
  have t1 := F1.cell h1 HB.out
  have t2 := (F1.frozen (off := 0) HI.out.lt HB.out).trans HI.out.fz
  obtain ⟨I2, F2⟩ := HI.out.set F1 HM.out O1
  have HE : Hid (OutP w o x b k l (w1.setCell ⟨b, 0, none⟩ (.slice (some ⟨g, 0, none⟩) m c))) := ⟨I2, F2⟩
  clear O1 F1 I2 F2 h1
  go_wp2_with fail
  exact bodyPost_end (v := .tuple #[]) (by simp [results, Try.results19, go_sem]) rfl ⟨rfl, HE.out⟩
set_option maxRecDepth 100000 in
theorem copy_yes {o : Nat → Nat × Nat} {x b : Nat} {l : List F} (k : Nat) (f : F) (hf : l[k]? = some f) (w : World) (h : IsNet w o x b l) :
    Calls Try.prog 11 #[.pointer (some ⟨b, 0, none⟩), .int .i64 (k : Int)] w fun e w' => e = .returned (.tuple #[f.v, .bool true]) ∧ Fr (fun _ => False) o o w w' := by
  have hk := (List.getElem?_eq_some_iff.1 hf).1
  have HI : Hid (IsNet (w.alloc (.cells #[.int .i64 0, .int .i64 0, .int .i64 0, .int .i64 0, .int .i64 0, .int .i64 0, .string ⟨#[]⟩, .int .i64 0, .string ⟨#[]⟩] 26)) o x b l) := h.alloc _
  obtain ⟨a, c, h1, h2⟩ := HI.out.li
  obtain ⟨g, e, _, og, hfr⟩ := h2.frame hf
  subst e
  obtain ⟨y0, y1, y2, y3, y4, y5, y6, y7, y8⟩ := hfr.cells
  obtain ⟨n, hn⟩ : ∃ n, n = l.length := ⟨_, rfl⟩
  have HK : Hid (k < l.length) := hk
  rw [← hn] at h1 hk
  have k1 : (k : Int) < (n : Int) := by omega
  obtain ⟨p0, p1, p2, p3, p4, p5, p6, p7, p8⟩ := f
  simp only [F.v, F.cs]
  clear h h2 hfr hf hn
  go_enter Try.func11, Try.ntmps11
  go_wp2_with fail
  refine (has_yes k HK.out _ HI.out).mono ?_
  rintro e w1 ⟨rfl, rfl⟩
  go_wp2_with fail
  refine bodyPost_ret (v := .tuple #[.agg #[.int .i64 p0, .int .i64 p1, .int .i64 p2, .int .i64 p3, .int .i64 p4, .int .i64 p5, .string p6, .int .i64 p7, .string p8], .bool true]) (by simp [results, Try.results11]; go_simp) rfl ?_
  exact ⟨rfl, Fr.alloc _ o w _⟩
set_option maxRecDepth 100000 in
theorem copy_no {o : Nat → Nat × Nat} {x b : Nat} {l : List F} (k : Int) (hk : k < 0 ∨ (l.length : Int) ≤ k) (w : World) (h : IsNet w o x b l) :
    Calls Try.prog 11 #[.pointer (some ⟨b, 0, none⟩), .int .i64 k] w fun e w' => e = .returned (.tuple #[Z.v, .bool false]) ∧ Fr (fun _ => False) o o w w' := by
  have HI : Hid (IsNet (w.alloc (.cells #[.int .i64 0, .int .i64 0, .int .i64 0, .int .i64 0, .int .i64 0, .int .i64 0, .string ⟨#[]⟩, .int .i64 0, .string ⟨#[]⟩] 26)) o x b l) := h.alloc _
  have HK : Hid (k < 0 ∨ (l.length : Int) ≤ k) := hk
  simp only [Z, F.v, F.cs]
  clear h hk
  go_enter Try.func11, Try.ntmps11
  go_wp2_with fail
  refine (has_no k HK.out _ HI.out).mono ?_
  rintro e w1 ⟨rfl, rfl⟩
  go_wp2_with fail
  refine bodyPost_ret (v := .tuple #[.agg #[.int .i64 0, .int .i64 0, .int .i64 0, .int .i64 0, .int .i64 0, .int .i64 0, .string ⟨#[]⟩, .int .i64 0, .string ⟨#[]⟩], .bool false]) (by simp [results, Try.results11]; go_simp) rfl ?_
  exact ⟨rfl, Fr.alloc _ o w _⟩
set_option maxRecDepth 100000 in
theorem drop_yes {o : Nat → Nat × Nat} {x b : Nat} {l : List F} (k : Nat) (hk : k < l.length) (hl : l.length ≤ 100000) (w : World) (h : IsNet w o x b l) :
    Calls Try.prog 12 #[.pointer (some ⟨b, 0, none⟩), .int .i64 (k : Int)] w fun e w' => e = .returned (.bool true) ∧ OutP w o x b k l w' := by
  have HI : Hid (IsNet w o x b l) := h
  have HK : Hid (k < l.length) := hk
  have HL : Hid (l.length ≤ 100000) := hl
  clear h hk hl
  go_enter Try.func12, Try.ntmps12
  go_wp2_with fail
  refine (has_yes k HK.out _ HI.out).mono ?_
  rintro e w1 ⟨rfl, rfl⟩
  go_wp2_with fail
  refine (remove_any k HK.out HL.out _ HI.out).mono ?_
  rintro e w1 ⟨rfl, hP⟩
  have HP : Hid (OutP w o x b k l w1) := hP
  clear hP
  go_wp2_with fail
  go_ret
  exact ⟨rfl, HP.out⟩
set_option maxRecDepth 100000 in
theorem drop_no {o : Nat → Nat × Nat} {x b : Nat} {l : List F} (k : Int) (hk : k < 0 ∨ (l.length : Int) ≤ k) (w : World) (h : IsNet w o x b l) :
    Calls Try.prog 12 #[.pointer (some ⟨b, 0, none⟩), .int .i64 k] w fun e w' => e = .returned (.bool false) ∧ w = w' := by
  have HI : Hid (IsNet w o x b l) := h
  have HK : Hid (k < 0 ∨ (l.length : Int) ≤ k) := hk
  clear h hk
  go_enter Try.func12, Try.ntmps12
  go_wp2_with fail
  refine (has_no k HK.out _ HI.out).mono ?_
  rintro e w1 ⟨rfl, rfl⟩
  go_wp2_with fail
  go_ret
  exact ⟨rfl, rfl⟩
/-- Nine cells stored in new memory. -/
theorem Fr.nine {T : Nat × Nat → Prop} {o o' : Nat → Nat × Nat} {w w1 : World} (h : Fr T o o' w w1) {B : Nat} (hB : w.heap.size ≤ B) (u0 u1 u2 u3 u4 u5 u6 u7 u8 : Value) :
    Fr T o o' w (((((((((w1.setCell ⟨B, 0, none⟩ u0).setCell ⟨B, 1, none⟩ u1).setCell ⟨B, 2, none⟩ u2).setCell ⟨B, 3, none⟩ u3).setCell ⟨B, 4, none⟩ u4).setCell ⟨B, 5, none⟩ u5).setCell ⟨B, 6, none⟩ u6).setCell ⟨B, 7, none⟩ u7).setCell ⟨B, 8, none⟩ u8) :=
  ((((((((h.setNew hB u0).setNew hB u1).setNew hB u2).setNew hB u3).setNew hB u4).setNew hB u5).setNew hB u6).setNew hB u7).setNew hB u8
/-- Nine cells in a block of their own. -/
def Nine (w : World) (B : Nat) (f : F) : Prop := w.heap[B]? = some (.cells f.cs.toArray 26)
theorem lt_of_get {w : World} {c : Nat} {ob : Obj} (h : w.heap[c]? = some ob) : c < w.heap.size := (Array.getElem?_eq_some_iff.1 h).1
theorem Nine.fr {T : Nat × Nat → Prop} {w w' : World} {o o' : Nat → Nat × Nat} {B : Nat} {f : F} (h : Nine w B f) (x : Fr T o o' w w') (ht : ¬ T (o B)) : Nine w' B f := (x.block B (lt_of_get h) ht).trans h
theorem Nine.at_ {w : World} {B : Nat} {f : F} (h : Nine w B f) : FrmAt w B 0 f := fun j u hu => by
  unfold World.cell?; rw [h]; simpa using hu
theorem Nine.frozen {w : World} {B : Nat} {f : F} (h : Nine w B f) (j : Nat) : w.frozen? ⟨B, j, none⟩ = false := by
  unfold World.frozen?; rw [h]; simp
theorem heap_new (w : World) (ob : Obj) : (w.alloc ob).heap[w.heap.size]? = some ob := heap_alloc_new w ob
theorem Nine.new (w : World) (f : F) : Nine (w.alloc (.cells f.cs.toArray 26)) w.heap.size f := heap_new w _
end Go.Proofs.Ytgbjohipijpimaa
