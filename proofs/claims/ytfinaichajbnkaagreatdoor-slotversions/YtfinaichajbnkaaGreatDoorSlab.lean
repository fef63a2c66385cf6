/-
  A S(Nat → Nat × Nat) IN MEMORY: where its classes, chunks and free numbers lie; Class, Classes, Pages, Live.
-/
import Derived.Test.YtfinaichajbnkaaGreatDoorMem
import Derived.Test.YtfinaichajbnkaaGreatDoorSmz
namespace Go.Proofs.YtfinaichajbnkaaGreatDoor
open Go.RowKit

/-- Chunks, numbers as cells. -/
def ckc (l : List (Bool × ByteArray)) : List Value := l.flatMap fun p => [.bool p.1, .string p.2]
def frc (l : List Nat) : List Value := l.map fun k => .int .i64 ((k : Nat) : Int)
theorem ckc_cons (p : Bool × ByteArray) (l : List (Bool × ByteArray)) : ckc (p :: l) = .bool p.1 :: .string p.2 :: ckc l := rfl
theorem ckc_length : ∀ l : List (Bool × ByteArray), (ckc l).length = l.length * 2
  | [] => rfl
  | p :: l => by rw [ckc_cons, List.length_cons, List.length_cons, ckc_length l, List.length_cons]; omega
theorem ckc_one : ∀ (l : List (Bool × ByteArray)), ∀ u ∈ ckc l, u.oneCell' = true
  | [], u, h => by cases h
  | p :: l, u, h => by
    rw [ckc_cons, List.mem_cons, List.mem_cons] at h
    rcases h with rfl | rfl | h
    · rfl
    · rfl
    · exact ckc_one l u h
theorem ckc_append (l m : List (Bool × ByteArray)) : ckc (l ++ m) = ckc l ++ ckc m := by simp [ckc]
theorem ckc_at : ∀ (l : List (Bool × ByteArray)) (j : Nat) (p : Bool × ByteArray), l[j]? = some p → (ckc l)[j * 2]? = some (.bool p.1) ∧ (ckc l)[j * 2 + 1]? = some (.string p.2)
  | [], j, p, h => by simp at h
  | q :: l, 0, p, h => by simp at h; subst h; exact ⟨rfl, rfl⟩
  | q :: l, j + 1, p, h => by
    rw [ckc_cons, show (j + 1) * 2 = j * 2 + 1 + 1 by omega]
    simp only [List.getElem?_cons_succ] at h ⊢
    exact ckc_at l j p h
theorem ckc_set : ∀ (l : List (Bool × ByteArray)) (j : Nat) (p : Bool × ByteArray), ((ckc l).set (j * 2) (.bool p.1)).set (j * 2 + 1) (.string p.2) = ckc (l.set j p)
  | [], j, p => by simp [ckc]
  | q :: l, 0, p => rfl
  | q :: l, j + 1, p => by
    rw [ckc_cons, show (j + 1) * 2 = j * 2 + 1 + 1 by omega, List.set_cons_succ, List.set_cons_succ, List.set_cons_succ, List.set_cons_succ, List.set_cons_succ, ckc_cons, ckc_set l j p]
theorem frc_length (l : List Nat) : (frc l).length = l.length * 1 := by simp [frc]
theorem frc_one (l : List Nat) : ∀ u ∈ frc l, u.oneCell' = true := by
  intro u h; simp only [frc, List.mem_map] at h; obtain ⟨_, _, rfl⟩ := h; rfl
theorem frc_append (l m : List Nat) : frc (l ++ m) = frc l ++ frc m := by simp [frc]
theorem frc_at (l : List Nat) (j k : Nat) (h : l[j]? = some k) : (frc l)[j]? = some (.int .i64 ((k : Nat) : Int)) := by simp [frc, h]
theorem frc_take (l : List Nat) (m : Nat) : (frc l).take (m * 1) = frc (l.take m) := by simp [frc, List.map_take]

/-- The classes of a slab: their row lies in block C; each one's chunks and free numbers in rows of their own. -/
structure ClsF (w : World) (o : (Nat → Nat × Nat)) (x C : Nat) (s : St) (kv fv : Nat → Value) : Prop where
  oC : o C = (x, 1)
  c0 : ∀ i, i < s.n → w.cell? ⟨C, i * 3, none⟩ = some (.int .i64 ((sz i : Nat) : Int))
  c1 : ∀ i, i < s.n → w.cell? ⟨C, i * 3 + 1, none⟩ = some (kv i)
  c2 : ∀ i, i < s.n → w.cell? ⟨C, i * 3 + 2, none⟩ = some (fv i)
  f1 : ∀ i, i < s.n → w.frozen? ⟨C, i * 3 + 1, none⟩ = false
  f2 : ∀ i, i < s.n → w.frozen? ⟨C, i * 3 + 2, none⟩ = false
  kk : ∀ i, i < s.n → OwnK w o (x, 2 * i + 2) 2 (kv i) (s.ch i).length (ckc (s.ch i))
  ff : ∀ i, i < s.n → OwnK w o (x, 2 * i + 3) 1 (fv i) (s.fr i).length (frc (s.fr i))
/-- A slab lies in block S; its blocks bear x's marks. -/
structure IsSlab (w : World) (o : (Nat → Nat × Nat)) (x S : Nat) (s : St) : Prop where
  ok : Ok s
  oS : o S = (x, 0)
  c0 : w.cell? ⟨S, 0, none⟩ = some (.int .i64 ((s.page : Nat) : Int))
  c1 : w.cell? ⟨S, 1, none⟩ = some (.int .i64 ((s.pages : Nat) : Int))
  c2 : w.cell? ⟨S, 2, none⟩ = some (.int .i64 ((s.left : Nat) : Int))
  f2 : w.frozen? ⟨S, 2, none⟩ = false
  cl : ∃ C cap kv fv, s.n ≤ cap ∧ w.cell? ⟨S, 3, none⟩ = some (.slice (some ⟨C, 0, none⟩) s.n cap) ∧ ClsF w o x C s kv fv
theorem ClsF.fr {T : Nat × Nat → Prop} {w w' : World} {o o' : (Nat → Nat × Nat)} {x C : Nat} {s : St} {kv fv : Nat → Value} (h : ClsF w o x C s kv fv) (hn : 0 < s.n) (f : Fr T o o' w w') (hT : ∀ a, ¬ T (x, a)) : ClsF w' o' x C s kv fv := by
  have hlt := World.block_lt_of_cell? _ _ (h.c0 0 hn)
  have hC : ¬ T (o C) := by rw [h.oC]; exact hT 1
  exact ⟨(f.lab C hlt).trans h.oC, fun i hi => f.cell (h.c0 i hi) hC, fun i hi => f.cell (h.c1 i hi) hC, fun i hi => f.cell (h.c2 i hi) hC, fun i hi => (f.frozen hlt hC).trans (h.f1 i hi), fun i hi => (f.frozen hlt hC).trans (h.f2 i hi), fun i hi => (h.kk i hi).fr f (hT _), fun i hi => (h.ff i hi).fr f (hT _)⟩
theorem IsSlab.fr {T : Nat × Nat → Prop} {w w' : World} {o o' : (Nat → Nat × Nat)} {x S : Nat} {s : St} (h : IsSlab w o x S s) (f : Fr T o o' w w') (hT : ∀ a, ¬ T (x, a)) : IsSlab w' o' x S s := by
  have hS : ¬ T (o S) := by rw [h.oS]; exact hT 0
  have hlt := World.block_lt_of_cell? _ _ h.c0
  obtain ⟨C, cap, kv, fv, hc, c3, cf⟩ := h.cl
  exact ⟨h.ok, (f.lab S hlt).trans h.oS, f.cell h.c0 hS, f.cell h.c1 hS, f.cell h.c2 hS, (f.frozen hlt hS).trans h.f2, C, cap, kv, fv, hc, f.cell c3 hS, cf.fr h.ok.n0 f hT⟩
theorem IsSlab.below {w w' : World} {o : (Nat → Nat × Nat)} {x S : Nat} {s : St} (h : IsSlab w o x S s) (hb : Below w.heap.size w w') : IsSlab w' o x S s := h.fr (Fr.ofBelow (fun _ => False) o hb) (fun _ x => x)
theorem cell_up {w w' : World} {b o : Nat} {v : Value} (hb : Below w.heap.size w w') (h : w.cell? ⟨b, o, none⟩ = some v) : w'.cell? ⟨b, o, none⟩ = some v :=
  (hb.cell (p := ⟨b, o, none⟩) (World.block_lt_of_cell? _ _ h)).trans h

set_option maxRecDepth 100000 in
set_option maxHeartbeats 1000000 in
theorem class_any (x S : Nat) (s : St) (len : Int) (w : World) (o : (Nat → Nat × Nat)) (h : IsSlab w o x S s) :
    Calls Tryz.prog 66 #[.pointer (some ⟨S, 0, none⟩), .int .i64 len] w fun e w' => ∃ r, e = .returned (.int .i64 r) ∧ ClsIs s len r ∧ Below w.heap.size w w' := by
  obtain ⟨C, cap, kv, fv, hcap, c3, cf⟩ := h.cl
  have HC : Hid (ClsF w o x C s kv fv) := cf
  have hn := h.ok.n2
  clear cf h
  by_cases hneg : len < 0
  · go_enter Tryz.func66, Tryz.ntmps66
    go_wp2_with fail
    go_ret
    exact ⟨-1, rfl, .inl ⟨rfl, .inl hneg⟩, Below.refl _ _⟩
  · have j0 : decide (len < 0) = false := by simp; omega
    go_enter Tryz.func66, Tryz.ntmps66
    go_wp2_with fail
    go_loopw [14] (fun i wr => ∃ j : Nat, j ≤ s.n ∧ i = .int .i64 (j : Int) ∧ Hid (∀ q, q < j → (sz q : Int) < len) ∧ Hid (Below w.heap.size w wr)) (fun i _ => s.n - (intOf i).toNat)
    case atStart => exact ⟨0, by omega, rfl, fun q hq => by omega, Below.refl _ _⟩
    case round =>
      obtain ⟨j, hj, rfl, HQ, HB⟩ := hrel
      by_cases hlt : j < s.n
      · have d0 := cell_up HB.out (HC.out.c0 j hlt)
        have d1 := cell_up HB.out (HC.out.c1 j hlt)
        have d2 := cell_up HB.out (HC.out.c2 j hlt)
        obtain ⟨a1, b1, e1, _⟩ := (HC.out.kk j hlt).form
        obtain ⟨a2, b2, e2, _⟩ := (HC.out.ff j hlt).form
        rw [e1] at d1
        rw [e2] at d2
        have hi1 : (j : Int) < (s.n : Int) := by omega
        clear e1 e2
        by_cases hle : len ≤ (sz j : Int)
        · go_wp2_with fail
          go_ret
          exact ⟨j, rfl, .inr ⟨j, rfl, hlt, by omega, hle, HQ.out⟩, HB.out.alloc HB.out.size _⟩
        · have j1 : decide (len ≤ (sz j : Int)) = false := by simp; omega
          go_wp2_with fail
          refine ⟨⟨j + 1, by omega, by go_num, fun q hq => ?_, HB.out.alloc HB.out.size _⟩, by simp [intOf]; omega⟩
          by_cases e : q = j
          · subst e; omega
          · exact HQ.out q (by omega)
      · go_wp2_with fail
        go_ret
        exact ⟨-1, rfl, .inl ⟨rfl, .inr (by rw [show s.n = j by omega]; exact HQ.out)⟩, HB.out⟩
theorem under22 : Tryz.prog.underlying 22 = some (.slice 3) := by kernel_rfl
theorem info3 : (Tryz.prog.info? 3).map (fun i => (i.zero, i.size, i.bytes)) = some (some (.int .i64 0), 1, 8) := by kernel_rfl
/-- 'make([]int, n)'. -/
theorem make_ints (w : World) (n : Nat) (h : n ≤ 1000000) : ∃ w' cur, (Instr.makeSlice 22 (.int .i64 (n : Int)) (.int .i64 (n : Int))).run Tryz.prog w = .ok (.slice (some ⟨w.heap.size, 0, none⟩) n n) w' ∧
    w'.heap[w.heap.size]? = some (.cells cur 3 (0, 0)) ∧ cur.size = n ∧ Below w.heap.size w w' := by
  obtain ⟨i0, hi, hz0, hz1, hz2⟩ := info_parts info3
  obtain ⟨w', hrun, own, gr⟩ := run_make_full (P := Tryz.prog) w w.heap.size 22 3 i0 (.int .i64 0) 1 under22 hi hz0 hz1 .i64 .i64 n (by rw [hz2]; omega) (by unfold maxLen; omega) (Nat.le_refl _)
  have hb : Below w.heap.size w w' := (Below.refl _ _).grown gr (Nat.le_refl _) (fun k e => by cases e)
  rcases own.2 with ⟨h1, _⟩ | ⟨g, cap, cur, h1, _, h3, _, _, h6, _⟩
  · cases h1
  · injection h1 with e1 e2 e3
    injection e1 with e1
    injection e1 with e1 e4 e5
    subst e1 e3
    exact ⟨w', cur, hrun, h3, by omega, hb⟩
set_option maxRecDepth 100000 in
set_option maxHeartbeats 1000000 in
theorem classes_any (x S : Nat) (s : St) (w : World) (o : (Nat → Nat × Nat)) (h : IsSlab w o x S s) :
    Calls Tryz.prog 21 #[.pointer (some ⟨S, 0, none⟩)] w fun e w' => ∃ g, e = .returned (.slice (some ⟨g, 0, none⟩) s.n s.n) ∧ w.heap.size ≤ g ∧ (∀ i, i < s.n → w'.cell? ⟨g, i, none⟩ = some (.int .i64 ((sz i : Nat) : Int))) ∧ Below w.heap.size w w' := by
  obtain ⟨C, cap, kv, fv, hcap, c3, cf⟩ := h.cl
  have HC : Hid (ClsF w o x C s kv fv) := cf
  have hn := h.ok.n2
  clear cf h
  go_enter Tryz.func21, Tryz.ntmps21
  go_wp2_with fail
  obtain ⟨w1, cur, hrun, hg, hcs, hb1⟩ := make_ints w s.n (by omega)
  rw [hrun]
  clear hrun
  have c3' := cell_up hb1 c3
  obtain ⟨G, eG⟩ : ∃ G, G = w.heap.size := ⟨_, rfl⟩
  have EG : Hid (w.heap.size ≤ G) := by show _ ≤ _; omega
  rw [← eG] at hg ⊢
  have GC : Hid (∀ q, q < s.n → (w1.cell? ⟨G, q, none⟩).isSome = true ∧ w1.frozen? ⟨G, q, none⟩ = false) := fun q hq =>
    ⟨by rw [cell_of_row w1 G q cur 3 (0, 0) hg, Array.getElem?_eq_getElem (by omega)]; rfl, by simp [World.frozen?, hg]⟩
  have GL : Hid (G < w1.heap.size) := (Array.getElem?_eq_some_iff.1 hg).1
  clear eG hg hcs
  have HB1 : Hid (Below w.heap.size w w1) := hb1
  clear hb1
  go_wp2_with fail
  go_loopw [17] (fun i wr => ∃ j : Nat, j ≤ s.n ∧ i = .int .i64 (j : Int) ∧ Hid (∀ q, q < j → wr.cell? ⟨G, q, none⟩ = some (.int .i64 ((sz q : Nat) : Int))) ∧ Hid (∀ q, q < s.n → (wr.cell? ⟨G, q, none⟩).isSome = true ∧ wr.frozen? ⟨G, q, none⟩ = false) ∧ Hid (G < wr.heap.size) ∧ Hid (Below w.heap.size w wr)) (fun i _ => s.n - (intOf i).toNat)
  case atStart => exact ⟨0, by omega, rfl, fun q hq => by omega, GC, GL, HB1⟩
  case round =>
    clear GC GL HB1
    obtain ⟨j, hj, rfl, HQ, GC, GL, HB⟩ := hrel
    by_cases hlt : j < s.n
    · have d0 := cell_up HB.out (HC.out.c0 j hlt)
      have d1 := cell_up HB.out (HC.out.c1 j hlt)
      have d2 := cell_up HB.out (HC.out.c2 j hlt)
      obtain ⟨a1, b1, e1, _⟩ := (HC.out.kk j hlt).form
      obtain ⟨a2, b2, e2, _⟩ := (HC.out.ff j hlt).form
      rw [e1] at d1
      rw [e2] at d2
      have hi1 : (j : Int) < (s.n : Int) := by omega
      obtain ⟨u, hu⟩ := Option.isSome_iff_exists.1 (GC.out j hlt).1
      have fz := (GC.out j hlt).2
      have gl := GL.out
      have gne : G ≠ wr.heap.size := by omega
      clear e1 e2
      go_wp2_with fail
      have key : ∀ (ob : Obj) (q : Nat), ((wr.setCell ⟨G, j, none⟩ (.int .i64 ((sz j : Nat) : Int))).alloc ob).heap[G]? = (wr.setCell ⟨G, j, none⟩ (.int .i64 ((sz j : Nat) : Int))).heap[G]? := fun ob q => Below.heap_alloc _ _ _ (by simpa [World.setCell] using gl)
      refine ⟨⟨j + 1, by omega, by go_num, fun q hq => ?_, fun q hq => ⟨?_, ?_⟩, ?_, (HB.out.setCell (p := ⟨G, j, none⟩) EG.out _).alloc (by simpa [World.setCell] using HB.out.size) _⟩, by simp [intOf]; omega⟩
      · rw [World.cell?_of_block (a := ⟨G, q, none⟩) (key _ q)]
        by_cases e : j = q
        · subst e; exact World.cell?_setCell_same _ _ _ hu
        · rw [World.cell?_setCell_other _ _ _ _ (fun h => e (by injection h))]; exact HQ.out q (by omega)
      · rw [World.cell?_of_block (a := ⟨G, q, none⟩) (key _ q)]; exact some_setCell _ _ _ _ (GC.out q hq).1
      · rw [World.frozen?_of_block (a := ⟨G, q, none⟩) (key _ q), World.frozen?_setCell]; exact (GC.out q hq).2
      · show _ < _; simp [World.setCell]; omega
    · go_wp2_with fail
      go_ret
      exact ⟨G, rfl, EG.out, by rw [show s.n = j by omega]; exact HQ.out, HB.out⟩
/-- A class's chunk, its cells. -/
theorem ClsF.chunk {w : World} {o : (Nat → Nat × Nat)} {x C : Nat} {s : St} {kv fv : Nat → Value} (h : ClsF w o x C s kv fv) {i j : Nat} (hi : i < s.n) {p : Bool × ByteArray} (hp : (s.ch i)[j]? = some p) :
    ∃ g cap, kv i = .slice (some ⟨g, 0, none⟩) (s.ch i).length cap ∧ o g = (x, 2 * i + 2) ∧ (s.ch i).length ≤ cap ∧ w.cell? ⟨g, j * 2, none⟩ = some (.bool p.1) ∧ w.cell? ⟨g, j * 2 + 1, none⟩ = some (.string p.2) ∧ w.frozen? ⟨g, j * 2, none⟩ = false ∧ w.frozen? ⟨g, j * 2 + 1, none⟩ = false := by
  have hlt := (List.getElem?_eq_some_iff.1 hp).1
  obtain ⟨g, cap, e, h2, h3, h4, h5, h6, h7⟩ := (h.kk i hi).there (by omega)
  obtain ⟨e1, e2⟩ := ckc_at _ _ _ hp
  exact ⟨g, cap, e, h2, h4, h6 _ _ e1, h6 _ _ e2, (h7 _ (by omega)).2, (h7 _ (by omega)).2⟩
set_option maxRecDepth 100000 in
set_option maxHeartbeats 1000000 in
theorem has_any (x S : Nat) (s : St) (c k : Int) (w : World) (o : (Nat → Nat × Nat)) (h : IsSlab w o x S s) :
    Calls Tryz.prog 111 #[.pointer (some ⟨S, 0, none⟩), .agg #[.int .i64 c, .int .i64 k]] w fun e w' => e = .returned (.bool (s.has c k)) ∧ Below w.heap.size w w' := by
  obtain ⟨C, cap, kv, fv, hcap, c3, cf⟩ := h.cl
  have HC : Hid (ClsF w o x C s kv fv) := cf
  have hn := h.ok.n2
  have hS := World.block_lt_of_cell? _ _ c3
  have hSn : S ≠ w.heap.size := by simp at hS; omega
  have HO : Hid (Ok s) := h.ok
  clear cf h
  by_cases hc0 : c < 0
  · have HR : Hid (s.has c k = false) := by show _ = _; unfold St.has; rw [decide_eq_false (by omega), Bool.false_and]
    go_enter Tryz.func111, Tryz.ntmps111
    go_wp2_with fail
    go_quiet (fail)
    go_wp2_with fail
    go_ret
    exact ⟨by rw [HR.out]; rfl, below_drewN ((Below.refl _ _).alloc (Nat.le_refl _) _) _⟩
  · have j0 : decide (c < 0) = false := by simp; omega
    by_cases hcn : (s.n : Int) ≤ c
    · have HR : Hid (s.has c k = false) := by show _ = _; unfold St.has; rw [decide_eq_false (by omega), Bool.false_and]
      go_enter Tryz.func111, Tryz.ntmps111
      go_wp2_with fail
      go_quiet (fail)
      go_wp2_with fail
      go_ret
      exact ⟨by rw [HR.out]; rfl, below_drewN ((Below.refl _ _).alloc (Nat.le_refl _) _) _⟩
    · have j1 : decide ((s.n : Int) ≤ c) = false := by simp; omega
      obtain ⟨i, rfl⟩ : ∃ i : Nat, c = i := ⟨c.toNat, by omega⟩
      have hi : i < s.n := by omega
      have hi1 : (i : Int) < (s.n : Int) := by omega
      have d1 := HC.out.c1 i hi
      have hC := World.block_lt_of_cell? _ _ d1
      have hCn : C ≠ w.heap.size := by simp at hC; omega
      have q2 := HO.out.ch2 hi
      obtain ⟨a1, b1, e1, hb1⟩ := (HC.out.kk i hi).form
      by_cases hk0 : k < 0
      · have HR : Hid (s.has i k = false) := by show _ = _; unfold St.has; rw [decide_eq_false (by omega), Bool.false_and]
        have j2 : decide (0 ≤ k) = false := by simp; omega
        rw [e1] at d1
        clear e1
        go_enter Tryz.func111, Tryz.ntmps111
        go_wp2_with fail
        go_quiet (fail)
        go_wp2_with fail
        go_quiet (fail)
        go_wp2_with fail
        go_ret
        exact ⟨by rw [HR.out]; rfl, below_drewN ((Below.refl _ _).alloc (Nat.le_refl _) _) _⟩
      · have j2 : decide (0 ≤ k) = true := by simp; omega
        obtain ⟨m, rfl⟩ : ∃ m : Nat, k = m := ⟨k.toNat, by omega⟩
        by_cases hm : m < (s.ch i).length
        · obtain ⟨p, hp⟩ : ∃ p, (s.ch i)[m]? = some p := ⟨_, List.getElem?_eq_getElem hm⟩
          have HR : Hid (s.has i m = p.1) := by
            show _ = _; unfold St.has
            rw [decide_eq_true (by simp; omega), Bool.true_and, List.getD_eq_getElem?_getD]
            simp only [Int.toNat_natCast]
            rw [hp]; rfl
          obtain ⟨g, cp, e2, _, hcp, k0, _⟩ := HC.out.chunk hi hp
          rw [e2] at d1
          have hg := World.block_lt_of_cell? _ _ k0
          have hgn : g ≠ w.heap.size := by simp at hg; omega
          have j3 : (m : Int) < ((s.ch i).length : Int) := by omega
          obtain ⟨b, hb⟩ : ∃ b, b = p.1 := ⟨_, rfl⟩
          rw [← hb] at k0
          have HB : Hid (b = p.1) := hb
          clear hb hp e1 e2
          go_enter Tryz.func111, Tryz.ntmps111
          go_wp2_with fail
          go_quiet (fail)
          go_wp2_with fail
          go_quiet (fail)
          go_wp2_with fail
          go_ret
          exact ⟨by rw [HR.out, ← HB.out]; rfl, below_drewN ((Below.refl _ _).alloc (Nat.le_refl _) _) _⟩
        · have HR : Hid (s.has i m = false) := by show _ = _; unfold St.has; rw [decide_eq_false (by simp; omega), Bool.false_and]
          have j3 : decide ((m : Int) < ((s.ch i).length : Int)) = false := by simp; omega
          rw [e1] at d1
          clear e1
          go_enter Tryz.func111, Tryz.ntmps111
          go_wp2_with fail
          go_quiet (fail)
          go_wp2_with fail
          go_quiet (fail)
          go_wp2_with fail
          go_ret
          exact ⟨by rw [HR.out]; rfl, below_drewN ((Below.refl _ _).alloc (Nat.le_refl _) _) _⟩
/-- What Read tells. -/
def St.rd (s : St) (c k : Int) : ByteArray := if s.has c k = true then s.dat c k else ⟨#[]⟩
set_option maxRecDepth 100000 in
set_option maxHeartbeats 1000000 in
theorem read_any (x S : Nat) (s : St) (c k : Int) (w : World) (o : (Nat → Nat × Nat)) (h : IsSlab w o x S s) :
    Calls Tryz.prog 89 #[.pointer (some ⟨S, 0, none⟩), .agg #[.int .i64 c, .int .i64 k]] w fun e w' => e = .returned (.tuple #[.string (s.rd c k), .bool (s.has c k)]) ∧ Below w.heap.size w w' := by
  have HI : Hid (IsSlab w o x S s) := h
  have B1 : Hid (Below w.heap.size w (w.alloc (.cells #[.int .i64 c, .int .i64 k] 56))) := (Below.refl _ _).alloc (Nat.le_refl _) _
  clear h
  by_cases hh : s.has c k = true
  · obtain ⟨i, m, d, rfl, rfl, hi, hm, hp, hd⟩ := St.has_of hh
    have HR : Hid (s.rd i m = d ∧ s.has i m = true) := ⟨by unfold St.rd; rw [if_pos hh]; exact hd, hh⟩
    go_enter Tryz.func89, Tryz.ntmps89
    go_wp2_with fail
    refine (has_any x S s i m _ o (HI.out.below B1.out)).mono ?_
    rintro e w2 ⟨rfl, B2⟩
    rw [hh]
    have I2 := (HI.out.below B1.out).below B2
    have BB : Hid (Below w.heap.size w w2) := B1.out.trans (B2.mono B1.out.size)
    obtain ⟨C, cap, kv, fv, hcap, c3, cf⟩ := I2.cl
    have d1 := cf.c1 i hi
    obtain ⟨g, cp, e2, _, hcp, _, k1, _⟩ := cf.chunk hi hp
    rw [e2] at d1
    have z0 : w2.cell? ⟨w.heap.size, 0, none⟩ = some (.int .i64 (i : Int)) := cell_up B2 (by rw [World.cell?_alloc_new]; rfl)
    have z1 : w2.cell? ⟨w.heap.size, 1, none⟩ = some (.int .i64 (m : Int)) := cell_up B2 (by rw [World.cell?_alloc_new]; rfl)
    have hn := I2.ok.n2
    have hm2 := I2.ok.ch2 hi
    have hi1 : (i : Int) < (s.n : Int) := by omega
    have hm1 : (m : Int) < ((s.ch i).length : Int) := by omega
    clear I2 B2 cf e2 hh hp hd
    go_wp2_with fail
    go_quiet (fail)
    go_wp2_with fail
    go_ret2
    exact ⟨by rw [HR.out.1, HR.out.2]; rfl, below_drewN BB.out _⟩
  · have HR : Hid (s.rd c k = ⟨#[]⟩ ∧ s.has c k = false) := ⟨by unfold St.rd; rw [if_neg hh], by simpa using hh⟩
    clear hh
    go_enter Tryz.func89, Tryz.ntmps89
    go_wp2_with fail
    refine (has_any x S s c k _ o (HI.out.below B1.out)).mono ?_
    rintro e w2 ⟨rfl, B2⟩
    rw [HR.out.2]
    have BB : Hid (Below w.heap.size w w2) := B1.out.trans (B2.mono B1.out.size)
    clear B2
    go_wp2_with fail
    go_ret2
    exact ⟨by rw [HR.out.1, HR.out.2]; rfl, BB.out⟩
end Go.Proofs.YtfinaichajbnkaaGreatDoor
