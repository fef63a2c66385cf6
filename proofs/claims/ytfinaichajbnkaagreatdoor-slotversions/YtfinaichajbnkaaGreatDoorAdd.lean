/-
  GET and NEW of the program.
-/
import Derived.Test.YtfinaichajbnkaaGreatDoorFind
namespace Go.Proofs.YtfinaichajbnkaaGreatDoor
open Go.RowKit

theorem IsC.miss {w : World} {o : Nat → Nat × Nat} {x C : Nat} {a : A} {E : Bool → Nat → List Ent} {G : Bool → Nat} (h : IsC w o x C a E G) {k : ByteArray} {pre : List Ent} (he : E (a.row k) (a.at_ k) = pre ++ []) (hp : ∀ e ∈ pre, e.k ≠ k) : a.F k = none := by
  refine h.has.nokey k fun p hp' => ?_
  obtain ⟨e, h1, rfl⟩ := List.mem_map.1 hp'
  rw [he, List.append_nil] at h1
  exact hp e h1
theorem IsC.hit {w : World} {o : Nat → Nat × Nat} {x C : Nat} {a : A} {E : Bool → Nat → List Ent} {G : Bool → Nat} (h : IsC w o x C a E G) {k : ByteArray} {pre t : List Ent} {e : Ent} (he : E (a.row k) (a.at_ k) = pre ++ e :: t) (hk : e.k = k) : a.F k = some e.v := by
  refine (h.has.at_ k e.v).2 (List.mem_map.2 ⟨e, by rw [he]; simp, ?_⟩)
  unfold Ent.kv; rw [hk]
/-- A key's bucket in memory. -/
theorem IsC.bucket {w : World} {o : Nat → Nat × Nat} {x C : Nat} {a : A} {E : Bool → Nat → List Ent} {G : Bool → Nat} (h : IsC w o x C a E G) (k : ByteArray) : RowR w o x (G (a.row k)) (a.cnt (a.row k)) (E (a.row k)) ∧ a.at_ k < a.cnt (a.row k) :=
  ⟨h.row _ (A.cnt_row h.has.ok k), A.at_lt h.has.ok k⟩
theorem lnk_form (G i : Nat) (pre : List Ent) : ∃ pb po, lnk G i pre = ⟨pb, po, none⟩ := by
  unfold lnk; split
  · exact ⟨_, _, rfl⟩
  · exact ⟨_, _, rfl⟩
set_option maxRecDepth 100000 in
set_option maxHeartbeats 1000000 in
theorem get_any (x C : Nat) (a : A) (k : ByteArray) (hk : k.size ≤ 140737488355328) (w : World) (o : Nat → Nat × Nat) (h : IsChain w o x C a) :
    Calls Tryz.prog 69 #[.pointer (some ⟨C, 0, none⟩), .string k] w fun e w' => e = .returned (.tuple #[.int .i64 ((a.F k).getD 0), .bool (a.F k).isSome]) ∧ Below w.heap.size w w' := by
  obtain ⟨E, G, h⟩ := h
  have HC : Hid (IsC w o x C a E G) := h
  clear h
  go_enter Tryz.func69, Tryz.ntmps69
  go_wp2_with fail
  refine (find_any x C a k hk _ o E G HC.out).mono ?_
  rintro e w2 ⟨p, rfl, pre, post, he, hp, hpre, hpost, B2⟩
  obtain ⟨RR, hat⟩ := (HC.out.below B2).bucket k
  obtain ⟨l1, _⟩ := RR.link hat he
  have hch := RR.ch _ hat
  rw [he] at hch
  rw [← hp] at l1
  obtain ⟨pb, po, hpf⟩ := lnk_form (G (a.row k)) (a.at_ k) pre
  rw [hpf] at hp
  subst hp
  have HB : Hid (Below w.heap.size w w2) := B2
  rcases hpost with rfl | ⟨e, t, rfl, hek⟩
  · replace l1 : w2.cell? ⟨pb, po, none⟩ = some (.pointer none) := l1
    have HF : Hid (a.F k = none) := HC.out.miss he hpre
    clear hch hpre he hpf RR hat B2
    go_wp2_with fail
    go_ret2
    exact ⟨by rw [HF.out]; rfl, HB.out⟩
  · replace l1 : w2.cell? ⟨pb, po, none⟩ = some (.pointer (some ⟨e.b, 0, none⟩)) := l1
    have HF : Hid (a.F k = some e.v) := HC.out.hit he hek
    have e1 := hch.tail.1.c1
    clear hch hpre he hpf RR hat hek B2
    go_wp2_with fail
    go_ret2
    exact ⟨by rw [HF.out]; rfl, HB.out⟩
theorem under77 : Tryz.prog.underlying 77 = some (.slice 137) := by kernel_rfl
theorem info137 : (Tryz.prog.info? 137).map (fun i => (i.zero, i.size, i.bytes)) = some (some (.pointer none), 1, 8) := by kernel_rfl
/-- 'make([]*entry, n)'. -/
theorem make_row (w : World) (n : Nat) (N : Int) (hN : N = (n : Int)) (hn : n ≤ 1000000) : ∃ ob, (Instr.makeSlice 77 (.int .i64 N) (.int .i64 N)).run Tryz.prog w = .ok (.slice (some ⟨w.heap.size, 0, none⟩) n n) (w.alloc ob) ∧
    (∀ i, i < n → (w.alloc ob).cell? ⟨w.heap.size, i, none⟩ = some (.pointer none)) ∧ ∀ i, (w.alloc ob).frozen? ⟨w.heap.size, i, none⟩ = false := by
  subst hN
  obtain ⟨i0, hi, hz0, hz1, hz2⟩ := info_parts info137
  have hr := run_make (P := Tryz.prog) w 77 137 i0 (.pointer none) under77 hi hz0 .i64 .i64 (n : Int) (n : Int) (by omega) (by omega) (by rw [hz2]; omega) (by omega)
  simp only [Int.toNat_natCast] at hr
  refine ⟨_, hr, fun i hi => ?_, fun i => World.frozen?_alloc_new _ _ _ _⟩
  rw [World.cell?_alloc_new, hz1]
  simp [madeCells, hi, Value.cells, Nat.mod_one]
set_option maxRecDepth 100000 in
set_option maxHeartbeats 1000000 in
theorem new_any (x : Nat) (w : World) (o : Nat → Nat × Nat) :
    Calls Tryz.prog 22 #[] w fun e w' => ∃ C o', e = .returned (.pointer (some ⟨C, 0, none⟩)) ∧ IsChain w' o' x C A0 ∧ Fr (fun _ => False) o o' w w' := by
  obtain ⟨ob, hrun, hc, hf⟩ := make_row w 4 4 rfl (by omega)
  go_enter Tryz.func22, Tryz.ntmps22
  go_wp2_with fail
  go_ret
  refine ⟨w.heap.size + 1, lab (lab o w.heap.size (x, 1)) (w.heap.size + 1) (x, 0), rfl, ⟨fun _ _ => [], fun _ => w.heap.size, ?_⟩, ?_⟩
  · have hsz : (w.alloc ob).heap.size = w.heap.size + 1 := by simp
    have nw : ∀ (ob' : Obj) (i : Nat), ((w.alloc ob).alloc ob').heap[w.heap.size]? = (w.alloc ob).heap[w.heap.size]? := fun ob' i => Below.heap_alloc _ _ _ (by rw [hsz]; omega)
    refine ⟨Has.new.congr (fun _ _ _ => rfl), lab_same _ _ _, ?_, ?_, ?_, ?_, ?_, fun j => ?_, fun r hr => ?_, fun h => absurd rfl h⟩
    · rw [← hsz, World.cell?_alloc_new]; rfl
    · rw [← hsz, World.cell?_alloc_new]; rfl
    · rw [← hsz, World.cell?_alloc_new]; rfl
    · rw [← hsz, World.cell?_alloc_new]; rfl
    · rw [← hsz, World.cell?_alloc_new]; rfl
    · rw [← hsz]; exact World.frozen?_alloc_new _ _ _ _
    · cases r with
      | false => exact absurd hr (by decide)
      | true =>
        refine ⟨by rw [lab_other _ _ _ (by omega), lab_same], fun i hi => ?_, fun i hi => ?_, fun i hi => trivial⟩
        · rw [World.cell?_of_block (a := ⟨w.heap.size, i, none⟩) (nw _ i)]; exact hc i hi
        · rw [World.frozen?_of_block (a := ⟨w.heap.size, i, none⟩) (nw _ i)]; exact hf i
  · have f2 := Fr.new (fun _ => False) (lab o w.heap.size (x, 1)) (w.alloc ob) (Obj.cells #[Value.slice none 0 0, Value.int IntKind.i64 0, Value.slice (some { block := w.heap.size, off := 0 }) 4 4, Value.int IntKind.i64 0, Value.int IntKind.i64 0] 81) (x, 0)
    rw [show (w.alloc ob).heap.size = w.heap.size + 1 by simp] at f2
    exact (Fr.new _ o w ob (x, 1)).trans f2
end Go.Proofs.YtfinaichajbnkaaGreatDoor


namespace Go.Proofs.YtfinaichajbnkaaGreatDoor
open Go.RowKit

def updE (N : Nat → List Ent) (j : Nat) (l : List Ent) : Nat → List Ent := fun i => if i = j then l else N i
theorem updE_same (N : Nat → List Ent) (j : Nat) (l : List Ent) : updE N j l j = l := if_pos rfl
theorem updE_other (N : Nat → List Ent) (j : Nat) (l : List Ent) {i : Nat} (h : i ≠ j) : updE N j l i = N i := if_neg h
theorem RowR.cg {w w' : World} {o o' : Nat → Nat × Nat} {x G n : Nat} {E : Nat → List Ent} (h : RowR w o x G n E) (hG : w'.heap[G]? = w.heap[G]?) (ho : o' G = o G) (hb : ∀ i, i < n → ∀ q ∈ E i, w'.heap[q.b]? = w.heap[q.b]? ∧ o' q.b = o q.b) : RowR w' o' x G n E :=
  ⟨ho.trans h.og, fun i hi => (World.cell?_of_block (a := ⟨G, i, none⟩) hG).trans (h.cl i hi), fun i hi => (World.frozen?_of_block (a := ⟨G, i, none⟩) hG).trans (h.fz i hi), fun i hi => (h.ch i hi).cg (fun q hq => (hb i hi q hq).1) (fun q hq => (hb i hi q hq).2)⟩
/-- A bucket's array is no entry. -/
theorem EntF.ne {w w' : World} {o : Nat → Nat × Nat} {x x' G n : Nat} {e : Ent} {nx : Value} {E : Nat → List Ent} (h : EntF w o x e nx) (r : RowR w' o x' G n E) : e.b ≠ G := by
  intro hb
  have h1 := h.ob
  rw [hb, r.og] at h1
  injection h1 with _ h1; cases h1
theorem heap_set2 (w : World) (p q : Addr) (u v : Value) {b : Nat} (h1 : b ≠ p.block) (h2 : b ≠ q.block) : ((w.setCell p u).setCell q v).heap[b]? = w.heap[b]? :=
  (Below.heap_setCell _ _ _ _ h2).trans (Below.heap_setCell _ _ _ _ h1)
theorem blk_set (w : World) (p : Addr) (u : Value) {b : Nat} (h1 : b ≠ p.block) : (w.setCell p u).heap[b]? = w.heap[b]? := Below.heap_setCell _ _ _ _ h1
/-- What two stores leave of a row. -/
theorem RowR.add {w : World} {o : Nat → Nat × Nat} {x G n j : Nat} {N : Nat → List Ent} {e : Ent} {nx : Value} (r : RowR w o x G n N) (hj : j < n) (he : EntF w o x e nx) (hk : ∀ i, i < n → ∀ q ∈ N i, q.k ≠ e.k) :
    RowR ((w.setCell ⟨e.b, 2, none⟩ (hd (N j))).setCell ⟨G, j, none⟩ (.pointer (some ⟨e.b, 0, none⟩))) o x G n (updE N j (e :: N j)) := by
  have hne := he.ne r
  have nb : ∀ i, i < n → ∀ q ∈ N i, q.b ≠ e.b ∧ q.b ≠ G := fun i hi q hq => by
    obtain ⟨_, hq'⟩ := (r.ch i hi).mem hq
    exact ⟨fun hb => hk i hi q hq (hq'.key he hb), hq'.ne r⟩
  have keep : ∀ i, i < n → Chn ((w.setCell ⟨e.b, 2, none⟩ (hd (N j))).setCell ⟨G, j, none⟩ (.pointer (some ⟨e.b, 0, none⟩))) o x (N i) := fun i hi =>
    (r.ch i hi).cg (fun q hq => heap_set2 _ _ _ _ _ (nb i hi q hq).1 (nb i hi q hq).2) (fun _ _ => rfl)
  have cG : ∀ i, i < n → (w.setCell ⟨e.b, 2, none⟩ (hd (N j))).cell? ⟨G, i, none⟩ = some (hd (N i)) := fun i hi =>
    (World.cell?_of_block (a := ⟨G, i, none⟩) (blk_set w ⟨e.b, 2, none⟩ _ (fun h => hne h.symm))).trans (r.cl i hi)
  have ce : ∀ q, ((w.setCell ⟨e.b, 2, none⟩ (hd (N j))).setCell ⟨G, j, none⟩ (.pointer (some ⟨e.b, 0, none⟩))).cell? ⟨e.b, q, none⟩ = (w.setCell ⟨e.b, 2, none⟩ (hd (N j))).cell? ⟨e.b, q, none⟩ := fun q =>
    World.cell?_of_block (a := ⟨e.b, q, none⟩) (blk_set _ ⟨G, j, none⟩ _ hne)
  refine ⟨r.og, fun i hi => ?_, fun i hi => ?_, fun i hi => ?_⟩
  · by_cases ei : i = j
    · subst ei; rw [updE_same]; exact World.cell?_setCell_same _ _ _ (cG i hi)
    · rw [updE_other _ _ _ ei, World.cell?_setCell_other _ _ _ _ (fun h => ei (by injection h with _ h; exact h.symm))]; exact cG i hi
  · rw [World.frozen?_setCell, World.frozen?_setCell]; exact r.fz i hi
  · by_cases ei : i = j
    · subst ei
      rw [updE_same]
      refine ⟨⟨he.ob, ?_, ?_, ?_, ?_, ?_, he.ks⟩, keep i hi⟩
      · rw [ce, World.cell?_setCell_other _ _ _ _ (fun h => by injection h with _ h; cases h)]; exact he.c0
      · rw [ce, World.cell?_setCell_other _ _ _ _ (fun h => by injection h with _ h; cases h)]; exact he.c1
      · rw [ce]; exact World.cell?_setCell_same _ _ _ he.c2
      · rw [World.frozen?_setCell, World.frozen?_setCell]; exact he.f1
      · rw [World.frozen?_setCell, World.frozen?_setCell]; exact he.f2
    · rw [updE_other _ _ _ ei]; exact keep i hi
set_option maxRecDepth 100000 in
set_option maxHeartbeats 1000000 in
theorem add_any (x C G n : Nat) (N : Nat → List Ent) (e : Ent) (nx : Value) (hn0 : 0 < n) (hn : n ≤ 8192) (w : World) (o : Nat → Nat × Nat) (c2 : w.cell? ⟨C, 2, none⟩ = some (.slice (some ⟨G, 0, none⟩) n n)) (c3 : w.cell? ⟨C, 3, none⟩ = some (.int .i64 0)) (oC : o C = (x, 0)) (he : EntF w o x e nx) (r : RowR w o x G n N) :
    Calls Tryz.prog 118 #[.pointer (some ⟨C, 2, none⟩), .pointer (some ⟨e.b, 0, none⟩)] w fun r w' => r = .returned (.tuple #[]) ∧ ∃ d, w' = ((w.drewN d).setCell ⟨e.b, 2, none⟩ (hd (N (hsn e.k % n)))).setCell ⟨G, hsn e.k % n, none⟩ (.pointer (some ⟨e.b, 0, none⟩)) := by
  have hk := he.ks
  have e0 := he.c0
  have e2 := he.c2
  have f2 := he.f2
  obtain ⟨j, hj⟩ : ∃ j, j = hsn e.k % n := ⟨_, rfl⟩
  have hjn : j < n := by rw [hj]; exact Nat.mod_lt _ hn0
  have HJ : Hid (j = hsn e.k % n) := hj
  have g1 := r.cl j hjn
  have g2 := r.fz j hjn
  have hne := he.ne r
  have eC : e.b ≠ C := fun hb => by have h1 := he.ob; rw [hb, oC] at h1; injection h1 with _ h1; cases h1
  have hh := hsn_lt e.k
  have ji : (j : Int) < (n : Int) := by omega
  rw [← hj, hd_eq]
  rw [hd_eq] at g1
  clear he r oC hj
  go_enter Tryz.func118, Tryz.ntmps118
  go_wp2_with fail
  refine (hash_any e.k hk _).mono ?_
  rintro e' w2 ⟨rfl, rfl⟩
  rw [hsn_eq]
  go_wp2_with fail
  refine (place_any C 2 n n 0 (hsn e.k) (some ⟨G, 0, none⟩) hn hh _ c2 c3).mono ?_
  rintro e' w2 ⟨rfl, d, rfl⟩
  rw [if_neg (by omega), ← HJ.out]
  obtain ⟨bb, hbb⟩ : ∃ b, b = decide (0 < n ∧ 0 ≤ j) := ⟨_, rfl⟩
  rw [← hbb]
  clear hbb
  go_wp2_with fail
  exact bodyPost_end (v := .tuple #[]) (by simp [results, Tryz.results118, go_sem]) rfl ⟨rfl, d, rfl⟩
end Go.Proofs.YtfinaichajbnkaaGreatDoor
