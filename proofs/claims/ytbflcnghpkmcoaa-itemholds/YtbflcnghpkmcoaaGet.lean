/-
  GET and NEW of the program.
-/
import Derived.Test.YtbflcnghpkmcoaaFind
namespace Go.Proofs.Ytbflcnghpkmcoaa
open Go.RowKit

theorem IsC.miss {w : World} {o : Nat → Nat × Nat} {x C : Nat} {a : A} {E : Bool → Nat → List Ent} {G : Bool → Nat} (h : IsC w o x C a E G) {k : ByteArray} {pre : List Ent} (he : E (a.row k) (a.at_ k) = pre ++ []) (hp : ∀ e ∈ pre, e.k ≠ k) : a.F k = none := by
  refine h.has.nokey k fun p hp' => ?_
  obtain ⟨e, h1, rfl⟩ := List.mem_map.1 hp'
  rw [he, List.append_nil] at h1
  exact hp e h1
theorem IsC.hit {w : World} {o : Nat → Nat × Nat} {x C : Nat} {a : A} {E : Bool → Nat → List Ent} {G : Bool → Nat} (h : IsC w o x C a E G) {k : ByteArray} {pre t : List Ent} {e : Ent} (he : E (a.row k) (a.at_ k) = pre ++ e :: t) (hk : e.k = k) : a.F k = some e.v := by
  refine (h.has.at_ k e.v).2 (List.mem_map.2 ⟨e, by rw [he]; simp, ?_⟩)
  unfold Ent.kv; rw [hk]
/-- A key's bucket in memory. -/
theorem IsC.bucket {w : World} {o : Nat → Nat × Nat} {x C : Nat} {a : A} {E : Bool → Nat → List Ent} {G : Bool → Nat} (h : IsC w o x C a E G) (k : ByteArray) : RowR w o x (G (a.row k)) (a.cnt (a.row k)) (E (a.row k)) ∧ a.at_ k < a.cnt (a.row k) :=
  ⟨h.row _ (A.cnt_row h.has.ok k), A.at_lt h.has.ok k⟩
theorem lnk_form (G i : Nat) (pre : List Ent) : ∃ pb po, lnk G i pre = ⟨pb, po, none⟩ := by
  unfold lnk; split
  · exact ⟨_, _, rfl⟩
  · exact ⟨_, _, rfl⟩
set_option maxRecDepth 100000 in
set_option maxHeartbeats 1000000 in
theorem get_any (x C : Nat) (a : A) (k : ByteArray) (hk : k.size ≤ 140737488355328) (w : World) (o : Nat → Nat × Nat) (h : IsChain w o x C a) :
    Calls Try.prog 36 #[.pointer (some ⟨C, 0, none⟩), .string k] w fun e w' => e = .returned (.tuple #[.int .i64 ((a.F k).getD 0), .bool (a.F k).isSome]) ∧ Below w.heap.size w w' := by
  obtain ⟨E, G, h⟩ := h
  have HC : Hid (IsC w o x C a E G) := h
  clear h
  go_enter Try.func36, Try.ntmps36
  go_wp2_with fail
  refine (find_any x C a k hk _ o E G HC.out).mono ?_
  rintro e w2 ⟨p, rfl, pre, post, he, hp, hpre, hpost, B2⟩
  obtain ⟨RR, hat⟩ := (HC.out.below B2).bucket k
  obtain ⟨l1, _⟩ := RR.link hat he
  have hch := RR.ch _ hat
  rw [he] at hch
  rw [← hp] at l1
  obtain ⟨pb, po, hpf⟩ := lnk_form (G (a.row k)) (a.at_ k) pre
  rw [hpf] at hp
  subst hp
  have HB : Hid (Below w.heap.size w w2) := B2
  rcases hpost with rfl | ⟨e, t, rfl, hek⟩
  · replace l1 : w2.cell? ⟨pb, po, none⟩ = some (.pointer none) := l1
    have HF : Hid (a.F k = none) := HC.out.miss he hpre
    clear hch hpre he hpf RR hat B2
    go_wp2_with fail
    go_ret2
    exact ⟨by rw [HF.out]; rfl, HB.out⟩
  · replace l1 : w2.cell? ⟨pb, po, none⟩ = some (.pointer (some ⟨e.b, 0, none⟩)) := l1
    have HF : Hid (a.F k = some e.v) := HC.out.hit he hek
    have e1 := hch.tail.1.c1
    clear hch hpre he hpf RR hat hek B2
    go_wp2_with fail
    go_ret2
    exact ⟨by rw [HF.out]; rfl, HB.out⟩
theorem under106 : Try.prog.underlying 106 = some (.slice 114) := by kernel_rfl
theorem info114 : (Try.prog.info? 114).map (fun i => (i.zero, i.size, i.bytes)) = some (some (.pointer none), 1, 8) := by kernel_rfl
/-- 'make([]*entry, n)'. -/
theorem make_row (w : World) (n : Nat) (N : Int) (hN : N = (n : Int)) (hn : n ≤ 1000000) : ∃ ob, (Instr.makeSlice 106 (.int .i64 N) (.int .i64 N)).run Try.prog w = .ok (.slice (some ⟨w.heap.size, 0, none⟩) n n) (w.alloc ob) ∧
    (∀ i, i < n → (w.alloc ob).cell? ⟨w.heap.size, i, none⟩ = some (.pointer none)) ∧ ∀ i, (w.alloc ob).frozen? ⟨w.heap.size, i, none⟩ = false := by
  subst hN
  obtain ⟨i0, hi, hz0, hz1, hz2⟩ := info_parts info114
  have hr := run_make (P := Try.prog) w 106 114 i0 (.pointer none) under106 hi hz0 .i64 .i64 (n : Int) (n : Int) (by omega) (by omega) (by rw [hz2]; omega) (by omega)
  simp only [Int.toNat_natCast] at hr
  refine ⟨_, hr, fun i hi => ?_, fun i => World.frozen?_alloc_new _ _ _ _⟩
  rw [World.cell?_alloc_new, hz1]
  simp [madeCells, hi, Value.cells, Nat.mod_one]
set_option maxRecDepth 100000 in
set_option maxHeartbeats 1000000 in
theorem new_any (x : Nat) (w : World) (o : Nat → Nat × Nat) :
    Calls Try.prog 30 #[] w fun e w' => ∃ C o', e = .returned (.pointer (some ⟨C, 0, none⟩)) ∧ IsChain w' o' x C A0 ∧ Fr (fun _ => False) o o' w w' := by
  obtain ⟨ob, hrun, hc, hf⟩ := make_row w 4 4 rfl (by omega)
  go_enter Try.func30, Try.ntmps30
  go_wp2_with fail
  go_ret
  refine ⟨w.heap.size + 1, lab (lab o w.heap.size (x, 1)) (w.heap.size + 1) (x, 0), rfl, ⟨fun _ _ => [], fun _ => w.heap.size, ?_⟩, ?_⟩
  · have hsz : (w.alloc ob).heap.size = w.heap.size + 1 := by simp
    have nw : ∀ (ob' : Obj) (i : Nat), ((w.alloc ob).alloc ob').heap[w.heap.size]? = (w.alloc ob).heap[w.heap.size]? := fun ob' i => Below.heap_alloc _ _ _ (by rw [hsz]; omega)
    refine ⟨Has.new.congr (fun _ _ _ => rfl), lab_same _ _ _, ?_, ?_, ?_, ?_, ?_, fun j => ?_, fun r hr => ?_, fun h => absurd rfl h⟩
    · rw [← hsz, World.cell?_alloc_new]; rfl
    · rw [← hsz, World.cell?_alloc_new]; rfl
    · rw [← hsz, World.cell?_alloc_new]; rfl
    · rw [← hsz, World.cell?_alloc_new]; rfl
    · rw [← hsz, World.cell?_alloc_new]; rfl
    · rw [← hsz]; exact World.frozen?_alloc_new _ _ _ _
    · cases r with
      | false => exact absurd hr (by decide)
      | true =>
        refine ⟨by rw [lab_other _ _ _ (by omega), lab_same], fun i hi => ?_, fun i hi => ?_, fun i hi => trivial⟩
        · rw [World.cell?_of_block (a := ⟨w.heap.size, i, none⟩) (nw _ i)]; exact hc i hi
        · rw [World.frozen?_of_block (a := ⟨w.heap.size, i, none⟩) (nw _ i)]; exact hf i
  · have f2 := Fr.new (fun _ => False) (lab o w.heap.size (x, 1)) (w.alloc ob) (Obj.cells #[Value.slice none 0 0, Value.int IntKind.i64 0, Value.slice (some { block := w.heap.size, off := 0 }) 4 4, Value.int IntKind.i64 0, Value.int IntKind.i64 0] 110) (x, 0)
    rw [show (w.alloc ob).heap.size = w.heap.size + 1 by simp] at f2
    exact (Fr.new _ o w ob (x, 1)).trans f2
end Go.Proofs.Ytbflcnghpkmcoaa
