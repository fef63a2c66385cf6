/-
  THE REFERENCE'S NewChain; the moving of one old bucket.
-/
import Derived.Test.YtaflabjeddckeaaRef
namespace Go.Proofs.Ytaflabjeddckeaa
open Go.RowKit

theorem under41 : Try.prog.underlying 41 = some (.slice 66) := by kernel_rfl
theorem info66 : (Try.prog.info? 66).map (fun i => (i.zero, i.size, i.bytes)) = some (some (.slice none 0 0), 1, 24) := by kernel_rfl
theorem under66 : Try.prog.underlying 66 = some (.slice 68) := by kernel_rfl
theorem info68 : (Try.prog.info? 68).map (fun i => (i.zero, i.size, i.bytes)) = some (some (.agg #[.string ⟨#[]⟩, .int .i64 0]), 2, 24) := by kernel_rfl
theorem elem66 : Try.prog.underlying 66 = some (.slice (Try.prog.elem 66)) := by kernel_rfl
theorem elem66' : Try.prog.elem 66 = 68 := by kernel_rfl
theorem size68' (w : World) : (sizeOf 68).run Try.prog w = .ok 2 w := by kernel_rfl
/-- 'make([][]Entry, n)'. -/
theorem make_rows (w : World) (n : Nat) (N : Int) (hN : N = (n : Int)) (hn : n ≤ 1000000) : ∃ ob, (Instr.makeSlice 41 (.int .i64 N) (.int .i64 N)).run Try.prog w = .ok (.slice (some ⟨w.heap.size, 0, none⟩) n n) (w.alloc ob) ∧
    (∀ i, i < n → (w.alloc ob).cell? ⟨w.heap.size, i, none⟩ = some (.slice none 0 0)) ∧ ∀ i, (w.alloc ob).frozen? ⟨w.heap.size, i, none⟩ = false := by
  subst hN
  obtain ⟨i0, hi, hz0, hz1, hz2⟩ := info_parts info66
  have hr := run_make (P := Try.prog) w 41 66 i0 (.slice none 0 0) under41 hi hz0 .i64 .i64 (n : Int) (n : Int) (by omega) (by omega) (by rw [hz2]; omega) (by omega)
  simp only [Int.toNat_natCast] at hr
  refine ⟨_, hr, fun i hi => ?_, fun i => World.frozen?_alloc_new _ _ _ _⟩
  rw [World.cell?_alloc_new, hz1]
  simp [madeCells, hi, Value.cells, Nat.mod_one]
set_option maxHeartbeats 1000000 in
theorem rnew_any (x : Nat) (w : World) (o : Nat → Nat × Nat) :
    Calls Try.prog 14 #[] w fun e w' => ∃ C o', e = .returned (.pointer (some ⟨C, 0, none⟩)) ∧ IsRef w' o' x C A0 ∧ Fr (fun _ => False) o o' w w' := by
  obtain ⟨ob, hrun, hc, hf⟩ := make_rows w 4 4 rfl (by omega)
  go_enter Try.func14, Try.ntmps14
  go_wp2_with fail
  go_ret
  refine ⟨w.heap.size + 1, lab (lab o w.heap.size (mA x 4)) (w.heap.size + 1) (x, 0), rfl, ⟨fun _ _ => [], fun _ => w.heap.size, ?_⟩, ?_⟩
  · have hsz : (w.alloc ob).heap.size = w.heap.size + 1 := by simp
    have nw : ∀ (ob' : Obj) (i : Nat), ((w.alloc ob).alloc ob').heap[w.heap.size]? = (w.alloc ob).heap[w.heap.size]? := fun ob' i => Below.heap_alloc _ _ _ (by rw [hsz]; omega)
    refine ⟨Has.new, lab_same _ _ _, ?_, ?_, ?_, ?_, fun j => ?_, fun r hr => ?_⟩
    · rw [← hsz, World.cell?_alloc_new]; rfl
    · rw [← hsz, World.cell?_alloc_new]; rfl
    · rw [← hsz, World.cell?_alloc_new]; rfl
    · rw [← hsz, World.cell?_alloc_new]; rfl
    · rw [← hsz]; exact World.frozen?_alloc_new _ _ _ _
    · cases r with
      | false => exact absurd hr (by decide)
      | true =>
        refine ⟨by rw [lab_other _ _ _ (by omega), lab_same]; rfl, fun i hi => ⟨.slice none 0 0, ?_, OwnK.nil _ _ _ _⟩, fun i hi => ?_⟩
        · rw [World.cell?_of_block (a := ⟨w.heap.size, i, none⟩) (nw _ i)]; exact hc i hi
        · rw [World.frozen?_of_block (a := ⟨w.heap.size, i, none⟩) (nw _ i)]; exact hf i
  · have f2 := Fr.new (fun _ => False) (lab o w.heap.size (mA x 4)) (w.alloc ob) (Obj.cells #[Value.slice (some { block := w.heap.size, off := 0 }) 4 4, Value.slice none 0 0, Value.int IntKind.i64 0, Value.int IntKind.i64 0] 43) (x, 0)
    rw [show (w.alloc ob).heap.size = w.heap.size + 1 by simp] at f2
    exact (Fr.new _ o w ob (mA x 4)).trans f2
def updN (B : Nat → List KV) (j : Nat) (l : List KV) : Nat → List KV := fun i => if i = j then l else B i
theorem updN_same (N : Nat → List KV) (j : Nat) (l : List KV) : updN N j l j = l := if_pos rfl
theorem updN_other (N : Nat → List KV) (j : Nat) (l : List KV) {i : Nat} (h : i ≠ j) : updN N j l i = N i := if_neg h
/-- A bucket turned: its list grew (or was made anew), and its cell was stored. -/
theorem RowB.turn {w w1 : World} {o o1 : Nat → Nat × Nat} {x G n j : Nat} {B : Nat → List KV} {l : List KV} {v : Value} (h : RowB w o x G n B) (hj : j < n) (f : Fr (· = mB x n j) o o1 w w1) (ow : OwnK w1 o1 (mB x n j) 2 v l.length (kvc l)) :
    RowB (w1.setCell ⟨G, j, none⟩ v) o1 x G n (updN B j l) ∧ Fr (fun t => t = mB x n j ∨ t = mA x n) o o1 w (w1.setCell ⟨G, j, none⟩ v) := by
  have hn : 0 < n := by omega
  have h1 := h.lt hn
  have hne : ∀ i, mB x n i ≠ mA x n := fun i e => by unfold mB mA at e; injection e with _ e; omega
  have hG : ¬ (o G = mB x n j) := by rw [h.og]; exact fun e => hne j e.symm
  have oG : o1 G = mA x n := (f.lab G h1).trans h.og
  have fs : Fr (· = mA x n) o1 o1 w1 (w1.setCell ⟨G, j, none⟩ v) := Fr.set (a := ⟨G, j, none⟩) oG v
  refine ⟨⟨oG, fun i hi => ?_, fun i hi => ?_⟩, (f.mono (fun t e => .inl e)).trans (fs.mono (fun t e => .inr e))⟩
  · obtain ⟨u, hu, ho⟩ := h.bk i hi
    have hu1 := f.cell hu hG
    by_cases e : i = j
    · subst e
      rw [updN_same]
      exact ⟨v, World.cell?_setCell_same _ _ _ hu1, ow.fr fs (hne i)⟩
    · rw [updN_other _ _ _ e]
      refine ⟨u, ?_, (ho.fr f (fun e' => e ?_)).fr fs (hne i)⟩
      · rw [World.cell?_setCell_other _ _ _ _ (fun h => e (by injection h with _ h; exact h.symm))]; exact hu1
      · unfold mB at e'; injection e' with _ e'; omega
  · rw [World.frozen?_setCell]; exact (f.frozen h1 hG).trans (h.fz i hi)
/-- The state of the moving. -/
structure RMv (w : World) (o : Nat → Nat × Nat) (x : Nat) (a : A) (B : Bool → Nat → List KV) (G : Bool → Nat) (v0 : Value) (pre post : List KV) (N : Nat → List KV) : Prop where
  he : B false a.mv = pre ++ post
  ow : OwnK w o (mB x a.m a.mv) 2 v0 (B false a.mv).length (kvc (B false a.mv))
  ro : RowB w o x (G false) a.m (updN (B false) a.mv [])
  rn : RowB w o x (G true) a.n N
  mm : ∀ j, j < a.n → ∀ p, p ∈ N j ↔ p ∈ B true j ∨ (p ∈ pre ∧ hsn p.1 % a.n = j)
  nd : ∀ j, j < a.n → ((N j).map (·.1)).Nodup
theorem RMv.short {w : World} {o : Nat → Nat × Nat} {x : Nat} {a : A} {B : Bool → Nat → List KV} {G : Bool → Nat} {v0 : Value} {pre post : List KV} {N : Nat → List KV} (h : RMv w o x a B G v0 pre post N) (hb : Has a B) (hm : a.m ≠ 0) {K : List ByteArray} (hK : Dom a K) {j : Nat} (hj : j < a.n) : (N j).length ≤ 1000 := by
  have hmv : a.mv < a.m := by have := hb.ok.2.2; omega
  have := nodup_len ((N j).map (·.1)) K (h.nd j hj) (fun k hk => by
    obtain ⟨p, hp, rfl⟩ := List.mem_map.1 hk
    refine hK.2.1 p.1 p.2 ((hb.ff p.1 p.2).2 ?_)
    rcases (h.mm j hj p).1 hp with hp | ⟨hp, _⟩
    · exact ⟨true, j, hj, hp⟩
    · exact ⟨false, a.mv, hmv, by rw [h.he]; exact List.mem_append_left _ hp⟩)
  rw [List.length_map] at this
  exact Nat.le_trans this hK.1
/-- One entry more. -/
theorem RMv.add {w w1 : World} {o o1 : Nat → Nat × Nat} {x : Nat} {a : A} {B : Bool → Nat → List KV} {G : Bool → Nat} {v0 v : Value} {pre post : List KV} {N : Nat → List KV} {p : KV} (hb : Has a B) (hm : a.m ≠ 0) (h : RMv w o x a B G v0 pre (p :: post) N)
    (f : Fr (· = mB x a.n (hsn p.1 % a.n)) o o1 w w1) (ow : OwnK w1 o1 (mB x a.n (hsn p.1 % a.n)) 2 v (N (hsn p.1 % a.n) ++ [p]).length (kvc (N (hsn p.1 % a.n) ++ [p]))) :
    RMv (w1.setCell ⟨G true, hsn p.1 % a.n, none⟩ v) o1 x a B G v0 (pre ++ [p]) post (updN N (hsn p.1 % a.n) (N (hsn p.1 % a.n) ++ [p])) ∧ Fr (fun t => t.1 = x) o o1 w (w1.setCell ⟨G true, hsn p.1 % a.n, none⟩ v) := by
  have hok := hb.ok
  have hmv : a.mv < a.m := by have := hok.2.2; omega
  have h2m : 2 * a.m = a.n := by have := hok.2.2; omega
  have hn0 := hok.1
  have hj : hsn p.1 % a.n < a.n := Nat.mod_lt _ hn0
  have hnd := hb.nd false a.mv hmv
  rw [h.he] at hnd
  obtain ⟨n1, n2, _⟩ := nd_mid (k := p.1) (v := p.2) hnd
  have pold := hb.pl false a.mv hmv p (by rw [h.he]; simp)
  have hk : ∀ q ∈ N (hsn p.1 % a.n), q.1 ≠ p.1 := by
    intro q hq hqe
    rcases (h.mm _ hj q).1 hq with hq | ⟨hq, _⟩
    · have := (hb.pl true _ hj q hq).1
      rw [hqe, pold.1] at this
      cases this
    · exact n1 q hq hqe
  obtain ⟨r1, F1⟩ := h.rn.turn hj f ow
  have hneB : ∀ i, i < a.m → mB x a.m i ≠ mB x a.n (hsn p.1 % a.n) ∧ mB x a.m i ≠ mA x a.n := fun i hi => ⟨fun e => by unfold mB at e; injection e with _ e; omega, fun e => by unfold mB mA at e; injection e with _ e; omega⟩
  have hneA : mA x a.m ≠ mB x a.n (hsn p.1 % a.n) ∧ mA x a.m ≠ mA x a.n := ⟨fun e => by unfold mB mA at e; injection e with _ e; omega, fun e => by unfold mA at e; injection e with _ e; omega⟩
  refine ⟨⟨by rw [h.he]; simp, h.ow.fr F1 (fun e => e.elim (hneB _ hmv).1 (hneB _ hmv).2), h.ro.fr (by omega) F1 (fun e => e.elim hneA.1 hneA.2) (fun i hi e => e.elim (hneB i hi).1 (hneB i hi).2), r1, fun j hjn q => ?_, fun j hjn => ?_⟩, F1.mono (fun t e => by rcases e with rfl | rfl <;> rfl)⟩
  · by_cases ej : j = hsn p.1 % a.n
    · subst ej
      rw [updN_same, List.mem_append, h.mm _ hjn, List.mem_append, List.mem_singleton]
      constructor
      · rintro ((hq | ⟨hq, hh⟩) | rfl)
        · exact .inl hq
        · exact .inr ⟨.inl hq, hh⟩
        · exact .inr ⟨.inr rfl, rfl⟩
      · rintro (hq | ⟨hq | rfl, hh⟩)
        · exact .inl (.inl hq)
        · exact .inl (.inr ⟨hq, hh⟩)
        · exact .inr rfl
    · rw [updN_other _ _ _ ej, h.mm _ hjn, List.mem_append, List.mem_singleton]
      constructor
      · rintro (hq | ⟨hq, hh⟩)
        · exact .inl hq
        · exact .inr ⟨.inl hq, hh⟩
      · rintro (hq | ⟨hq | rfl, hh⟩)
        · exact .inl hq
        · exact .inr ⟨hq, hh⟩
        · exact absurd hh.symm ej
  · by_cases ej : j = hsn p.1 % a.n
    · subst ej
      rw [updN_same, List.map_append]
      refine List.nodup_append.2 ⟨h.nd _ hjn, by simp, fun y hy z hz => ?_⟩
      obtain ⟨q, hq, rfl⟩ := List.mem_map.1 hy
      simp at hz
      rw [hz]; exact hk q hq
    · rw [updN_other _ _ _ ej]; exact h.nd _ hjn
/-- The old bucket is empty. -/
theorem RMv.start {w : World} {o : Nat → Nat × Nat} {x C : Nat} {a : A} {B : Bool → Nat → List KV} {G : Bool → Nat} {v0 : Value} (h : IsR w o x C a B G) (hm : a.m ≠ 0) (ow : OwnK w o (mB x a.m a.mv) 2 v0 (B false a.mv).length (kvc (B false a.mv))) :
    RMv (w.setCell ⟨G false, a.mv, none⟩ (.slice none 0 0)) o x a B G v0 [] (B false a.mv) (B true) ∧ Fr (fun t => t.1 = x) o o w (w.setCell ⟨G false, a.mv, none⟩ (.slice none 0 0)) := by
  have hok := h.has.ok
  have hmv : a.mv < a.m := by have := hok.2.2; omega
  have h2m : 2 * a.m = a.n := by have := hok.2.2; omega
  have ro : RowB w o x (G false) a.m (B false) := h.row false (by show 0 < a.m; omega)
  have rn : RowB w o x (G true) a.n (B true) := h.row true hok.1
  obtain ⟨r1, F1⟩ := ro.turn (l := []) (v := .slice none 0 0) hmv (Fr.refl _ o w) (OwnK.nil _ _ _ _)
  have fs : Fr (· = mA x a.m) o o w (w.setCell ⟨G false, a.mv, none⟩ (.slice none 0 0)) := Fr.set (a := ⟨G false, a.mv, none⟩) ro.og _
  have hneB : ∀ i, mB x a.n i ≠ mA x a.m := fun i e => by unfold mB mA at e; injection e with _ e; omega
  have hneB' : ∀ i, mB x a.m i ≠ mA x a.m := fun i e => by unfold mB mA at e; injection e with _ e; omega
  have hneA : mA x a.n ≠ mA x a.m := fun e => by unfold mA at e; injection e with _ e; omega
  refine ⟨⟨rfl, ow.fr fs (hneB' _), r1, rn.fr hok.1 fs hneA (fun i _ => hneB i), fun j hj p => ?_, fun j hj => h.has.nd true j hj⟩, fs.mono (fun t e => by rw [e]; rfl)⟩
  constructor
  · intro hq; exact .inl hq
  · rintro (hq | ⟨hq, _⟩)
    · exact hq
    · cases hq
theorem RMv.fr {T : Nat × Nat → Prop} {w w' : World} {o o' : Nat → Nat × Nat} {x : Nat} {a : A} {B : Bool → Nat → List KV} {G : Bool → Nat} {v0 : Value} {pre post : List KV} {N : Nat → List KV} (h : RMv w o x a B G v0 pre post N) (hok : a.Ok) (hm : a.m ≠ 0) (f : Fr T o o' w w') (hA : ∀ n, ¬ T (mA x n)) (hB : ∀ n i, ¬ T (mB x n i)) : RMv w' o' x a B G v0 pre post N :=
  ⟨h.he, h.ow.fr f (hB _ _), h.ro.fr (by omega) f (hA _) (fun _ _ => hB _ _), h.rn.fr hok.1 f (hA _) (fun _ _ => hB _ _), h.mm, h.nd⟩
/-- All were moved. -/
theorem RMv.done {w : World} {o : Nat → Nat × Nat} {x : Nat} {a : A} {B : Bool → Nat → List KV} {G : Bool → Nat} {v0 : Value} {pre : List KV} {N : Nat → List KV} (hb : Has a B) (hm : a.m ≠ 0) (h : RMv w o x a B G v0 pre [] N) : Has a.step (fun r i => if r then N i else updN (B false) a.mv [] i) := by
  refine (hb.moved hm N (fun j hj p => ?_) h.nd).congr (fun r i _ => ?_)
  · rw [h.mm j hj, h.he, List.append_nil]
  · cases r with
    | true => rfl
    | false =>
      simp only [Bool.false_eq_true, if_false]
      unfold updN; rfl
/-- The reference's chain whose next old bucket was moved. -/
theorem RMv.isR {w : World} {o : Nat → Nat × Nat} {x C : Nat} {a : A} {B : Bool → Nat → List KV} {G : Bool → Nat} {v0 : Value} {pre : List KV} {N : Nat → List KV} (hb : Has a B) (hm : a.m ≠ 0) (h : RMv w o x a B G v0 pre [] N) (oC : o C = (x, 0))
    (c0 : w.cell? ⟨C, 0, none⟩ = some (.slice (some ⟨G true, 0, none⟩) a.n a.n)) (c1 : w.cell? ⟨C, 1, none⟩ = some (oldV a.step.m (G false))) (c2 : w.cell? ⟨C, 2, none⟩ = some (.int .i64 ((a.step.mv : Nat) : Int))) (c3 : w.cell? ⟨C, 3, none⟩ = some (.int .i64 a.keys)) (fz : ∀ j, w.frozen? ⟨C, j, none⟩ = false) : IsRef w o x C a.step := by
  refine ⟨fun r i => if r then N i else updN (B false) a.mv [] i, G, h.done hb hm, oC, by rw [a.step_n]; exact c0, c1, c2, by rw [a.step_keys]; exact c3, fz, fun r hr => ?_⟩
  cases r with
  | true =>
    have : a.step.cnt true = a.n := a.step_n
    rw [this]; exact h.rn
  | false =>
    have : a.step.cnt false = a.m := by
      have hr : 0 < a.step.m := hr
      show a.step.m = a.m
      unfold A.step at hr ⊢
      rw [if_neg hm] at hr ⊢
      split at hr
      · cases hr
      · rename_i e; rw [if_neg e]
    rw [this]; exact h.ro
end Go.Proofs.Ytaflabjeddckeaa
