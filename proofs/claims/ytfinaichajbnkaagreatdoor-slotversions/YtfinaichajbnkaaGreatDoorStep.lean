/-
  STEP of the program: what is in the next old bucket goes to the new ones.
-/
import Derived.Test.YtfinaichajbnkaaGreatDoorAdd
namespace Go.Proofs.YtfinaichajbnkaaGreatDoor
open Go.RowKit

/-- How many are still to be moved. -/
def remP : List Ent → Nat → Nat
  | [], _ => 0
  | e :: l, b => if b = e.b then l.length + 1 else remP l b
theorem remP_at : ∀ (pre : List Ent) (e : Ent) (post : List Ent), (∀ q ∈ pre, q.b ≠ e.b) → remP (pre ++ e :: post) e.b = post.length + 1
  | [], e, post, _ => by simp [remP]
  | q :: pre, e, post, h => by
    show (if _ then _ else remP (pre ++ e :: post) _) = _
    rw [if_neg (fun he => h q List.mem_cons_self he.symm)]
    exact remP_at pre e post (fun q hq => h q (List.mem_cons_of_mem _ hq))
def remW (L : List Ent) : Value → Nat
  | .pointer (some p) => remP L p.block
  | _ => 0
/-- The state of the moving. -/
structure Mvs (w : World) (o : Nat → Nat × Nat) (x : Nat) (a : A) (E : Bool → Nat → List Ent) (G : Bool → Nat) (pre post : List Ent) (N : Nat → List Ent) : Prop where
  he : E false a.mv = pre ++ post
  ch : Chn w o x post
  ro : RowR w o x (G false) a.m (updE (E false) a.mv [])
  rn : RowR w o x (G true) a.n N
  mm : ∀ j, j < a.n → ∀ q, q ∈ N j ↔ q ∈ E true j ∨ (q ∈ pre ∧ hsn q.k % a.n = j)
  nd : ∀ j, j < a.n → (((N j).map Ent.kv).map (·.1)).Nodup
/-- One entry more. -/
theorem Mvs.add {w w0 : World} {o : Nat → Nat × Nat} {x C : Nat} {a : A} {E : Bool → Nat → List Ent} {G : Bool → Nat} {pre post : List Ent} {N : Nat → List Ent} {e : Ent} (hC : IsC w0 o x C a E G) (hm : a.m ≠ 0) (h : Mvs w o x a E G pre (e :: post) N) :
    (∀ j, j < a.n → ∀ q ∈ N j, q.k ≠ e.k) ∧ Mvs ((w.setCell ⟨e.b, 2, none⟩ (hd (N (hsn e.k % a.n)))).setCell ⟨G true, hsn e.k % a.n, none⟩ (.pointer (some ⟨e.b, 0, none⟩))) o x a E G (pre ++ [e]) post (updE N (hsn e.k % a.n) (e :: N (hsn e.k % a.n))) := by
  have hok := hC.has.ok
  have hmv : a.mv < a.m := by have := hok.2.2; omega
  have hn0 := hok.1
  have hj : hsn e.k % a.n < a.n := Nat.mod_lt _ hn0
  have he := h.ch.1
  have hnd := hC.has.nd false a.mv hmv
  have hpl := hC.has.pl false
  have hpt := hC.has.pl true
  have hL : (((pre ++ e :: post).map Ent.kv).map (·.1)).Nodup := by
    have := hnd
    simp only [h.he] at this
    exact this
  have hL' := hL
  rw [List.map_append, List.map_cons] at hL'
  obtain ⟨n1, n2, _⟩ := nd_mid (k := e.k) (v := e.v) hL'
  have eold : a.row e.k = false ∧ hsn e.k % a.m = a.mv := hpl a.mv hmv e.kv (List.mem_map_of_mem (by rw [h.he]; simp))
  have hk : ∀ j, j < a.n → ∀ q ∈ N j, q.k ≠ e.k := by
    intro j hj q hq hqe
    rcases (h.mm j hj q).1 hq with hq | ⟨hq, _⟩
    · have := (hpt j hj q.kv (List.mem_map_of_mem hq)).1
      rw [show q.kv.1 = e.k from hqe, eold.1] at this
      cases this
    · exact n1 q.kv (List.mem_map_of_mem hq) hqe
  refine ⟨hk, ?_⟩
  have hne := he.ne h.rn
  have hneo := he.ne h.ro
  have apart : ∀ q ∈ post, q.b ≠ e.b := fun q hq hb => by
    obtain ⟨_, hq'⟩ := h.ch.2.mem hq
    exact n2 q.kv (List.mem_map_of_mem hq) (hq'.key he hb)
  refine ⟨by rw [h.he]; simp, ?_, ?_, h.rn.add hj he hk, fun j hjn q => ?_, fun j hjn => ?_⟩
  · exact h.ch.2.cg (fun q hq => by obtain ⟨_, hq'⟩ := h.ch.2.mem hq; exact heap_set2 _ _ _ _ _ (apart q hq) (hq'.ne h.rn)) (fun _ _ => rfl)
  · refine h.ro.cg (heap_set2 _ _ _ _ _ (fun hb => hneo hb.symm) (hC.gne hm)) rfl (fun i hi q hq => ⟨?_, rfl⟩)
    obtain ⟨_, hq'⟩ := (h.ro.ch i hi).mem hq
    refine heap_set2 _ _ _ _ _ (fun hb => ?_) (hq'.ne h.rn)
    by_cases ei : i = a.mv
    · rw [ei, updE_same] at hq; cases hq
    · rw [updE_other _ _ _ ei] at hq
      have := (hpl i hi q.kv (List.mem_map_of_mem hq)).2
      have e2 : hsn q.k % a.m = i := this
      rw [hq'.key he hb, eold.2] at e2
      exact ei e2.symm
  · by_cases ej : j = hsn e.k % a.n
    · subst ej
      rw [updE_same, List.mem_cons, h.mm _ hjn, List.mem_append, List.mem_singleton]
      constructor
      · rintro (rfl | hq | ⟨hq, hh⟩)
        · exact .inr ⟨.inr rfl, rfl⟩
        · exact .inl hq
        · exact .inr ⟨.inl hq, hh⟩
      · rintro (hq | ⟨hq | rfl, hh⟩)
        · exact .inr (.inl hq)
        · exact .inr (.inr ⟨hq, hh⟩)
        · exact .inl rfl
    · rw [updE_other _ _ _ ej, h.mm _ hjn, List.mem_append, List.mem_singleton]
      constructor
      · rintro (hq | ⟨hq, hh⟩)
        · exact .inl hq
        · exact .inr ⟨.inl hq, hh⟩
      · rintro (hq | ⟨hq | rfl, hh⟩)
        · exact .inl hq
        · exact .inr ⟨hq, hh⟩
        · exact absurd hh.symm ej
  · by_cases ej : j = hsn e.k % a.n
    · subst ej
      rw [updE_same, List.map_cons, List.map_cons, List.nodup_cons]
      refine ⟨fun hm => ?_, h.nd _ hjn⟩
      obtain ⟨p, hp, hpe⟩ := List.mem_map.1 hm
      obtain ⟨q, hq, rfl⟩ := List.mem_map.1 hp
      exact hk _ hjn q hq hpe
    · rw [updE_other _ _ _ ej]; exact h.nd _ hjn
/-- All were moved. -/
theorem Mvs.done {w0 w : World} {o : Nat → Nat × Nat} {x C : Nat} {a : A} {E : Bool → Nat → List Ent} {G : Bool → Nat} {pre : List Ent} {N : Nat → List Ent} (hC : IsC w0 o x C a E G) (hm : a.m ≠ 0) (h : Mvs w o x a E G pre [] N) :
    Has a.step (fun r i => ((if r then N i else updE (E false) a.mv [] i).map Ent.kv)) := by
  refine (hC.has.moved hm (fun j => (N j).map Ent.kv) (fun j hj p => ?_) h.nd).congr (fun r i _ => ?_)
  · have hp := h.he
    rw [List.append_nil] at hp
    constructor
    · intro hpm
      obtain ⟨q, hq, rfl⟩ := List.mem_map.1 hpm
      rcases (h.mm j hj q).1 hq with hq | ⟨hq, hh⟩
      · exact .inl (List.mem_map_of_mem hq)
      · exact .inr ⟨List.mem_map_of_mem (by rw [hp]; exact hq), hh⟩
    · rintro (hpm | ⟨hpm, hh⟩)
      · obtain ⟨q, hq, rfl⟩ := List.mem_map.1 hpm
        exact List.mem_map_of_mem ((h.mm j hj q).2 (.inl hq))
      · obtain ⟨q, hq, rfl⟩ := List.mem_map.1 hpm
        exact List.mem_map_of_mem ((h.mm j hj q).2 (.inr ⟨by rw [← hp]; exact hq, hh⟩))
  · cases r with
    | true => rfl
    | false =>
      simp only [Bool.false_eq_true, if_false]
      by_cases e : i = a.mv
      · rw [if_pos e, e, updE_same]; rfl
      · rw [if_neg e, updE_other _ _ _ e]
theorem heap_drewN (w : World) (k : Nat) : (w.drewN k).heap = w.heap := rfl
theorem Mvs.start {w : World} {o : Nat → Nat × Nat} {x C d : Nat} {a : A} {E : Bool → Nat → List Ent} {G : Bool → Nat} (h : IsC w o x C a E G) (hm : a.m ≠ 0) : Mvs ((w.drewN d).setCell ⟨G false, a.mv, none⟩ (.pointer none)) o x a E G [] (E false a.mv) (E true) := by
  have hok := h.has.ok
  have hmv : a.mv < a.m := by have := hok.2.2; omega
  have ro := h.row false (by show 0 < a.m; omega)
  have rn := h.row true hok.1
  have hb : ∀ {b : Nat}, b ≠ G false → ((w.drewN d).setCell ⟨G false, a.mv, none⟩ (.pointer none)).heap[b]? = w.heap[b]? := fun hb => (blk_set (w.drewN d) ⟨G false, a.mv, none⟩ _ hb).trans rfl
  have eb : ∀ {l : List Ent}, Chn w o x l → Chn ((w.drewN d).setCell ⟨G false, a.mv, none⟩ (.pointer none)) o x l := fun hl => hl.cg (fun q hq => by obtain ⟨_, hq'⟩ := hl.mem hq; exact hb (hq'.ne ro)) (fun _ _ => rfl)
  refine ⟨rfl, eb (ro.ch a.mv hmv), ⟨ro.og, fun i hi => ?_, fun i hi => ?_, fun i hi => ?_⟩, rn.cg (hb (fun e => h.gne hm e.symm)) rfl (fun i hi q hq => ⟨?_, rfl⟩), fun j hj q => ?_, fun j hj => h.has.nd true j hj⟩
  · by_cases ei : i = a.mv
    · subst ei; rw [updE_same]; exact World.cell?_setCell_same _ _ _ (ro.cl a.mv hmv)
    · rw [updE_other _ _ _ ei, World.cell?_setCell_other _ _ _ _ (fun h => ei (by injection h with _ h; exact h.symm))]; exact ro.cl i hi
  · rw [World.frozen?_setCell]; exact ro.fz i hi
  · by_cases ei : i = a.mv
    · subst ei; rw [updE_same]; trivial
    · rw [updE_other _ _ _ ei]; exact eb (ro.ch i hi)
  · obtain ⟨_, hq'⟩ := (rn.ch i hi).mem hq; exact hb (hq'.ne ro)
  · constructor
    · intro hq; exact .inl hq
    · rintro (hq | ⟨hq, _⟩)
      · exact hq
      · cases hq
/-- A chain whose next old bucket was moved. -/
theorem Mvs.isC {w0 w w' : World} {o : Nat → Nat × Nat} {x C : Nat} {a : A} {E : Bool → Nat → List Ent} {G : Bool → Nat} {pre : List Ent} {N : Nat → List Ent} (hC : IsC w0 o x C a E G) (hm : a.m ≠ 0) (h : Mvs w o x a E G pre [] N) (hb : ∀ b, b ≠ C → w'.heap[b]? = w.heap[b]?)
    (c0 : w'.cell? ⟨C, 0, none⟩ = some (oldV a.step.m (G false))) (c1 : w'.cell? ⟨C, 1, none⟩ = some (.int .i64 ((a.step.mv : Nat) : Int))) (c2 : w'.cell? ⟨C, 2, none⟩ = w0.cell? ⟨C, 2, none⟩) (c3 : w'.cell? ⟨C, 3, none⟩ = w0.cell? ⟨C, 3, none⟩) (c4 : w'.cell? ⟨C, 4, none⟩ = w0.cell? ⟨C, 4, none⟩) (fz : ∀ j, w'.frozen? ⟨C, j, none⟩ = false) : IsChain w' o x C a.step := by
  have hok := hC.has.ok
  have hgC : ∀ r, 0 < a.cnt r → G r ≠ C := fun r hr e => by have h1 := (hC.row r hr).og; rw [e, hC.oC] at h1; injection h1 with _ h1; cases h1
  have heC : ∀ {l : List Ent}, Chn w o x l → ∀ q ∈ l, q.b ≠ C := fun hl q hq e => by obtain ⟨_, hq'⟩ := hl.mem hq; have h1 := hq'.ob; rw [e, hC.oC] at h1; injection h1 with _ h1; cases h1
  refine ⟨fun r i => if r then N i else updE (E false) a.mv [] i, G, h.done hC hm, hC.oC, c0, c1, ?_, c3.trans hC.c3, ?_, fz, fun r hr => ?_, fun _ => hC.gne hm⟩
  · rw [c2, hC.c2, a.step_n]
  · rw [c4, hC.c4, a.step_keys]
  · cases r with
    | true =>
      have : a.step.cnt true = a.n := a.step_n
      rw [this]
      exact h.rn.cg (hb _ (hgC true hok.1)) rfl (fun i hi q hq => ⟨hb _ (heC (h.rn.ch i hi) q hq), rfl⟩)
    | false =>
      have : a.step.cnt false = a.m := by
        have hr : 0 < a.step.m := hr
        show a.step.m = a.m
        unfold A.step at hr ⊢
        rw [if_neg hm] at hr ⊢
        split at hr
        · cases hr
        · rename_i e; rw [if_neg e]
      rw [this]
      exact h.ro.cg (hb _ (hgC false (Nat.pos_of_ne_zero hm))) rfl (fun i hi q hq => ⟨hb _ (heC (h.ro.ch i hi) q hq), rfl⟩)
theorem Mvs.rem {w0 w : World} {o : Nat → Nat × Nat} {x C : Nat} {a : A} {E : Bool → Nat → List Ent} {G : Bool → Nat} {pre post : List Ent} {N : Nat → List Ent} (hC : IsC w0 o x C a E G) (hm : a.m ≠ 0) (h : Mvs w o x a E G pre post N) : remW (E false a.mv) (hd post) = post.length := by
  have hok := hC.has.ok
  have hmv : a.mv < a.m := by have := hok.2.2; omega
  cases post with
  | nil => rfl
  | cons e t =>
    show remP _ e.b = _
    have hnd := hC.has.nd false a.mv hmv
    simp only [h.he, List.map_append, List.map_cons] at hnd
    have hnd : (List.map (fun x => x.fst) (List.map Ent.kv pre ++ (e.k, e.v) :: List.map Ent.kv t)).Nodup := by
      rw [List.map_append, List.map_cons]; exact hnd
    obtain ⟨n1, n2, _⟩ := nd_mid hnd
    rw [h.he, remP_at pre e t (fun q hq hb => ?_)]
    · rfl
    · have hj := Nat.mod_lt (hsn q.k) hok.1
      have hq2 := (h.mm _ hj q).2 (.inr ⟨hq, rfl⟩)
      obtain ⟨_, hq'⟩ := (h.rn.ch _ hj).mem hq2
      exact n1 q.kv (List.mem_map_of_mem hq) (hq'.key h.ch.1 hb)
theorem Mvs.drew {w : World} {o : Nat → Nat × Nat} {x : Nat} {a : A} {E : Bool → Nat → List Ent} {G : Bool → Nat} {pre post : List Ent} {N : Nat → List Ent} (h : Mvs w o x a E G pre post N) (d : Nat) : Mvs (w.drewN d) o x a E G pre post N :=
  ⟨h.he, h.ch.cg (fun _ _ => rfl) (fun _ _ => rfl), h.ro.cg rfl rfl (fun _ _ _ _ => ⟨rfl, rfl⟩), h.rn.cg rfl rfl (fun _ _ _ _ => ⟨rfl, rfl⟩), h.mm, h.nd⟩
set_option maxRecDepth 100000 in
set_option maxHeartbeats 2000000 in
theorem step_any (x C : Nat) (a : A) (w : World) (o : Nat → Nat × Nat) (h : IsChain w o x C a) :
    Calls Tryz.prog 107 #[.pointer (some ⟨C, 0, none⟩)] w fun e w' => e = .returned (.tuple #[]) ∧ IsChain w' o x C a.step ∧ Fr (fun t => t.1 = x) o o w w' := by
  obtain ⟨E, G, h⟩ := h
  have c0 := h.c0
  have c1 := h.c1
  have HC : Hid (IsC w o x C a E G) := h
  by_cases hm : a.m = 0
  · rw [hm] at c0
    replace c0 : w.cell? ⟨C, 0, none⟩ = some (.slice none 0 0) := c0
    have es : a.step = a := by unfold A.step; rw [if_pos hm]
    rw [es]
    clear h es hm
    go_enter Tryz.func107, Tryz.ntmps107
    go_wp2_with fail
    exact bodyPost_ret (v := .tuple #[]) (by simp [results, Tryz.results107, go_sem]) rfl ⟨rfl, ⟨E, G, HC.out⟩, Fr.refl _ _ _⟩
  · rw [oldV_pos hm] at c0
    have hok := h.has.ok
    have hm2 : a.m ≤ 8192 := by have := hok.2.1; have := hok.2.2; omega
    have hmv : a.mv < a.m := by have := hok.2.2; omega
    have hn0 := hok.1
    have hn2 := hok.2.1
    have e0 : ((a.m : Int) == 0) = false := by simp; omega
    have ji : (a.mv : Int) < (a.m : Int) := by omega
    have ro := h.row false (by show 0 < a.m; omega)
    have g1 : w.cell? ⟨G false, a.mv, none⟩ = _ := ro.cl a.mv hmv
    have g2 : w.frozen? ⟨G false, a.mv, none⟩ = _ := ro.fz a.mv hmv
    have HM : Hid (a.m ≠ 0) := hm
    have hGC : G false ≠ C := fun e => by have h1 := ro.og; rw [e, h.oC] at h1; injection h1 with _ h1; cases h1
    have oG : Hid (o (G false) = (x, 1)) := ro.og
    have oGn : Hid (o (G true) = (x, 1)) := (h.row true hn0).og
    have hGnC : Hid (G true ≠ C) := fun e => by have h1 := oGn.out; rw [e, h.oC] at h1; injection h1 with _ h1; cases h1
    rw [hd_eq] at g1
    clear h ro hok hm
    go_enter Tryz.func107, Tryz.ntmps107
    go_wp2_with fail
    go_quiet (fail)
    go_wp2_with fail
    go_region
    all_goals go_wp2_with fail
    obtain ⟨W1, hW1⟩ : ∃ W1, W1 = (w.drewN (nq + 1)).setCell ⟨G false, a.mv, none⟩ (.pointer none) := ⟨_, rfl⟩
    have M1 : Hid (Mvs W1 o x a E G [] (E false a.mv) (E true)) := by rw [hW1]; exact Mvs.start HC.out HM.out
    have F1 : Hid (Fr (fun t => t.1 = x) o o w W1) := by
      rw [hW1]
      exact (Fr.drewN _ o w (nq + 1)).trans (Fr.set (a := ⟨G false, a.mv, none⟩) (by show (o (G false)).1 = x; rw [oG.out]) _)
    have C1 : Hid (W1.heap[C]? = w.heap[C]?) := by
      show _ = _
      rw [hW1]; exact (blk_set (w.drewN (nq + 1)) ⟨G false, a.mv, none⟩ _ (fun e => hGC e.symm)).trans rfl
    rw [← hW1, ← hd_eq]
    clear hW1 g1 g2 c0 c1
    go_loopw [2] (fun v wr => ∃ pre post N, v = hd post ∧ Hid (Mvs wr o x a E G pre post N) ∧ Hid (Fr (fun t => t.1 = x) o o w wr) ∧ Hid (wr.heap[C]? = w.heap[C]?)) (fun v _ => remW (E false a.mv) v)
    case atStart => exact ⟨[], E false a.mv, E true, rfl, M1, F1, C1⟩
    case round =>
      clear M1 F1 C1
      obtain ⟨pre, post, N, rfl, HMv, HF, HCc⟩ := hrel
      cases post with
      | nil =>
        have c0 : wr.cell? ⟨C, 0, none⟩ = some (.slice (some ⟨G false, 0, none⟩) a.m a.m) := by
          rw [World.cell?_of_block (a := ⟨C, 0, none⟩) HCc.out, HC.out.c0, oldV_pos HM.out]
        have c1 := (World.cell?_of_block (a := ⟨C, 1, none⟩) HCc.out).trans HC.out.c1
        have z0 := (World.frozen?_of_block (a := ⟨C, 0, none⟩) HCc.out).trans (HC.out.fz 0)
        have z1 := (World.frozen?_of_block (a := ⟨C, 1, none⟩) HCc.out).trans (HC.out.fz 1)
        rw [show hd [] = .pointer none from rfl]
        go_wp2_with fail
        obtain ⟨W, hW⟩ : ∃ W, W = wr.setCell ⟨C, 1, none⟩ (.int .i64 ((a.mv : Int) + 1)) := ⟨_, rfl⟩
        have d0 : W.cell? ⟨C, 0, none⟩ = some (.slice (some ⟨G false, 0, none⟩) a.m a.m) := by rw [hW, World.cell?_setCell_other _ _ _ _ (fun e => by injection e with _ e; cases e)]; exact c0
        have d1 : W.cell? ⟨C, 1, none⟩ = some (.int .i64 ((a.mv : Int) + 1)) := by rw [hW]; exact World.cell?_setCell_same _ _ _ c1
        have y0 : W.frozen? ⟨C, 0, none⟩ = false := by rw [hW, World.frozen?_setCell]; exact z0
        have y1 : W.frozen? ⟨C, 1, none⟩ = false := by rw [hW, World.frozen?_setCell]; exact z1
        have HD : Hid (∀ j, j ≠ 1 → W.cell? ⟨C, j, none⟩ = w.cell? ⟨C, j, none⟩) := fun j hj => by
          rw [hW, World.cell?_setCell_other _ _ _ _ (fun e => hj (by injection e with _ e; exact e.symm))]; exact World.cell?_of_block (a := ⟨C, j, none⟩) HCc.out
        have HY : Hid (∀ j, W.frozen? ⟨C, j, none⟩ = false) := fun j => by
          rw [hW, World.frozen?_setCell, World.frozen?_of_block (a := ⟨C, j, none⟩) HCc.out]; exact HC.out.fz j
        have HBk : Hid (∀ b, b ≠ C → W.heap[b]? = wr.heap[b]?) := fun b hb => by rw [hW]; exact blk_set _ _ _ hb
        have HFW : Hid (Fr (fun t => t.1 = x) o o w W) := by rw [hW]; exact HF.out.trans (Fr.set (a := ⟨C, 1, none⟩) (by show (o C).1 = x; rw [HC.out.oC]) _)
        rw [← hW]
        clear hW c0 c1 z0 z1 HF HCc
        by_cases hlast : a.mv + 1 = a.m
        · have l1 : ((a.mv : Int) + 1 == (a.m : Int)) = true := by simp; omega
          have HL : Hid (a.mv + 1 = a.m) := hlast
          clear hlast
          go_quiet (fail)
          go_wp2_with fail
          have es : a.step = { a with m := 0, mv := 0 } := by unfold A.step; rw [if_neg HM.out, if_pos HL.out]
          have dd : ∀ j, j ≠ 0 → j ≠ 1 → (((W.drewN nq).setCell ⟨C, 0, none⟩ (.slice none 0 0)).setCell ⟨C, 1, none⟩ (.int .i64 0)).cell? ⟨C, j, none⟩ = w.cell? ⟨C, j, none⟩ := fun j h0 h1 => by
            rw [World.cell?_setCell_other _ _ _ _ (fun e => h1 (by injection e with _ e; exact e.symm)), World.cell?_setCell_other _ _ _ _ (fun e => h0 (by injection e with _ e; exact e.symm))]
            exact HD.out j h1
          have s0 : ((W.drewN nq).setCell ⟨C, 0, none⟩ (.slice none 0 0)).cell? ⟨C, 0, none⟩ = some (.slice none 0 0) := World.cell?_setCell_same _ _ _ d0
          have s1 : ((W.drewN nq).setCell ⟨C, 0, none⟩ (.slice none 0 0)).cell? ⟨C, 1, none⟩ = some (.int .i64 ((a.mv : Int) + 1)) := (World.cell?_setCell_other _ _ _ _ (fun e => by injection e with _ e; cases e)).trans d1
          refine bodyPost_end (v := .tuple #[]) (by simp [results, Tryz.results107, go_sem]) rfl ⟨rfl, HMv.out.isC HC.out HM.out (fun b hb => (heap_set2 (W.drewN nq) _ _ _ _ hb hb).trans (HBk.out b hb)) ?_ ?_ (dd 2 (by decide) (by decide)) (dd 3 (by decide) (by decide)) (dd 4 (by decide) (by decide)) (fun j => ?_), ?_⟩
          · rw [es, World.cell?_setCell_other _ _ _ _ (fun e => by injection e with _ e; cases e)]; exact s0
          · rw [es]; exact World.cell?_setCell_same _ _ _ s1
          · rw [World.frozen?_setCell, World.frozen?_setCell]; exact HY.out j
          · have oC1 : (o C).1 = x := by rw [HC.out.oC]
            exact ((HFW.out.trans (Fr.drewN _ o W nq)).trans (Fr.set (a := ⟨C, 0, none⟩) oC1 _)).trans (Fr.set (a := ⟨C, 1, none⟩) oC1 _)
        · have l1 : ((a.mv : Int) + 1 == (a.m : Int)) = false := by simp; omega
          have HL : Hid (a.mv + 1 ≠ a.m) := hlast
          clear hlast
          go_quiet (fail)
          go_wp2_with fail
          have es : a.step = { a with mv := a.mv + 1 } := by unfold A.step; rw [if_neg HM.out, if_neg HL.out]
          refine bodyPost_end (v := .tuple #[]) (by simp [results, Tryz.results107, go_sem]) rfl ⟨rfl, HMv.out.isC (w' := W.drewN _) HC.out HM.out HBk.out ?_ ?_ (HD.out 2 (by decide)) (HD.out 3 (by decide)) (HD.out 4 (by decide)) HY.out, HFW.out.trans (Fr.drewN _ o W _)⟩
          · rw [es]; exact d0.trans (by rw [oldV_pos HM.out])
          · rw [es]; exact d1
      | cons e post =>
        have he := HMv.out.ch.1
        have e2 := he.c2
        have c2 := (World.cell?_of_block (a := ⟨C, 2, none⟩) HCc.out).trans HC.out.c2
        have c3 := (World.cell?_of_block (a := ⟨C, 3, none⟩) HCc.out).trans HC.out.c3
        have HE : Hid (EntF wr o x e (hd post)) := he
        have heC : Hid (e.b ≠ C) := fun hb => by have h1 := HE.out.ob; rw [hb, HC.out.oC] at h1; injection h1 with _ h1; cases h1
        rw [hd_eq] at e2
        rw [show hd (e :: post) = .pointer (some ⟨e.b, 0, none⟩) from rfl]
        clear he
        go_wp2_with fail
        refine (add_any x C (G true) a.n N e (hd post) hn0 hn2 wr o c2 c3 HC.out.oC HE.out HMv.out.rn).mono ?_
        rintro e' w2 ⟨rfl, d, rfl⟩
        have MD : Mvs (wr.drewN d) o x a E G pre (e :: post) N := HMv.out.drew d
        obtain ⟨hk, M2⟩ := MD.add HC.out HM.out
        have R2 := M2.rem HC.out HM.out
        have R1 := MD.rem HC.out HM.out
        obtain ⟨j, hj⟩ : ∃ j, j = hsn e.k % a.n := ⟨_, rfl⟩
        rw [← hj] at M2 ⊢
        obtain ⟨W, hW⟩ : ∃ W, W = ((wr.drewN d).setCell ⟨e.b, 2, none⟩ (hd (N j))).setCell ⟨G true, j, none⟩ (.pointer (some ⟨e.b, 0, none⟩)) := ⟨_, rfl⟩
        have HFW : Hid (Fr (fun t => t.1 = x) o o w W) := by
          rw [hW]
          exact ((HF.out.trans (Fr.drewN _ o wr d)).trans (Fr.set (a := ⟨e.b, 2, none⟩) (by show (o e.b).1 = x; rw [HE.out.ob]) _)).trans (Fr.set (a := ⟨G true, j, none⟩) (by show (o (G true)).1 = x; rw [oGn.out]) _)
        have HCW : Hid (W.heap[C]? = w.heap[C]?) := by
          show _ = _
          rw [hW]; exact (heap_set2 (wr.drewN d) _ _ _ _ (fun e => heC.out e.symm) (fun e => hGnC.out e.symm)).trans HCc.out
        rw [← hW] at M2 ⊢
        have HM2 : Hid (Mvs W o x a E G (pre ++ [e]) post (updE N j (e :: N j))) := M2
        have HR : Hid (remW (E false a.mv) (hd post) < remW (E false a.mv) (hd (e :: post))) := by
          show _ < _
          rw [R1, R2]; simp
        clear hW M2 R1 R2 hk hj MD HMv HF HCc HE e2 c2 c3
        rw [← hd_eq]
        go_wp2_with fail
        exact ⟨⟨pre ++ [e], post, _, rfl, HM2, HFW, HCW⟩, HR.out⟩
end Go.Proofs.YtfinaichajbnkaaGreatDoor
