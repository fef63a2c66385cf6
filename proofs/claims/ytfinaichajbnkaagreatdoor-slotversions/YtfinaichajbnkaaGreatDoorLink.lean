/-
  GROW of the program: twice as many buckets.
-/
import Derived.Test.YtfinaichajbnkaaGreatDoorStep
namespace Go.Proofs.YtfinaichajbnkaaGreatDoor
open Go.RowKit

set_option maxRecDepth 100000 in
set_option maxHeartbeats 2000000 in
theorem cgrow_any (x C : Nat) (a : A) (w : World) (o : Nat → Nat × Nat) (h : IsChain w o x C a) :
    Calls Tryz.prog 108 #[.pointer (some ⟨C, 0, none⟩)] w fun e w' => e = .returned (.tuple #[]) ∧ ∃ o', IsChain w' o' x C a.grow ∧ Fr (fun t => t.1 = x) o o' w w' := by
  obtain ⟨E, G, h⟩ := h
  have c0 := h.c0
  have c1 := h.c1
  have c2 := h.c2
  have c3 := h.c3
  have c4 := h.c4
  have hok := h.has.ok
  have hn0 := hok.1
  have hn2 := hok.2.1
  have hm2 : a.m ≤ 8192 := by have := hok.2.2; omega
  obtain ⟨s, hs⟩ := oldV_form a.m (G false)
  have HS : Hid (oldV a.m (G false) = .slice s a.m a.m) := hs
  rw [hs] at c0
  have HC : Hid (IsC w o x C a E G) := h
  have z0 := h.fz 0
  have z1 := h.fz 1
  have z2 := h.fz 2
  have z3 := h.fz 3
  by_cases hg : a.m = 0 ∧ 2 * (a.n : Int) < a.keys ∧ a.n < 4096
  · have eg : a.grow = { a with n := 2 * a.n, m := a.n, mv := 0 } := by unfold A.grow; rw [if_pos hg]
    obtain ⟨g1, g2, g3⟩ := hg
    have HG1 : Hid (a.m = 0) := g1
    have HG3 : Hid (a.n < 4096) := g3
    have j1 : decide (0 < a.m) = false := by simp; omega
    have j2 : decide (a.keys ≤ 2 * (a.n : Int)) = false := by simp; omega
    have j3 : decide (4096 ≤ (a.n : Int)) = false := by simp; omega
    have HEG : Hid (a.grow = { a with n := 2 * a.n, m := a.n, mv := 0 }) := eg
    clear h hs eg g1 hok
    go_enter Tryz.func108, Tryz.ntmps108
    go_wp2_with fail
    obtain ⟨W, hW⟩ : ∃ W, W = (w.setCell ⟨C, 0, none⟩ (.slice (some ⟨G true, 0, none⟩) a.n a.n)).setCell ⟨C, 1, none⟩ (.int .i64 0) := ⟨_, rfl⟩
    have HCs : Hid (C < w.heap.size) := World.block_lt_of_cell? _ _ c1
    have hsz : W.heap.size = w.heap.size := by rw [hW]; simp [World.setCell]
    obtain ⟨ob, hrun, hcl, hfz⟩ := make_row W (2 * a.n) (2 * (a.n : Int)) (by omega) (by omega)
    have W0 : W.cell? ⟨C, 0, none⟩ = some (.slice (some ⟨G true, 0, none⟩) a.n a.n) := by
      rw [hW, World.cell?_setCell_other _ _ _ _ (fun e => by injection e with _ e; cases e)]; exact World.cell?_setCell_same _ _ _ c0
    have W1 : W.cell? ⟨C, 1, none⟩ = some (.int .i64 0) := by
      rw [hW]
      exact World.cell?_setCell_same _ _ _ ((World.cell?_setCell_other _ _ _ _ (fun e => by injection e with _ e; cases e)).trans c1)
    have WO : ∀ j, j ≠ 0 → j ≠ 1 → W.cell? ⟨C, j, none⟩ = w.cell? ⟨C, j, none⟩ := fun j h0 h1 => by
      rw [hW, World.cell?_setCell_other _ _ _ _ (fun e => h1 (by injection e with _ e; exact e.symm)), World.cell?_setCell_other _ _ _ _ (fun e => h0 (by injection e with _ e; exact e.symm))]
    have WZ : ∀ j, W.frozen? ⟨C, j, none⟩ = false := fun j => by rw [hW, World.frozen?_setCell, World.frozen?_setCell]; exact HC.out.fz j
    have oC1 : (o C).1 = x := by rw [HC.out.oC]
    have FW : Fr (fun t => t.1 = x) o o w W := by rw [hW]; exact (Fr.set (a := ⟨C, 0, none⟩) oC1 _).trans (Fr.set (a := ⟨C, 1, none⟩) oC1 _)
    have WB : ∀ b, b ≠ C → W.heap[b]? = w.heap[b]? := fun b hb => by rw [hW]; exact heap_set2 _ _ _ _ _ hb hb
    rw [← hW, hrun]
    clear hrun hW
    rw [hsz] at hcl hfz ⊢
    obtain ⟨W2, hW2⟩ : ∃ W2, W2 = W.alloc ob := ⟨_, rfl⟩
    have up : ∀ b, b < w.heap.size → W2.heap[b]? = W.heap[b]? := fun b hb => by rw [hW2]; exact Below.heap_alloc _ _ _ (by rw [hsz]; exact hb)
    have V : ∀ j, W2.cell? ⟨C, j, none⟩ = W.cell? ⟨C, j, none⟩ := fun j => World.cell?_of_block (a := ⟨C, j, none⟩) (up C HCs.out)
    have VZ : Hid (∀ j, W2.frozen? ⟨C, j, none⟩ = false) := fun j => (World.frozen?_of_block (a := ⟨C, j, none⟩) (up C HCs.out)).trans (WZ j)
    have V0 : Hid (W2.cell? ⟨C, 0, none⟩ = some (.slice (some ⟨G true, 0, none⟩) a.n a.n)) := (V 0).trans W0
    have V1 : Hid (W2.cell? ⟨C, 1, none⟩ = some (.int .i64 0)) := (V 1).trans W1
    have V2 : W2.cell? ⟨C, 2, none⟩ = some (.slice (some ⟨G true, 0, none⟩) a.n a.n) := (V 2).trans ((WO 2 (by decide) (by decide)).trans c2)
    have V3 : W2.cell? ⟨C, 3, none⟩ = some (.int .i64 0) := (V 3).trans ((WO 3 (by decide) (by decide)).trans c3)
    have V4 : Hid (W2.cell? ⟨C, 4, none⟩ = some (.int .i64 a.keys)) := (V 4).trans ((WO 4 (by decide) (by decide)).trans c4)
    have y2 := VZ.out 2
    have y3 := VZ.out 3
    have FW2 : Hid (Fr (fun t => t.1 = x) o (lab o w.heap.size (x, 1)) w W2) := by
      have f := Fr.new (fun t => t.1 = x) o W ob (x, 1)
      rw [hsz, ← hW2] at f
      exact FW.trans f
    have VB : Hid (∀ b, b < w.heap.size → b ≠ C → W2.heap[b]? = w.heap[b]?) := fun b h1 h2 => (up b h1).trans (WB b h2)
    have HCl : Hid (∀ i, i < 2 * a.n → W2.cell? ⟨w.heap.size, i, none⟩ = some (.pointer none)) := fun i hi => by rw [hW2]; exact hcl i hi
    have HFz : Hid (∀ i, W2.frozen? ⟨w.heap.size, i, none⟩ = false) := fun i => by rw [hW2]; exact hfz i
    rw [← hW2]
    clear hW2 up V W0 W1 WO WZ FW WB hcl hfz hsz c0 c1 c2 c3 c4 z0 z1 z2 z3
    obtain ⟨B, hB⟩ : ∃ B, B = w.heap.size := ⟨_, rfl⟩
    have HBs : Hid (B = w.heap.size) := hB
    rw [← hB] at FW2 HCl HFz HCs VB ⊢
    clear hB
    go_wp2_with fail
    obtain ⟨W3, hW3⟩ : ∃ W3, W3 = (W2.setCell ⟨C, 2, none⟩ (.slice (some ⟨B, 0, none⟩) (2 * a.n) (2 * a.n))).setCell ⟨C, 3, none⟩ (.int .i64 0) := ⟨_, rfl⟩
    rw [← hW3]
    have X : ∀ j, j ≠ 2 → j ≠ 3 → W3.cell? ⟨C, j, none⟩ = W2.cell? ⟨C, j, none⟩ := fun j h2 h3 => by
      rw [hW3, World.cell?_setCell_other _ _ _ _ (fun e => h3 (by injection e with _ e; exact e.symm)), World.cell?_setCell_other _ _ _ _ (fun e => h2 (by injection e with _ e; exact e.symm))]
    have X2 : W3.cell? ⟨C, 2, none⟩ = some (.slice (some ⟨B, 0, none⟩) (2 * a.n) (2 * a.n)) := by
      rw [hW3, World.cell?_setCell_other _ _ _ _ (fun e => by injection e with _ e; cases e)]; exact World.cell?_setCell_same _ _ _ V2
    have X3 : W3.cell? ⟨C, 3, none⟩ = some (.int .i64 0) := by
      rw [hW3]
      exact World.cell?_setCell_same _ _ _ ((World.cell?_setCell_other _ _ _ _ (fun e => by injection e with _ e; cases e)).trans V3)
    have XZ : ∀ j, W3.frozen? ⟨C, j, none⟩ = false := fun j => by rw [hW3, World.frozen?_setCell, World.frozen?_setCell]; exact VZ.out j
    have XB : ∀ b, b ≠ C → W3.heap[b]? = W2.heap[b]? := fun b hb => by rw [hW3]; exact heap_set2 _ _ _ _ _ hb hb
    have hBC : B ≠ C := fun e => by have := HCs.out; omega
    have oC3 : lab o B (x, 1) C = (x, 0) := by rw [lab_other _ _ _ (fun e => hBC e.symm)]; exact HC.out.oC
    have rn : RowR w o x (G true) a.n (E true) := HC.out.row true hn0
    have hgl : G true < B := by rw [HBs.out]; exact World.block_lt_of_cell? _ _ (rn.cl 0 hn0)
    have hgC : G true ≠ C := fun e => by have h1 := rn.og; rw [e, HC.out.oC] at h1; injection h1 with _ h1; cases h1
    refine bodyPost_end (v := .tuple #[]) (by simp [results, Tryz.results108, go_sem]) rfl ⟨rfl, lab o B (x, 1), ⟨fun r j => if r then [] else E true j, fun r => if r then B else G true, ?_⟩, ?_⟩
    · rw [HEG.out]
      refine ⟨(HC.out.has.grown HG1.out HG3.out).congr (fun r i _ => by cases r <;> rfl), oC3, ?_, ?_, X2, X3, ?_, XZ, fun r hr => ?_, fun _ => ?_⟩
      · show _ = some (oldV a.n (G true))
        rw [X 0 (by decide) (by decide), V0.out, oldV_pos (by omega)]
      · rw [X 1 (by decide) (by decide), V1.out]; rfl
      · rw [X 4 (by decide) (by decide), V4.out]
      · cases r with
        | true =>
          refine ⟨lab_same _ _ _, fun i hi => ?_, fun i hi => ?_, fun i hi => trivial⟩
          · exact (World.cell?_of_block (a := ⟨B, i, none⟩) (XB B hBC)).trans (HCl.out i hi)
          · exact (World.frozen?_of_block (a := ⟨B, i, none⟩) (XB B hBC)).trans (HFz.out i)
        | false =>
          refine rn.cg ((XB _ hgC).trans (VB.out _ hgl hgC)) (lab_other _ _ _ (by omega)) (fun i hi q hq => ?_)
          obtain ⟨_, hq'⟩ := (rn.ch i hi).mem hq
          have hql : q.b < B := by rw [HBs.out]; exact hq'.lt
          have hqC : q.b ≠ C := fun e => by have h1 := hq'.ob; rw [e, HC.out.oC] at h1; injection h1 with _ h1; cases h1
          exact ⟨(XB _ hqC).trans (VB.out _ hql hqC), lab_other _ _ _ (by omega)⟩
      · show G true ≠ B
        omega
    · rw [hW3]
      have oC4 : (lab o B (x, 1) C).1 = x := by rw [oC3]
      exact (FW2.out.trans (Fr.set (a := ⟨C, 2, none⟩) oC4 _)).trans (Fr.set (a := ⟨C, 3, none⟩) oC4 _)
  · have eg : a.grow = a := by unfold A.grow; rw [if_neg hg]
    rw [eg]
    clear h hs eg hok
    have hc : 0 < a.m ∨ (a.m = 0 ∧ a.keys ≤ 2 * (a.n : Int)) ∨ (a.m = 0 ∧ 2 * (a.n : Int) < a.keys ∧ 4096 ≤ a.n) := by omega
    clear hg
    rcases hc with g1 | ⟨g1, g2⟩ | ⟨g1, g2, g3⟩
    · have j1 : decide (0 < a.m) = true := by simp; omega
      go_enter Tryz.func108, Tryz.ntmps108
      go_wp2_with fail
      exact bodyPost_ret (v := .tuple #[]) (by simp [results, Tryz.results108, go_sem]) rfl ⟨rfl, o, ⟨E, G, HC.out⟩, Fr.refl _ _ _⟩
    · have j1 : decide (0 < a.m) = false := by simp; omega
      have j2 : decide (a.keys ≤ 2 * (a.n : Int)) = true := by simp; omega
      clear g1
      go_enter Tryz.func108, Tryz.ntmps108
      go_wp2_with fail
      exact bodyPost_ret (v := .tuple #[]) (by simp [results, Tryz.results108, go_sem]) rfl ⟨rfl, o, ⟨E, G, HC.out⟩, Fr.refl _ _ _⟩
    · have j1 : decide (0 < a.m) = false := by simp; omega
      have j2 : decide (a.keys ≤ 2 * (a.n : Int)) = false := by simp; omega
      have j3 : decide (4096 ≤ (a.n : Int)) = true := by simp; omega
      clear g1
      go_enter Tryz.func108, Tryz.ntmps108
      go_wp2_with fail
      exact bodyPost_ret (v := .tuple #[]) (by simp [results, Tryz.results108, go_sem]) rfl ⟨rfl, o, ⟨E, G, HC.out⟩, Fr.refl _ _ _⟩
end Go.Proofs.YtfinaichajbnkaaGreatDoor


namespace Go.Proofs.YtfinaichajbnkaaGreatDoor
open Go.RowKit

theorem hd_mid (p : List Ent) (e : Ent) (l l' : List Ent) : hd (p ++ e :: l) = hd (p ++ e :: l') := by cases p <;> rfl
/-- Behind an entry other ones. -/
theorem Chn.relink {w : World} {o : Nat → Nat × Nat} {x : Nat} {e : Ent} {l l' : List Ent} (hl' : Chn w o x l') (h2 : ∀ q ∈ l', q.b ≠ e.b) : ∀ (p : List Ent), Chn w o x (p ++ e :: l) → (∀ q ∈ p, q.b ≠ e.b) → Chn (w.setCell ⟨e.b, 2, none⟩ (hd l')) o x (p ++ e :: l')
  | [], h, _ => by
    refine ⟨⟨h.1.ob, ?_, ?_, World.cell?_setCell_same _ _ _ h.1.c2, ?_, ?_, h.1.ks⟩, hl'.cg (fun q hq => blk_set _ _ _ (h2 q hq)) (fun _ _ => rfl)⟩
    · rw [World.cell?_setCell_other _ _ _ _ (fun h => by injection h with _ h; cases h)]; exact h.1.c0
    · rw [World.cell?_setCell_other _ _ _ _ (fun h => by injection h with _ h; cases h)]; exact h.1.c1
    · rw [World.frozen?_setCell]; exact h.1.f1
    · rw [World.frozen?_setCell]; exact h.1.f2
  | q :: p, h, hp => by
    refine ⟨?_, Chn.relink hl' h2 p h.2 (fun q hq => hp q (List.mem_cons_of_mem _ hq))⟩
    have this : EntF (w.setCell ⟨e.b, 2, none⟩ (hd l')) o x q (hd (p ++ e :: l)) := h.1.cg (w' := w.setCell ⟨e.b, 2, none⟩ (hd l')) (o' := o) (blk_set _ _ _ (hp q List.mem_cons_self)) rfl
    rw [hd_mid p e l l'] at this
    exact this
/-- An entry's number turned. -/
theorem Chn.renum {w : World} {o : Nat → Nat × Nat} {x : Nat} {e : Ent} {l : List Ent} (v : Int) : ∀ (p : List Ent), Chn w o x (p ++ e :: l) → (∀ q ∈ p, q.b ≠ e.b) → (∀ q ∈ l, q.b ≠ e.b) → Chn (w.setCell ⟨e.b, 1, none⟩ (.int .i64 v)) o x (p ++ ⟨e.b, e.k, v⟩ :: l)
  | [], h, _, h2 => by
    refine ⟨⟨h.1.ob, ?_, World.cell?_setCell_same _ _ _ h.1.c1, ?_, ?_, ?_, h.1.ks⟩, Chn.cg h.2 (fun q hq => blk_set _ _ _ (h2 q hq)) (fun _ _ => rfl)⟩
    · rw [World.cell?_setCell_other _ _ _ _ (fun h => by injection h with _ h; cases h)]; exact h.1.c0
    · rw [World.cell?_setCell_other _ _ _ _ (fun h => by injection h with _ h; cases h)]; exact h.1.c2
    · rw [World.frozen?_setCell]; exact h.1.f1
    · rw [World.frozen?_setCell]; exact h.1.f2
  | q :: p, h, hp, h2 => by
    refine ⟨?_, Chn.renum v p h.2 (fun q hq => hp q (List.mem_cons_of_mem _ hq)) h2⟩
    have this : EntF (w.setCell ⟨e.b, 1, none⟩ (.int .i64 v)) o x q (hd (p ++ e :: l)) := h.1.cg (w' := w.setCell ⟨e.b, 1, none⟩ (.int .i64 v)) (o' := o) (blk_set _ _ _ (hp q List.mem_cons_self)) rfl
    have e1 : hd (p ++ e :: l) = hd (p ++ ⟨e.b, e.k, v⟩ :: l) := by cases p <;> rfl
    rw [e1] at this
    exact this
/-- One block is of one bucket alone. -/
theorem IsC.one {w : World} {o : Nat → Nat × Nat} {x C : Nat} {a : A} {E : Bool → Nat → List Ent} {G : Bool → Nat} (h : IsC w o x C a E G) {r r' : Bool} {i i' : Nat} (hi : i < a.cnt r) (hi' : i' < a.cnt r') {e e' : Ent} (he : e ∈ E r i) (he' : e' ∈ E r' i') (hb : e.b = e'.b) : r = r' ∧ i = i' := by
  obtain ⟨_, f⟩ := ((h.row r (Nat.lt_of_le_of_lt (Nat.zero_le _) hi)).ch i hi).mem he
  obtain ⟨_, f'⟩ := ((h.row r' (Nat.lt_of_le_of_lt (Nat.zero_le _) hi')).ch i' hi').mem he'
  have hk := f.key f' hb
  obtain ⟨p1, p2⟩ := h.has.pl r i hi e.kv (List.mem_map_of_mem he)
  obtain ⟨q1, q2⟩ := h.has.pl r' i' hi' e'.kv (List.mem_map_of_mem he')
  have p1 : a.row e.k = r := p1
  have q1 : a.row e'.k = r' := q1
  have hr : r = r' := by rw [← p1, ← q1, hk]
  subst hr
  have p2 : hsn e.k % a.cnt r = i := p2
  have q2 : hsn e'.k % a.cnt r = i' := q2
  exact ⟨rfl, by rw [← p2, ← q2, hk]⟩
def updB (E : Bool → Nat → List Ent) (r : Bool) (i : Nat) (l : List Ent) : Bool → Nat → List Ent := fun r' i' => if r' = r ∧ i' = i then l else E r' i'
theorem updB_same (E : Bool → Nat → List Ent) (r : Bool) (i : Nat) (l : List Ent) : updB E r i l r i = l := if_pos ⟨rfl, rfl⟩
theorem updB_other (E : Bool → Nat → List Ent) (r : Bool) (i : Nat) (l : List Ent) {r' : Bool} {i' : Nat} (h : ¬ (r' = r ∧ i' = i)) : updB E r i l r' i' = E r' i' := if_neg h
theorem updB_map (E : Bool → Nat → List Ent) (r : Bool) (i : Nat) (l : List Ent) (r' : Bool) (i' : Nat) : (updB E r i l r' i').map Ent.kv = upd2 (fun r i => (E r i).map Ent.kv) r i (l.map Ent.kv) r' i' := by
  unfold updB upd2; split <;> rfl
theorem IsC.gC {w : World} {o : Nat → Nat × Nat} {x C : Nat} {a : A} {E : Bool → Nat → List Ent} {G : Bool → Nat} (h : IsC w o x C a E G) {r : Bool} (hr : 0 < a.cnt r) : G r ≠ C := fun e => by
  have h1 := (h.row r hr).og
  rw [e, h.oC] at h1
  injection h1 with _ h1; cases h1
theorem EntF.nC {w : World} {o : Nat → Nat × Nat} {x C : Nat} {e : Ent} {nx : Value} (h : EntF w o x e nx) (oC : o C = (x, 0)) : e.b ≠ C := fun hb => by
  have h1 := h.ob
  rw [hb, oC] at h1
  injection h1 with _ h1; cases h1
theorem IsC.gg {w : World} {o : Nat → Nat × Nat} {x C : Nat} {a : A} {E : Bool → Nat → List Ent} {G : Bool → Nat} (h : IsC w o x C a E G) {r r' : Bool} (hr : 0 < a.cnt r) (hr' : 0 < a.cnt r') (hne : r ≠ r') : G r ≠ G r' := by
  cases r <;> cases r'
  · exact absurd rfl hne
  · exact h.gne (Nat.ne_of_gt hr)
  · exact fun e => h.gne (Nat.ne_of_gt hr') e.symm
  · exact absurd rfl hne
/-- A bucket turned by one store outside the chain's own block, then another count of keys, maybe. -/
theorem IsC.turn {w w' : World} {o : Nat → Nat × Nat} {x C : Nat} {a : A} {E : Bool → Nat → List Ent} {G : Bool → Nat} (h : IsC w o x C a E G) {k : ByteArray} {l : List Ent} {v : Option Int} {q : Int}
    (hl : Has (a.set k v q) (upd2 (fun r i => (E r i).map Ent.kv) (a.row k) (a.at_ k) (l.map Ent.kv)))
    (hrow : RowR w' o x (G (a.row k)) (a.cnt (a.row k)) (updE (E (a.row k)) (a.at_ k) l)) (b0 : Nat)
    (hb : ∀ b, b ≠ b0 → b ≠ C → w'.heap[b]? = w.heap[b]?) (hout : ∀ r, r ≠ a.row k → 0 < a.cnt r → b0 ≠ G r ∧ ∀ i, i < a.cnt r → ∀ e ∈ E r i, b0 ≠ e.b)
    (hc : ∀ j, j ≠ 4 → w'.cell? ⟨C, j, none⟩ = w.cell? ⟨C, j, none⟩) (c4 : w'.cell? ⟨C, 4, none⟩ = some (.int .i64 q)) (fz : ∀ j, w'.frozen? ⟨C, j, none⟩ = false) :
    IsC w' o x C (a.set k v q) (updB E (a.row k) (a.at_ k) l) G := by
  refine ⟨hl.congr (fun r i _ => updB_map _ _ _ _ _ _), h.oC, (hc 0 (by decide)).trans h.c0, (hc 1 (by decide)).trans h.c1, (hc 2 (by decide)).trans h.c2, (hc 3 (by decide)).trans h.c3, c4, fz, fun r hr => ?_, h.gne⟩
  have hr : 0 < a.cnt r := hr
  show RowR w' o x (G r) (a.cnt r) _
  by_cases e : r = a.row k
  · subst e
    have : updB E (a.row k) (a.at_ k) l (a.row k) = updE (E (a.row k)) (a.at_ k) l := by
      funext i; unfold updB updE; simp
    rw [this]; exact hrow
  · have : updB E (a.row k) (a.at_ k) l r = E r := by
      funext i; exact updB_other _ _ _ _ (fun h => e h.1)
    rw [this]
    obtain ⟨o1, o2⟩ := hout r e hr
    refine (h.row r hr).cg (hb _ (fun e => o1 e.symm) (h.gC hr)) rfl (fun i hi q hq => ⟨?_, rfl⟩)
    obtain ⟨_, hq'⟩ := ((h.row r hr).ch i hi).mem hq
    exact hb _ (fun e => o2 i hi q hq e.symm) (hq'.nC h.oC)
/-- The link behind pre leads to post'; another count of keys. -/
theorem IsC.relink {w : World} {o : Nat → Nat × Nat} {x C : Nat} {a : A} {E : Bool → Nat → List Ent} {G : Bool → Nat} (h : IsC w o x C a E G) {k : ByteArray} {pre post post' : List Ent} {v : Option Int} {q : Int} (he : E (a.row k) (a.at_ k) = pre ++ post)
    (hch : Chn w o x post') (hp : ∀ q ∈ post', ∀ e ∈ pre, q.b ≠ e.b)
    (hl : Has (a.set k v q) (upd2 (fun r i => (E r i).map Ent.kv) (a.row k) (a.at_ k) ((pre ++ post').map Ent.kv))) :
    IsC ((w.setCell (lnk (G (a.row k)) (a.at_ k) pre) (hd post')).setCell ⟨C, 4, none⟩ (.int .i64 q)) o x C (a.set k v q) (updB E (a.row k) (a.at_ k) (pre ++ post')) G := by
  obtain ⟨rr, hat⟩ := h.bucket k
  have hcr := A.cnt_row h.has.ok k
  have hnd := h.has.nd _ _ hat
  have hoC := h.oC
  have hGC := h.gC hcr
  -- the world behind the first store
  have key : ∀ (w1 : World), (∀ b, b ≠ (lnk (G (a.row k)) (a.at_ k) pre).block → w1.heap[b]? = w.heap[b]?) → (∀ a, w1.frozen? a = w.frozen? a) → (lnk (G (a.row k)) (a.at_ k) pre).block ≠ C → RowR w1 o x (G (a.row k)) (a.cnt (a.row k)) (updE (E (a.row k)) (a.at_ k) (pre ++ post')) →
      (∀ r, r ≠ a.row k → 0 < a.cnt r → (lnk (G (a.row k)) (a.at_ k) pre).block ≠ G r ∧ ∀ i, i < a.cnt r → ∀ e ∈ E r i, (lnk (G (a.row k)) (a.at_ k) pre).block ≠ e.b) →
      IsC (w1.setCell ⟨C, 4, none⟩ (.int .i64 q)) o x C (a.set k v q) (updB E (a.row k) (a.at_ k) (pre ++ post')) G := by
    intro w1 hb hz hlC r1 hout
    have hC1 : w1.heap[C]? = w.heap[C]? := hb C (fun e => hlC e.symm)
    refine h.turn hl ?_ _ (fun b h1 h2 => (blk_set _ _ _ h2).trans (hb b h1)) hout (fun j hj => ?_) ?_ (fun j => ?_)
    · refine r1.cg (blk_set _ _ _ hGC) rfl (fun i hi q hq => ⟨?_, rfl⟩)
      obtain ⟨_, hq'⟩ := (r1.ch i hi).mem hq
      exact blk_set _ _ _ (hq'.nC hoC)
    · rw [World.cell?_setCell_other _ _ _ _ (fun e => hj (by injection e with _ e; exact e.symm))]; exact World.cell?_of_block (a := ⟨C, j, none⟩) hC1
    · exact World.cell?_setCell_same _ _ _ ((World.cell?_of_block (a := ⟨C, 4, none⟩) hC1).trans h.c4)
    · rw [World.frozen?_setCell, hz]; exact h.fz j
  refine key _ (fun b hb => blk_set _ _ _ hb) (fun _ => World.frozen?_setCell _ _ _ _) ?_ ?_ ?_
  · rcases List.eq_nil_or_concat pre with rfl | ⟨p, e, rfl⟩
    · exact hGC
    · simp only [List.concat_eq_append] at he ⊢
      rw [lnk_end]
      obtain ⟨_, he'⟩ := (rr.ch _ hat).mem (e := e) (by rw [he]; simp)
      exact he'.nC hoC
  · rcases List.eq_nil_or_concat pre with rfl | ⟨p, e, rfl⟩
    · rw [lnk_nil, List.nil_append]
      have keep : ∀ {l}, Chn w o x l → Chn (w.setCell ⟨G (a.row k), a.at_ k, none⟩ (hd post')) o x l := fun hl => hl.cg (fun q hq => by obtain ⟨_, hq'⟩ := hl.mem hq; exact blk_set _ _ _ (hq'.ne rr)) (fun _ _ => rfl)
      refine ⟨rr.og, fun i hi => ?_, fun i hi => ?_, fun i hi => ?_⟩
      · by_cases ei : i = a.at_ k
        · subst ei; rw [updE_same]; exact World.cell?_setCell_same _ _ _ (rr.cl _ hi)
        · rw [updE_other _ _ _ ei, World.cell?_setCell_other _ _ _ _ (fun h => ei (by injection h with _ h; exact h.symm))]; exact rr.cl i hi
      · rw [World.frozen?_setCell]; exact rr.fz i hi
      · by_cases ei : i = a.at_ k
        · subst ei; rw [updE_same]; exact keep hch
        · rw [updE_other _ _ _ ei]; exact keep (rr.ch i hi)
    · simp only [List.concat_eq_append] at he hp hl ⊢
      rw [lnk_end]
      rw [List.append_assoc, List.singleton_append] at he ⊢
      have hmem : e ∈ E (a.row k) (a.at_ k) := by rw [he]; simp
      have hcb := rr.ch _ hat
      rw [he] at hcb
      simp only [he] at hnd
      obtain ⟨a1, a2⟩ := hcb.apart hnd
      obtain ⟨_, he'⟩ := hcb.mem (e := e) (by simp)
      refine ⟨rr.og, fun i hi => ?_, fun i hi => ?_, fun i hi => ?_⟩
      · rw [World.cell?_of_block (a := ⟨G (a.row k), i, none⟩) (blk_set w ⟨e.b, 2, none⟩ _ (fun h => he'.ne rr h.symm)), rr.cl i hi]
        by_cases ei : i = a.at_ k
        · subst ei; rw [updE_same, he, hd_mid p e post post']
        · rw [updE_other _ _ _ ei]
      · rw [World.frozen?_setCell]; exact rr.fz i hi
      · by_cases ei : i = a.at_ k
        · subst ei; rw [updE_same]; exact Chn.relink hch (fun q hq => hp q hq e (by simp)) p hcb a1
        · rw [updE_other _ _ _ ei]
          exact (rr.ch i hi).cg (fun q hq => blk_set _ _ _ (fun hb => ei (h.one hi hat hq hmem hb).2)) (fun _ _ => rfl)
  · intro r hr hr0
    rcases List.eq_nil_or_concat pre with rfl | ⟨p, e, rfl⟩
    · refine ⟨h.gg hcr hr0 (fun e => hr e.symm), fun i hi q hq => ?_⟩
      obtain ⟨_, hq'⟩ := ((h.row r hr0).ch i hi).mem hq
      exact fun e => hq'.ne rr e.symm
    · simp only [List.concat_eq_append] at he ⊢
      rw [lnk_end]
      have hmem : e ∈ E (a.row k) (a.at_ k) := by rw [he]; simp
      obtain ⟨_, he'⟩ := (rr.ch _ hat).mem hmem
      exact ⟨he'.ne (h.row r hr0), fun i hi q hq hb => hr (h.one hat hi hmem hq hb).1.symm⟩
/-- A key's number turned. -/
theorem IsC.renum {w : World} {o : Nat → Nat × Nat} {x C : Nat} {a : A} {E : Bool → Nat → List Ent} {G : Bool → Nat} (h : IsC w o x C a E G) {k : ByteArray} {pre t : List Ent} {e : Ent} (v : Int) (he : E (a.row k) (a.at_ k) = pre ++ e :: t) (hk : e.k = k) :
    IsC (w.setCell ⟨e.b, 1, none⟩ (.int .i64 v)) o x C (a.set k (some v) a.keys) (updB E (a.row k) (a.at_ k) (pre ++ ⟨e.b, e.k, v⟩ :: t)) G := by
  obtain ⟨rr, hat⟩ := h.bucket k
  have hcr := A.cnt_row h.has.ok k
  have hnd := h.has.nd _ _ hat
  simp only [he] at hnd
  have hmem : e ∈ E (a.row k) (a.at_ k) := by rw [he]; simp
  have hcb := rr.ch _ hat
  rw [he] at hcb
  obtain ⟨a1, a2⟩ := hcb.apart hnd
  obtain ⟨_, he'⟩ := hcb.mem (e := e) (by simp)
  have hbC := he'.nC h.oC
  have hC1 : (w.setCell ⟨e.b, 1, none⟩ (.int .i64 v)).heap[C]? = w.heap[C]? := blk_set _ _ _ (fun e => hbC e.symm)
  refine h.turn ?_ ?_ e.b (fun b h1 _ => blk_set _ _ _ h1) (fun r hr hr0 => ?_) (fun j _ => World.cell?_of_block (a := ⟨C, j, none⟩) hC1) ((World.cell?_of_block (a := ⟨C, 4, none⟩) hC1).trans h.c4) (fun j => by rw [World.frozen?_setCell]; exact h.fz j)
  · have := h.has.setOld k e.v v a.keys (pre.map Ent.kv) (t.map Ent.kv) (by
      show List.map Ent.kv (E _ _) = _
      rw [he, List.map_append, List.map_cons]; unfold Ent.kv; rw [hk])
    rw [List.map_append, List.map_cons]
    unfold Ent.kv at this ⊢
    rw [hk]; exact this
  · refine ⟨rr.og, fun i hi => ?_, fun i hi => ?_, fun i hi => ?_⟩
    · rw [World.cell?_of_block (a := ⟨G (a.row k), i, none⟩) (blk_set w ⟨e.b, 1, none⟩ _ (fun h => he'.ne rr h.symm)), rr.cl i hi]
      by_cases ei : i = a.at_ k
      · subst ei; rw [updE_same, he]; cases pre <;> rfl
      · rw [updE_other _ _ _ ei]
    · rw [World.frozen?_setCell]; exact rr.fz i hi
    · by_cases ei : i = a.at_ k
      · subst ei; rw [updE_same]; exact Chn.renum v pre hcb a1 a2
      · rw [updE_other _ _ _ ei]
        exact (rr.ch i hi).cg (fun q hq => blk_set _ _ _ (fun hb => ei (h.one hi hat hq hmem hb).2)) (fun _ _ => rfl)
  · exact ⟨he'.ne (h.row r hr0), fun i hi q hq hb => hr (h.one hat hi hmem hq hb).1.symm⟩
end Go.Proofs.YtfinaichajbnkaaGreatDoor
