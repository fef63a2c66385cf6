/-
  A LINK, A NUMBER STORED ANEW: what becomes of the chain.
-/
import Derived.Test.YtbflcnghpkmcoaaGrow
namespace Go.Proofs.Ytbflcnghpkmcoaa
open Go.RowKit

theorem hd_mid (p : List Ent) (e : Ent) (l l' : List Ent) : hd (p ++ e :: l) = hd (p ++ e :: l') := by cases p <;> rfl
/-- Behind an entry other ones. -/
theorem Chn.relink {w : World} {o : Nat → Nat × Nat} {x : Nat} {e : Ent} {l l' : List Ent} (hl' : Chn w o x l') (h2 : ∀ q ∈ l', q.b ≠ e.b) : ∀ (p : List Ent), Chn w o x (p ++ e :: l) → (∀ q ∈ p, q.b ≠ e.b) → Chn (w.setCell ⟨e.b, 2, none⟩ (hd l')) o x (p ++ e :: l')
  | [], h, _ => by
    refine ⟨⟨h.1.ob, ?_, ?_, World.cell?_setCell_same _ _ _ h.1.c2, ?_, ?_, h.1.ks⟩, hl'.cg (fun q hq => blk_set _ _ _ (h2 q hq)) (fun _ _ => rfl)⟩
    · rw [World.cell?_setCell_other _ _ _ _ (fun h => by injection h with _ h; cases h)]; exact h.1.c0
    · rw [World.cell?_setCell_other _ _ _ _ (fun h => by injection h with _ h; cases h)]; exact h.1.c1
    · rw [World.frozen?_setCell]; exact h.1.f1
    · rw [World.frozen?_setCell]; exact h.1.f2
  | q :: p, h, hp => by
    refine ⟨?_, Chn.relink hl' h2 p h.2 (fun q hq => hp q (List.mem_cons_of_mem _ hq))⟩
    have this : EntF (w.setCell ⟨e.b, 2, none⟩ (hd l')) o x q (hd (p ++ e :: l)) := h.1.cg (w' := w.setCell ⟨e.b, 2, none⟩ (hd l')) (o' := o) (blk_set _ _ _ (hp q List.mem_cons_self)) rfl
    rw [hd_mid p e l l'] at this
    exact this
/-- An entry's number turned. -/
theorem Chn.renum {w : World} {o : Nat → Nat × Nat} {x : Nat} {e : Ent} {l : List Ent} (v : Int) : ∀ (p : List Ent), Chn w o x (p ++ e :: l) → (∀ q ∈ p, q.b ≠ e.b) → (∀ q ∈ l, q.b ≠ e.b) → Chn (w.setCell ⟨e.b, 1, none⟩ (.int .i64 v)) o x (p ++ ⟨e.b, e.k, v⟩ :: l)
  | [], h, _, h2 => by
    refine ⟨⟨h.1.ob, ?_, World.cell?_setCell_same _ _ _ h.1.c1, ?_, ?_, ?_, h.1.ks⟩, Chn.cg h.2 (fun q hq => blk_set _ _ _ (h2 q hq)) (fun _ _ => rfl)⟩
    · rw [World.cell?_setCell_other _ _ _ _ (fun h => by injection h with _ h; cases h)]; exact h.1.c0
    · rw [World.cell?_setCell_other _ _ _ _ (fun h => by injection h with _ h; cases h)]; exact h.1.c2
    · rw [World.frozen?_setCell]; exact h.1.f1
    · rw [World.frozen?_setCell]; exact h.1.f2
  | q :: p, h, hp, h2 => by
    refine ⟨?_, Chn.renum v p h.2 (fun q hq => hp q (List.mem_cons_of_mem _ hq)) h2⟩
    have this : EntF (w.setCell ⟨e.b, 1, none⟩ (.int .i64 v)) o x q (hd (p ++ e :: l)) := h.1.cg (w' := w.setCell ⟨e.b, 1, none⟩ (.int .i64 v)) (o' := o) (blk_set _ _ _ (hp q List.mem_cons_self)) rfl
    have e1 : hd (p ++ e :: l) = hd (p ++ ⟨e.b, e.k, v⟩ :: l) := by cases p <;> rfl
    rw [e1] at this
    exact this
/-- One block is of one bucket alone. -/
theorem IsC.one {w : World} {o : Nat → Nat × Nat} {x C : Nat} {a : A} {E : Bool → Nat → List Ent} {G : Bool → Nat} (h : IsC w o x C a E G) {r r' : Bool} {i i' : Nat} (hi : i < a.cnt r) (hi' : i' < a.cnt r') {e e' : Ent} (he : e ∈ E r i) (he' : e' ∈ E r' i') (hb : e.b = e'.b) : r = r' ∧ i = i' := by
  obtain ⟨_, f⟩ := ((h.row r (Nat.lt_of_le_of_lt (Nat.zero_le _) hi)).ch i hi).mem he
  obtain ⟨_, f'⟩ := ((h.row r' (Nat.lt_of_le_of_lt (Nat.zero_le _) hi')).ch i' hi').mem he'
  have hk := f.key f' hb
  obtain ⟨p1, p2⟩ := h.has.pl r i hi e.kv (List.mem_map_of_mem he)
  obtain ⟨q1, q2⟩ := h.has.pl r' i' hi' e'.kv (List.mem_map_of_mem he')
  have p1 : a.row e.k = r := p1
  have q1 : a.row e'.k = r' := q1
  have hr : r = r' := by rw [← p1, ← q1, hk]
  subst hr
  have p2 : hsn e.k % a.cnt r = i := p2
  have q2 : hsn e'.k % a.cnt r = i' := q2
  exact ⟨rfl, by rw [← p2, ← q2, hk]⟩
def updB (E : Bool → Nat → List Ent) (r : Bool) (i : Nat) (l : List Ent) : Bool → Nat → List Ent := fun r' i' => if r' = r ∧ i' = i then l else E r' i'
theorem updB_same (E : Bool → Nat → List Ent) (r : Bool) (i : Nat) (l : List Ent) : updB E r i l r i = l := if_pos ⟨rfl, rfl⟩
theorem updB_other (E : Bool → Nat → List Ent) (r : Bool) (i : Nat) (l : List Ent) {r' : Bool} {i' : Nat} (h : ¬ (r' = r ∧ i' = i)) : updB E r i l r' i' = E r' i' := if_neg h
theorem updB_map (E : Bool → Nat → List Ent) (r : Bool) (i : Nat) (l : List Ent) (r' : Bool) (i' : Nat) : (updB E r i l r' i').map Ent.kv = upd2 (fun r i => (E r i).map Ent.kv) r i (l.map Ent.kv) r' i' := by
  unfold updB upd2; split <;> rfl
theorem IsC.gC {w : World} {o : Nat → Nat × Nat} {x C : Nat} {a : A} {E : Bool → Nat → List Ent} {G : Bool → Nat} (h : IsC w o x C a E G) {r : Bool} (hr : 0 < a.cnt r) : G r ≠ C := fun e => by
  have h1 := (h.row r hr).og
  rw [e, h.oC] at h1
  injection h1 with _ h1; cases h1
theorem EntF.nC {w : World} {o : Nat → Nat × Nat} {x C : Nat} {e : Ent} {nx : Value} (h : EntF w o x e nx) (oC : o C = (x, 0)) : e.b ≠ C := fun hb => by
  have h1 := h.ob
  rw [hb, oC] at h1
  injection h1 with _ h1; cases h1
theorem IsC.gg {w : World} {o : Nat → Nat × Nat} {x C : Nat} {a : A} {E : Bool → Nat → List Ent} {G : Bool → Nat} (h : IsC w o x C a E G) {r r' : Bool} (hr : 0 < a.cnt r) (hr' : 0 < a.cnt r') (hne : r ≠ r') : G r ≠ G r' := by
  cases r <;> cases r'
  · exact absurd rfl hne
  · exact h.gne (Nat.ne_of_gt hr)
  · exact fun e => h.gne (Nat.ne_of_gt hr') e.symm
  · exact absurd rfl hne
/-- A bucket turned by one store outside the chain's own block, then another count of keys, maybe. -/
theorem IsC.turn {w w' : World} {o : Nat → Nat × Nat} {x C : Nat} {a : A} {E : Bool → Nat → List Ent} {G : Bool → Nat} (h : IsC w o x C a E G) {k : ByteArray} {l : List Ent} {v : Option Int} {q : Int}
    (hl : Has (a.set k v q) (upd2 (fun r i => (E r i).map Ent.kv) (a.row k) (a.at_ k) (l.map Ent.kv)))
    (hrow : RowR w' o x (G (a.row k)) (a.cnt (a.row k)) (updE (E (a.row k)) (a.at_ k) l)) (b0 : Nat)
    (hb : ∀ b, b ≠ b0 → b ≠ C → w'.heap[b]? = w.heap[b]?) (hout : ∀ r, r ≠ a.row k → 0 < a.cnt r → b0 ≠ G r ∧ ∀ i, i < a.cnt r → ∀ e ∈ E r i, b0 ≠ e.b)
    (hc : ∀ j, j ≠ 4 → w'.cell? ⟨C, j, none⟩ = w.cell? ⟨C, j, none⟩) (c4 : w'.cell? ⟨C, 4, none⟩ = some (.int .i64 q)) (fz : ∀ j, w'.frozen? ⟨C, j, none⟩ = false) :
    IsC w' o x C (a.set k v q) (updB E (a.row k) (a.at_ k) l) G := by
  refine ⟨hl.congr (fun r i _ => updB_map _ _ _ _ _ _), h.oC, (hc 0 (by decide)).trans h.c0, (hc 1 (by decide)).trans h.c1, (hc 2 (by decide)).trans h.c2, (hc 3 (by decide)).trans h.c3, c4, fz, fun r hr => ?_, h.gne⟩
  have hr : 0 < a.cnt r := hr
  show RowR w' o x (G r) (a.cnt r) _
  by_cases e : r = a.row k
  · subst e
    have : updB E (a.row k) (a.at_ k) l (a.row k) = updE (E (a.row k)) (a.at_ k) l := by
      funext i; unfold updB updE; simp
    rw [this]; exact hrow
  · have : updB E (a.row k) (a.at_ k) l r = E r := by
      funext i; exact updB_other _ _ _ _ (fun h => e h.1)
    rw [this]
    obtain ⟨o1, o2⟩ := hout r e hr
    refine (h.row r hr).cg (hb _ (fun e => o1 e.symm) (h.gC hr)) rfl (fun i hi q hq => ⟨?_, rfl⟩)
    obtain ⟨_, hq'⟩ := ((h.row r hr).ch i hi).mem hq
    exact hb _ (fun e => o2 i hi q hq e.symm) (hq'.nC h.oC)
/-- The link behind pre leads to post'; another count of keys. -/
theorem IsC.relink {w : World} {o : Nat → Nat × Nat} {x C : Nat} {a : A} {E : Bool → Nat → List Ent} {G : Bool → Nat} (h : IsC w o x C a E G) {k : ByteArray} {pre post post' : List Ent} {v : Option Int} {q : Int} (he : E (a.row k) (a.at_ k) = pre ++ post)
    (hch : Chn w o x post') (hp : ∀ q ∈ post', ∀ e ∈ pre, q.b ≠ e.b)
    (hl : Has (a.set k v q) (upd2 (fun r i => (E r i).map Ent.kv) (a.row k) (a.at_ k) ((pre ++ post').map Ent.kv))) :
    IsC ((w.setCell (lnk (G (a.row k)) (a.at_ k) pre) (hd post')).setCell ⟨C, 4, none⟩ (.int .i64 q)) o x C (a.set k v q) (updB E (a.row k) (a.at_ k) (pre ++ post')) G := by
  obtain ⟨rr, hat⟩ := h.bucket k
  have hcr := A.cnt_row h.has.ok k
  have hnd := h.has.nd _ _ hat
  have hoC := h.oC
  have hGC := h.gC hcr
  -- the world behind the first store
  have key : ∀ (w1 : World), (∀ b, b ≠ (lnk (G (a.row k)) (a.at_ k) pre).block → w1.heap[b]? = w.heap[b]?) → (∀ a, w1.frozen? a = w.frozen? a) → (lnk (G (a.row k)) (a.at_ k) pre).block ≠ C → RowR w1 o x (G (a.row k)) (a.cnt (a.row k)) (updE (E (a.row k)) (a.at_ k) (pre ++ post')) →
      (∀ r, r ≠ a.row k → 0 < a.cnt r → (lnk (G (a.row k)) (a.at_ k) pre).block ≠ G r ∧ ∀ i, i < a.cnt r → ∀ e ∈ E r i, (lnk (G (a.row k)) (a.at_ k) pre).block ≠ e.b) →
      IsC (w1.setCell ⟨C, 4, none⟩ (.int .i64 q)) o x C (a.set k v q) (updB E (a.row k) (a.at_ k) (pre ++ post')) G := by
    intro w1 hb hz hlC r1 hout
    have hC1 : w1.heap[C]? = w.heap[C]? := hb C (fun e => hlC e.symm)
    refine h.turn hl ?_ _ (fun b h1 h2 => (blk_set _ _ _ h2).trans (hb b h1)) hout (fun j hj => ?_) ?_ (fun j => ?_)
    · refine r1.cg (blk_set _ _ _ hGC) rfl (fun i hi q hq => ⟨?_, rfl⟩)
      obtain ⟨_, hq'⟩ := (r1.ch i hi).mem hq
      exact blk_set _ _ _ (hq'.nC hoC)
    · rw [World.cell?_setCell_other _ _ _ _ (fun e => hj (by injection e with _ e; exact e.symm))]; exact World.cell?_of_block (a := ⟨C, j, none⟩) hC1
    · exact World.cell?_setCell_same _ _ _ ((World.cell?_of_block (a := ⟨C, 4, none⟩) hC1).trans h.c4)
    · rw [World.frozen?_setCell, hz]; exact h.fz j
  refine key _ (fun b hb => blk_set _ _ _ hb) (fun _ => World.frozen?_setCell _ _ _ _) ?_ ?_ ?_
  · rcases List.eq_nil_or_concat pre with rfl | ⟨p, e, rfl⟩
    · exact hGC
    · simp only [List.concat_eq_append] at he ⊢
      rw [lnk_end]
      obtain ⟨_, he'⟩ := (rr.ch _ hat).mem (e := e) (by rw [he]; simp)
      exact he'.nC hoC
  · rcases List.eq_nil_or_concat pre with rfl | ⟨p, e, rfl⟩
    · rw [lnk_nil, List.nil_append]
      have keep : ∀ {l}, Chn w o x l → Chn (w.setCell ⟨G (a.row k), a.at_ k, none⟩ (hd post')) o x l := fun hl => hl.cg (fun q hq => by obtain ⟨_, hq'⟩ := hl.mem hq; exact blk_set _ _ _ (hq'.ne rr)) (fun _ _ => rfl)
      refine ⟨rr.og, fun i hi => ?_, fun i hi => ?_, fun i hi => ?_⟩
      · by_cases ei : i = a.at_ k
        · subst ei; rw [updE_same]; exact World.cell?_setCell_same _ _ _ (rr.cl _ hi)
        · rw [updE_other _ _ _ ei, World.cell?_setCell_other _ _ _ _ (fun h => ei (by injection h with _ h; exact h.symm))]; exact rr.cl i hi
      · rw [World.frozen?_setCell]; exact rr.fz i hi
      · by_cases ei : i = a.at_ k
        · subst ei; rw [updE_same]; exact keep hch
        · rw [updE_other _ _ _ ei]; exact keep (rr.ch i hi)
    · simp only [List.concat_eq_append] at he hp hl ⊢
      rw [lnk_end]
      rw [List.append_assoc, List.singleton_append] at he ⊢
      have hmem : e ∈ E (a.row k) (a.at_ k) := by rw [he]; simp
      have hcb := rr.ch _ hat
      rw [he] at hcb
      simp only [he] at hnd
      obtain ⟨a1, a2⟩ := hcb.apart hnd
      obtain ⟨_, he'⟩ := hcb.mem (e := e) (by simp)
      refine ⟨rr.og, fun i hi => ?_, fun i hi => ?_, fun i hi => ?_⟩
      · rw [World.cell?_of_block (a := ⟨G (a.row k), i, none⟩) (blk_set w ⟨e.b, 2, none⟩ _ (fun h => he'.ne rr h.symm)), rr.cl i hi]
        by_cases ei : i = a.at_ k
        · subst ei; rw [updE_same, he, hd_mid p e post post']
        · rw [updE_other _ _ _ ei]
      · rw [World.frozen?_setCell]; exact rr.fz i hi
      · by_cases ei : i = a.at_ k
        · subst ei; rw [updE_same]; exact Chn.relink hch (fun q hq => hp q hq e (by simp)) p hcb a1
        · rw [updE_other _ _ _ ei]
          exact (rr.ch i hi).cg (fun q hq => blk_set _ _ _ (fun hb => ei (h.one hi hat hq hmem hb).2)) (fun _ _ => rfl)
  · intro r hr hr0
    rcases List.eq_nil_or_concat pre with rfl | ⟨p, e, rfl⟩
    · refine ⟨h.gg hcr hr0 (fun e => hr e.symm), fun i hi q hq => ?_⟩
      obtain ⟨_, hq'⟩ := ((h.row r hr0).ch i hi).mem hq
      exact fun e => hq'.ne rr e.symm
    · simp only [List.concat_eq_append] at he ⊢
      rw [lnk_end]
      have hmem : e ∈ E (a.row k) (a.at_ k) := by rw [he]; simp
      obtain ⟨_, he'⟩ := (rr.ch _ hat).mem hmem
      exact ⟨he'.ne (h.row r hr0), fun i hi q hq hb => hr (h.one hat hi hmem hq hb).1.symm⟩
/-- A key's number turned. -/
theorem IsC.renum {w : World} {o : Nat → Nat × Nat} {x C : Nat} {a : A} {E : Bool → Nat → List Ent} {G : Bool → Nat} (h : IsC w o x C a E G) {k : ByteArray} {pre t : List Ent} {e : Ent} (v : Int) (he : E (a.row k) (a.at_ k) = pre ++ e :: t) (hk : e.k = k) :
    IsC (w.setCell ⟨e.b, 1, none⟩ (.int .i64 v)) o x C (a.set k (some v) a.keys) (updB E (a.row k) (a.at_ k) (pre ++ ⟨e.b, e.k, v⟩ :: t)) G := by
  obtain ⟨rr, hat⟩ := h.bucket k
  have hcr := A.cnt_row h.has.ok k
  have hnd := h.has.nd _ _ hat
  simp only [he] at hnd
  have hmem : e ∈ E (a.row k) (a.at_ k) := by rw [he]; simp
  have hcb := rr.ch _ hat
  rw [he] at hcb
  obtain ⟨a1, a2⟩ := hcb.apart hnd
  obtain ⟨_, he'⟩ := hcb.mem (e := e) (by simp)
  have hbC := he'.nC h.oC
  have hC1 : (w.setCell ⟨e.b, 1, none⟩ (.int .i64 v)).heap[C]? = w.heap[C]? := blk_set _ _ _ (fun e => hbC e.symm)
  refine h.turn ?_ ?_ e.b (fun b h1 _ => blk_set _ _ _ h1) (fun r hr hr0 => ?_) (fun j _ => World.cell?_of_block (a := ⟨C, j, none⟩) hC1) ((World.cell?_of_block (a := ⟨C, 4, none⟩) hC1).trans h.c4) (fun j => by rw [World.frozen?_setCell]; exact h.fz j)
  · have := h.has.setOld k e.v v a.keys (pre.map Ent.kv) (t.map Ent.kv) (by
      show List.map Ent.kv (E _ _) = _
      rw [he, List.map_append, List.map_cons]; unfold Ent.kv; rw [hk])
    rw [List.map_append, List.map_cons]
    unfold Ent.kv at this ⊢
    rw [hk]; exact this
  · refine ⟨rr.og, fun i hi => ?_, fun i hi => ?_, fun i hi => ?_⟩
    · rw [World.cell?_of_block (a := ⟨G (a.row k), i, none⟩) (blk_set w ⟨e.b, 1, none⟩ _ (fun h => he'.ne rr h.symm)), rr.cl i hi]
      by_cases ei : i = a.at_ k
      · subst ei; rw [updE_same, he]; cases pre <;> rfl
      · rw [updE_other _ _ _ ei]
    · rw [World.frozen?_setCell]; exact rr.fz i hi
    · by_cases ei : i = a.at_ k
      · subst ei; rw [updE_same]; exact Chn.renum v pre hcb a1 a2
      · rw [updE_other _ _ _ ei]
        exact (rr.ch i hi).cg (fun q hq => blk_set _ _ _ (fun hb => ei (h.one hi hat hq hmem hb).2)) (fun _ _ => rfl)
  · exact ⟨he'.ne (h.row r hr0), fun i hi q hq hb => hr (h.one hat hi hmem hq hb).1.symm⟩
end Go.Proofs.Ytbflcnghpkmcoaa
