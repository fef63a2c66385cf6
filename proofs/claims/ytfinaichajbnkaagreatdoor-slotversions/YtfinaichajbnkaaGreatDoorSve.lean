/-
  VERSIONS, plainly: fragments of one key beside each other, and its record.
-/
import Derived.Test.YtfinaichajbnkaaGreatDoorSpl
import Derived.Test.YtfinaichajbnkaaGreatDoorSky
namespace Go.Proofs.YtfinaichajbnkaaGreatDoor
open Wi (F)

/-- A slot with fragments of the key k, and records; numbers below R were used; q requests were done. -/
structure Bv (s : Sl) (page n m : Nat) (V : ByteArray → Int) (D : ByteArray → Int → ByteArray) (k : ByteArray) (W : Int → Bool) (E : Int → ByteArray) (R : Int) (q : Nat) : Prop where
  b : Bgn s 16 page n m V D
  p : Prt s.z k W E
  V0 : ∀ k, 0 ≤ V k
  dn : ∀ a ∈ s.done, a.rid < R
  dl : s.done.length ≤ q
theorem Bv.fresh {s : Sl} {page n m : Nat} {V : ByteArray → Int} {D : ByteArray → Int → ByteArray} {k : ByteArray} {W : Int → Bool} {E : Int → ByteArray} {R : Int} {q : Nat} (h : Bv s page n m V D k W E R q) {rid : Int} (hr : R ≤ rid) : s.done.find? (fun a => a.rid == rid) = none := by
  rw [List.find?_eq_none]
  intro a ha
  have := h.dn a ha
  simp; omega
theorem dn_snoc {l : List F} {R R' : Int} (h : ∀ a ∈ l, a.rid < R) {a : F} (ha : a.rid < R') (hR : R ≤ R') : ∀ b ∈ l ++ [a], b.rid < R' := fun b hb => by
  rcases List.mem_append.1 hb with h1 | h1
  · have := h b h1; omega
  · rw [List.mem_singleton.1 h1]; exact ha
theorem bv_begin {n : Nat} (ok : OkSp ⟨St.new 16 4096 n, []⟩) (D : ByteArray → Int → ByteArray) (k : ByteArray) (E : Int → ByteArray) :
    ∃ s1, (Sl.new 1 16 4096 n).take ⟨5, 1, 3, 1, 0, 0, ⟨#[]⟩, 0, ⟨#[]⟩⟩ = (some ⟨6, 1, 3, 1, 0, 0, ⟨#[]⟩, 0, ⟨#[]⟩⟩, s1) ∧ Bv s1 4096 n 0 (fun _ => 0) D k (fun _ => false) E 2 0 := by
  obtain ⟨s1, e1, h1, d1, z1⟩ := begin_take (by omega) ok D
  refine ⟨s1, e1, h1, fun g _ _ => ?_, fun _ => Int.le_refl _, (by rw [d1]; intro a ha; cases ha), (by rw [d1]; exact Nat.le_refl _)⟩
  unfold got
  rw [z1]; rfl
/-- A record put. -/
theorem Bv.rput {s : Sl} {n m : Nat} {V : ByteArray → Int} {D : ByteArray → Int → ByteArray} {k : ByteArray} {W : Int → Bool} {E : Int → ByteArray} {R : Int} {q : Nat} (h : Bv s 4096 n m V D k W E R q) {rid ver : Int} (hr : 0 ≤ rid ∧ rid ≤ 1000) (hR : R ≤ rid) (hm : m ≤ 30) (hv : 1 ≤ ver ∧ ver < 64) (hz : k.size + 2 + (D k ver).size ≤ 128) :
    ∃ s' a, s.take ⟨1, 1, 3, rid, 0, 1, k, ver, D k ver⟩ = (some a, s') ∧ Bv s' 4096 n (m + 1) (updV V k (max (V k) ver)) D k W E (rid + 1) (q + 1) := by
  have hf := h.fresh hR
  have ha := rq_ask h.b.b (kind := 1) (rid := rid) (key := k) (data := D k ver) (ver := ver) (by omega) (by omega) (by omega) (by omega) (by omega)
  have hd : s.doo (rq 1 rid k (D k ver) ver) = s.put (rq 1 rid k (D k ver) ver) := by unfold Sl.doo; exact if_pos rfl
  obtain ⟨a1, a2, a3⟩ := std_put h.b.sm h.b.sd h.V0 (rid := rid) (ver := ver) (key := k) (by omega) hv hz (s.done ++ [(s.put (rq 1 rid k (D k ver) ver)).1])
  have a4 := std_put_prt h.b.sm h.p (rid := rid) (ver := ver) (key := k) (data := D k ver) (by omega) (by omega) hz
  refine ⟨{ s with z := (s.put (rq 1 rid k (D k ver) ver)).2, done := s.done ++ [(s.put (rq 1 rid k (D k ver) ver)).1] }, _, (take_new ha hf).trans (by rw [hd]), ⟨⟨h.b.b.id, h.b.b.on, h.b.b.inc, h.b.b.floor⟩, a1, a2, h.b.ps, h.b.pg, h.b.nn⟩, a4, fun g => ?_, dn_snoc h.dn (by rw [a3]; show rid < rid + 1; omega) (by omega), ?_⟩
  · unfold updV
    split
    · have := h.V0 k; omega
    · exact h.V0 g
  · show (s.done ++ [_]).length ≤ _
    rw [List.length_append]; have := h.dl; simp; omega
/-- A fragment put. -/
theorem Bv.vput {s : Sl} {n m : Nat} {V : ByteArray → Int} {D : ByteArray → Int → ByteArray} {k : ByteArray} {W : Int → Bool} {E : Int → ByteArray} {R : Int} {q : Nat} (h : Bv s 4096 n m V D k W E R q) {rid ver : Int} (hr : 0 ≤ rid ∧ rid ≤ 1000) (hR : R ≤ rid) (hm : m ≤ 30) (hv : 1 ≤ ver ∧ ver < 64) (hz : k.size + 3 + (E ver).size ≤ 128) :
    ∃ s' a, s.take ⟨1, 1, 3, rid, 0, 2, k, ver, E ver⟩ = (some a, s') ∧ Bv s' 4096 n (m + 1) V D k (updW W ver true) E (rid + 1) (q + 1) := by
  have hf := h.fresh hR
  have ha := pq_ask h.b.b (kind := 1) (rid := rid) (key := k) (data := E ver) (ver := ver) (by omega) (by omega) (by omega) (by omega) (by omega)
  have hd : s.doo (pq 1 rid k (E ver) ver) = s.put (pq 1 rid k (E ver) ver) := by unfold Sl.doo; exact if_pos rfl
  obtain ⟨a1, a2, a3, a4⟩ := prt_put h.b.sm h.b.sd h.p (rid := rid) (ver := ver) (by omega) (by omega) hz (s.done ++ [(s.put (pq 1 rid k (E ver) ver)).1])
  refine ⟨{ s with z := (s.put (pq 1 rid k (E ver) ver)).2, done := s.done ++ [(s.put (pq 1 rid k (E ver) ver)).1] }, _, (take_new ha hf).trans (by rw [hd]), ⟨⟨h.b.b.id, h.b.b.on, h.b.b.inc, h.b.b.floor⟩, a1, a2, h.b.ps, h.b.pg, h.b.nn⟩, a3, h.V0, dn_snoc h.dn (by rw [a4]; show rid < rid + 1; omega) (by omega), ?_⟩
  show (s.done ++ [_]).length ≤ _
  rw [List.length_append]; have := h.dl; simp; omega
/-- A fragment dropped. -/
theorem Bv.vdrop {s : Sl} {n m : Nat} {V : ByteArray → Int} {D : ByteArray → Int → ByteArray} {k : ByteArray} {W : Int → Bool} {E : Int → ByteArray} {R : Int} {q : Nat} (h : Bv s 4096 n m V D k W E R q) {rid ver : Int} (hr : 0 ≤ rid ∧ rid ≤ 1000) (hR : R ≤ rid) (hv : 1 ≤ ver ∧ ver < 64) (hz : k.size ≤ 250) :
    ∃ s' a, s.take ⟨3, 1, 3, rid, 0, 2, k, ver, ⟨#[]⟩⟩ = (some a, s') ∧ Bv s' 4096 n m V D k (updW W ver false) E (rid + 1) (q + 1) := by
  have hf := h.fresh hR
  have ha := pq_ask h.b.b (kind := 3) (rid := rid) (key := k) (data := ⟨#[]⟩) (ver := ver) (by omega) (by omega) (by omega) (by omega) (by show 0 ≤ _; omega)
  have hd : s.doo (pq 3 rid k ⟨#[]⟩ ver) = s.drop (pq 3 rid k ⟨#[]⟩ ver) := by unfold Sl.doo; rw [if_neg (by show ¬ (3 : Int) = 1; omega), if_neg (by show ¬ (3 : Int) = 2; omega)]; exact if_pos rfl
  obtain ⟨a1, a2, a3⟩ := prt_drop h.b.sm h.b.sd h.p (rid := rid) (ver := ver) (data := ⟨#[]⟩) (s.done ++ [(s.drop (pq 3 rid k ⟨#[]⟩ ver)).1])
  have a4 := (h.b.sm.drop (pq 3 rid k ⟨#[]⟩ ver) []).2.1
  refine ⟨{ s with z := (s.drop (pq 3 rid k ⟨#[]⟩ ver)).2, done := s.done ++ [(s.drop (pq 3 rid k ⟨#[]⟩ ver)).1] }, _, (take_new ha hf).trans (by rw [hd]), ⟨⟨h.b.b.id, h.b.b.on, h.b.b.inc, h.b.b.floor⟩, a1, a2, h.b.ps, h.b.pg, h.b.nn⟩, a3, h.V0, dn_snoc h.dn (by rw [a4]; show rid < rid + 1; omega) (by omega), ?_⟩
  show (s.done ++ [_]).length ≤ _
  rw [List.length_append]; have := h.dl; simp; omega
/-- A fragment got. -/
theorem Bv.vget {s : Sl} {n m : Nat} {V : ByteArray → Int} {D : ByteArray → Int → ByteArray} {k : ByteArray} {W : Int → Bool} {E : Int → ByteArray} {R : Int} {q : Nat} (h : Bv s 4096 n m V D k W E R q) {rid ver : Int} (hr : 0 ≤ rid ∧ rid ≤ 1000) (hR : R ≤ rid) (hv : 1 ≤ ver ∧ ver < 64) (hz : k.size ≤ 250) :
    ∃ s', s.take ⟨2, 1, 3, rid, 0, 2, k, ver, ⟨#[]⟩⟩ = (some ⟨6, 1, 3, rid, 0, 2, k, if W ver then ver else 0, if W ver then E ver else ⟨#[]⟩⟩, s') ∧ Bv s' 4096 n m V D k W E (rid + 1) (q + 1) := by
  have hf := h.fresh hR
  have ha := pq_ask h.b.b (kind := 2) (rid := rid) (key := k) (data := ⟨#[]⟩) (ver := ver) (by omega) (by omega) (by omega) (by omega) (by show 0 ≤ _; omega)
  have hd : s.doo (pq 2 rid k ⟨#[]⟩ ver) = s.get (pq 2 rid k ⟨#[]⟩ ver) := by unfold Sl.doo; rw [if_neg (by show ¬ (2 : Int) = 1; omega)]; exact if_pos rfl
  obtain ⟨a1, a2, a3, a4⟩ := prt_get h.b.sm h.b.sd h.p (rid := rid) (ver := ver) (s.done ++ [(s.get (pq 2 rid k ⟨#[]⟩ ver)).1])
  have a5 : (s.get (pq 2 rid k ⟨#[]⟩ ver)).1 = ⟨6, 1, 3, rid, 0, 2, k, if W ver then ver else 0, if W ver then E ver else ⟨#[]⟩⟩ := by
    rw [a4]; unfold Sl.an; rw [h.b.b.id, h.b.b.inc]
    cases W ver <;> rfl
  refine ⟨{ s with z := (s.get (pq 2 rid k ⟨#[]⟩ ver)).2, done := s.done ++ [(s.get (pq 2 rid k ⟨#[]⟩ ver)).1] }, (take_new ha hf).trans (by rw [hd, a5]), ⟨⟨h.b.b.id, h.b.b.on, h.b.b.inc, h.b.b.floor⟩, a1, a2, h.b.ps, h.b.pg, h.b.nn⟩, a3, h.V0, dn_snoc h.dn (by rw [a5]; show rid < rid + 1; omega) (by omega), ?_⟩
  show (s.done ++ [_]).length ≤ _
  rw [List.length_append]; have := h.dl; simp; omega
/-- The record got. -/
theorem Bv.rget {s : Sl} {n m : Nat} {V : ByteArray → Int} {D : ByteArray → Int → ByteArray} {k : ByteArray} {W : Int → Bool} {E : Int → ByteArray} {R : Int} {q : Nat} (h : Bv s 4096 n m V D k W E R q) {rid : Int} (hr : 0 ≤ rid ∧ rid ≤ 1000) (hR : R ≤ rid) (hz : k.size ≤ 250) :
    ∃ s', s.take ⟨2, 1, 3, rid, 0, 1, k, 0, ⟨#[]⟩⟩ = (some ⟨6, 1, 3, rid, 0, 1, k, V k, if V k = 0 then ⟨#[]⟩ else D k (V k)⟩, s') := by
  obtain ⟨s', e, _⟩ := get_take h.b (rid := rid) (key := k) (by omega) hz (h.fresh hR)
  exact ⟨s', e⟩
end Go.Proofs.YtfinaichajbnkaaGreatDoor
