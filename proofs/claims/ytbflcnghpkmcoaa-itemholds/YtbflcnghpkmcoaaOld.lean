/-
  ITEMOLDEST walked.
-/
import Derived.Test.YtbflcnghpkmcoaaPins
namespace Go.Proofs.Ytbflcnghpkmcoaa
open Go.RowKit

/-- Whole numbers that lie at a. -/
def IntsF (w : World) (a : Option Addr) (N : Nat → Int) (n : Nat) : Prop := n = 0 ∨ ∃ p off, a = some ⟨p, off, none⟩ ∧ ∀ i, i < n → w.cell? ⟨p, off + i, none⟩ = some (.int .i64 (N i))
theorem IntsF.up {w w' : World} {a : Option Addr} {N : Nat → Int} {n : Nat} (h : IntsF w a N n) (hb : Below w.heap.size w w') : IntsF w' a N n := by
  rcases h with h | ⟨p, off, e, hr⟩
  · exact .inl h
  · exact .inr ⟨p, off, e, fun i hi => cell_up hb (hr i hi)⟩
/-- All but a key. -/
def wo (ks : List ByteArray) (k : ByteArray) : List ByteArray := ks.filter fun q => decide (q ≠ k)
/-- The keys behind a touch. -/
def nextK (n : Nat) (ks : List ByteArray) (k : ByteArray) : List ByteArray := (k :: wo ks k).take n
/-- A store of one class, none pinned, with these keys. -/
structure Fresh (n : Nat) (ks : List ByteArray) (z : Sp) : Prop where
  one : One n z
  up : ∀ i ∈ z.l, i.pin = false
  ks : z.l.map It.key = ks
/-- Is it among them? -/
def inK (ks : List ByteArray) (k : ByteArray) : Bool := ks.any fun q => decide (q = k)
theorem inK_iff {ks : List ByteArray} {k : ByteArray} : inK ks k = true ↔ k ∈ ks := by
  unfold inK
  rw [List.any_eq_true]
  exact ⟨fun ⟨q, hq, e⟩ => by have e : q = k := by simpa using e
                              rw [← e]; exact hq, fun h => ⟨k, h, by simp⟩⟩
theorem Fresh.there {n : Nat} {ks : List ByteArray} {z : Sp} (h : Fresh n ks z) (k : ByteArray) : (fnd z.l k).isSome = inK ks k := by
  by_cases e : k ∈ ks
  · rw [inK_iff.2 e]
    rw [← h.ks] at e
    obtain ⟨i, hi, rfl⟩ := List.mem_map.1 e
    rw [fnd_mk h.one.ok.ndk hi]; rfl
  · rw [show inK ks k = false by
      cases e2 : inK ks k with
      | false => rfl
      | true => exact absurd (inK_iff.1 e2) e, fnd_no (fun i hi e2 => e (by rw [← h.ks, ← e2]; exact List.mem_map_of_mem hi))]; rfl
theorem wo_but (l : List It) (k : ByteArray) : (but l k).map It.key = wo (l.map It.key) k := by
  unfold but wo
  rw [List.filter_map]; rfl
theorem wo_no {ks : List ByteArray} {k : ByteArray} (h : k ∉ ks) : wo ks k = ks := by
  unfold wo; exact List.filter_eq_self.2 (fun q hq => by simp; exact fun e => h (e ▸ hq))
theorem Fresh.old {n : Nat} {ks : List ByteArray} {z : Sp} (h : Fresh n ks z) {k : ByteArray} (hk : k ∈ ks) : Fresh n (nextK n ks k) (z.touch k) ∧ (k :: wo ks k).length ≤ n := by
  rw [← h.ks] at hk
  obtain ⟨i, hi, rfl⟩ := List.mem_map.1 hk
  have hf := fnd_mk h.one.ok.ndk hi
  have ht : z.touch i.key = ⟨z.s, i :: but z.l i.key⟩ := by unfold Sp.touch; rw [hf]
  have h1 := h.one.touch i.key
  have hl : (i.key :: wo ks i.key).length ≤ n := by
    rw [← h.ks, ← wo_but, List.length_cons, List.length_map, but_len h.one.ok.ndk hi]; exact h.one.le
  refine ⟨⟨h1, fun j hj => ?_, ?_⟩, hl⟩
  · rw [ht] at hj
    rcases List.mem_cons.1 hj with rfl | hj
    · exact h.up _ hi
    · exact h.up _ (mem_but.1 hj).1
  · rw [ht]
    show i.key :: (but z.l i.key).map It.key = _
    rw [wo_but, h.ks]
    unfold nextK
    rw [List.take_of_length_le hl]
theorem Fresh.new {n : Nat} {ks : List ByteArray} {z : Sp} (h : Fresh n ks z) (hn : 1 ≤ n) {k : ByteArray} (hk : k ∉ ks) (hs : (k ++ dX).size ≤ 64) : z.touch k = z ∧ ∃ wl z', z.put k dX false = (wl, 0, z') ∧ Fresh n (nextK n ks k) z' := by
  have hno : ∀ i ∈ z.l, i.key ≠ k := fun i hi e => hk (by rw [← h.ks, ← e]; exact List.mem_map_of_mem hi)
  refine ⟨by unfold Sp.touch; rw [fnd_no hno], ?_⟩
  have hlen : ks.length = z.l.length := by rw [← h.ks, List.length_map]
  have hle := h.one.le
  by_cases hl : z.l.length < n
  · obtain ⟨z', i, h1, h2, h3, h4, h5, _⟩ := h.one.put_room (pin := false) hs hno hl
    refine ⟨_, z', h1, h2, fun j hj => ?_, ?_⟩
    · rw [h3] at hj
      rcases List.mem_cons.1 hj with rfl | hj
      · exact h5
      · exact h.up _ hj
    · rw [h3, List.map_cons, h4, h.ks]
      unfold nextK
      rw [wo_no hk, List.take_of_length_le (by rw [List.length_cons]; omega)]
  · have hln : z.l.length = n := by omega
    have hne : z.l ≠ [] := fun e => by rw [e] at hln; simp at hln; omega
    obtain ⟨l', v, hlv⟩ : ∃ l' v, z.l = l' ++ [v] := ⟨z.l.dropLast, z.l.getLast hne, (List.dropLast_concat_getLast hne).symm⟩
    have hv : z.vic 0 = some v := by
      unfold Sp.vic
      rw [List.filter_eq_self.2 (fun i hi => by unfold It.may; rw [h.up i hi, h.one.c0 hi]; rfl), hlv]; simp
    obtain ⟨z', i, h1, h2, h3, h4, h5, _⟩ := h.one.put_goes (pin := false) hs hno hln hv
    refine ⟨_, z', h1, h2, fun j hj => ?_, ?_⟩
    · rw [h3] at hj
      rcases List.mem_cons.1 hj with rfl | hj
      · exact h5
      · exact h.up _ (mem_but.1 hj).1
    · have hb : but z.l v.key = l' := by
        have nd := h.one.ok.ndk
        rw [hlv] at nd ⊢
        rw [but_split nd, List.append_nil]
      rw [h3, List.map_cons, h4, hb]
      unfold nextK
      rw [wo_no hk, ← h.ks, hlv, List.map_append]
      have hl' : n = (l'.map It.key).length + 1 := by rw [← hln, hlv]; simp
      rw [hl', List.take_succ_cons, List.take_left']
      rfl
theorem nextK_len (n : Nat) (ks : List ByteArray) (k : ByteArray) : (nextK n ks k).length ≤ n := by unfold nextK; rw [List.length_take]; omega
/-- The marks of a law's own lists. -/
def T9 (t : Nat × Nat) : Prop := TS t ∨ t.1 = 9
theorem Fr.low {o : Nat → Nat × Nat} {w w' : World} (h : Fr T9 o0 o w w') : Below w.heap.size w w' := h.below (Nat.le_refl _) (fun b _ e => by
  rcases e with e | e
  · exact nT0 e
  · have e : (0 : Nat) = 9 := e; omega)
theorem nT9 (q : Nat) : ¬ TS (9, q) := fun h => absurd h.2 (show ¬ (9 : Nat) ≤ 3 by decide)
theorem wo_take {ks : List ByteArray} {q : ByteArray} {j : Nat} (hq : ks[j]? = some q) : ks.take (j + 1) = ks.take j ++ [q] := by
  rw [List.take_add_one, hq]; rfl
end Go.Proofs.Ytbflcnghpkmcoaa
