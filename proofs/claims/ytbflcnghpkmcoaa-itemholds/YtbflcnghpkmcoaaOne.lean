/-
  STORES OF ONE CLASS, one chunk a page: how many have room, who goes.
-/
import Derived.Test.YtbflcnghpkmcoaaItem
namespace Go.Proofs.Ytbflcnghpkmcoaa

structure One (n : Nat) (z : Sp) : Prop where
  ok : OkSp z
  c1 : z.s.n = 1
  pg : z.s.page = 64
  ps : z.s.pages = n
theorem One.new {n : Nat} (h : Ok (St.new n 64 1)) : One n ⟨St.new n 64 1, []⟩ := ⟨OkSp.new h, rfl, rfl, rfl⟩
theorem One.cls {n : Nat} {z : Sp} (h : One n z) {len : Nat} (hl : len ≤ 64) : clsOf z.s len = some 0 := by
  unfold clsOf
  rw [h.c1, List.find?_range_eq_some]
  refine ⟨?_, by simp, fun j hj => by omega⟩
  have e : sz 0 = 64 := rfl
  simp; omega
theorem One.c0 {n : Nat} {z : Sp} (h : One n z) {i : It} (hi : i ∈ z.l) : i.c = 0 := by
  have := (h.ok.live i hi).1
  rw [h.c1] at this; omega
theorem One.cnt {n : Nat} {z : Sp} (h : One n z) : z.l.length + (z.s.fr 0).length + z.s.left = n := by
  have h1 := h.ok.cnt 0 (by rw [h.c1]; omega)
  have h2 := h.ok.ok.len 0 (by rw [h.c1]; omega)
  have h3 := h.ok.ok.sum
  have hp : z.s.per 0 = 1 := by unfold St.per; rw [h.pg]; rfl
  rw [h.c1, h.ps] at h3
  have e3 : sumN z.s.pg 1 = z.s.pg 0 := by simp [sumN]
  rw [List.filter_eq_self.2 (fun i hi => by simp [h.c0 hi])] at h1
  rw [hp] at h2
  omega
theorem One.full {n : Nat} {z : Sp} (h : One n z) : (z.s.fr 0 = [] ∧ z.s.left = 0) ↔ z.l.length = n := by
  have := h.cnt
  constructor
  · rintro ⟨h1, h2⟩; rw [h1] at this; simp at this; omega
  · intro h1
    exact ⟨List.eq_nil_of_length_eq_zero (by omega), by omega⟩
theorem One.le {n : Nat} {z : Sp} (h : One n z) : z.l.length ≤ n := by have := h.cnt; omega
theorem One.touch {n : Nat} {z : Sp} (h : One n z) (key : ByteArray) : One n (z.touch key) := by
  refine ⟨h.ok.touch key, ?_, ?_, ?_⟩ <;> unfold Sp.touch <;> split
  · exact h.c1
  · exact h.c1
  · exact h.pg
  · exact h.pg
  · exact h.ps
  · exact h.ps
theorem One.pin {n : Nat} {z : Sp} (h : One n z) (key : ByteArray) (b : Bool) : One n (z.pin key b) := ⟨h.ok.pin key b, h.c1, h.pg, h.ps⟩
theorem One.rm {n : Nat} {z : Sp} (h : One n z) {i : It} (hi : i ∈ z.l) : One n (z.rm i) := by
  obtain ⟨q1, q2, q3, _⟩ := z.s.free_same i.c i.k
  exact ⟨h.ok.rm hi, q1.trans h.c1, q3.trans h.pg, q2.trans h.ps⟩
theorem Sp.drop_none {z : Sp} {key : ByteArray} (h : ∀ i ∈ z.l, i.key ≠ key) : z.drop key = z := by
  unfold Sp.drop; rw [fnd_no h]
/-- One more item. -/
theorem One.add {n : Nat} {z : Sp} (h : One n z) {key d : ByteArray} {pin : Bool} (hs : (key ++ d).size ≤ 64) (hk : ∀ i ∈ z.l, i.key ≠ key) (hl : z.l.length < n) : One n (z.add key d pin) ∧ ∃ i : It, (z.add key d pin).l = i :: z.l ∧ i.key = key ∧ i.pin = pin ∧ i.d = d := by
  have hc := h.cls hs
  have hf : ¬ (z.s.fr 0 = [] ∧ z.s.left = 0) := fun x => by have := h.full.1 x; omega
  have hok := h.ok.add (pin := pin) hc hk hf
  rcases St.alloc_ways h.ok.ok hc with ⟨q1, q2, _⟩ | ⟨_, k, s', he, tk, _⟩
  · exact absurd ⟨q1, q2⟩ hf
  · refine ⟨⟨hok, ?_, ?_, ?_⟩, _, rfl, rfl, rfl, rfl⟩
    · show (z.s.alloc _).2.n = 1; rw [he]; exact tk.n.trans h.c1
    · show (z.s.alloc _).2.page = 64; rw [he]; exact tk.page.trans h.pg
    · show (z.s.alloc _).2.pages = n; rw [he]; exact tk.pages.trans h.ps
theorem One.full6 {n : Nat} {z : Sp} (h : One n z) {t : ByteArray} (hs : t.size ≤ 64) : (z.s.alloc t).1.2.2 = 6 ↔ z.l.length = n := by
  have hc := h.cls hs
  rw [← h.full]
  rcases St.alloc_ways h.ok.ok hc with ⟨q1, q2, q3⟩ | ⟨hf, k, s', he, _⟩
  · rw [q3]; exact ⟨fun _ => ⟨q1, q2⟩, fun _ => rfl⟩
  · rw [he]; exact ⟨fun x => (by cases x), fun x => absurd x hf⟩
/-- Put where there is room. -/
theorem One.put_room {n : Nat} {z : Sp} (h : One n z) {key d : ByteArray} {pin : Bool} (hs : (key ++ d).size ≤ 64) (hk : ∀ i ∈ z.l, i.key ≠ key) (hl : z.l.length < n) :
    ∃ z' i, z.put key d pin = ([], 0, z') ∧ One n z' ∧ z'.l = i :: z.l ∧ i.key = key ∧ i.pin = pin ∧ i.d = d := by
  obtain ⟨h1, i, h2, h3, h4, h5⟩ := h.add (pin := pin) hs hk hl
  refine ⟨_, i, ?_, h1, h2, h3, h4, h5⟩
  unfold Sp.put
  rw [Sp.drop_none hk]
  unfold Sp.put1
  rw [h.cls hs]
  simp only
  rw [if_neg (fun x => by have := (h.full6 hs).1 x; omega)]
/-- Put where there is none, and none may go. -/
theorem One.put_full {n : Nat} {z : Sp} (h : One n z) {key d : ByteArray} {pin : Bool} (hs : (key ++ d).size ≤ 64) (hk : ∀ i ∈ z.l, i.key ≠ key) (hl : z.l.length = n) (hp : ∀ i ∈ z.l, i.pin = true) : z.put key d pin = ([], 6, z) := by
  unfold Sp.put
  rw [Sp.drop_none hk]
  unfold Sp.put1
  rw [h.cls hs]
  simp only
  rw [if_pos ((h.full6 hs).2 hl)]
  have : z.vic 0 = none := by
    unfold Sp.vic
    rw [List.filter_eq_nil_iff.2 (fun i hi => by unfold It.may; rw [hp i hi]; simp)]; rfl
  rw [this]
theorem but_len {l : List It} (hn : (l.map It.key).Nodup) {v : It} (hv : v ∈ l) : (but l v.key).length + 1 = l.length := by
  obtain ⟨pre, post, rfl⟩ := List.append_of_mem hv
  rw [but_split hn]; simp; omega
/-- Put where one goes. -/
theorem One.put_goes {n : Nat} {z : Sp} (h : One n z) {key d : ByteArray} {pin : Bool} (hs : (key ++ d).size ≤ 64) (hk : ∀ i ∈ z.l, i.key ≠ key) (hl : z.l.length = n) {v : It} (hv : z.vic 0 = some v) :
    ∃ z' i, z.put key d pin = ([v.key], 0, z') ∧ One n z' ∧ z'.l = i :: but z.l v.key ∧ i.key = key ∧ i.pin = pin ∧ i.d = d := by
  obtain ⟨v1, v2, v3⟩ := vic_some hv
  have h' := h.rm v1
  have hlen := but_len h.ok.ndk v1
  obtain ⟨h1, i, h2, h3, h4, h5⟩ := h'.add (pin := pin) hs (but_no (v := v) hk) (by show (but z.l v.key).length < n; omega)
  refine ⟨_, i, ?_, h1, h2, h3, h4, h5⟩
  unfold Sp.put
  rw [Sp.drop_none hk]
  unfold Sp.put1
  rw [h.cls hs]
  simp only
  rw [if_pos ((h.full6 hs).2 hl), hv]
end Go.Proofs.Ytbflcnghpkmcoaa
