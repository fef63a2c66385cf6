/-
  PLAIN DATA: what is handed out is live, once each, with its data; a slab of one class that is filled and emptied.
-/
import Derived.Test.YtjokabpdaihgpaaPure
namespace Go.Proofs.Ytjokabpdaihgpaa

/-- A live chunk: class, number, data. -/
def St.at (s : St) (h : Nat × Nat) (d : ByteArray) : Prop := h.1 < s.n ∧ (s.ch h.1)[h.2]? = some (true, d)
theorem St.at_has {s : St} {h : Nat × Nat} {d : ByteArray} (k : s.at h d) : s.has h.1 h.2 = true ∧ s.dat h.1 h.2 = d := St.has_mk k.1 k.2
/-- Alloc: the new one is live, no old one is it, the old ones stay. -/
theorem Ok.alloc_at {s : St} (h : Ok s) (d : ByteArray) {i k : Nat} (e : (s.alloc d).1 = (i, k, 0)) :
    (s.alloc d).2.at (i, k) d ∧ ∀ b x, s.at b x → b ≠ (i, k) ∧ (s.alloc d).2.at b x := by
  obtain ⟨i', s1, h1, hi, hn, _, _, hf, _, hold, hnew, e2, _⟩ := h.alloc_ok d (by rw [e])
  rw [e2] at e
  injection e with e3 e4
  injection e4 with e4 _
  subst e3 e4
  rw [e2]
  obtain ⟨dd, hd⟩ := h1.nxt (by omega) hf
  have hlt := (List.getElem?_eq_some_iff.1 hd).1
  refine ⟨⟨by show i' < s1.n; omega, ?_⟩, fun b x hb => ?_⟩
  · show (upd s1.ch i' _ i')[s1.nxt i']? = _
    rw [upd_same, List.getElem?_set_self hlt]
  · obtain ⟨hb1, hb2⟩ := hb
    have hb3 := hold b.1 b.2 _ hb2
    have hne : b ≠ (i', s1.nxt i') := fun e => by rw [e, hd] at hb3; cases hb3
    refine ⟨hne, by show b.1 < s1.n; omega, ?_⟩
    show (upd s1.ch i' _ b.1)[b.2]? = _
    by_cases e : b.1 = i'
    · rw [e, upd_same, List.getElem?_set_ne (fun e2 => hne (Prod.ext e e2.symm)), ← e]; exact hb3
    · rw [upd_other _ _ _ e]; exact hb3
/-- Free: that one isn't live any more, the others stay. -/
theorem St.free_at {s : St} {c : Nat × Nat} {d : ByteArray} (hc : s.at c d) : (s.free c.1 c.2).has c.1 c.2 = false ∧ ∀ b x, b ≠ c → s.at b x → (s.free c.1 c.2).at b x := by
  have hh := (St.at_has hc).1
  have e0 : s.free c.1 c.2 = { s with ch := upd s.ch c.1 ((s.ch c.1).set c.2 noChunk), fr := upd s.fr c.1 (s.fr c.1 ++ [c.2]) } := by unfold St.free; rw [if_pos hh]; simp
  rw [e0]
  have hlt := (List.getElem?_eq_some_iff.1 hc.2).1
  refine ⟨?_, fun b x hb hx => ⟨hx.1, ?_⟩⟩
  · unfold St.has
    rw [Bool.and_eq_false_iff]; right
    show ((upd s.ch c.1 _ ((c.1 : Int)).toNat).getD ((c.2 : Int)).toNat noChunk).1 = false
    rw [Int.toNat_natCast, Int.toNat_natCast, upd_same, List.getD_eq_getElem?_getD, List.getElem?_set_self hlt]; rfl
  · show (upd s.ch c.1 _ b.1)[b.2]? = _
    by_cases e : b.1 = c.1
    · rw [e, upd_same, List.getElem?_set_ne (fun e2 => hb (Prod.ext e e2.symm)), ← e]; exact hx.2
    · rw [upd_other _ _ _ e]; exact hx.2
theorem sumN_first {f : Nat → Nat} : ∀ {n : Nat}, 0 < n → (∀ j, 0 < j → j < n → f j = 0) → sumN f n = f 0
  | 0, h, _ => by omega
  | 1, _, _ => by simp [sumN]
  | n + 2, _, h => by rw [sumN, sumN_first (n := n + 1) (by omega) (fun j h1 h2 => h j h1 (by omega)), h (n + 1) (by omega) (by omega)]; rfl
/-- A slab whose pages are the first class's. -/
structure One (s : St) (p size : Nat) : Prop where
  ok : Ok s
  hp : s.pages = p
  hs : s.page = size
  pg0 : ∀ j, 0 < j → j < s.n → s.pg j = 0
theorem One.empty {s : St} {p size : Nat} (h : One s p size) {j : Nat} (h1 : 0 < j) (h2 : j < s.n) : s.fr j = [] ∧ (s.ch j).length = 0 := by
  have e := h.ok.len j h2
  rw [h.pg0 j h1 h2, Nat.zero_mul] at e
  have := h.ok.fr2 h2
  exact ⟨List.eq_nil_of_length_eq_zero (by omega), e⟩
theorem One.live {s : St} {p size : Nat} (h : One s p size) : s.live = (s.ch 0).length - (s.fr 0).length :=
  sumN_first h.ok.n0 (fun j h1 h2 => by rw [(h.empty h1 h2).2]; omega)
theorem One.pg {s : St} {p size : Nat} (h : One s p size) : s.pg 0 + s.left = p := by
  have := h.ok.sum
  rw [sumN_first h.ok.n0 h.pg0, h.hp] at this; exact this
theorem One.per {s : St} {p size : Nat} (h : One s p size) : s.per 0 = size / 64 := by unfold St.per; rw [h.hs]; rfl
theorem One.cls {s : St} {p size : Nat} (h : One s p size) {k : Nat} (hk : k ≤ 64) : clsOf s k = some 0 := by
  have : ClsIs s k 0 := .inr ⟨0, rfl, h.ok.n0, by omega, by have e : sz 0 = 64 := rfl; omega, fun j hj => by omega⟩
  rcases clsOf_is this with ⟨e, _⟩ | ⟨i, e, _, h2, _⟩
  · cases e
  · have : i = 0 := by omega
    rw [h2, this]
theorem One.take {s : St} {p size : Nat} (h : One s p size) (d : ByteArray) (hf : s.fr 0 ≠ []) : One (s.take 0 d) p size := ⟨h.ok.take h.ok.n0 hf d, h.hp, h.hs, h.pg0⟩
theorem One.grow {s : St} {p size : Nat} (h : One s p size) (hl : s.left ≠ 0) : One (s.grow 0) p size :=
  ⟨h.ok.grow h.ok.n0 hl, h.hp, h.hs, fun j h1 h2 => by show upd s.pg 0 _ j = 0; rw [upd_other _ _ _ (by omega)]; exact h.pg0 j h1 h2⟩
/-- One more, while there is room. -/
theorem One.more {s : St} {p size : Nat} (h : One s p size) (d : ByteArray) (hd : d.size ≤ 64) (hr : s.live < p * (size / 64)) :
    ∃ k, (s.alloc d).1 = (0, k, 0) ∧ One (s.alloc d).2 p size ∧ (s.alloc d).2.live = s.live + 1 ∧ (s.left = 0 → (s.alloc d).2.left = 0) := by
  have hc := h.cls hd
  have hlive := fun (e : (s.alloc d).1.2.2 = 0) => by
    have := h.ok.wt_alloc d (fun _ => 1)
    rw [St.wt_one, St.wt_one, if_pos e] at this; exact this
  rcases s.alloc_cases d with ⟨e, _⟩ | ⟨i, e, hcase⟩
  · rw [hc] at e; cases e
  · rw [hc] at e; injection e with e; subst e
    rcases hcase with ⟨hf, hl, e⟩ | ⟨hf, hl, e⟩ | ⟨hf, e⟩
    · exfalso
      have h1 := h.live
      have h2 := h.ok.len 0 h.ok.n0
      have h3 := h.pg
      rw [hf, h2, h.per, show s.pg 0 = p by omega] at h1
      simp at h1; omega
    · refine ⟨_, by rw [e], by rw [e]; exact (h.grow hl).take d (St.grow_fr h.ok h.ok.n0), hlive (by rw [e]), fun h0 => absurd h0 hl⟩
    · exact ⟨_, by rw [e], by rw [e]; exact h.take d hf, hlive (by rw [e]), fun h0 => by rw [e]; exact h0⟩
/-- No more, where there is none; then no page is left. -/
theorem One.full {s : St} {p size : Nat} (h : One s p size) (hq : 0 < size / 64) (hr : s.live = p * (size / 64)) : s.left = 0 ∧ ∀ d : ByteArray, d.size ≤ 64 → s.alloc d = ((0, 0, 6), s) := by
  have h1 := h.live
  have h2 := h.ok.len 0 h.ok.n0
  have h3 := h.pg
  have h4 := h.ok.fr2 h.ok.n0
  rw [h.per] at h2
  have hle : s.pg 0 * (size / 64) ≤ p * (size / 64) := Nat.mul_le_mul_right _ (by omega)
  have hf : (s.fr 0).length = 0 := by omega
  have hpg : s.pg 0 * (size / 64) = p * (size / 64) := by omega
  have hp : s.pg 0 = p := Nat.eq_of_mul_eq_mul_right hq hpg
  have hl : s.left = 0 := by omega
  refine ⟨hl, fun d hd => ?_⟩
  have hf : s.fr 0 = [] := List.eq_nil_of_length_eq_zero hf
  unfold St.alloc
  rw [h.cls hd]
  simp only [hf, hl, if_true]
theorem One.other {s : St} {p size : Nat} (h : One s p size) (hs : 128 ≤ size) (hl : s.left = 0) {d : ByteArray} (hd : d.size = 65) : s.alloc d = ((0, 0, 6), s) := by
  have h1 : 1 < s.n := (h.ok.n1 1).2 (by rw [h.hs]; exact hs)
  have hc : ClsIs s d.size 1 := .inr ⟨1, rfl, h1, by omega, by have e : sz 1 = 128 := rfl; omega, fun j hj => by
    have : j = 0 := by omega
    subst this; have e : sz 0 = 64 := rfl; omega⟩
  have hc2 : clsOf s d.size = some 1 := by
    rcases clsOf_is hc with ⟨e, _⟩ | ⟨i, e, _, h2, _⟩
    · cases e
    · have : i = 1 := by omega
      rw [h2, this]
  unfold St.alloc
  rw [hc2]
  simp only [(h.empty (by omega) h1).1, hl, if_true]
theorem One.free {s : St} {p size : Nat} (h : One s p size) (c k : Int) (hh : s.has c k = true) : One (s.free c k) p size ∧ (s.free c k).live + 1 = s.live ∧ (s.free c k).left = s.left := by
  have e := s.free_same c k
  refine ⟨⟨h.ok.free c k, e.2.1.trans h.hp, e.2.2.1.trans h.hs, fun j h1 h2 => ?_⟩, ?_, e.2.2.2⟩
  · rw [e.1] at h2
    have : (s.free c k).pg = s.pg := by unfold St.free; split <;> rfl
    rw [this]; exact h.pg0 j h1 h2
  · have := h.ok.wt_free c k (fun _ => 1)
    rw [St.wt_one, St.wt_one, if_pos hh] at this; exact this
theorem One.new {p size n : Nat} (h : Ok (St.new p size n)) : One (St.new p size n) p size ∧ (St.new p size n).live = 0 :=
  ⟨⟨h, rfl, rfl, fun _ _ _ => rfl⟩, sumN_zero (fun _ _ => rfl)⟩
end Go.Proofs.Ytjokabpdaihgpaa
