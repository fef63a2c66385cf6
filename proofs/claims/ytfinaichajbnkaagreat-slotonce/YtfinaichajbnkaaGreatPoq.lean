/-
  ONCE, plainly: requests with numbers of their own, each sent any number of times.
-/
import Derived.Test.YtfinaichajbnkaaGreatPsq
namespace Go.Proofs.YtfinaichajbnkaaGreat
open Wi (F)

/-- What is put under a key. -/
def vk (k : ByteArray) : ByteArray := (⟨#[118]⟩ : ByteArray) ++ k
def DV : ByteArray → Int → ByteArray := fun k _ => vk k
theorem vk_size (k : ByteArray) : (vk k).size = k.size + 1 := by
  unfold vk; rw [ByteArray.size_append]; have e : (⟨#[118]⟩ : ByteArray).size = 1 := rfl; omega
/-- Which kind the i-th request is of. -/
def kd (i : Nat) : Int := if i % 4 = 3 then 3 else 1
/-- The i-th request. -/
def oq (i : Nat) (k : ByteArray) : F := ⟨kd i, 1, 3, 10 + (i : Int), 0, 1, k, (i : Int) + 1, vk k⟩
theorem oq_rq (i : Nat) (k : ByteArray) : oq i k = rq (kd i) (10 + (i : Int)) k (vk k) ((i : Int) + 1) := rfl
/-- What stands there once the i-th request is done. -/
def oV (V : ByteArray → Int) (i : Nat) (k : ByteArray) : ByteArray → Int := if i % 4 = 3 then updV V k (if V k ≤ (i : Int) + 1 then 0 else V k) else updV V k (max (V k) ((i : Int) + 1))
/-- The slot behind some requests of keys ks: which are done, what each was told. -/
structure Oq (s : Sl) (n : Nat) (ks : List ByteArray) (wl : List Bool) (tl : List F) (V : ByteArray → Int) : Prop where
  b : ∃ m, Bgn s 8 4096 n m V DV ∧ m ≤ wl.countP id
  V0 : ∀ k, 0 ≤ V k
  sz : ∀ k ∈ ks, k.size ≤ 60
  kl : ks.length ≤ 12
  lw : wl.length = ks.length
  lt : tl.length = ks.length
  yes : ∀ i : Nat, wl[i]? = some true → ∃ a, tl[i]? = some a ∧ s.done.find? (fun a => a.rid == 10 + (i : Int)) = some a
  no : ∀ i : Nat, wl[i]? = some false → s.done.find? (fun a => a.rid == 10 + (i : Int)) = none
  dn : ∀ a ∈ s.done, a.rid < 100
  dl : s.done.length ≤ wl.countP id
theorem kd_bd (i : Nat) : 1 ≤ kd i ∧ kd i ≤ 3 := by unfold kd; split <;> omega
theorem Oq.begin {n : Nat} (ok : OkSp ⟨St.new 8 4096 n, []⟩) : ∃ s1, (Sl.new 1 8 4096 n).take ⟨5, 1, 3, 1, 0, 0, ⟨#[]⟩, 0, ⟨#[]⟩⟩ = (some ⟨6, 1, 3, 1, 0, 0, ⟨#[]⟩, 0, ⟨#[]⟩⟩, s1) ∧ s1.done = [] ∧ Bgn s1 8 4096 n 0 (fun _ => 0) DV := by
  obtain ⟨s1, e1, h1, d1, _⟩ := begin_take (by omega) ok DV
  exact ⟨s1, e1, d1, h1⟩
theorem Oq.start {s : Sl} {n : Nat} (h : Bgn s 8 4096 n 0 (fun _ => 0) DV) (hd : s.done = []) {ks : List ByteArray} (hz : ∀ k ∈ ks, k.size ≤ 60) (hl : ks.length ≤ 12) : Oq s n ks (List.replicate ks.length false) (List.replicate ks.length Wi.Z) (fun _ => 0) := by
  refine ⟨⟨0, h, Nat.zero_le _⟩, fun _ => Int.le_refl _, hz, hl, by simp, by simp, fun i hi => ?_, fun i _ => by rw [hd]; rfl, by rw [hd]; intro a ha; simp at ha, by rw [hd]; exact Nat.zero_le _⟩
  rw [List.getElem?_replicate] at hi
  split at hi
  · injection hi with hi; cases hi
  · cases hi
theorem Oq.ask {s : Sl} {n : Nat} {ks : List ByteArray} {wl : List Bool} {tl : List F} {V : ByteArray → Int} (h : Oq s n ks wl tl V) {i : Nat} {k : ByteArray} (hk : ks[i]? = some k) : Ask s (oq i k) := by
  obtain ⟨m, b, _⟩ := h.b
  have hi := (List.getElem?_eq_some_iff.1 hk).1
  have h1 := h.kl
  have h2 := h.sz k (List.mem_of_getElem? hk)
  rw [oq_rq]
  exact rq_ask b.b (kd_bd i) (by omega) (by omega) (by omega) (by rw [vk_size]; omega)
/-- Sent again. -/
theorem Oq.again {s : Sl} {n : Nat} {ks : List ByteArray} {wl : List Bool} {tl : List F} {V : ByteArray → Int} (h : Oq s n ks wl tl V) {i : Nat} {k : ByteArray} (hk : ks[i]? = some k) (hw : wl[i]? = some true) : ∃ a, tl[i]? = some a ∧ s.take (oq i k) = (some a, s) := by
  obtain ⟨a, h1, h2⟩ := h.yes i hw
  exact ⟨a, h1, take_done (h.ask hk) h2⟩
theorem count_set {wl : List Bool} {i : Nat} (hw : wl[i]? = some false) : (wl.set i true).countP id = wl.countP id + 1 := by
  induction wl generalizing i with
  | nil => simp at hw
  | cons x l ih =>
    cases i with
    | zero =>
      simp at hw
      subst hw
      simp [List.set]
    | succ i =>
      simp only [List.getElem?_cons_succ] at hw
      have := ih hw
      rw [List.set_cons_succ, List.countP_cons, List.countP_cons, this]
      omega
theorem count_lt {wl : List Bool} {i : Nat} (hw : wl[i]? = some false) : wl.countP id < wl.length := by
  have h1 := count_set hw
  have h2 := List.countP_le_length (p := id) (l := wl.set i true)
  rw [List.length_set] at h2
  omega
/-- Sent for the first time. -/
theorem Oq.first {s : Sl} {n : Nat} {ks : List ByteArray} {wl : List Bool} {tl : List F} {V : ByteArray → Int} (h : Oq s n ks wl tl V) {i : Nat} {k : ByteArray} (hk : ks[i]? = some k) (hw : wl[i]? = some false) : ∃ s' a, s.take (oq i k) = (some a, s') ∧ Oq s' n ks (wl.set i true) (tl.set i a) (oV V i k) := by
  obtain ⟨m, b, hm⟩ := h.b
  have hi := (List.getElem?_eq_some_iff.1 hk).1
  have h1 := h.kl
  have h2 := h.sz k (List.mem_of_getElem? hk)
  have hf := h.no i hw
  have hc := count_lt hw
  have hcs := count_set hw
  have hwl := h.lw
  have key : ∃ s' a, s.take (oq i k) = (some a, s') ∧ (∃ m', Bgn s' 8 4096 n m' (oV V i k) DV ∧ m' ≤ wl.countP id + 1) ∧ s'.done = s.done ++ [a] ∧ a.rid = 10 + (i : Int) := by
    rw [oq_rq]
    by_cases h4 : i % 4 = 3
    · have e1 : kd i = 3 := by unfold kd; rw [if_pos h4]
      have e2 : oV V i k = updV V k (if V k ≤ (i : Int) + 1 then 0 else V k) := by unfold oV; rw [if_pos h4]
      rw [e1, e2]
      obtain ⟨s', ht, hb, hd⟩ := drop_take b (rid := 10 + (i : Int)) (ver := (i : Int) + 1) (key := k) (data := vk k) (by omega) (by omega) ⟨by omega, by rw [vk_size]; omega⟩ hf
      exact ⟨s', _, ht, ⟨m, hb, by omega⟩, hd, rfl⟩
    · have e1 : kd i = 1 := by unfold kd; rw [if_neg h4]
      have e2 : oV V i k = updV V k (max (V k) ((i : Int) + 1)) := by unfold oV; rw [if_neg h4]
      rw [e1, e2]
      obtain ⟨s', ht, hb, hd⟩ := put_take b h.V0 (rid := 10 + (i : Int)) (ver := (i : Int) + 1) (key := k) (by omega) (by omega) (by omega) (by show k.size + 2 + (vk k).size ≤ 128; rw [vk_size]; omega) hf
      exact ⟨s', _, ht, ⟨m + 1, hb, by omega⟩, hd, rfl⟩
  obtain ⟨s', a, ht, ⟨m', hb, hm'⟩, hd, hr⟩ := key
  refine ⟨s', a, ht, ⟨m', hb, by rw [hcs]; exact hm'⟩, fun k' => ?_, h.sz, h.kl, by rw [List.length_set]; exact h.lw, by rw [List.length_set]; exact h.lt, fun j hj => ?_, fun j hj => ?_, fun x hx => ?_, by rw [hd, List.length_append, hcs]; have := h.dl; simp; omega⟩
  · have := h.V0 k'
    have := h.V0 k
    unfold oV updV
    split <;> dsimp only <;> split <;> (try split) <;> omega
  · by_cases e : i = j
    · subst e
      exact ⟨a, by rw [List.getElem?_set_self (by rw [h.lt]; exact hi)], by rw [hd]; exact done_again (f := oq i k) hf a hr⟩
    · rw [List.getElem?_set_ne e] at hj ⊢
      obtain ⟨x, h3, h4⟩ := h.yes j hj
      exact ⟨x, h3, by rw [hd, done_other a (by rw [hr]; omega)]; exact h4⟩
  · by_cases e : i = j
    · subst e
      rw [List.getElem?_set_self (by rw [hwl]; exact hi)] at hj
      injection hj with hj; cases hj
    · rw [List.getElem?_set_ne e] at hj
      rw [hd, done_other a (by rw [hr]; omega)]
      exact h.no j hj
  · rw [hd] at hx
    rcases List.mem_append.1 hx with hx | hx
    · exact h.dn x hx
    · rw [List.mem_singleton.1 hx, hr]; omega
/-- What stands there in the end, asked one behind the other. -/
structure Og (s : Sl) (n : Nat) (V : ByteArray → Int) (j : Nat) : Prop where
  b : ∃ m, Bgn s 8 4096 n m V DV
  dn : ∀ a ∈ s.done, a.rid < 100 + (j : Int)
  dl : s.done.length ≤ 12 + j
theorem Oq.end {s : Sl} {n : Nat} {ks : List ByteArray} {wl : List Bool} {tl : List F} {V : ByteArray → Int} (h : Oq s n ks wl tl V) : Og s n V 0 := by
  obtain ⟨m, b, _⟩ := h.b
  have h1 := List.countP_le_length (p := id) (l := wl)
  exact ⟨⟨m, b⟩, fun a ha => by have := h.dn a ha; omega, by have := h.dl; have := h.lw; have := h.kl; omega⟩
theorem Og.get {s : Sl} {n : Nat} {V : ByteArray → Int} {j : Nat} (h : Og s n V j) (hj : j ≤ 1000) {k : ByteArray} (hk : k.size ≤ 60) :
    ∃ s', s.take ⟨2, 1, 3, 100 + (j : Int), 0, 1, k, 0, ⟨#[]⟩⟩ = (some ⟨6, 1, 3, 100 + (j : Int), 0, 1, k, V k, if V k = 0 then ⟨#[]⟩ else vk k⟩, s') ∧ Og s' n V (j + 1) := by
  obtain ⟨m, b⟩ := h.b
  have hf : s.done.find? (fun a => a.rid == 100 + (j : Int)) = none := by
    rw [List.find?_eq_none]
    intro a ha
    have := h.dn a ha
    simp; omega
  obtain ⟨s', e, b', d'⟩ := get_take b (rid := 100 + (j : Int)) (key := k) (by omega) (by omega) hf
  refine ⟨s', e, ⟨m, b'⟩, fun a ha => ?_, by rw [d', List.length_append]; have := h.dl; simp; omega⟩
  rw [d'] at ha
  rcases List.mem_append.1 ha with h1 | h1
  · have := h.dn a h1; omega
  · rw [List.mem_singleton.1 h1]; show 100 + (j : Int) < _; omega
end Go.Proofs.YtfinaichajbnkaaGreat
