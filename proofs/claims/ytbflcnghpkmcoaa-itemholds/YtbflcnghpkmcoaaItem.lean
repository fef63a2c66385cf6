/-
  A STORE AS PLAIN DATA: a slab and its items, the one that was touched last first; what Put, Get, Pin, Drop make of it; what always holds.
-/
import Derived.Test.YtbflcnghpkmcoaaSPure
namespace Go.Proofs.Ytbflcnghpkmcoaa

/-- An item: its key, its chunk, whether it is pinned, its data. -/
structure It where
  key : ByteArray
  c : Nat
  k : Nat
  pin : Bool
  d : ByteArray
structure Sp where
  s : St
  l : List It
/-- The item of a key. -/
def fnd (l : List It) (key : ByteArray) : Option It := l.find? (fun i => decide (i.key = key))
/-- All but a key's. -/
def but (l : List It) (key : ByteArray) : List It := l.filter (fun i => decide (i.key ≠ key))
/-- An item goes. -/
def Sp.rm (z : Sp) (i : It) : Sp := ⟨z.s.free i.c i.k, but z.l i.key⟩
def Sp.drop (z : Sp) (key : ByteArray) : Sp := match fnd z.l key with
  | none => z
  | some i => z.rm i
/-- It is touched. -/
def Sp.touch (z : Sp) (key : ByteArray) : Sp := match fnd z.l key with
  | none => z
  | some i => ⟨z.s, i :: but z.l key⟩
def It.pinned (i : It) (key : ByteArray) (b : Bool) : It := if i.key = key then { i with pin := b } else i
def Sp.pin (z : Sp) (key : ByteArray) (b : Bool) : Sp := ⟨z.s, z.l.map fun i => i.pinned key b⟩
/-- May it go for one of that class? -/
def It.may (c : Nat) (i : It) : Bool := decide (i.c = c) && !i.pin
/-- Which one goes. -/
def Sp.vic (z : Sp) (c : Nat) : Option It := (z.l.filter (It.may c)).getLast?
/-- One is put ahead. -/
def Sp.add (z : Sp) (key d : ByteArray) (pin : Bool) : Sp := ⟨(z.s.alloc (key ++ d)).2, ⟨key, (z.s.alloc (key ++ d)).1.1, (z.s.alloc (key ++ d)).1.2.1, pin, d⟩ :: z.l⟩
/-- Put of a key that isn't there: who went, the error, what it leaves. -/
def Sp.put1 (z : Sp) (key d : ByteArray) (pin : Bool) : List ByteArray × Nat × Sp := match clsOf z.s (key ++ d).size with
  | none => ([], 2, z)
  | some c => if (z.s.alloc (key ++ d)).1.2.2 = 6 then (match z.vic c with
      | none => ([], 6, z)
      | some v => ([v.key], 0, (z.rm v).add key d pin)) else ([], 0, z.add key d pin)
def Sp.put (z : Sp) (key d : ByteArray) (pin : Bool) : List ByteArray × Nat × Sp := (z.drop key).put1 key d pin
def Sp.keys (z : Sp) : List ByteArray := z.l.map It.key

/-- What always holds. -/
structure OkSp (z : Sp) : Prop where
  ok : Ok z.s
  live : ∀ i ∈ z.l, i.c < z.s.n ∧ (z.s.ch i.c)[i.k]? = some (true, i.key ++ i.d)
  fit : ∀ i ∈ z.l, (i.key ++ i.d).size ≤ 65536
  ndk : (z.l.map It.key).Nodup
  ndh : (z.l.map fun i => (i.c, i.k)).Nodup
  cnt : ∀ c, c < z.s.n → (z.l.filter fun i => decide (i.c = c)).length + (z.s.fr c).length = (z.s.ch c).length

theorem fnd_some {l : List It} {key : ByteArray} {i : It} (h : fnd l key = some i) : i ∈ l ∧ i.key = key := by
  unfold fnd at h
  exact ⟨List.mem_of_find?_eq_some h, by have := List.find?_some h; simpa using this⟩
theorem fnd_none {l : List It} {key : ByteArray} (h : fnd l key = none) : ∀ i ∈ l, i.key ≠ key := by
  intro i hi e
  unfold fnd at h
  rw [List.find?_eq_none] at h
  have := h i hi
  simp [e] at this
theorem fnd_split {l : List It} {key : ByteArray} {i : It} (h : fnd l key = some i) : ∃ pre post, l = pre ++ i :: post ∧ i.key = key ∧ ∀ j ∈ pre, j.key ≠ key := by
  unfold fnd at h
  obtain ⟨h1, pre, post, h2, h3⟩ := List.find?_eq_some_iff_append.1 h
  exact ⟨pre, post, h2, by simpa using h1, fun j hj => by have := h3 j hj; simpa using this⟩
/-- In a list without a key twice: the one, and all others. -/
theorem nd_parts {pre post : List It} {i : It} (h : ((pre ++ i :: post).map It.key).Nodup) : (∀ j ∈ pre, j.key ≠ i.key) ∧ (∀ j ∈ post, j.key ≠ i.key) := by
  rw [List.map_append, List.map_cons] at h
  have h1 := List.nodup_append.1 h
  have h2 := List.nodup_cons.1 h1.2.1
  exact ⟨fun j hj e => h1.2.2 _ (List.mem_map_of_mem hj) _ List.mem_cons_self e, fun j hj e => h2.1 (e ▸ List.mem_map_of_mem hj)⟩
theorem but_split {pre post : List It} {i : It} (h : ((pre ++ i :: post).map It.key).Nodup) : but (pre ++ i :: post) i.key = pre ++ post := by
  obtain ⟨h1, h2⟩ := nd_parts h
  unfold but
  rw [List.filter_append, List.filter_cons_of_neg (by simp), List.filter_eq_self.2 (fun j hj => by simpa using h1 j hj), List.filter_eq_self.2 (fun j hj => by simpa using h2 j hj)]
theorem but_none {l : List It} {key : ByteArray} (h : ∀ i ∈ l, i.key ≠ key) : but l key = l := by
  unfold but; exact List.filter_eq_self.2 (fun j hj => by simpa using h j hj)
theorem fnd_mk {l : List It} {i : It} (hn : (l.map It.key).Nodup) (h : i ∈ l) : fnd l i.key = some i := by
  obtain ⟨pre, post, rfl⟩ := List.append_of_mem h
  obtain ⟨h1, h2⟩ := nd_parts hn
  unfold fnd
  rw [List.find?_eq_some_iff_append]
  exact ⟨by simp, pre, post, rfl, fun j hj => by simpa using h1 j hj⟩
theorem fnd_no {l : List It} {key : ByteArray} (h : ∀ i ∈ l, i.key ≠ key) : fnd l key = none := by
  unfold fnd; rw [List.find?_eq_none]; intro i hi; simpa using h i hi
theorem mem_but {l : List It} {key : ByteArray} {i : It} : i ∈ but l key ↔ i ∈ l ∧ i.key ≠ key := by unfold but; simp
theorem fnd_but (l : List It) (key : ByteArray) : fnd (but l key) key = none := fnd_no (fun _ hi => (mem_but.1 hi).2)

theorem St.free_at {s : St} {c k : Nat} {d : ByteArray} (hc : c < s.n) (h : (s.ch c)[k]? = some (true, d)) : s.free c k = { s with ch := upd s.ch c ((s.ch c).set k noChunk), fr := upd s.fr c (s.fr c ++ [k]) } := by
  unfold St.free
  rw [if_pos (St.has_mk hc h).1]
  simp only [Int.toNat_natCast]
theorem OkSp.rm {z : Sp} (h : OkSp z) {i : It} (hi : i ∈ z.l) : OkSp (z.rm i) := by
  obtain ⟨pre, post, hl⟩ := List.append_of_mem hi
  have hlv := h.live i hi
  have hf := St.free_at hlv.1 hlv.2
  have ndk := h.ndk
  have ndh := h.ndh
  have hbut : but z.l i.key = pre ++ post := by rw [hl] at ndk ⊢; exact but_split ndk
  have hsub : ∀ j ∈ pre ++ post, j ∈ z.l := fun j hj => by rw [hl]; simp at hj ⊢; rcases hj with hj | hj; exact .inl hj; exact .inr (.inr hj)
  have sub : (pre ++ post).Sublist z.l := by rw [hl]; exact List.Sublist.append (List.Sublist.refl _) (List.sublist_cons_self _ _)
  have hh : ∀ j ∈ pre ++ post, ¬ (j.c = i.c ∧ j.k = i.k) := by
    rw [hl, List.map_append, List.map_cons] at ndh
    have h1 := List.nodup_append.1 ndh
    have h2 := List.nodup_cons.1 h1.2.1
    intro j hj e
    have e2 : (j.c, j.k) = (i.c, i.k) := by rw [e.1, e.2]
    rcases List.mem_append.1 hj with hj | hj
    · exact h1.2.2 _ (List.mem_map_of_mem (f := fun i : It => (i.c, i.k)) hj) _ List.mem_cons_self e2
    · have := List.mem_map_of_mem (f := fun i : It => (i.c, i.k)) hj
      simp only [e2] at this
      exact h2.1 this
  have hlt := (List.getElem?_eq_some_iff.1 hlv.2).1
  unfold Sp.rm
  rw [hbut]
  refine ⟨h.ok.free _ _, fun j hj => ?_, fun j hj => h.fit j (hsub j hj), ndk.sublist (sub.map _), ndh.sublist (sub.map _), fun c hc => ?_⟩
  · rw [hf]
    have hj1 := h.live j (hsub j hj)
    refine ⟨hj1.1, ?_⟩
    show (upd z.s.ch i.c _ j.c)[j.k]? = _
    by_cases e : j.c = i.c
    · rw [e, upd_same]
      have e2 : i.k ≠ j.k := fun x => hh j hj ⟨e, x.symm⟩
      rw [List.getElem?_set_ne e2, ← e]; exact hj1.2
    · rw [upd_other _ _ _ e]; exact hj1.2
  · rw [hf] at hc ⊢
    have hcn := h.cnt c hc
    show (List.filter _ (pre ++ post)).length + (upd z.s.fr i.c _ c).length = (upd z.s.ch i.c _ c).length
    rw [hl] at hcn
    by_cases e : c = i.c
    · subst e
      rw [upd_same, upd_same, List.length_set, List.length_append]
      rw [List.filter_append, List.filter_cons_of_pos (by simp), List.length_append, List.length_cons] at hcn
      rw [List.filter_append, List.length_append]
      simp only [List.length_cons, List.length_nil]
      omega
    · rw [upd_other _ _ _ e, upd_other _ _ _ e]
      rw [List.filter_append, List.filter_cons_of_neg (by simp; exact fun x => e x.symm)] at hcn
      rw [List.filter_append]; exact hcn
theorem OkSp.drop {z : Sp} (h : OkSp z) (key : ByteArray) : OkSp (z.drop key) := by
  unfold Sp.drop
  split
  · exact h
  · rename_i i hi; exact h.rm (fnd_some hi).1
theorem Sp.drop_l (z : Sp) (key : ByteArray) : (z.drop key).l = but z.l key := by
  unfold Sp.drop
  split
  · rename_i h; exact (but_none (fnd_none h)).symm
  · rename_i i hi; show but z.l i.key = _; rw [(fnd_some hi).2]
theorem OkSp.touch {z : Sp} (h : OkSp z) (key : ByteArray) : OkSp (z.touch key) := by
  unfold Sp.touch
  split
  · exact h
  · rename_i i hi
    obtain ⟨pre, post, hl, hk, _⟩ := fnd_split hi
    have hb : but z.l key = pre ++ post := by have := h.ndk; rw [← hk]; rw [hl] at this ⊢; exact but_split this
    rw [hb]
    have hp : (i :: (pre ++ post)).Perm z.l := by rw [hl]; exact List.perm_middle.symm
    exact ⟨h.ok, fun j hj => h.live j (hp.mem_iff.1 hj), fun j hj => h.fit j (hp.mem_iff.1 hj), (hp.map _).nodup_iff.2 h.ndk, (hp.map _).nodup_iff.2 h.ndh, fun c hc => by
      rw [← h.cnt c hc]; congr 1; exact (hp.filter _).length_eq⟩
theorem It.pinned_key (i : It) (key : ByteArray) (b : Bool) : (i.pinned key b).key = i.key := by unfold It.pinned; split <;> rfl
theorem It.pinned_c (i : It) (key : ByteArray) (b : Bool) : (i.pinned key b).c = i.c := by unfold It.pinned; split <;> rfl
theorem It.pinned_k (i : It) (key : ByteArray) (b : Bool) : (i.pinned key b).k = i.k := by unfold It.pinned; split <;> rfl
theorem It.pinned_d (i : It) (key : ByteArray) (b : Bool) : (i.pinned key b).d = i.d := by unfold It.pinned; split <;> rfl
theorem pin_keys (l : List It) (key : ByteArray) (b : Bool) : (l.map fun i => i.pinned key b).map It.key = l.map It.key := by
  rw [List.map_map]; exact List.map_congr_left (fun i _ => i.pinned_key key b)
theorem OkSp.pin {z : Sp} (h : OkSp z) (key : ByteArray) (b : Bool) : OkSp (z.pin key b) := by
  refine ⟨h.ok, fun j hj => ?_, fun j hj => ?_, ?_, ?_, fun c hc => ?_⟩
  · obtain ⟨i, hi, rfl⟩ := List.mem_map.1 hj
    rw [It.pinned_c, It.pinned_k, It.pinned_key, It.pinned_d]; exact h.live i hi
  · obtain ⟨i, hi, rfl⟩ := List.mem_map.1 hj
    rw [It.pinned_key, It.pinned_d]; exact h.fit i hi
  · show ((z.l.map _).map It.key).Nodup
    rw [pin_keys]; exact h.ndk
  · show ((z.l.map _).map _).Nodup
    rw [List.map_map]
    have : (fun i : It => (i.c, i.k)) ∘ (fun i : It => i.pinned key b) = fun i : It => (i.c, i.k) := by funext i; simp [It.pinned_c, It.pinned_k]
    rw [this]; exact h.ndh
  · have hc : c < z.s.n := hc
    show (List.filter _ (z.l.map _)).length + (z.s.fr c).length = (z.s.ch c).length
    rw [← h.cnt c hc, List.filter_map, List.length_map]
    congr 2
    apply List.filter_congr
    intro i _
    simp [It.pinned_c]
/-- What an Alloc that is done makes of the slab. -/
structure Took (s s' : St) (c k : Nat) (d : ByteArray) : Prop where
  n : s'.n = s.n
  page : s'.page = s.page
  pages : s'.pages = s.pages
  hc : c < s.n
  new : (s'.ch c)[k]? = some (true, d)
  old : ∀ j m t, (s.ch j)[m]? = some (true, t) → ¬ (j = c ∧ m = k) ∧ (s'.ch j)[m]? = some (true, t)
  cnt : (s'.ch c).length + (s.fr c).length = (s.ch c).length + (s'.fr c).length + 1
  oth : ∀ j, j ≠ c → s'.ch j = s.ch j ∧ s'.fr j = s.fr j
theorem St.take_took {s : St} (h : Ok s) {c : Nat} (hc : c < s.n) (hf : s.fr c ≠ []) (d : ByteArray) : Took s (s.take c d) c (s.nxt c) d := by
  obtain ⟨d0, h0⟩ := h.nxt hc hf
  have hlt := (List.getElem?_eq_some_iff.1 h0).1
  have hp : 0 < (s.fr c).length := List.length_pos_iff.2 hf
  refine ⟨rfl, rfl, rfl, hc, ?_, fun j m t ht => ?_, ?_, fun j hj => ⟨upd_other _ _ _ hj, upd_other _ _ _ hj⟩⟩
  · show (upd s.ch c _ c)[_]? = _
    rw [upd_same, List.getElem?_set_self hlt]
  · have hne : ¬ (j = c ∧ m = s.nxt c) := by rintro ⟨rfl, rfl⟩; rw [h0] at ht; cases ht
    refine ⟨hne, ?_⟩
    show (upd s.ch c _ j)[_]? = _
    by_cases e : j = c
    · subst e
      rw [upd_same, List.getElem?_set_ne (fun x => hne ⟨rfl, x.symm⟩)]; exact ht
    · rw [upd_other _ _ _ e]; exact ht
  · show (upd s.ch c _ c).length + _ = _ + (upd s.fr c _ c).length + 1
    rw [upd_same, upd_same, List.length_set, List.length_dropLast]; omega
theorem St.alloc_none {s : St} {d : ByteArray} (hc : clsOf s d.size = none) : s.alloc d = ((0, 0, 2), s) := by unfold St.alloc; rw [hc]
/-- Alloc, where there is a class: full, or done. -/
theorem St.alloc_ways {s : St} (h : Ok s) {d : ByteArray} {c : Nat} (hc : clsOf s d.size = some c) :
    (s.fr c = [] ∧ s.left = 0 ∧ s.alloc d = ((0, 0, 6), s)) ∨ (¬ (s.fr c = [] ∧ s.left = 0) ∧ ∃ k s', s.alloc d = ((c, k, 0), s') ∧ Took s s' c k d ∧ (s.fr c ≠ [] → s'.left = s.left ∧ s'.pg = s.pg) ∧ (s.fr c = [] → s'.left + 1 = s.left ∧ s'.pg = upd s.pg c (s.pg c + 1))) := by
  have hi := (clsOf_some hc).1
  unfold St.alloc
  rw [hc]
  by_cases hf : s.fr c = []
  · by_cases hl : s.left = 0
    · exact .inl ⟨hf, hl, by simp only [hf, hl, if_true]⟩
    · refine .inr ⟨fun x => hl x.2, (s.grow c).nxt c, (s.grow c).take c d, by simp only [hf, hl, if_true, if_false], ?_, fun x => absurd hf x, fun _ => ⟨by show s.left - 1 + 1 = s.left; omega, rfl⟩⟩
      have tk := St.take_took (h.grow hi hl) (c := c) hi (St.grow_fr h hi) d
      refine ⟨tk.n, rfl, rfl, hi, tk.new, fun j m t ht => tk.old j m t ?_, ?_, fun j hj => ⟨(tk.oth j hj).1.trans (upd_other _ _ _ hj), (tk.oth j hj).2.trans (upd_other _ _ _ hj)⟩⟩
      · show (upd s.ch c _ j)[_]? = _
        by_cases e : j = c
        · subst e; rw [upd_same, List.getElem?_append_left (List.getElem?_eq_some_iff.1 ht).1]; exact ht
        · rw [upd_other _ _ _ e]; exact ht
      · have h1 := tk.cnt
        have h2 : ((s.grow c).ch c).length = (s.ch c).length + s.per c := by show (upd s.ch c _ c).length = _; rw [upd_same, List.length_append, List.length_replicate]
        have h3 : ((s.grow c).fr c).length = (s.fr c).length + s.per c := by show (upd s.fr c _ c).length = _; rw [upd_same, List.length_append, down_length]
        omega
  · exact .inr ⟨fun x => hf x.1, s.nxt c, s.take c d, by simp only [hf, if_false], St.take_took h hi hf d, fun _ => ⟨rfl, rfl⟩, fun x => absurd x hf⟩
theorem ba_size (a b : ByteArray) : (a ++ b).size = a.size + b.size := ByteArray.size_append
theorem OkSp.add {z : Sp} (h : OkSp z) {key d : ByteArray} {pin : Bool} {c : Nat} (hc : clsOf z.s (key ++ d).size = some c) (hn : ∀ i ∈ z.l, i.key ≠ key) (hf : ¬ (z.s.fr c = [] ∧ z.s.left = 0)) : OkSp (z.add key d pin) := by
  rcases St.alloc_ways h.ok hc with ⟨h1, h2, _⟩ | ⟨_, k, s', he, tk, _⟩
  · exact absurd ⟨h1, h2⟩ hf
  · have hok := h.ok.alloc (key ++ d)
    unfold Sp.add
    rw [he] at hok ⊢
    have hsz : (key ++ d).size ≤ 65536 := Nat.le_trans (clsOf_some hc).2.1 (h.ok.sz2 tk.hc)
    refine ⟨hok, fun i hi => ?_, fun i hi => ?_, ?_, ?_, fun j hj => ?_⟩
    · rcases List.mem_cons.1 hi with rfl | hi
      · exact ⟨by rw [tk.n]; exact tk.hc, tk.new⟩
      · have := h.live i hi; exact ⟨by rw [tk.n]; exact this.1, (tk.old _ _ _ this.2).2⟩
    · rcases List.mem_cons.1 hi with rfl | hi
      · exact hsz
      · exact h.fit i hi
    · show (_ :: z.l.map It.key).Nodup
      refine List.nodup_cons.2 ⟨fun hx => ?_, h.ndk⟩
      obtain ⟨i, hi, e⟩ := List.mem_map.1 hx
      exact hn i hi e
    · show (_ :: z.l.map _).Nodup
      refine List.nodup_cons.2 ⟨fun hx => ?_, h.ndh⟩
      obtain ⟨i, hi, e⟩ := List.mem_map.1 hx
      injection e with e1 e2
      exact (tk.old _ _ _ (h.live i hi).2).1 ⟨e1, e2⟩
    · have hj : j < z.s.n := by rw [← tk.n]; exact hj
      have hcn := h.cnt j hj
      show (List.filter _ (_ :: z.l)).length + (s'.fr j).length = (s'.ch j).length
      by_cases e : j = c
      · subst e
        rw [List.filter_cons_of_pos (by simp), List.length_cons]
        have := tk.cnt; omega
      · rw [List.filter_cons_of_neg (by simp; exact fun x => e x.symm), (tk.oth j e).1, (tk.oth j e).2]; exact hcn
theorem vic_some {z : Sp} {c : Nat} {v : It} (h : z.vic c = some v) : v ∈ z.l ∧ v.c = c ∧ v.pin = false := by
  unfold Sp.vic at h
  have := List.mem_of_getLast? h
  have := List.mem_filter.1 this
  refine ⟨this.1, ?_⟩
  have h2 := this.2
  unfold It.may at h2
  simpa using h2
/-- Behind one that went there is room. -/
theorem Sp.rm_room {z : Sp} (h : OkSp z) {v : It} (hv : v ∈ z.l) {len : Nat} (hc : clsOf z.s len = some v.c) : clsOf (z.rm v).s len = some v.c ∧ ¬ ((z.rm v).s.fr v.c = [] ∧ (z.rm v).s.left = 0) := by
  have hl := h.live v hv
  have hf := St.free_at hl.1 hl.2
  unfold Sp.rm
  rw [hf]
  refine ⟨hc, fun x => ?_⟩
  have this : upd z.s.fr v.c (z.s.fr v.c ++ [v.k]) v.c = [] := x.1
  rw [upd_same] at this
  simp at this
theorem but_no {z : Sp} {v : It} {key : ByteArray} (hn : ∀ i ∈ z.l, i.key ≠ key) : ∀ i ∈ (z.rm v).l, i.key ≠ key := fun i hi => hn i (mem_but.1 hi).1
theorem OkSp.put1 {z : Sp} (h : OkSp z) {key d : ByteArray} {pin : Bool} (hn : ∀ i ∈ z.l, i.key ≠ key) : OkSp (z.put1 key d pin).2.2 := by
  unfold Sp.put1
  split
  · exact h
  · rename_i c hc
    split
    · split
      · exact h
      · rename_i v hv
        obtain ⟨h1, h2, h3⟩ := vic_some hv
        subst h2
        obtain ⟨r1, r2⟩ := Sp.rm_room h h1 hc
        exact (h.rm h1).add r1 (but_no hn) r2
    · rename_i he
      refine h.add hc hn (fun x => he ?_)
      rcases St.alloc_ways h.ok hc with ⟨_, _, h3⟩ | ⟨h3, _⟩
      · rw [h3]
      · exact absurd x h3
theorem Sp.drop_no (z : Sp) (key : ByteArray) : ∀ i ∈ (z.drop key).l, i.key ≠ key := by
  intro i hi
  rw [Sp.drop_l] at hi
  exact (mem_but.1 hi).2
theorem OkSp.put {z : Sp} (h : OkSp z) (key d : ByteArray) (pin : Bool) : OkSp (z.put key d pin).2.2 := (h.drop key).put1 (z.drop_no key)
/-- No more items than so many. -/
theorem OkSp.few {z : Sp} (h : OkSp z) : z.l.length ≤ 720896 := by
  have hb := nodup_bound 720896 (z.l.map fun i => i.c * 65536 + i.k) (by
    have h1 := h.ndh
    have h2 : ∀ i ∈ z.l, i.k < 65536 := fun i hi => by
      have := h.live i hi
      exact Nat.lt_of_lt_of_le (List.getElem?_eq_some_iff.1 this.2).1 (h.ok.ch2 this.1)
    unfold List.Nodup at h1 ⊢
    rw [List.pairwise_map] at h1 ⊢
    refine h1.imp_of_mem (fun {a b} ha hb hab e => hab ?_)
    have := h2 a ha
    have := h2 b hb
    have e1 : a.c = b.c := by omega
    have e2 : a.k = b.k := by omega
    rw [e1, e2]) (fun x hx => by
      obtain ⟨i, hi, rfl⟩ := List.mem_map.1 hx
      have := h.live i hi
      have h1 := Nat.lt_of_lt_of_le (List.getElem?_eq_some_iff.1 this.2).1 (h.ok.ch2 this.1)
      have h2 := h.ok.n2
      omega)
  rwa [List.length_map] at hb
theorem OkSp.new {pages page n : Nat} (h : Ok (St.new pages page n)) : OkSp ⟨St.new pages page n, []⟩ :=
  ⟨h, (fun _ hi => by cases hi), (fun _ hi => by cases hi), List.nodup_nil, List.nodup_nil, fun _ _ => rfl⟩
end Go.Proofs.Ytbflcnghpkmcoaa
