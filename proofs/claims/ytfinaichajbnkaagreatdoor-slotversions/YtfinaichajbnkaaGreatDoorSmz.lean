/-
  THE SLAB AS PLAIN DATA: classes, chunks, free ones; what Alloc, Free, Read make of it; what always holds.
-/
import Derived.Below
namespace Go.Proofs.YtfinaichajbnkaaGreatDoor

/-- A class's size. -/
def sz (i : Nat) : Nat := 64 * 2 ^ i
theorem sz_pos (i : Nat) : 64 ≤ sz i := by
  unfold sz; have := Nat.one_le_two_pow (n := i); omega
theorem sz_succ (i : Nat) : sz (i + 1) = 2 * sz i := by unfold sz; rw [Nat.pow_succ]; omega
theorem sz_mono {i j : Nat} (h : i ≤ j) : sz i ≤ sz j := by
  unfold sz; exact Nat.mul_le_mul_left _ (Nat.pow_le_pow_right (by omega) h)
theorem sz_lt {i j : Nat} (h : i < j) : sz i < sz j := by
  have := sz_mono (i := i + 1) (j := j) h
  rw [sz_succ] at this; have := sz_pos i; omega

/-- A chunk: is it live, its data. -/
def noChunk : (Bool × ByteArray) := (false, ⟨#[]⟩)
def upd {α : Type} (f : Nat → α) (i : Nat) (x : α) : Nat → α := fun j => if j = i then x else f j
theorem upd_same {α : Type} (f : Nat → α) (i : Nat) (x : α) : upd f i x i = x := by simp [upd]
theorem upd_other {α : Type} (f : Nat → α) (i : Nat) (x : α) {j : Nat} (h : j ≠ i) : upd f i x j = f j := by simp [upd, h]

/-- A slab: a page's bytes, pages, pages left, classes; each class's chunks, free ones (the last is taken first), pages. -/
structure St where
  page : Nat
  pages : Nat
  left : Nat
  n : Nat
  ch : Nat → List (Bool × ByteArray)
  fr : Nat → List Nat
  pg : Nat → Nat

/-- How many chunks a page of a class has. -/
def St.per (s : St) (i : Nat) : Nat := s.page / sz i
/-- The sum of f below n. -/
def sumN (f : Nat → Nat) : Nat → Nat
  | 0 => 0
  | n + 1 => sumN f n + f n
theorem sumN_congr {f g : Nat → Nat} : ∀ {n : Nat}, (∀ i, i < n → f i = g i) → sumN f n = sumN g n
  | 0, _ => rfl
  | n + 1, h => by rw [sumN, sumN, sumN_congr (fun i hi => h i (by omega)), h n (by omega)]
theorem sumN_upd {f g : Nat → Nat} {i : Nat} : ∀ {n : Nat}, (∀ j, j < n → j ≠ i → f j = g j) → i < n → sumN f n + g i = sumN g n + f i
  | 0, _, h => by omega
  | n + 1, h, hi => by
    rw [sumN, sumN]
    by_cases e : i = n
    · subst e; rw [sumN_congr (f := f) (g := g) (fun j hj => h j (by omega) (by omega))]; omega
    · have := sumN_upd (f := f) (g := g) (i := i) (n := n) (fun j hj hne => h j (by omega) hne) (by omega)
      rw [h n (by omega) (by omega)]; omega
theorem sumN_le {f : Nat → Nat} {i : Nat} : ∀ {n : Nat}, i < n → f i ≤ sumN f n
  | 0, h => by omega
  | n + 1, h => by
    rw [sumN]
    by_cases e : i = n
    · subst e; omega
    · have := sumN_le (f := f) (i := i) (n := n) (by omega); omega
theorem sumN_mono {f g : Nat → Nat} : ∀ {n : Nat}, (∀ i, i < n → f i ≤ g i) → sumN f n ≤ sumN g n
  | 0, _ => Nat.le_refl _
  | n + 1, h => by
    rw [sumN, sumN]; have := sumN_mono (f := f) (g := g) (n := n) (fun i hi => h i (by omega)); have := h n (by omega); omega
theorem sumN_mul {f : Nat → Nat} {c : Nat} : ∀ {n : Nat}, sumN (fun i => f i * c) n = sumN f n * c
  | 0 => by simp [sumN]
  | n + 1 => by rw [sumN, sumN, sumN_mul, Nat.add_mul]
theorem sumN_zero {f : Nat → Nat} : ∀ {n : Nat}, (∀ i, i < n → f i = 0) → sumN f n = 0
  | 0, _ => rfl
  | n + 1, h => by rw [sumN, sumN_zero (fun i hi => h i (by omega)), h n (by omega)]

/-- What always holds. -/
structure Ok (s : St) : Prop where
  p1 : 1 ≤ s.pages
  p2 : s.pages ≤ 64
  l1 : s.left ≤ s.pages
  g1 : 64 ≤ s.page
  g2 : s.page ≤ 65536
  n1 : ∀ i, i < s.n ↔ sz i ≤ s.page
  nd : ∀ i, i < s.n → (s.fr i).Nodup
  fl : ∀ i, i < s.n → ∀ k, k ∈ s.fr i → ∃ d, (s.ch i)[k]? = some (false, d)
  len : ∀ i, i < s.n → (s.ch i).length = s.pg i * s.per i
  sum : sumN s.pg s.n + s.left = s.pages
theorem Ok.n2 {s : St} (h : Ok s) : s.n ≤ 11 := by
  refine Nat.le_of_not_lt fun hn => ?_
  have := (h.n1 11).1 hn
  have e : sz 11 = 131072 := rfl
  have := h.g2; omega
theorem Ok.n0 {s : St} (h : Ok s) : 0 < s.n := (h.n1 0).2 (by have := h.g1; have e : sz 0 = 64 := rfl; omega)
theorem Ok.szp {s : St} (h : Ok s) {i : Nat} (hi : i < s.n) : sz i ≤ s.page := (h.n1 i).1 hi
theorem Ok.sz2 {s : St} (h : Ok s) {i : Nat} (hi : i < s.n) : sz i ≤ 65536 := by have := h.szp hi; have := h.g2; omega
theorem Ok.per1 {s : St} (h : Ok s) {i : Nat} (hi : i < s.n) : 1 ≤ s.per i := by
  unfold St.per; exact Nat.div_pos (h.szp hi) (by have := sz_pos i; omega)
theorem Ok.per2 {s : St} (h : Ok s) (i : Nat) : s.per i ≤ 1024 := by
  unfold St.per
  have h1 : s.page / sz i ≤ s.page / 64 := Nat.div_le_div_left (sz_pos i) (by omega)
  have := h.g2
  have : s.page / 64 ≤ 1024 := by omega
  omega
theorem Ok.pg2 {s : St} (h : Ok s) {i : Nat} (hi : i < s.n) : s.pg i ≤ 64 := by
  have := sumN_le (f := s.pg) hi; have := h.sum; have := h.p2; omega
theorem Ok.ch2 {s : St} (h : Ok s) {i : Nat} (hi : i < s.n) : (s.ch i).length ≤ 65536 := by
  rw [h.len i hi]
  exact Nat.le_trans (Nat.mul_le_mul (h.pg2 hi) (h.per2 i)) (by decide)
theorem Ok.frlt {s : St} (h : Ok s) {i : Nat} (hi : i < s.n) {k : Nat} (hk : k ∈ s.fr i) : k < (s.ch i).length := by
  obtain ⟨d, hd⟩ := h.fl i hi k hk
  exact (List.getElem?_eq_some_iff.1 hd).1
theorem nodup_bound : ∀ (m : Nat) (l : List Nat), l.Nodup → (∀ x ∈ l, x < m) → l.length ≤ m
  | 0, l, _, h => by
    cases l with
    | nil => simp
    | cons a l => have := h a (by simp); omega
  | m + 1, l, hn, h => by
    by_cases hm : m ∈ l
    · have h1 := nodup_bound m (l.erase m) (hn.erase m) (fun x hx => by
        have := h x (List.mem_of_mem_erase hx)
        have : x ≠ m := fun e => by subst e; exact (List.Nodup.not_mem_erase hn) hx
        omega)
      rw [List.length_erase_of_mem hm] at h1
      have : 0 < l.length := List.length_pos_of_mem hm
      omega
    · have := nodup_bound m l hn (fun x hx => by
        have := h x hx
        have : x ≠ m := fun e => hm (e ▸ hx)
        omega)
      omega
theorem Ok.fr2 {s : St} (h : Ok s) {i : Nat} (hi : i < s.n) : (s.fr i).length ≤ (s.ch i).length := nodup_bound _ _ (h.nd i hi) (fun _ hk => h.frlt hi hk)

/-- The class of so many bytes. -/
def ClsIs (s : St) (len : Int) (r : Int) : Prop := (r = -1 ∧ (len < 0 ∨ ∀ i, i < s.n → (sz i : Int) < len)) ∨ ∃ i : Nat, r = i ∧ i < s.n ∧ 0 ≤ len ∧ len ≤ sz i ∧ ∀ j, j < i → (sz j : Int) < len
theorem ClsIs.one {s : St} {len r r' : Int} (h : ClsIs s len r) (h' : ClsIs s len r') : r = r' := by
  rcases h with ⟨rfl, h⟩ | ⟨i, rfl, hi, h0, h1, h2⟩ <;> rcases h' with ⟨rfl, h'⟩ | ⟨j, rfl, hj, k0, k1, k2⟩
  · rfl
  · exfalso; rcases h with h | h
    · omega
    · have := h j hj; omega
  · exfalso; rcases h' with h' | h'
    · omega
    · have := h' i hi; omega
  · have : ¬ i < j := fun e => by have := k2 i e; omega
    have : ¬ j < i := fun e => by have := h2 j e; omega
    omega
/-- A class for so many bytes: which. -/
def clsOf (s : St) (len : Nat) : Option Nat := (List.range s.n).find? (fun i => decide (len ≤ sz i))
theorem clsOf_is {s : St} {len : Nat} {r : Int} (h : ClsIs s len r) : (r = -1 ∧ clsOf s len = none) ∨ ∃ i : Nat, r = i ∧ i < s.n ∧ clsOf s len = some i ∧ len ≤ sz i := by
  rcases h with ⟨rfl, h⟩ | ⟨i, rfl, hi, h0, h1, h2⟩
  · refine .inl ⟨rfl, ?_⟩
    unfold clsOf
    rw [List.find?_eq_none]
    intro x hx
    have hx := List.mem_range.1 hx
    rcases h with h | h
    · omega
    · have := h x hx; simp; omega
  · refine .inr ⟨i, rfl, hi, ?_, by omega⟩
    unfold clsOf
    rw [List.find?_range_eq_some]
    refine ⟨by simp; omega, by simpa using hi, fun j hj => ?_⟩
    have := h2 j hj
    simp; omega
theorem clsOf_some {s : St} {len i : Nat} (h : clsOf s len = some i) : i < s.n ∧ len ≤ sz i ∧ ∀ j, j < i → sz j < len := by
  unfold clsOf at h
  rw [List.find?_range_eq_some] at h
  obtain ⟨h1, h2, h3⟩ := h
  refine ⟨by simpa using h2, by simpa using h1, fun j hj => ?_⟩
  have := h3 j hj
  simp at this; omega
theorem clsOf_none {s : St} {len : Nat} (h : clsOf s len = none) : ∀ i, i < s.n → sz i < len := by
  unfold clsOf at h
  rw [List.find?_eq_none] at h
  intro i hi
  have := h i (List.mem_range.2 hi)
  simp at this; omega

/-- The numbers of a page's chunks, the least last. -/
def down (first : Nat) : Nat → List Nat
  | 0 => []
  | q + 1 => (first + q) :: down first q
theorem down_length (first : Nat) : ∀ q, (down first q).length = q
  | 0 => rfl
  | q + 1 => by simp [down, down_length first q]
theorem mem_down {first k : Nat} : ∀ {q : Nat}, k ∈ down first q ↔ first ≤ k ∧ k < first + q
  | 0 => by simp [down]
  | q + 1 => by rw [down, List.mem_cons, mem_down (q := q)]; omega
theorem nodup_down (first : Nat) : ∀ q, (down first q).Nodup
  | 0 => by simp [down]
  | q + 1 => by rw [down, List.nodup_cons]; exact ⟨fun h => by have := mem_down.1 h; omega, nodup_down first q⟩
/-- A class has one page more. -/
def St.grow (s : St) (i : Nat) : St := { s with left := s.left - 1, ch := upd s.ch i (s.ch i ++ List.replicate (s.per i) noChunk), fr := upd s.fr i (s.fr i ++ down (s.ch i).length (s.per i)), pg := upd s.pg i (s.pg i + 1) }
/-- The chunk that is taken next. -/
def St.nxt (s : St) (i : Nat) : Nat := (s.fr i).getLastD 0
/-- It is taken. -/
def St.take (s : St) (i : Nat) (d : ByteArray) : St := { s with ch := upd s.ch i ((s.ch i).set (s.nxt i) (true, d)), fr := upd s.fr i (s.fr i).dropLast }
/-- Alloc: class, number, error; what it makes. -/
def St.alloc (s : St) (d : ByteArray) : (Nat × Nat × Nat) × St :=
  match clsOf s d.size with
  | none => ((0, 0, 2), s)
  | some i => if s.fr i = [] then (if s.left = 0 then ((0, 0, 6), s) else ((i, (s.grow i).nxt i, 0), (s.grow i).take i d)) else ((i, s.nxt i, 0), s.take i d)
/-- Is a chunk live? -/
def St.has (s : St) (c k : Int) : Bool := decide (0 ≤ c ∧ c < s.n ∧ 0 ≤ k ∧ k < (s.ch c.toNat).length) && ((s.ch c.toNat).getD k.toNat noChunk).1
/-- Its data. -/
def St.dat (s : St) (c k : Int) : ByteArray := ((s.ch c.toNat).getD k.toNat noChunk).2
/-- Free. -/
def St.free (s : St) (c k : Int) : St := if s.has c k = true then { s with ch := upd s.ch c.toNat ((s.ch c.toNat).set k.toNat noChunk), fr := upd s.fr c.toNat (s.fr c.toNat ++ [k.toNat]) } else s
/-- Live chunks. -/
def St.live (s : St) : Nat := sumN (fun i => (s.ch i).length - (s.fr i).length) s.n
/-- A new slab. -/
def St.new (pages page n : Nat) : St := ⟨page, pages, pages, n, fun _ => [], fun _ => [], fun _ => 0⟩

theorem Ok.new {pages page n : Nat} (p1 : 1 ≤ pages) (p2 : pages ≤ 64) (g1 : 64 ≤ page) (g2 : page ≤ 65536) (hn : ∀ i, i < n ↔ sz i ≤ page) : Ok (St.new pages page n) :=
  ⟨p1, p2, Nat.le_refl _, g1, g2, hn, fun _ _ => List.nodup_nil, (fun _ _ _ h => by cases h), (fun _ _ => by simp [St.new]), by
    show sumN (fun _ => 0) n + pages = pages
    rw [sumN_zero (fun _ _ => rfl)]; omega⟩
theorem Ok.grow {s : St} (h : Ok s) {i : Nat} (hi : i < s.n) (hl : s.left ≠ 0) : Ok (s.grow i) := by
  have hp : (s.grow i).per = s.per := rfl
  refine ⟨h.p1, h.p2, by show s.left - 1 ≤ s.pages; have := h.l1; omega, h.g1, h.g2, h.n1, fun j hj => ?_, fun j hj k hk => ?_, fun j hj => ?_, ?_⟩
  · show (upd s.fr i _ j).Nodup
    by_cases e : j = i
    · subst e; rw [upd_same, List.nodup_append]
      refine ⟨h.nd j hi, nodup_down _ _, fun a ha b hb => ?_⟩
      have := h.frlt hi ha; have := mem_down.1 hb; omega
    · rw [upd_other _ _ _ e]; exact h.nd j hj
  · show ∃ d, (upd s.ch i _ j)[k]? = _
    have hk : k ∈ upd s.fr i (s.fr i ++ down (s.ch i).length (s.per i)) j := hk
    by_cases e : j = i
    · subst e
      rw [upd_same] at hk ⊢
      rcases List.mem_append.1 hk with hk | hk
      · obtain ⟨d, hd⟩ := h.fl j hi k hk
        exact ⟨d, by rw [List.getElem?_append_left (List.getElem?_eq_some_iff.1 hd).1]; exact hd⟩
      · have := mem_down.1 hk
        exact ⟨⟨#[]⟩, by rw [List.getElem?_append_right (by omega), List.getElem?_replicate, if_pos (by omega)]; rfl⟩
    · rw [upd_other _ _ _ e] at hk ⊢; exact h.fl j hj k hk
  · show (upd s.ch i _ j).length = upd s.pg i _ j * s.per j
    by_cases e : j = i
    · subst e; rw [upd_same, upd_same, List.length_append, List.length_replicate, h.len j hi, Nat.add_mul, Nat.one_mul]
    · rw [upd_other _ _ _ e, upd_other _ _ _ e]; exact h.len j hj
  · show sumN (upd s.pg i _) s.n + (s.left - 1) = s.pages
    have := sumN_upd (f := upd s.pg i (s.pg i + 1)) (g := s.pg) (i := i) (n := s.n) (fun j _ e => upd_other _ _ _ e) hi
    rw [upd_same] at this
    have := h.sum; omega
theorem St.nxt_mem {s : St} {i : Nat} (h : s.fr i ≠ []) : s.nxt i ∈ s.fr i ∧ s.fr i = (s.fr i).dropLast ++ [s.nxt i] := by
  have e : s.nxt i = (s.fr i).getLast h := by
    unfold St.nxt; rw [List.getLastD_eq_getLast?, List.getLast?_eq_some_getLast h]; rfl
  rw [e]
  exact ⟨List.getLast_mem h, (List.dropLast_concat_getLast h).symm⟩
theorem Ok.nxt {s : St} (h : Ok s) {i : Nat} (hi : i < s.n) (hf : s.fr i ≠ []) : ∃ d, (s.ch i)[s.nxt i]? = some (false, d) := h.fl i hi _ (s.nxt_mem hf).1
theorem Ok.take {s : St} (h : Ok s) {i : Nat} (hi : i < s.n) (hf : s.fr i ≠ []) (d : ByteArray) : Ok (s.take i d) := by
  obtain ⟨hm, he⟩ := s.nxt_mem hf
  have hnd := h.nd i hi
  rw [he, List.nodup_append] at hnd
  refine ⟨h.p1, h.p2, h.l1, h.g1, h.g2, h.n1, fun j hj => ?_, fun j hj k hk => ?_, fun j hj => ?_, h.sum⟩
  · show (upd s.fr i _ j).Nodup
    by_cases e : j = i
    · subst e; rw [upd_same]; exact hnd.1
    · rw [upd_other _ _ _ e]; exact h.nd j hj
  · show ∃ d', (upd s.ch i _ j)[k]? = _
    have hk : k ∈ upd s.fr i (s.fr i).dropLast j := hk
    by_cases e : j = i
    · subst e
      rw [upd_same] at hk ⊢
      have hne : s.nxt j ≠ k := fun e => by have := hnd.2.2 k hk (s.nxt j) (by simp); exact this e.symm
      rw [List.getElem?_set_ne hne]
      exact h.fl j hi k (List.dropLast_subset _ hk)
    · rw [upd_other _ _ _ e] at hk ⊢; exact h.fl j hj k hk
  · show (upd s.ch i _ j).length = s.pg j * s.per j
    by_cases e : j = i
    · subst e; rw [upd_same, List.length_set]; exact h.len j hi
    · rw [upd_other _ _ _ e]; exact h.len j hj
theorem St.grow_fr {s : St} (h : Ok s) {i : Nat} (hi : i < s.n) : (s.grow i).fr i ≠ [] := by
  show upd s.fr i _ i ≠ []
  rw [upd_same]
  intro e
  have := congrArg List.length e
  rw [List.length_append, down_length] at this
  have := h.per1 hi
  simp at *; omega
theorem Ok.alloc {s : St} (h : Ok s) (d : ByteArray) : Ok (s.alloc d).2 := by
  unfold St.alloc
  split
  · exact h
  · rename_i i hc
    have hi := (clsOf_some hc).1
    split
    · split
      · exact h
      · rename_i hl; exact (h.grow hi hl).take (i := i) hi (St.grow_fr h hi) d
    · rename_i hf; exact h.take hi hf d
theorem St.has_of {s : St} {c k : Int} (h : s.has c k = true) : ∃ (i j : Nat) (d : ByteArray), c = i ∧ k = j ∧ i < s.n ∧ j < (s.ch i).length ∧ (s.ch i)[j]? = some (true, d) ∧ s.dat c k = d := by
  unfold St.has at h
  rw [Bool.and_eq_true, decide_eq_true_eq] at h
  obtain ⟨⟨h1, h2, h3, h4⟩, h5⟩ := h
  refine ⟨c.toNat, k.toNat, s.dat c k, by omega, by omega, by omega, by omega, ?_, rfl⟩
  have hlt : k.toNat < (s.ch c.toNat).length := by omega
  unfold St.dat
  rw [List.getD_eq_getElem?_getD, List.getElem?_eq_getElem hlt] at *
  rw [← h5]; rfl
theorem St.has_mk {s : St} {i j : Nat} {d : ByteArray} (hi : i < s.n) (h : (s.ch i)[j]? = some (true, d)) : s.has i j = true ∧ s.dat i j = d := by
  have hlt := (List.getElem?_eq_some_iff.1 h).1
  unfold St.has St.dat
  simp only [Int.toNat_natCast]
  rw [List.getD_eq_getElem?_getD, h]
  exact ⟨by simp; omega, rfl⟩
theorem Ok.free {s : St} (h : Ok s) (c k : Int) : Ok (s.free c k) := by
  unfold St.free
  split
  · rename_i hh
    obtain ⟨i, m, d, rfl, rfl, hi, hm, hg, _⟩ := St.has_of hh
    simp only [Int.toNat_natCast]
    have hnm : m ∉ s.fr i := fun hx => by obtain ⟨d', hd'⟩ := h.fl i hi m hx; rw [hg] at hd'; cases hd'
    refine ⟨h.p1, h.p2, h.l1, h.g1, h.g2, h.n1, fun j hj => ?_, fun j hj k hk => ?_, fun j hj => ?_, h.sum⟩
    · show (upd s.fr i _ j).Nodup
      by_cases e : j = i
      · subst e; rw [upd_same, List.nodup_append]
        exact ⟨h.nd j hi, by simp, fun a ha b hb e => by simp at hb; subst hb; exact hnm (e ▸ ha)⟩
      · rw [upd_other _ _ _ e]; exact h.nd j hj
    · show ∃ d', (upd s.ch i _ j)[k]? = _
      have hk : k ∈ upd s.fr i (s.fr i ++ [m]) j := hk
      by_cases e : j = i
      · subst e
        rw [upd_same] at hk ⊢
        by_cases e2 : m = k
        · subst e2; rw [List.getElem?_set_self hm]; exact ⟨_, rfl⟩
        · rw [List.getElem?_set_ne e2]
          rcases List.mem_append.1 hk with hk | hk
          · exact h.fl j hi k hk
          · simp at hk; exact absurd hk.symm e2
      · rw [upd_other _ _ _ e] at hk ⊢; exact h.fl j hj k hk
    · show (upd s.ch i _ j).length = s.pg j * s.per j
      by_cases e : j = i
      · subst e; rw [upd_same, List.length_set]; exact h.len j hi
      · rw [upd_other _ _ _ e]; exact h.len j hj
  · exact h
/-- What is live, each chunk weighed by its class. -/
def St.wt (s : St) (f : Nat → Nat) : Nat := sumN (fun i => ((s.ch i).length - (s.fr i).length) * f i) s.n
theorem St.wt_one (s : St) : s.wt (fun _ => 1) = s.live := sumN_congr (fun _ _ => Nat.mul_one _)
theorem Ok.wt_take {s : St} {i : Nat} (h : Ok s) (hi : i < s.n) (hf : s.fr i ≠ []) (d : ByteArray) (f : Nat → Nat) : (s.take i d).wt f = s.wt f + f i := by
  have h1 := sumN_upd (f := fun j => (((s.take i d).ch j).length - ((s.take i d).fr j).length) * f j) (g := fun j => ((s.ch j).length - (s.fr j).length) * f j) (i := i) (n := s.n) (fun j _ e => by
    show ((upd s.ch i _ j).length - (upd s.fr i _ j).length) * f j = _
    rw [upd_other _ _ _ e, upd_other _ _ _ e]) hi
  have e1 : (s.take i d).ch i = (s.ch i).set (s.nxt i) (true, d) := upd_same _ _ _
  have e2 : (s.take i d).fr i = (s.fr i).dropLast := upd_same _ _ _
  have h2 := h.fr2 hi
  have h3 : 0 < (s.fr i).length := List.length_pos_iff.2 hf
  simp only [e1, e2, List.length_set, List.length_dropLast] at h1
  have e3 : ((s.ch i).length - ((s.fr i).length - 1)) * f i = ((s.ch i).length - (s.fr i).length) * f i + f i := by
    rw [show (s.ch i).length - ((s.fr i).length - 1) = (s.ch i).length - (s.fr i).length + 1 by omega, Nat.add_mul, Nat.one_mul]
  rw [e3] at h1
  show sumN _ s.n = sumN _ s.n + f i
  omega
theorem St.wt_grow {s : St} {i : Nat} (f : Nat → Nat) : (s.grow i).wt f = s.wt f := by
  refine sumN_congr fun j _ => ?_
  show ((upd s.ch i _ j).length - (upd s.fr i _ j).length) * f j = _
  by_cases e : j = i
  · subst e; rw [upd_same, upd_same, List.length_append, List.length_append, List.length_replicate, down_length]; congr 1; omega
  · rw [upd_other _ _ _ e, upd_other _ _ _ e]
/-- What Alloc does, in four ways. -/
theorem St.alloc_cases (s : St) (d : ByteArray) :
    (clsOf s d.size = none ∧ s.alloc d = ((0, 0, 2), s)) ∨ ∃ i, clsOf s d.size = some i ∧ ((s.fr i = [] ∧ s.left = 0 ∧ s.alloc d = ((0, 0, 6), s)) ∨ (s.fr i = [] ∧ s.left ≠ 0 ∧ s.alloc d = ((i, (s.grow i).nxt i, 0), (s.grow i).take i d)) ∨ (s.fr i ≠ [] ∧ s.alloc d = ((i, s.nxt i, 0), s.take i d))) := by
  unfold St.alloc
  cases hc : clsOf s d.size with
  | none => exact .inl ⟨rfl, rfl⟩
  | some i =>
    refine .inr ⟨i, rfl, ?_⟩
    by_cases hf : s.fr i = []
    · by_cases hl : s.left = 0
      · exact .inl ⟨hf, hl, by simp [hf, hl]⟩
      · exact .inr (.inl ⟨hf, hl, by simp [hf, hl]⟩)
    · exact .inr (.inr ⟨hf, by simp [hf]⟩)
/-- An Alloc that is OK: of a state like s, a chunk is taken. -/
theorem Ok.alloc_ok {s : St} (h : Ok s) (d : ByteArray) (h0 : (s.alloc d).1.2.2 = 0) : ∃ (i : Nat) (s1 : St), Ok s1 ∧ i < s.n ∧ s1.n = s.n ∧ s1.pages = s.pages ∧ s1.page = s.page ∧ s1.fr i ≠ [] ∧ (∀ f, s1.wt f = s.wt f) ∧ (∀ (j k : Nat) (x : (Bool × ByteArray)), (s.ch j)[k]? = some x → (s1.ch j)[k]? = some x) ∧ (∀ (j k : Nat) (x : ByteArray), (s1.ch j)[k]? = some (true, x) → (s.ch j)[k]? = some (true, x)) ∧ s.alloc d = ((i, s1.nxt i, 0), s1.take i d) ∧ clsOf s d.size = some i := by
  rcases s.alloc_cases d with ⟨_, e⟩ | ⟨i, hc, ⟨_, _, e⟩ | ⟨hf, hl, e⟩ | ⟨hf, e⟩⟩
  · rw [e] at h0; cases h0
  · rw [e] at h0; cases h0
  · have hi := (clsOf_some hc).1
    refine ⟨i, s.grow i, h.grow hi hl, hi, rfl, rfl, rfl, St.grow_fr h hi, fun f => St.wt_grow f, fun j k x hx => ?_, fun j k x hx => ?_, e, hc⟩
    · show (upd s.ch i _ j)[k]? = _
      by_cases e : j = i
      · subst e; rw [upd_same, List.getElem?_append_left (List.getElem?_eq_some_iff.1 hx).1]; exact hx
      · rw [upd_other _ _ _ e]; exact hx
    · have hx : (upd s.ch i (s.ch i ++ List.replicate (s.per i) noChunk) j)[k]? = _ := hx
      by_cases e : j = i
      · subst e
        rw [upd_same] at hx
        by_cases hk : k < (s.ch j).length
        · rw [List.getElem?_append_left hk] at hx; exact hx
        · rw [List.getElem?_append_right (by omega), List.getElem?_replicate] at hx
          split at hx
          · cases hx
          · cases hx
      · rw [upd_other _ _ _ e] at hx; exact hx
  · have hi := (clsOf_some hc).1
    exact ⟨i, s, h, hi, rfl, rfl, rfl, hf, fun _ => rfl, fun _ _ _ h => h, fun _ _ _ h => h, e, hc⟩
theorem St.alloc_bad (s : St) (d : ByteArray) (h0 : (s.alloc d).1.2.2 ≠ 0) : (s.alloc d).2 = s ∧ (s.alloc d).1.1 = 0 ∧ (s.alloc d).1.2.1 = 0 := by
  rcases s.alloc_cases d with ⟨_, e⟩ | ⟨i, hc, ⟨_, _, e⟩ | ⟨hf, hl, e⟩ | ⟨hf, e⟩⟩
  · rw [e]; exact ⟨rfl, rfl, rfl⟩
  · rw [e]; exact ⟨rfl, rfl, rfl⟩
  · rw [e] at h0; exact absurd rfl h0
  · rw [e] at h0; exact absurd rfl h0
theorem St.alloc_same (s : St) (d : ByteArray) : (s.alloc d).2.n = s.n ∧ (s.alloc d).2.pages = s.pages ∧ (s.alloc d).2.page = s.page := by
  rcases s.alloc_cases d with ⟨_, e⟩ | ⟨i, hc, ⟨_, _, e⟩ | ⟨hf, hl, e⟩ | ⟨hf, e⟩⟩ <;> rw [e] <;> exact ⟨rfl, rfl, rfl⟩
theorem St.free_same (s : St) (c k : Int) : (s.free c k).n = s.n ∧ (s.free c k).pages = s.pages ∧ (s.free c k).page = s.page ∧ (s.free c k).left = s.left := by
  unfold St.free; split <;> exact ⟨rfl, rfl, rfl, rfl⟩
/-- How what is live turns. -/
theorem Ok.wt_alloc {s : St} (h : Ok s) (d : ByteArray) (f : Nat → Nat) : (s.alloc d).2.wt f = s.wt f + (if (s.alloc d).1.2.2 = 0 then f (s.alloc d).1.1 else 0) := by
  by_cases h0 : (s.alloc d).1.2.2 = 0
  · obtain ⟨i, s1, h1, hi, hn, _, _, hf, hw, _, _, e, _⟩ := h.alloc_ok d h0
    rw [if_pos h0, e]
    show (s1.take i d).wt f = s.wt f + f i
    rw [h1.wt_take (by omega) hf, hw]
  · rw [if_neg h0, (s.alloc_bad d h0).1]; omega
theorem Ok.wt_free {s : St} (h : Ok s) (c k : Int) (f : Nat → Nat) : (s.free c k).wt f + (if s.has c k = true then f c.toNat else 0) = s.wt f := by
  by_cases hh : s.has c k = true
  · rw [if_pos hh]
    obtain ⟨i, m, d, rfl, rfl, hi, hm, hg, _⟩ := St.has_of hh
    have hok := (h.free i m).fr2 (i := i) (by rw [(s.free_same _ _).1]; exact hi)
    have e0 : s.free i m = { s with ch := upd s.ch i ((s.ch i).set m noChunk), fr := upd s.fr i (s.fr i ++ [m]) } := by unfold St.free; rw [if_pos hh]; simp
    rw [e0] at hok ⊢
    have h1 := sumN_upd (f := fun j => ((upd s.ch i ((s.ch i).set m noChunk) j).length - (upd s.fr i (s.fr i ++ [m]) j).length) * f j) (g := fun j => ((s.ch j).length - (s.fr j).length) * f j) (i := i) (n := s.n) (fun j _ e => by
      show (_ - _) * f j = (_ - _) * f j
      rw [upd_other _ _ _ e, upd_other _ _ _ e]) hi
    simp only [upd_same, List.length_set, List.length_append, List.length_singleton] at h1 hok
    have e3 : ((s.ch i).length - (s.fr i).length) * f i = ((s.ch i).length - ((s.fr i).length + 1)) * f i + f i := by
      rw [show (s.ch i).length - (s.fr i).length = (s.ch i).length - ((s.fr i).length + 1) + 1 by omega, Nat.add_mul, Nat.one_mul]
    rw [e3] at h1
    rw [Int.toNat_natCast]
    dsimp only [St.wt]
    omega
  · rw [if_neg hh]; unfold St.free; rw [if_neg hh]; rfl
theorem Ok.wt_sz {s : St} (h : Ok s) : s.wt sz ≤ (s.pages - s.left) * s.page := by
  have h1 : s.wt sz ≤ sumN (fun i => s.pg i * s.page) s.n := sumN_mono fun i hi => by
    have e := h.len i hi
    have h2 : s.per i * sz i ≤ s.page := Nat.div_mul_le_self _ _
    calc ((s.ch i).length - (s.fr i).length) * sz i ≤ (s.ch i).length * sz i := Nat.mul_le_mul_right _ (Nat.sub_le _ _)
      _ = s.pg i * (s.per i * sz i) := by rw [e, Nat.mul_assoc]
      _ ≤ s.pg i * s.page := Nat.mul_le_mul_left _ h2
  rw [sumN_mul] at h1
  have := h.sum
  rw [show s.pages - s.left = sumN s.pg s.n by omega]; exact h1
end Go.Proofs.YtfinaichajbnkaaGreatDoor


namespace Go.Proofs.YtfinaichajbnkaaGreatDoor

/-- An item: its key, its chunk, whether it is pinned, its data. -/
structure It where
  key : ByteArray
  c : Nat
  k : Nat
  pin : Bool
  d : ByteArray
structure Sp where
  s : St
  l : List It
/-- The item of a key. -/
def fnd (l : List It) (key : ByteArray) : Option It := l.find? (fun i => decide (i.key = key))
/-- All but a key's. -/
def but (l : List It) (key : ByteArray) : List It := l.filter (fun i => decide (i.key ≠ key))
/-- An item goes. -/
def Sp.rm (z : Sp) (i : It) : Sp := ⟨z.s.free i.c i.k, but z.l i.key⟩
def Sp.drop (z : Sp) (key : ByteArray) : Sp := match fnd z.l key with
  | none => z
  | some i => z.rm i
/-- It is touched. -/
def Sp.touch (z : Sp) (key : ByteArray) : Sp := match fnd z.l key with
  | none => z
  | some i => ⟨z.s, i :: but z.l key⟩
def It.pinned (i : It) (key : ByteArray) (b : Bool) : It := if i.key = key then { i with pin := b } else i
def Sp.pin (z : Sp) (key : ByteArray) (b : Bool) : Sp := ⟨z.s, z.l.map fun i => i.pinned key b⟩
/-- May it go for one of that class? -/
def It.may (c : Nat) (i : It) : Bool := decide (i.c = c) && !i.pin
/-- Which one goes. -/
def Sp.vic (z : Sp) (c : Nat) : Option It := (z.l.filter (It.may c)).getLast?
/-- One is put ahead. -/
def Sp.add (z : Sp) (key d : ByteArray) (pin : Bool) : Sp := ⟨(z.s.alloc (key ++ d)).2, ⟨key, (z.s.alloc (key ++ d)).1.1, (z.s.alloc (key ++ d)).1.2.1, pin, d⟩ :: z.l⟩
/-- Put of a key that isn't there: who went, the error, what it leaves. -/
def Sp.put1 (z : Sp) (key d : ByteArray) (pin : Bool) : List ByteArray × Nat × Sp := match clsOf z.s (key ++ d).size with
  | none => ([], 2, z)
  | some c => if (z.s.alloc (key ++ d)).1.2.2 = 6 then (match z.vic c with
      | none => ([], 6, z)
      | some v => ([v.key], 0, (z.rm v).add key d pin)) else ([], 0, z.add key d pin)
def Sp.put (z : Sp) (key d : ByteArray) (pin : Bool) : List ByteArray × Nat × Sp := (z.drop key).put1 key d pin
def Sp.keys (z : Sp) : List ByteArray := z.l.map It.key

/-- What always holds. -/
structure OkSp (z : Sp) : Prop where
  ok : Ok z.s
  live : ∀ i ∈ z.l, i.c < z.s.n ∧ (z.s.ch i.c)[i.k]? = some (true, i.key ++ i.d)
  fit : ∀ i ∈ z.l, (i.key ++ i.d).size ≤ 65536
  ndk : (z.l.map It.key).Nodup
  ndh : (z.l.map fun i => (i.c, i.k)).Nodup
  cnt : ∀ c, c < z.s.n → (z.l.filter fun i => decide (i.c = c)).length + (z.s.fr c).length = (z.s.ch c).length

theorem fnd_some {l : List It} {key : ByteArray} {i : It} (h : fnd l key = some i) : i ∈ l ∧ i.key = key := by
  unfold fnd at h
  exact ⟨List.mem_of_find?_eq_some h, by have := List.find?_some h; simpa using this⟩
theorem fnd_none {l : List It} {key : ByteArray} (h : fnd l key = none) : ∀ i ∈ l, i.key ≠ key := by
  intro i hi e
  unfold fnd at h
  rw [List.find?_eq_none] at h
  have := h i hi
  simp [e] at this
theorem fnd_split {l : List It} {key : ByteArray} {i : It} (h : fnd l key = some i) : ∃ pre post, l = pre ++ i :: post ∧ i.key = key ∧ ∀ j ∈ pre, j.key ≠ key := by
  unfold fnd at h
  obtain ⟨h1, pre, post, h2, h3⟩ := List.find?_eq_some_iff_append.1 h
  exact ⟨pre, post, h2, by simpa using h1, fun j hj => by have := h3 j hj; simpa using this⟩
/-- In a list without a key twice: the one, and all others. -/
theorem nd_parts {pre post : List It} {i : It} (h : ((pre ++ i :: post).map It.key).Nodup) : (∀ j ∈ pre, j.key ≠ i.key) ∧ (∀ j ∈ post, j.key ≠ i.key) := by
  rw [List.map_append, List.map_cons] at h
  have h1 := List.nodup_append.1 h
  have h2 := List.nodup_cons.1 h1.2.1
  exact ⟨fun j hj e => h1.2.2 _ (List.mem_map_of_mem hj) _ List.mem_cons_self e, fun j hj e => h2.1 (e ▸ List.mem_map_of_mem hj)⟩
theorem but_split {pre post : List It} {i : It} (h : ((pre ++ i :: post).map It.key).Nodup) : but (pre ++ i :: post) i.key = pre ++ post := by
  obtain ⟨h1, h2⟩ := nd_parts h
  unfold but
  rw [List.filter_append, List.filter_cons_of_neg (by simp), List.filter_eq_self.2 (fun j hj => by simpa using h1 j hj), List.filter_eq_self.2 (fun j hj => by simpa using h2 j hj)]
theorem but_none {l : List It} {key : ByteArray} (h : ∀ i ∈ l, i.key ≠ key) : but l key = l := by
  unfold but; exact List.filter_eq_self.2 (fun j hj => by simpa using h j hj)
theorem fnd_mk {l : List It} {i : It} (hn : (l.map It.key).Nodup) (h : i ∈ l) : fnd l i.key = some i := by
  obtain ⟨pre, post, rfl⟩ := List.append_of_mem h
  obtain ⟨h1, h2⟩ := nd_parts hn
  unfold fnd
  rw [List.find?_eq_some_iff_append]
  exact ⟨by simp, pre, post, rfl, fun j hj => by simpa using h1 j hj⟩
theorem fnd_no {l : List It} {key : ByteArray} (h : ∀ i ∈ l, i.key ≠ key) : fnd l key = none := by
  unfold fnd; rw [List.find?_eq_none]; intro i hi; simpa using h i hi
theorem mem_but {l : List It} {key : ByteArray} {i : It} : i ∈ but l key ↔ i ∈ l ∧ i.key ≠ key := by unfold but; simp
theorem fnd_but (l : List It) (key : ByteArray) : fnd (but l key) key = none := fnd_no (fun _ hi => (mem_but.1 hi).2)

theorem St.free_at {s : St} {c k : Nat} {d : ByteArray} (hc : c < s.n) (h : (s.ch c)[k]? = some (true, d)) : s.free c k = { s with ch := upd s.ch c ((s.ch c).set k noChunk), fr := upd s.fr c (s.fr c ++ [k]) } := by
  unfold St.free
  rw [if_pos (St.has_mk hc h).1]
  simp only [Int.toNat_natCast]
theorem OkSp.rm {z : Sp} (h : OkSp z) {i : It} (hi : i ∈ z.l) : OkSp (z.rm i) := by
  obtain ⟨pre, post, hl⟩ := List.append_of_mem hi
  have hlv := h.live i hi
  have hf := St.free_at hlv.1 hlv.2
  have ndk := h.ndk
  have ndh := h.ndh
  have hbut : but z.l i.key = pre ++ post := by rw [hl] at ndk ⊢; exact but_split ndk
  have hsub : ∀ j ∈ pre ++ post, j ∈ z.l := fun j hj => by rw [hl]; simp at hj ⊢; rcases hj with hj | hj; exact .inl hj; exact .inr (.inr hj)
  have sub : (pre ++ post).Sublist z.l := by rw [hl]; exact List.Sublist.append (List.Sublist.refl _) (List.sublist_cons_self _ _)
  have hh : ∀ j ∈ pre ++ post, ¬ (j.c = i.c ∧ j.k = i.k) := by
    rw [hl, List.map_append, List.map_cons] at ndh
    have h1 := List.nodup_append.1 ndh
    have h2 := List.nodup_cons.1 h1.2.1
    intro j hj e
    have e2 : (j.c, j.k) = (i.c, i.k) := by rw [e.1, e.2]
    rcases List.mem_append.1 hj with hj | hj
    · exact h1.2.2 _ (List.mem_map_of_mem (f := fun i : It => (i.c, i.k)) hj) _ List.mem_cons_self e2
    · have := List.mem_map_of_mem (f := fun i : It => (i.c, i.k)) hj
      simp only [e2] at this
      exact h2.1 this
  have hlt := (List.getElem?_eq_some_iff.1 hlv.2).1
  unfold Sp.rm
  rw [hbut]
  refine ⟨h.ok.free _ _, fun j hj => ?_, fun j hj => h.fit j (hsub j hj), ndk.sublist (sub.map _), ndh.sublist (sub.map _), fun c hc => ?_⟩
  · rw [hf]
    have hj1 := h.live j (hsub j hj)
    refine ⟨hj1.1, ?_⟩
    show (upd z.s.ch i.c _ j.c)[j.k]? = _
    by_cases e : j.c = i.c
    · rw [e, upd_same]
      have e2 : i.k ≠ j.k := fun x => hh j hj ⟨e, x.symm⟩
      rw [List.getElem?_set_ne e2, ← e]; exact hj1.2
    · rw [upd_other _ _ _ e]; exact hj1.2
  · rw [hf] at hc ⊢
    have hcn := h.cnt c hc
    show (List.filter _ (pre ++ post)).length + (upd z.s.fr i.c _ c).length = (upd z.s.ch i.c _ c).length
    rw [hl] at hcn
    by_cases e : c = i.c
    · subst e
      rw [upd_same, upd_same, List.length_set, List.length_append]
      rw [List.filter_append, List.filter_cons_of_pos (by simp), List.length_append, List.length_cons] at hcn
      rw [List.filter_append, List.length_append]
      simp only [List.length_cons, List.length_nil]
      omega
    · rw [upd_other _ _ _ e, upd_other _ _ _ e]
      rw [List.filter_append, List.filter_cons_of_neg (by simp; exact fun x => e x.symm)] at hcn
      rw [List.filter_append]; exact hcn
theorem OkSp.drop {z : Sp} (h : OkSp z) (key : ByteArray) : OkSp (z.drop key) := by
  unfold Sp.drop
  split
  · exact h
  · rename_i i hi; exact h.rm (fnd_some hi).1
theorem Sp.drop_l (z : Sp) (key : ByteArray) : (z.drop key).l = but z.l key := by
  unfold Sp.drop
  split
  · rename_i h; exact (but_none (fnd_none h)).symm
  · rename_i i hi; show but z.l i.key = _; rw [(fnd_some hi).2]
theorem OkSp.touch {z : Sp} (h : OkSp z) (key : ByteArray) : OkSp (z.touch key) := by
  unfold Sp.touch
  split
  · exact h
  · rename_i i hi
    obtain ⟨pre, post, hl, hk, _⟩ := fnd_split hi
    have hb : but z.l key = pre ++ post := by have := h.ndk; rw [← hk]; rw [hl] at this ⊢; exact but_split this
    rw [hb]
    have hp : (i :: (pre ++ post)).Perm z.l := by rw [hl]; exact List.perm_middle.symm
    exact ⟨h.ok, fun j hj => h.live j (hp.mem_iff.1 hj), fun j hj => h.fit j (hp.mem_iff.1 hj), (hp.map _).nodup_iff.2 h.ndk, (hp.map _).nodup_iff.2 h.ndh, fun c hc => by
      rw [← h.cnt c hc]; congr 1; exact (hp.filter _).length_eq⟩
theorem It.pinned_key (i : It) (key : ByteArray) (b : Bool) : (i.pinned key b).key = i.key := by unfold It.pinned; split <;> rfl
theorem It.pinned_c (i : It) (key : ByteArray) (b : Bool) : (i.pinned key b).c = i.c := by unfold It.pinned; split <;> rfl
theorem It.pinned_k (i : It) (key : ByteArray) (b : Bool) : (i.pinned key b).k = i.k := by unfold It.pinned; split <;> rfl
theorem It.pinned_d (i : It) (key : ByteArray) (b : Bool) : (i.pinned key b).d = i.d := by unfold It.pinned; split <;> rfl
theorem pin_keys (l : List It) (key : ByteArray) (b : Bool) : (l.map fun i => i.pinned key b).map It.key = l.map It.key := by
  rw [List.map_map]; exact List.map_congr_left (fun i _ => i.pinned_key key b)
theorem OkSp.pin {z : Sp} (h : OkSp z) (key : ByteArray) (b : Bool) : OkSp (z.pin key b) := by
  refine ⟨h.ok, fun j hj => ?_, fun j hj => ?_, ?_, ?_, fun c hc => ?_⟩
  · obtain ⟨i, hi, rfl⟩ := List.mem_map.1 hj
    rw [It.pinned_c, It.pinned_k, It.pinned_key, It.pinned_d]; exact h.live i hi
  · obtain ⟨i, hi, rfl⟩ := List.mem_map.1 hj
    rw [It.pinned_key, It.pinned_d]; exact h.fit i hi
  · show ((z.l.map _).map It.key).Nodup
    rw [pin_keys]; exact h.ndk
  · show ((z.l.map _).map _).Nodup
    rw [List.map_map]
    have : (fun i : It => (i.c, i.k)) ∘ (fun i : It => i.pinned key b) = fun i : It => (i.c, i.k) := by funext i; simp [It.pinned_c, It.pinned_k]
    rw [this]; exact h.ndh
  · have hc : c < z.s.n := hc
    show (List.filter _ (z.l.map _)).length + (z.s.fr c).length = (z.s.ch c).length
    rw [← h.cnt c hc, List.filter_map, List.length_map]
    congr 2
    apply List.filter_congr
    intro i _
    simp [It.pinned_c]
/-- What an Alloc that is done makes of the slab. -/
structure Took (s s' : St) (c k : Nat) (d : ByteArray) : Prop where
  n : s'.n = s.n
  page : s'.page = s.page
  pages : s'.pages = s.pages
  hc : c < s.n
  new : (s'.ch c)[k]? = some (true, d)
  old : ∀ j m t, (s.ch j)[m]? = some (true, t) → ¬ (j = c ∧ m = k) ∧ (s'.ch j)[m]? = some (true, t)
  cnt : (s'.ch c).length + (s.fr c).length = (s.ch c).length + (s'.fr c).length + 1
  oth : ∀ j, j ≠ c → s'.ch j = s.ch j ∧ s'.fr j = s.fr j
theorem St.take_took {s : St} (h : Ok s) {c : Nat} (hc : c < s.n) (hf : s.fr c ≠ []) (d : ByteArray) : Took s (s.take c d) c (s.nxt c) d := by
  obtain ⟨d0, h0⟩ := h.nxt hc hf
  have hlt := (List.getElem?_eq_some_iff.1 h0).1
  have hp : 0 < (s.fr c).length := List.length_pos_iff.2 hf
  refine ⟨rfl, rfl, rfl, hc, ?_, fun j m t ht => ?_, ?_, fun j hj => ⟨upd_other _ _ _ hj, upd_other _ _ _ hj⟩⟩
  · show (upd s.ch c _ c)[_]? = _
    rw [upd_same, List.getElem?_set_self hlt]
  · have hne : ¬ (j = c ∧ m = s.nxt c) := by rintro ⟨rfl, rfl⟩; rw [h0] at ht; cases ht
    refine ⟨hne, ?_⟩
    show (upd s.ch c _ j)[_]? = _
    by_cases e : j = c
    · subst e
      rw [upd_same, List.getElem?_set_ne (fun x => hne ⟨rfl, x.symm⟩)]; exact ht
    · rw [upd_other _ _ _ e]; exact ht
  · show (upd s.ch c _ c).length + _ = _ + (upd s.fr c _ c).length + 1
    rw [upd_same, upd_same, List.length_set, List.length_dropLast]; omega
theorem St.alloc_none {s : St} {d : ByteArray} (hc : clsOf s d.size = none) : s.alloc d = ((0, 0, 2), s) := by unfold St.alloc; rw [hc]
/-- Alloc, where there is a class: full, or done. -/
theorem St.alloc_ways {s : St} (h : Ok s) {d : ByteArray} {c : Nat} (hc : clsOf s d.size = some c) :
    (s.fr c = [] ∧ s.left = 0 ∧ s.alloc d = ((0, 0, 6), s)) ∨ (¬ (s.fr c = [] ∧ s.left = 0) ∧ ∃ k s', s.alloc d = ((c, k, 0), s') ∧ Took s s' c k d ∧ (s.fr c ≠ [] → s'.left = s.left ∧ s'.pg = s.pg) ∧ (s.fr c = [] → s'.left + 1 = s.left ∧ s'.pg = upd s.pg c (s.pg c + 1))) := by
  have hi := (clsOf_some hc).1
  unfold St.alloc
  rw [hc]
  by_cases hf : s.fr c = []
  · by_cases hl : s.left = 0
    · exact .inl ⟨hf, hl, by simp only [hf, hl, if_true]⟩
    · refine .inr ⟨fun x => hl x.2, (s.grow c).nxt c, (s.grow c).take c d, by simp only [hf, hl, if_true, if_false], ?_, fun x => absurd hf x, fun _ => ⟨by show s.left - 1 + 1 = s.left; omega, rfl⟩⟩
      have tk := St.take_took (h.grow hi hl) (c := c) hi (St.grow_fr h hi) d
      refine ⟨tk.n, rfl, rfl, hi, tk.new, fun j m t ht => tk.old j m t ?_, ?_, fun j hj => ⟨(tk.oth j hj).1.trans (upd_other _ _ _ hj), (tk.oth j hj).2.trans (upd_other _ _ _ hj)⟩⟩
      · show (upd s.ch c _ j)[_]? = _
        by_cases e : j = c
        · subst e; rw [upd_same, List.getElem?_append_left (List.getElem?_eq_some_iff.1 ht).1]; exact ht
        · rw [upd_other _ _ _ e]; exact ht
      · have h1 := tk.cnt
        have h2 : ((s.grow c).ch c).length = (s.ch c).length + s.per c := by show (upd s.ch c _ c).length = _; rw [upd_same, List.length_append, List.length_replicate]
        have h3 : ((s.grow c).fr c).length = (s.fr c).length + s.per c := by show (upd s.fr c _ c).length = _; rw [upd_same, List.length_append, down_length]
        omega
  · exact .inr ⟨fun x => hf x.1, s.nxt c, s.take c d, by simp only [hf, if_false], St.take_took h hi hf d, fun _ => ⟨rfl, rfl⟩, fun x => absurd x hf⟩
theorem ba_size (a b : ByteArray) : (a ++ b).size = a.size + b.size := ByteArray.size_append
theorem OkSp.add {z : Sp} (h : OkSp z) {key d : ByteArray} {pin : Bool} {c : Nat} (hc : clsOf z.s (key ++ d).size = some c) (hn : ∀ i ∈ z.l, i.key ≠ key) (hf : ¬ (z.s.fr c = [] ∧ z.s.left = 0)) : OkSp (z.add key d pin) := by
  rcases St.alloc_ways h.ok hc with ⟨h1, h2, _⟩ | ⟨_, k, s', he, tk, _⟩
  · exact absurd ⟨h1, h2⟩ hf
  · have hok := h.ok.alloc (key ++ d)
    unfold Sp.add
    rw [he] at hok ⊢
    have hsz : (key ++ d).size ≤ 65536 := Nat.le_trans (clsOf_some hc).2.1 (h.ok.sz2 tk.hc)
    refine ⟨hok, fun i hi => ?_, fun i hi => ?_, ?_, ?_, fun j hj => ?_⟩
    · rcases List.mem_cons.1 hi with rfl | hi
      · exact ⟨by rw [tk.n]; exact tk.hc, tk.new⟩
      · have := h.live i hi; exact ⟨by rw [tk.n]; exact this.1, (tk.old _ _ _ this.2).2⟩
    · rcases List.mem_cons.1 hi with rfl | hi
      · exact hsz
      · exact h.fit i hi
    · show (_ :: z.l.map It.key).Nodup
      refine List.nodup_cons.2 ⟨fun hx => ?_, h.ndk⟩
      obtain ⟨i, hi, e⟩ := List.mem_map.1 hx
      exact hn i hi e
    · show (_ :: z.l.map _).Nodup
      refine List.nodup_cons.2 ⟨fun hx => ?_, h.ndh⟩
      obtain ⟨i, hi, e⟩ := List.mem_map.1 hx
      injection e with e1 e2
      exact (tk.old _ _ _ (h.live i hi).2).1 ⟨e1, e2⟩
    · have hj : j < z.s.n := by rw [← tk.n]; exact hj
      have hcn := h.cnt j hj
      show (List.filter _ (_ :: z.l)).length + (s'.fr j).length = (s'.ch j).length
      by_cases e : j = c
      · subst e
        rw [List.filter_cons_of_pos (by simp), List.length_cons]
        have := tk.cnt; omega
      · rw [List.filter_cons_of_neg (by simp; exact fun x => e x.symm), (tk.oth j e).1, (tk.oth j e).2]; exact hcn
theorem vic_some {z : Sp} {c : Nat} {v : It} (h : z.vic c = some v) : v ∈ z.l ∧ v.c = c ∧ v.pin = false := by
  unfold Sp.vic at h
  have := List.mem_of_getLast? h
  have := List.mem_filter.1 this
  refine ⟨this.1, ?_⟩
  have h2 := this.2
  unfold It.may at h2
  simpa using h2
/-- Behind one that went there is room. -/
theorem Sp.rm_room {z : Sp} (h : OkSp z) {v : It} (hv : v ∈ z.l) {len : Nat} (hc : clsOf z.s len = some v.c) : clsOf (z.rm v).s len = some v.c ∧ ¬ ((z.rm v).s.fr v.c = [] ∧ (z.rm v).s.left = 0) := by
  have hl := h.live v hv
  have hf := St.free_at hl.1 hl.2
  unfold Sp.rm
  rw [hf]
  refine ⟨hc, fun x => ?_⟩
  have this : upd z.s.fr v.c (z.s.fr v.c ++ [v.k]) v.c = [] := x.1
  rw [upd_same] at this
  simp at this
theorem but_no {z : Sp} {v : It} {key : ByteArray} (hn : ∀ i ∈ z.l, i.key ≠ key) : ∀ i ∈ (z.rm v).l, i.key ≠ key := fun i hi => hn i (mem_but.1 hi).1
theorem OkSp.put1 {z : Sp} (h : OkSp z) {key d : ByteArray} {pin : Bool} (hn : ∀ i ∈ z.l, i.key ≠ key) : OkSp (z.put1 key d pin).2.2 := by
  unfold Sp.put1
  split
  · exact h
  · rename_i c hc
    split
    · split
      · exact h
      · rename_i v hv
        obtain ⟨h1, h2, h3⟩ := vic_some hv
        subst h2
        obtain ⟨r1, r2⟩ := Sp.rm_room h h1 hc
        exact (h.rm h1).add r1 (but_no hn) r2
    · rename_i he
      refine h.add hc hn (fun x => he ?_)
      rcases St.alloc_ways h.ok hc with ⟨_, _, h3⟩ | ⟨h3, _⟩
      · rw [h3]
      · exact absurd x h3
theorem Sp.drop_no (z : Sp) (key : ByteArray) : ∀ i ∈ (z.drop key).l, i.key ≠ key := by
  intro i hi
  rw [Sp.drop_l] at hi
  exact (mem_but.1 hi).2
theorem OkSp.put {z : Sp} (h : OkSp z) (key d : ByteArray) (pin : Bool) : OkSp (z.put key d pin).2.2 := (h.drop key).put1 (z.drop_no key)
/-- No more items than so many. -/
theorem OkSp.few {z : Sp} (h : OkSp z) : z.l.length ≤ 720896 := by
  have hb := nodup_bound 720896 (z.l.map fun i => i.c * 65536 + i.k) (by
    have h1 := h.ndh
    have h2 : ∀ i ∈ z.l, i.k < 65536 := fun i hi => by
      have := h.live i hi
      exact Nat.lt_of_lt_of_le (List.getElem?_eq_some_iff.1 this.2).1 (h.ok.ch2 this.1)
    unfold List.Nodup at h1 ⊢
    rw [List.pairwise_map] at h1 ⊢
    refine h1.imp_of_mem (fun {a b} ha hb hab e => hab ?_)
    have := h2 a ha
    have := h2 b hb
    have e1 : a.c = b.c := by omega
    have e2 : a.k = b.k := by omega
    rw [e1, e2]) (fun x hx => by
      obtain ⟨i, hi, rfl⟩ := List.mem_map.1 hx
      have := h.live i hi
      have h1 := Nat.lt_of_lt_of_le (List.getElem?_eq_some_iff.1 this.2).1 (h.ok.ch2 this.1)
      have h2 := h.ok.n2
      omega)
  rwa [List.length_map] at hb
theorem OkSp.new {pages page n : Nat} (h : Ok (St.new pages page n)) : OkSp ⟨St.new pages page n, []⟩ :=
  ⟨h, (fun _ hi => by cases hi), (fun _ hi => by cases hi), List.nodup_nil, List.nodup_nil, fun _ _ => rfl⟩
end Go.Proofs.YtfinaichajbnkaaGreatDoor


namespace Go.Proofs.YtfinaichajbnkaaGreatDoor

/-- A store of small items. -/
structure Rm (z : Sp) : Prop where
  ok : OkSp z
  two : ∀ c, c < z.s.n → 2 ≤ c → z.s.pg c = 0
  one : ∀ c, c < z.s.n → z.s.pg c ≤ 1
  ps : 3 ≤ z.s.pages
theorem sum_two (n : Nat) : sumN (fun c => if c < 2 then 1 else 0) n ≤ 2 := by
  have h : ∀ n, sumN (fun c => if c < 2 then 1 else 0) n = min n 2 := by
    intro n
    induction n with
    | zero => rfl
    | succ n ih =>
      rw [sumN, ih]
      by_cases h : n < 2
      · rw [if_pos h]; omega
      · rw [if_neg h]; omega
  rw [h]; omega
theorem Rm.left {z : Sp} (h : Rm z) : 1 ≤ z.s.left := by
  have h1 := sumN_mono (f := z.s.pg) (g := fun c => if c < 2 then 1 else 0) (n := z.s.n) (fun i hi => by
    by_cases h2 : i < 2
    · rw [if_pos h2]; exact h.one i hi
    · rw [if_neg h2, h.two i hi (by omega)]; exact Nat.le_refl _)
  have h2 := sum_two z.s.n
  have h3 := h.ok.ok.sum
  have h4 := h.ps
  omega
/-- One more put: it has room, and nothing goes. -/
theorem Rm.add {z : Sp} (h : Rm z) {key d : ByteArray} {pin : Bool} {c : Nat} (hc : clsOf z.s (key ++ d).size = some c) (h2 : c < 2) (hn : ∀ i ∈ z.l, i.key ≠ key) (hl : z.l.length < z.s.per c) :
    z.put1 key d pin = ([], 0, z.add key d pin) ∧ Rm (z.add key d pin) ∧ (z.add key d pin).s.page = z.s.page ∧ ∃ i : It, (z.add key d pin).l = i :: z.l ∧ i.key = key ∧ i.d = d := by
  have h1 := h.left
  have hf : ¬ (z.s.fr c = [] ∧ z.s.left = 0) := fun x => by omega
  have hok := h.ok.add (pin := pin) hc hn hf
  rcases St.alloc_ways h.ok.ok hc with ⟨_, h3, _⟩ | ⟨_, k, s', he, tk, g1, g2⟩
  · omega
  have hp : z.put1 key d pin = ([], 0, z.add key d pin) := by
    unfold Sp.put1
    rw [hc]
    simp only [he]
    rw [if_neg (by decide)]
  have hs : (z.add key d pin).s = s' := by unfold Sp.add; rw [he]
  have hpg : ∀ j, j < z.s.n → s'.pg j = z.s.pg j ∨ (j = c ∧ z.s.pg c = 0 ∧ s'.pg j = 1) := by
    intro j hj
    by_cases e : z.s.fr c = []
    · have g := (g2 e).2
      by_cases ej : j = c
      · subst ej
        have hcn := h.ok.cnt j hj
        have hlen := h.ok.ok.len j hj
        have h5 := List.length_filter_le (fun i : It => decide (i.c = j)) z.l
        have h6 := h.one j hj
        rw [e, List.length_nil] at hcn
        have h7 : z.s.pg j = 0 := by
          rcases Nat.lt_or_ge (z.s.pg j) 1 with h8 | h8
          · omega
          · have h9 : z.s.pg j = 1 := by omega
            rw [h9, Nat.one_mul] at hlen
            omega
        refine .inr ⟨rfl, h7, ?_⟩
        rw [g, upd_same, h7]
      · refine .inl ?_
        rw [g, upd_other _ _ _ ej]
    · exact .inl (by rw [(g1 e).2])
  refine ⟨hp, ⟨hok, fun j hj hj2 => ?_, fun j hj => ?_, ?_⟩, by rw [hs]; exact tk.page, ⟨key, (z.s.alloc (key ++ d)).1.1, (z.s.alloc (key ++ d)).1.2.1, pin, d⟩, rfl, rfl, rfl⟩
  · rw [hs] at hj ⊢
    rw [tk.n] at hj
    rcases hpg j hj with e | ⟨e, _⟩
    · rw [e]; exact h.two j hj hj2
    · omega
  · rw [hs] at hj ⊢
    rw [tk.n] at hj
    rcases hpg j hj with e | ⟨_, _, e⟩
    · rw [e]; exact h.one j hj
    · omega
  · rw [hs, tk.pages]; exact h.ps
theorem Rm.rm {z : Sp} (h : Rm z) {i : It} (hi : i ∈ z.l) : Rm (z.rm i) ∧ (z.rm i).s.page = z.s.page ∧ (z.rm i).s.n = z.s.n := by
  have hl := h.ok.live i hi
  have hf := St.free_at hl.1 hl.2
  have hok := h.ok.rm hi
  unfold Sp.rm at hok ⊢
  rw [hf] at hok ⊢
  exact ⟨⟨hok, h.two, h.one, h.ps⟩, rfl, rfl⟩
theorem Rm.drop {z : Sp} (h : Rm z) (key : ByteArray) : Rm (z.drop key) ∧ (z.drop key).s.page = z.s.page ∧ (z.drop key).s.n = z.s.n := by
  unfold Sp.drop
  split
  · exact ⟨h, rfl, rfl⟩
  · rename_i i hi; exact h.rm (fnd_some hi).1
theorem Rm.touch {z : Sp} (h : Rm z) (key : ByteArray) : Rm (z.touch key) ∧ (z.touch key).s = z.s := by
  have hok := h.ok.touch key
  unfold Sp.touch at hok ⊢
  split
  · exact ⟨h, rfl⟩
  · rename_i i hi
    rw [hi] at hok
    exact ⟨⟨hok, h.two, h.one, h.ps⟩, rfl⟩
theorem but_le (l : List It) (key : ByteArray) : (but l key).length ≤ l.length := List.length_filter_le _ _
theorem per_same {s t : St} (h : s.page = t.page) (c : Nat) : s.per c = t.per c := by unfold St.per; rw [h]
theorem clsOf_same {s t : St} (h : s.n = t.n) (len : Nat) : clsOf s len = clsOf t len := by unfold clsOf; rw [h]
/-- Put of a small thing: the key's elder one is gone, all others are as they were. -/
theorem Rm.put {z : Sp} (h : Rm z) {key d : ByteArray} {pin : Bool} {c : Nat} (hc : clsOf z.s (key ++ d).size = some c) (h2 : c < 2) (hl : (but z.l key).length < z.s.per c) :
    ∃ z', z.put key d pin = ([], 0, z') ∧ Rm z' ∧ z'.s.page = z.s.page ∧ ∃ i : It, z'.l = i :: but z.l key ∧ i.key = key ∧ i.d = d := by
  obtain ⟨h3, h4, h5⟩ := h.drop key
  have e := Sp.drop_l z key
  obtain ⟨a1, a2, a3, i, a4, a5, a6⟩ := h3.add (pin := pin) (key := key) (d := d) (c := c) (by rw [clsOf_same h5]; exact hc) h2 (z.drop_no key) (by rw [e, per_same h4]; exact hl)
  exact ⟨_, a1, a2, a3.trans h4, i, by rw [a4, e], a5, a6⟩
/- What is found. -/
theorem fnd_cons (i : It) (l : List It) (key : ByteArray) : fnd (i :: l) key = if i.key = key then some i else fnd l key := by
  unfold fnd
  rw [List.find?_cons]
  by_cases h : i.key = key
  · simp [h]
  · simp [h]
theorem fnd_but_ne {l : List It} {key key' : ByteArray} (h : key' ≠ key) : fnd (but l key) key' = fnd l key' := by
  induction l with
  | nil => rfl
  | cons i l ih =>
    unfold but at ih ⊢
    rw [List.filter_cons]
    by_cases e : i.key = key
    · rw [if_neg (by simp [e])]
      rw [fnd_cons, if_neg (by rw [e]; exact fun x => h x.symm), ih]
    · rw [if_pos (by simp [e]), fnd_cons, fnd_cons, ih]
theorem fnd_put {l : List It} {i : It} {key : ByteArray} (hi : i.key = key) (key' : ByteArray) : fnd (i :: but l key) key' = if key' = key then some i else fnd l key' := by
  rw [fnd_cons, hi]
  by_cases e : key' = key
  · rw [if_pos e.symm, if_pos e]
  · rw [if_neg (fun x => e x.symm), if_neg e, fnd_but_ne e]
theorem fnd_touch {z : Sp} (key key' : ByteArray) : fnd (z.touch key).l key' = fnd z.l key' := by
  unfold Sp.touch
  split
  · rfl
  · rename_i i hi
    show fnd (i :: but z.l key) key' = _
    rw [fnd_put (fnd_some hi).2]
    split
    · rename_i e; rw [e, hi]
    · rfl
theorem fnd_drop {z : Sp} (key key' : ByteArray) : fnd (z.drop key).l key' = if key' = key then none else fnd z.l key' := by
  rw [Sp.drop_l]
  split
  · rename_i e; rw [e]; exact fnd_but _ _
  · rename_i e; exact fnd_but_ne e
theorem touch_len {z : Sp} (h : OkSp z) (key : ByteArray) : (z.touch key).l.Perm z.l := by
  unfold Sp.touch
  split
  · exact List.Perm.refl _
  · rename_i i hi
    obtain ⟨pre, post, hl, hk, _⟩ := fnd_split hi
    have hb : but z.l key = pre ++ post := by have := h.ndk; rw [← hk]; rw [hl] at this ⊢; exact but_split this
    show (i :: but z.l key).Perm z.l
    rw [hb, hl]; exact List.perm_middle.symm
theorem Rm.new {pages page n : Nat} (h : Ok (St.new pages page n)) (hp : 3 ≤ pages) : Rm ⟨St.new pages page n, []⟩ :=
  ⟨OkSp.new h, fun _ _ _ => rfl, fun _ _ => Nat.zero_le _, hp⟩
end Go.Proofs.YtfinaichajbnkaaGreatDoor
