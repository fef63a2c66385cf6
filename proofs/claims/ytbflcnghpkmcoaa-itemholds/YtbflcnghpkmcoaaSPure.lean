/-
  THE SLAB AS PLAIN DATA: classes, chunks, free ones; what Alloc, Free, Read make of it; what always holds.
-/
import Derived.Below
namespace Go.Proofs.Ytbflcnghpkmcoaa

/-- A class's size. -/
def sz (i : Nat) : Nat := 64 * 2 ^ i
theorem sz_pos (i : Nat) : 64 ≤ sz i := by
  unfold sz; have := Nat.one_le_two_pow (n := i); omega
theorem sz_succ (i : Nat) : sz (i + 1) = 2 * sz i := by unfold sz; rw [Nat.pow_succ]; omega
theorem sz_mono {i j : Nat} (h : i ≤ j) : sz i ≤ sz j := by
  unfold sz; exact Nat.mul_le_mul_left _ (Nat.pow_le_pow_right (by omega) h)
theorem sz_lt {i j : Nat} (h : i < j) : sz i < sz j := by
  have := sz_mono (i := i + 1) (j := j) h
  rw [sz_succ] at this; have := sz_pos i; omega

/-- A chunk: is it live, its data. -/
def noChunk : (Bool × ByteArray) := (false, ⟨#[]⟩)
def upd {α : Type} (f : Nat → α) (i : Nat) (x : α) : Nat → α := fun j => if j = i then x else f j
theorem upd_same {α : Type} (f : Nat → α) (i : Nat) (x : α) : upd f i x i = x := by simp [upd]
theorem upd_other {α : Type} (f : Nat → α) (i : Nat) (x : α) {j : Nat} (h : j ≠ i) : upd f i x j = f j := by simp [upd, h]

/-- A slab: a page's bytes, pages, pages left, classes; each class's chunks, free ones (the last is taken first), pages. -/
structure St where
  page : Nat
  pages : Nat
  left : Nat
  n : Nat
  ch : Nat → List (Bool × ByteArray)
  fr : Nat → List Nat
  pg : Nat → Nat

/-- How many chunks a page of a class has. -/
def St.per (s : St) (i : Nat) : Nat := s.page / sz i
/-- The sum of f below n. -/
def sumN (f : Nat → Nat) : Nat → Nat
  | 0 => 0
  | n + 1 => sumN f n + f n
theorem sumN_congr {f g : Nat → Nat} : ∀ {n : Nat}, (∀ i, i < n → f i = g i) → sumN f n = sumN g n
  | 0, _ => rfl
  | n + 1, h => by rw [sumN, sumN, sumN_congr (fun i hi => h i (by omega)), h n (by omega)]
theorem sumN_upd {f g : Nat → Nat} {i : Nat} : ∀ {n : Nat}, (∀ j, j < n → j ≠ i → f j = g j) → i < n → sumN f n + g i = sumN g n + f i
  | 0, _, h => by omega
  | n + 1, h, hi => by
    rw [sumN, sumN]
    by_cases e : i = n
    · subst e; rw [sumN_congr (f := f) (g := g) (fun j hj => h j (by omega) (by omega))]; omega
    · have := sumN_upd (f := f) (g := g) (i := i) (n := n) (fun j hj hne => h j (by omega) hne) (by omega)
      rw [h n (by omega) (by omega)]; omega
theorem sumN_le {f : Nat → Nat} {i : Nat} : ∀ {n : Nat}, i < n → f i ≤ sumN f n
  | 0, h => by omega
  | n + 1, h => by
    rw [sumN]
    by_cases e : i = n
    · subst e; omega
    · have := sumN_le (f := f) (i := i) (n := n) (by omega); omega
theorem sumN_mono {f g : Nat → Nat} : ∀ {n : Nat}, (∀ i, i < n → f i ≤ g i) → sumN f n ≤ sumN g n
  | 0, _ => Nat.le_refl _
  | n + 1, h => by
    rw [sumN, sumN]; have := sumN_mono (f := f) (g := g) (n := n) (fun i hi => h i (by omega)); have := h n (by omega); omega
theorem sumN_mul {f : Nat → Nat} {c : Nat} : ∀ {n : Nat}, sumN (fun i => f i * c) n = sumN f n * c
  | 0 => by simp [sumN]
  | n + 1 => by rw [sumN, sumN, sumN_mul, Nat.add_mul]
theorem sumN_zero {f : Nat → Nat} : ∀ {n : Nat}, (∀ i, i < n → f i = 0) → sumN f n = 0
  | 0, _ => rfl
  | n + 1, h => by rw [sumN, sumN_zero (fun i hi => h i (by omega)), h n (by omega)]

/-- What always holds. -/
structure Ok (s : St) : Prop where
  p1 : 1 ≤ s.pages
  p2 : s.pages ≤ 64
  l1 : s.left ≤ s.pages
  g1 : 64 ≤ s.page
  g2 : s.page ≤ 65536
  n1 : ∀ i, i < s.n ↔ sz i ≤ s.page
  nd : ∀ i, i < s.n → (s.fr i).Nodup
  fl : ∀ i, i < s.n → ∀ k, k ∈ s.fr i → ∃ d, (s.ch i)[k]? = some (false, d)
  len : ∀ i, i < s.n → (s.ch i).length = s.pg i * s.per i
  sum : sumN s.pg s.n + s.left = s.pages
theorem Ok.n2 {s : St} (h : Ok s) : s.n ≤ 11 := by
  refine Nat.le_of_not_lt fun hn => ?_
  have := (h.n1 11).1 hn
  have e : sz 11 = 131072 := rfl
  have := h.g2; omega
theorem Ok.n0 {s : St} (h : Ok s) : 0 < s.n := (h.n1 0).2 (by have := h.g1; have e : sz 0 = 64 := rfl; omega)
theorem Ok.szp {s : St} (h : Ok s) {i : Nat} (hi : i < s.n) : sz i ≤ s.page := (h.n1 i).1 hi
theorem Ok.sz2 {s : St} (h : Ok s) {i : Nat} (hi : i < s.n) : sz i ≤ 65536 := by have := h.szp hi; have := h.g2; omega
theorem Ok.per1 {s : St} (h : Ok s) {i : Nat} (hi : i < s.n) : 1 ≤ s.per i := by
  unfold St.per; exact Nat.div_pos (h.szp hi) (by have := sz_pos i; omega)
theorem Ok.per2 {s : St} (h : Ok s) (i : Nat) : s.per i ≤ 1024 := by
  unfold St.per
  have h1 : s.page / sz i ≤ s.page / 64 := Nat.div_le_div_left (sz_pos i) (by omega)
  have := h.g2
  have : s.page / 64 ≤ 1024 := by omega
  omega
theorem Ok.pg2 {s : St} (h : Ok s) {i : Nat} (hi : i < s.n) : s.pg i ≤ 64 := by
  have := sumN_le (f := s.pg) hi; have := h.sum; have := h.p2; omega
theorem Ok.ch2 {s : St} (h : Ok s) {i : Nat} (hi : i < s.n) : (s.ch i).length ≤ 65536 := by
  rw [h.len i hi]
  exact Nat.le_trans (Nat.mul_le_mul (h.pg2 hi) (h.per2 i)) (by decide)
theorem Ok.frlt {s : St} (h : Ok s) {i : Nat} (hi : i < s.n) {k : Nat} (hk : k ∈ s.fr i) : k < (s.ch i).length := by
  obtain ⟨d, hd⟩ := h.fl i hi k hk
  exact (List.getElem?_eq_some_iff.1 hd).1
theorem nodup_bound : ∀ (m : Nat) (l : List Nat), l.Nodup → (∀ x ∈ l, x < m) → l.length ≤ m
  | 0, l, _, h => by
    cases l with
    | nil => simp
    | cons a l => have := h a (by simp); omega
  | m + 1, l, hn, h => by
    by_cases hm : m ∈ l
    · have h1 := nodup_bound m (l.erase m) (hn.erase m) (fun x hx => by
        have := h x (List.mem_of_mem_erase hx)
        have : x ≠ m := fun e => by subst e; exact (List.Nodup.not_mem_erase hn) hx
        omega)
      rw [List.length_erase_of_mem hm] at h1
      have : 0 < l.length := List.length_pos_of_mem hm
      omega
    · have := nodup_bound m l hn (fun x hx => by
        have := h x hx
        have : x ≠ m := fun e => hm (e ▸ hx)
        omega)
      omega
theorem Ok.fr2 {s : St} (h : Ok s) {i : Nat} (hi : i < s.n) : (s.fr i).length ≤ (s.ch i).length := nodup_bound _ _ (h.nd i hi) (fun _ hk => h.frlt hi hk)

/-- The class of so many bytes. -/
def ClsIs (s : St) (len : Int) (r : Int) : Prop := (r = -1 ∧ (len < 0 ∨ ∀ i, i < s.n → (sz i : Int) < len)) ∨ ∃ i : Nat, r = i ∧ i < s.n ∧ 0 ≤ len ∧ len ≤ sz i ∧ ∀ j, j < i → (sz j : Int) < len
theorem ClsIs.one {s : St} {len r r' : Int} (h : ClsIs s len r) (h' : ClsIs s len r') : r = r' := by
  rcases h with ⟨rfl, h⟩ | ⟨i, rfl, hi, h0, h1, h2⟩ <;> rcases h' with ⟨rfl, h'⟩ | ⟨j, rfl, hj, k0, k1, k2⟩
  · rfl
  · exfalso; rcases h with h | h
    · omega
    · have := h j hj; omega
  · exfalso; rcases h' with h' | h'
    · omega
    · have := h' i hi; omega
  · have : ¬ i < j := fun e => by have := k2 i e; omega
    have : ¬ j < i := fun e => by have := h2 j e; omega
    omega
/-- A class for so many bytes: which. -/
def clsOf (s : St) (len : Nat) : Option Nat := (List.range s.n).find? (fun i => decide (len ≤ sz i))
theorem clsOf_is {s : St} {len : Nat} {r : Int} (h : ClsIs s len r) : (r = -1 ∧ clsOf s len = none) ∨ ∃ i : Nat, r = i ∧ i < s.n ∧ clsOf s len = some i ∧ len ≤ sz i := by
  rcases h with ⟨rfl, h⟩ | ⟨i, rfl, hi, h0, h1, h2⟩
  · refine .inl ⟨rfl, ?_⟩
    unfold clsOf
    rw [List.find?_eq_none]
    intro x hx
    have hx := List.mem_range.1 hx
    rcases h with h | h
    · omega
    · have := h x hx; simp; omega
  · refine .inr ⟨i, rfl, hi, ?_, by omega⟩
    unfold clsOf
    rw [List.find?_range_eq_some]
    refine ⟨by simp; omega, by simpa using hi, fun j hj => ?_⟩
    have := h2 j hj
    simp; omega
theorem clsOf_some {s : St} {len i : Nat} (h : clsOf s len = some i) : i < s.n ∧ len ≤ sz i ∧ ∀ j, j < i → sz j < len := by
  unfold clsOf at h
  rw [List.find?_range_eq_some] at h
  obtain ⟨h1, h2, h3⟩ := h
  refine ⟨by simpa using h2, by simpa using h1, fun j hj => ?_⟩
  have := h3 j hj
  simp at this; omega
theorem clsOf_none {s : St} {len : Nat} (h : clsOf s len = none) : ∀ i, i < s.n → sz i < len := by
  unfold clsOf at h
  rw [List.find?_eq_none] at h
  intro i hi
  have := h i (List.mem_range.2 hi)
  simp at this; omega

/-- The numbers of a page's chunks, the least last. -/
def down (first : Nat) : Nat → List Nat
  | 0 => []
  | q + 1 => (first + q) :: down first q
theorem down_length (first : Nat) : ∀ q, (down first q).length = q
  | 0 => rfl
  | q + 1 => by simp [down, down_length first q]
theorem mem_down {first k : Nat} : ∀ {q : Nat}, k ∈ down first q ↔ first ≤ k ∧ k < first + q
  | 0 => by simp [down]
  | q + 1 => by rw [down, List.mem_cons, mem_down (q := q)]; omega
theorem nodup_down (first : Nat) : ∀ q, (down first q).Nodup
  | 0 => by simp [down]
  | q + 1 => by rw [down, List.nodup_cons]; exact ⟨fun h => by have := mem_down.1 h; omega, nodup_down first q⟩
/-- A class has one page more. -/
def St.grow (s : St) (i : Nat) : St := { s with left := s.left - 1, ch := upd s.ch i (s.ch i ++ List.replicate (s.per i) noChunk), fr := upd s.fr i (s.fr i ++ down (s.ch i).length (s.per i)), pg := upd s.pg i (s.pg i + 1) }
/-- The chunk that is taken next. -/
def St.nxt (s : St) (i : Nat) : Nat := (s.fr i).getLastD 0
/-- It is taken. -/
def St.take (s : St) (i : Nat) (d : ByteArray) : St := { s with ch := upd s.ch i ((s.ch i).set (s.nxt i) (true, d)), fr := upd s.fr i (s.fr i).dropLast }
/-- Alloc: class, number, error; what it makes. -/
def St.alloc (s : St) (d : ByteArray) : (Nat × Nat × Nat) × St :=
  match clsOf s d.size with
  | none => ((0, 0, 2), s)
  | some i => if s.fr i = [] then (if s.left = 0 then ((0, 0, 6), s) else ((i, (s.grow i).nxt i, 0), (s.grow i).take i d)) else ((i, s.nxt i, 0), s.take i d)
/-- Is a chunk live? -/
def St.has (s : St) (c k : Int) : Bool := decide (0 ≤ c ∧ c < s.n ∧ 0 ≤ k ∧ k < (s.ch c.toNat).length) && ((s.ch c.toNat).getD k.toNat noChunk).1
/-- Its data. -/
def St.dat (s : St) (c k : Int) : ByteArray := ((s.ch c.toNat).getD k.toNat noChunk).2
/-- Free. -/
def St.free (s : St) (c k : Int) : St := if s.has c k = true then { s with ch := upd s.ch c.toNat ((s.ch c.toNat).set k.toNat noChunk), fr := upd s.fr c.toNat (s.fr c.toNat ++ [k.toNat]) } else s
/-- Live chunks. -/
def St.live (s : St) : Nat := sumN (fun i => (s.ch i).length - (s.fr i).length) s.n
/-- A new slab. -/
def St.new (pages page n : Nat) : St := ⟨page, pages, pages, n, fun _ => [], fun _ => [], fun _ => 0⟩

theorem Ok.new {pages page n : Nat} (p1 : 1 ≤ pages) (p2 : pages ≤ 64) (g1 : 64 ≤ page) (g2 : page ≤ 65536) (hn : ∀ i, i < n ↔ sz i ≤ page) : Ok (St.new pages page n) :=
  ⟨p1, p2, Nat.le_refl _, g1, g2, hn, fun _ _ => List.nodup_nil, (fun _ _ _ h => by cases h), (fun _ _ => by simp [St.new]), by
    show sumN (fun _ => 0) n + pages = pages
    rw [sumN_zero (fun _ _ => rfl)]; omega⟩
theorem Ok.grow {s : St} (h : Ok s) {i : Nat} (hi : i < s.n) (hl : s.left ≠ 0) : Ok (s.grow i) := by
  have hp : (s.grow i).per = s.per := rfl
  refine ⟨h.p1, h.p2, by show s.left - 1 ≤ s.pages; have := h.l1; omega, h.g1, h.g2, h.n1, fun j hj => ?_, fun j hj k hk => ?_, fun j hj => ?_, ?_⟩
  · show (upd s.fr i _ j).Nodup
    by_cases e : j = i
    · subst e; rw [upd_same, List.nodup_append]
      refine ⟨h.nd j hi, nodup_down _ _, fun a ha b hb => ?_⟩
      have := h.frlt hi ha; have := mem_down.1 hb; omega
    · rw [upd_other _ _ _ e]; exact h.nd j hj
  · show ∃ d, (upd s.ch i _ j)[k]? = _
    have hk : k ∈ upd s.fr i (s.fr i ++ down (s.ch i).length (s.per i)) j := hk
    by_cases e : j = i
    · subst e
      rw [upd_same] at hk ⊢
      rcases List.mem_append.1 hk with hk | hk
      · obtain ⟨d, hd⟩ := h.fl j hi k hk
        exact ⟨d, by rw [List.getElem?_append_left (List.getElem?_eq_some_iff.1 hd).1]; exact hd⟩
      · have := mem_down.1 hk
        exact ⟨⟨#[]⟩, by rw [List.getElem?_append_right (by omega), List.getElem?_replicate, if_pos (by omega)]; rfl⟩
    · rw [upd_other _ _ _ e] at hk ⊢; exact h.fl j hj k hk
  · show (upd s.ch i _ j).length = upd s.pg i _ j * s.per j
    by_cases e : j = i
    · subst e; rw [upd_same, upd_same, List.length_append, List.length_replicate, h.len j hi, Nat.add_mul, Nat.one_mul]
    · rw [upd_other _ _ _ e, upd_other _ _ _ e]; exact h.len j hj
  · show sumN (upd s.pg i _) s.n + (s.left - 1) = s.pages
    have := sumN_upd (f := upd s.pg i (s.pg i + 1)) (g := s.pg) (i := i) (n := s.n) (fun j _ e => upd_other _ _ _ e) hi
    rw [upd_same] at this
    have := h.sum; omega
theorem St.nxt_mem {s : St} {i : Nat} (h : s.fr i ≠ []) : s.nxt i ∈ s.fr i ∧ s.fr i = (s.fr i).dropLast ++ [s.nxt i] := by
  have e : s.nxt i = (s.fr i).getLast h := by
    unfold St.nxt; rw [List.getLastD_eq_getLast?, List.getLast?_eq_some_getLast h]; rfl
  rw [e]
  exact ⟨List.getLast_mem h, (List.dropLast_concat_getLast h).symm⟩
theorem Ok.nxt {s : St} (h : Ok s) {i : Nat} (hi : i < s.n) (hf : s.fr i ≠ []) : ∃ d, (s.ch i)[s.nxt i]? = some (false, d) := h.fl i hi _ (s.nxt_mem hf).1
theorem Ok.take {s : St} (h : Ok s) {i : Nat} (hi : i < s.n) (hf : s.fr i ≠ []) (d : ByteArray) : Ok (s.take i d) := by
  obtain ⟨hm, he⟩ := s.nxt_mem hf
  have hnd := h.nd i hi
  rw [he, List.nodup_append] at hnd
  refine ⟨h.p1, h.p2, h.l1, h.g1, h.g2, h.n1, fun j hj => ?_, fun j hj k hk => ?_, fun j hj => ?_, h.sum⟩
  · show (upd s.fr i _ j).Nodup
    by_cases e : j = i
    · subst e; rw [upd_same]; exact hnd.1
    · rw [upd_other _ _ _ e]; exact h.nd j hj
  · show ∃ d', (upd s.ch i _ j)[k]? = _
    have hk : k ∈ upd s.fr i (s.fr i).dropLast j := hk
    by_cases e : j = i
    · subst e
      rw [upd_same] at hk ⊢
      have hne : s.nxt j ≠ k := fun e => by have := hnd.2.2 k hk (s.nxt j) (by simp); exact this e.symm
      rw [List.getElem?_set_ne hne]
      exact h.fl j hi k (List.dropLast_subset _ hk)
    · rw [upd_other _ _ _ e] at hk ⊢; exact h.fl j hj k hk
  · show (upd s.ch i _ j).length = s.pg j * s.per j
    by_cases e : j = i
    · subst e; rw [upd_same, List.length_set]; exact h.len j hi
    · rw [upd_other _ _ _ e]; exact h.len j hj
theorem St.grow_fr {s : St} (h : Ok s) {i : Nat} (hi : i < s.n) : (s.grow i).fr i ≠ [] := by
  show upd s.fr i _ i ≠ []
  rw [upd_same]
  intro e
  have := congrArg List.length e
  rw [List.length_append, down_length] at this
  have := h.per1 hi
  simp at *; omega
theorem Ok.alloc {s : St} (h : Ok s) (d : ByteArray) : Ok (s.alloc d).2 := by
  unfold St.alloc
  split
  · exact h
  · rename_i i hc
    have hi := (clsOf_some hc).1
    split
    · split
      · exact h
      · rename_i hl; exact (h.grow hi hl).take (i := i) hi (St.grow_fr h hi) d
    · rename_i hf; exact h.take hi hf d
theorem St.has_of {s : St} {c k : Int} (h : s.has c k = true) : ∃ (i j : Nat) (d : ByteArray), c = i ∧ k = j ∧ i < s.n ∧ j < (s.ch i).length ∧ (s.ch i)[j]? = some (true, d) ∧ s.dat c k = d := by
  unfold St.has at h
  rw [Bool.and_eq_true, decide_eq_true_eq] at h
  obtain ⟨⟨h1, h2, h3, h4⟩, h5⟩ := h
  refine ⟨c.toNat, k.toNat, s.dat c k, by omega, by omega, by omega, by omega, ?_, rfl⟩
  have hlt : k.toNat < (s.ch c.toNat).length := by omega
  unfold St.dat
  rw [List.getD_eq_getElem?_getD, List.getElem?_eq_getElem hlt] at *
  rw [← h5]; rfl
theorem St.has_mk {s : St} {i j : Nat} {d : ByteArray} (hi : i < s.n) (h : (s.ch i)[j]? = some (true, d)) : s.has i j = true ∧ s.dat i j = d := by
  have hlt := (List.getElem?_eq_some_iff.1 h).1
  unfold St.has St.dat
  simp only [Int.toNat_natCast]
  rw [List.getD_eq_getElem?_getD, h]
  exact ⟨by simp; omega, rfl⟩
theorem Ok.free {s : St} (h : Ok s) (c k : Int) : Ok (s.free c k) := by
  unfold St.free
  split
  · rename_i hh
    obtain ⟨i, m, d, rfl, rfl, hi, hm, hg, _⟩ := St.has_of hh
    simp only [Int.toNat_natCast]
    have hnm : m ∉ s.fr i := fun hx => by obtain ⟨d', hd'⟩ := h.fl i hi m hx; rw [hg] at hd'; cases hd'
    refine ⟨h.p1, h.p2, h.l1, h.g1, h.g2, h.n1, fun j hj => ?_, fun j hj k hk => ?_, fun j hj => ?_, h.sum⟩
    · show (upd s.fr i _ j).Nodup
      by_cases e : j = i
      · subst e; rw [upd_same, List.nodup_append]
        exact ⟨h.nd j hi, by simp, fun a ha b hb e => by simp at hb; subst hb; exact hnm (e ▸ ha)⟩
      · rw [upd_other _ _ _ e]; exact h.nd j hj
    · show ∃ d', (upd s.ch i _ j)[k]? = _
      have hk : k ∈ upd s.fr i (s.fr i ++ [m]) j := hk
      by_cases e : j = i
      · subst e
        rw [upd_same] at hk ⊢
        by_cases e2 : m = k
        · subst e2; rw [List.getElem?_set_self hm]; exact ⟨_, rfl⟩
        · rw [List.getElem?_set_ne e2]
          rcases List.mem_append.1 hk with hk | hk
          · exact h.fl j hi k hk
          · simp at hk; exact absurd hk.symm e2
      · rw [upd_other _ _ _ e] at hk ⊢; exact h.fl j hj k hk
    · show (upd s.ch i _ j).length = s.pg j * s.per j
      by_cases e : j = i
      · subst e; rw [upd_same, List.length_set]; exact h.len j hi
      · rw [upd_other _ _ _ e]; exact h.len j hj
  · exact h
/-- What is live, each chunk weighed by its class. -/
def St.wt (s : St) (f : Nat → Nat) : Nat := sumN (fun i => ((s.ch i).length - (s.fr i).length) * f i) s.n
theorem St.wt_one (s : St) : s.wt (fun _ => 1) = s.live := sumN_congr (fun _ _ => Nat.mul_one _)
theorem Ok.wt_take {s : St} {i : Nat} (h : Ok s) (hi : i < s.n) (hf : s.fr i ≠ []) (d : ByteArray) (f : Nat → Nat) : (s.take i d).wt f = s.wt f + f i := by
  have h1 := sumN_upd (f := fun j => (((s.take i d).ch j).length - ((s.take i d).fr j).length) * f j) (g := fun j => ((s.ch j).length - (s.fr j).length) * f j) (i := i) (n := s.n) (fun j _ e => by
    show ((upd s.ch i _ j).length - (upd s.fr i _ j).length) * f j = _
    rw [upd_other _ _ _ e, upd_other _ _ _ e]) hi
  have e1 : (s.take i d).ch i = (s.ch i).set (s.nxt i) (true, d) := upd_same _ _ _
  have e2 : (s.take i d).fr i = (s.fr i).dropLast := upd_same _ _ _
  have h2 := h.fr2 hi
  have h3 : 0 < (s.fr i).length := List.length_pos_iff.2 hf
  simp only [e1, e2, List.length_set, List.length_dropLast] at h1
  have e3 : ((s.ch i).length - ((s.fr i).length - 1)) * f i = ((s.ch i).length - (s.fr i).length) * f i + f i := by
    rw [show (s.ch i).length - ((s.fr i).length - 1) = (s.ch i).length - (s.fr i).length + 1 by omega, Nat.add_mul, Nat.one_mul]
  rw [e3] at h1
  show sumN _ s.n = sumN _ s.n + f i
  omega
theorem St.wt_grow {s : St} {i : Nat} (f : Nat → Nat) : (s.grow i).wt f = s.wt f := by
  refine sumN_congr fun j _ => ?_
  show ((upd s.ch i _ j).length - (upd s.fr i _ j).length) * f j = _
  by_cases e : j = i
  · subst e; rw [upd_same, upd_same, List.length_append, List.length_append, List.length_replicate, down_length]; congr 1; omega
  · rw [upd_other _ _ _ e, upd_other _ _ _ e]
/-- What Alloc does, in four ways. -/
theorem St.alloc_cases (s : St) (d : ByteArray) :
    (clsOf s d.size = none ∧ s.alloc d = ((0, 0, 2), s)) ∨ ∃ i, clsOf s d.size = some i ∧ ((s.fr i = [] ∧ s.left = 0 ∧ s.alloc d = ((0, 0, 6), s)) ∨ (s.fr i = [] ∧ s.left ≠ 0 ∧ s.alloc d = ((i, (s.grow i).nxt i, 0), (s.grow i).take i d)) ∨ (s.fr i ≠ [] ∧ s.alloc d = ((i, s.nxt i, 0), s.take i d))) := by
  unfold St.alloc
  cases hc : clsOf s d.size with
  | none => exact .inl ⟨rfl, rfl⟩
  | some i =>
    refine .inr ⟨i, rfl, ?_⟩
    by_cases hf : s.fr i = []
    · by_cases hl : s.left = 0
      · exact .inl ⟨hf, hl, by simp [hf, hl]⟩
      · exact .inr (.inl ⟨hf, hl, by simp [hf, hl]⟩)
    · exact .inr (.inr ⟨hf, by simp [hf]⟩)
/-- An Alloc that is OK: of a state like s, a chunk is taken. -/
theorem Ok.alloc_ok {s : St} (h : Ok s) (d : ByteArray) (h0 : (s.alloc d).1.2.2 = 0) : ∃ (i : Nat) (s1 : St), Ok s1 ∧ i < s.n ∧ s1.n = s.n ∧ s1.pages = s.pages ∧ s1.page = s.page ∧ s1.fr i ≠ [] ∧ (∀ f, s1.wt f = s.wt f) ∧ (∀ (j k : Nat) (x : (Bool × ByteArray)), (s.ch j)[k]? = some x → (s1.ch j)[k]? = some x) ∧ (∀ (j k : Nat) (x : ByteArray), (s1.ch j)[k]? = some (true, x) → (s.ch j)[k]? = some (true, x)) ∧ s.alloc d = ((i, s1.nxt i, 0), s1.take i d) ∧ clsOf s d.size = some i := by
  rcases s.alloc_cases d with ⟨_, e⟩ | ⟨i, hc, ⟨_, _, e⟩ | ⟨hf, hl, e⟩ | ⟨hf, e⟩⟩
  · rw [e] at h0; cases h0
  · rw [e] at h0; cases h0
  · have hi := (clsOf_some hc).1
    refine ⟨i, s.grow i, h.grow hi hl, hi, rfl, rfl, rfl, St.grow_fr h hi, fun f => St.wt_grow f, fun j k x hx => ?_, fun j k x hx => ?_, e, hc⟩
    · show (upd s.ch i _ j)[k]? = _
      by_cases e : j = i
      · subst e; rw [upd_same, List.getElem?_append_left (List.getElem?_eq_some_iff.1 hx).1]; exact hx
      · rw [upd_other _ _ _ e]; exact hx
    · have hx : (upd s.ch i (s.ch i ++ List.replicate (s.per i) noChunk) j)[k]? = _ := hx
      by_cases e : j = i
      · subst e
        rw [upd_same] at hx
        by_cases hk : k < (s.ch j).length
        · rw [List.getElem?_append_left hk] at hx; exact hx
        · rw [List.getElem?_append_right (by omega), List.getElem?_replicate] at hx
          split at hx
          · cases hx
          · cases hx
      · rw [upd_other _ _ _ e] at hx; exact hx
  · have hi := (clsOf_some hc).1
    exact ⟨i, s, h, hi, rfl, rfl, rfl, hf, fun _ => rfl, fun _ _ _ h => h, fun _ _ _ h => h, e, hc⟩
theorem St.alloc_bad (s : St) (d : ByteArray) (h0 : (s.alloc d).1.2.2 ≠ 0) : (s.alloc d).2 = s ∧ (s.alloc d).1.1 = 0 ∧ (s.alloc d).1.2.1 = 0 := by
  rcases s.alloc_cases d with ⟨_, e⟩ | ⟨i, hc, ⟨_, _, e⟩ | ⟨hf, hl, e⟩ | ⟨hf, e⟩⟩
  · rw [e]; exact ⟨rfl, rfl, rfl⟩
  · rw [e]; exact ⟨rfl, rfl, rfl⟩
  · rw [e] at h0; exact absurd rfl h0
  · rw [e] at h0; exact absurd rfl h0
theorem St.alloc_same (s : St) (d : ByteArray) : (s.alloc d).2.n = s.n ∧ (s.alloc d).2.pages = s.pages ∧ (s.alloc d).2.page = s.page := by
  rcases s.alloc_cases d with ⟨_, e⟩ | ⟨i, hc, ⟨_, _, e⟩ | ⟨hf, hl, e⟩ | ⟨hf, e⟩⟩ <;> rw [e] <;> exact ⟨rfl, rfl, rfl⟩
theorem St.free_same (s : St) (c k : Int) : (s.free c k).n = s.n ∧ (s.free c k).pages = s.pages ∧ (s.free c k).page = s.page ∧ (s.free c k).left = s.left := by
  unfold St.free; split <;> exact ⟨rfl, rfl, rfl, rfl⟩
/-- How what is live turns. -/
theorem Ok.wt_alloc {s : St} (h : Ok s) (d : ByteArray) (f : Nat → Nat) : (s.alloc d).2.wt f = s.wt f + (if (s.alloc d).1.2.2 = 0 then f (s.alloc d).1.1 else 0) := by
  by_cases h0 : (s.alloc d).1.2.2 = 0
  · obtain ⟨i, s1, h1, hi, hn, _, _, hf, hw, _, _, e, _⟩ := h.alloc_ok d h0
    rw [if_pos h0, e]
    show (s1.take i d).wt f = s.wt f + f i
    rw [h1.wt_take (by omega) hf, hw]
  · rw [if_neg h0, (s.alloc_bad d h0).1]; omega
theorem Ok.wt_free {s : St} (h : Ok s) (c k : Int) (f : Nat → Nat) : (s.free c k).wt f + (if s.has c k = true then f c.toNat else 0) = s.wt f := by
  by_cases hh : s.has c k = true
  · rw [if_pos hh]
    obtain ⟨i, m, d, rfl, rfl, hi, hm, hg, _⟩ := St.has_of hh
    have hok := (h.free i m).fr2 (i := i) (by rw [(s.free_same _ _).1]; exact hi)
    have e0 : s.free i m = { s with ch := upd s.ch i ((s.ch i).set m noChunk), fr := upd s.fr i (s.fr i ++ [m]) } := by unfold St.free; rw [if_pos hh]; simp
    rw [e0] at hok ⊢
    have h1 := sumN_upd (f := fun j => ((upd s.ch i ((s.ch i).set m noChunk) j).length - (upd s.fr i (s.fr i ++ [m]) j).length) * f j) (g := fun j => ((s.ch j).length - (s.fr j).length) * f j) (i := i) (n := s.n) (fun j _ e => by
      show (_ - _) * f j = (_ - _) * f j
      rw [upd_other _ _ _ e, upd_other _ _ _ e]) hi
    simp only [upd_same, List.length_set, List.length_append, List.length_singleton] at h1 hok
    have e3 : ((s.ch i).length - (s.fr i).length) * f i = ((s.ch i).length - ((s.fr i).length + 1)) * f i + f i := by
      rw [show (s.ch i).length - (s.fr i).length = (s.ch i).length - ((s.fr i).length + 1) + 1 by omega, Nat.add_mul, Nat.one_mul]
    rw [e3] at h1
    rw [Int.toNat_natCast]
    dsimp only [St.wt]
    omega
  · rw [if_neg hh]; unfold St.free; rw [if_neg hh]; rfl
theorem Ok.wt_sz {s : St} (h : Ok s) : s.wt sz ≤ (s.pages - s.left) * s.page := by
  have h1 : s.wt sz ≤ sumN (fun i => s.pg i * s.page) s.n := sumN_mono fun i hi => by
    have e := h.len i hi
    have h2 : s.per i * sz i ≤ s.page := Nat.div_mul_le_self _ _
    calc ((s.ch i).length - (s.fr i).length) * sz i ≤ (s.ch i).length * sz i := Nat.mul_le_mul_right _ (Nat.sub_le _ _)
      _ = s.pg i * (s.per i * sz i) := by rw [e, Nat.mul_assoc]
      _ ≤ s.pg i * s.page := Nat.mul_le_mul_left _ h2
  rw [sumN_mul] at h1
  have := h.sum
  rw [show s.pages - s.left = sumN s.pg s.n by omega]; exact h1
end Go.Proofs.Ytbflcnghpkmcoaa
