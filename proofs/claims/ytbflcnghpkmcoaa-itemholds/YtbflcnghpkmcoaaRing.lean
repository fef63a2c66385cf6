/-
  RINGS OF PLACES: lists whose members lead one to the next, both ways; taking one out, putting one ahead.
-/
import Derived.Test.YtbflcnghpkmcoaaSPure
namespace Go.Proofs.Ytbflcnghpkmcoaa

/-- Each leads to the next one, and back. -/
def Lk (nw od : Nat → Nat) : List Nat → Prop
  | [] => True
  | [_] => True
  | a :: b :: t => od a = b ∧ nw b = a ∧ Lk nw od (b :: t)
theorem Lk.tail {nw od : Nat → Nat} {a : Nat} {t : List Nat} (h : Lk nw od (a :: t)) : Lk nw od t := by
  cases t with
  | nil => trivial
  | cons b t => exact h.2.2
theorem Lk.frame {nw od nw' od' : Nat → Nat} : ∀ {l : List Nat}, Lk nw od l → (∀ p ∈ l.dropLast, od' p = od p) → (∀ p ∈ l.tail, nw' p = nw p) → Lk nw' od' l
  | [], _, _, _ => trivial
  | [_], _, _, _ => trivial
  | a :: b :: t, h, h1, h2 => by
    refine ⟨(h1 a (by simp [List.dropLast])).trans h.1, (h2 b (by simp)).trans h.2.1, Lk.frame h.2.2 (fun p hp => h1 p ?_) (fun p hp => h2 p ?_)⟩
    · rw [List.dropLast_cons_of_ne_nil (by simp)]; exact List.mem_cons_of_mem _ hp
    · exact List.mem_cons_of_mem _ hp
theorem Lk.split {nw od : Nat → Nat} : ∀ {u : List Nat} {a : Nat} {v : List Nat}, Lk nw od (u ++ a :: v) → Lk nw od (u ++ [a]) ∧ Lk nw od (a :: v)
  | [], _, _, h => ⟨trivial, h⟩
  | [_], _, _, h => ⟨⟨h.1, h.2.1, trivial⟩, h.2.2⟩
  | _ :: y :: u, _, _, h => by
    obtain ⟨h1, h2⟩ := Lk.split (u := y :: u) h.2.2
    exact ⟨⟨h.1, h.2.1, h1⟩, h2⟩
theorem Lk.join {nw od : Nat → Nat} : ∀ {u : List Nat} {a : Nat} {v : List Nat}, Lk nw od (u ++ [a]) → Lk nw od (a :: v) → Lk nw od (u ++ a :: v)
  | [], _, _, _, h => h
  | [_], _, _, h, h' => ⟨h.1, h.2.1, h'⟩
  | _ :: y :: u, _, _, h, h' => ⟨h.1, h.2.1, Lk.join (u := y :: u) h.2.2 h'⟩
/-- A ring: its end, its members. -/
def Ring (nw od : Nat → Nat) (e : Nat) (l : List Nat) : Prop := Lk nw od (e :: (l ++ [e]))
theorem snoc_of_cons (e : Nat) (l : List Nat) : ∃ u a, e :: l = u ++ [a] := by
  rcases List.eq_nil_or_concat (e :: l) with h | ⟨u, a, h⟩
  · cases h
  · exact ⟨u, a, by rw [h, List.concat_eq_append]⟩
theorem cons_of_snoc (l : List Nat) (e : Nat) : ∃ b v, l ++ [e] = b :: v := by
  cases l with
  | nil => exact ⟨e, [], rfl⟩
  | cons b l => exact ⟨b, l ++ [e], rfl⟩
/-- Who stands ahead of a member, and who behind. -/
theorem Ring.at_ {nw od : Nat → Nat} {e p : Nat} {pre post : List Nat} (h : Ring nw od e (pre ++ p :: post)) : (∃ u, e :: pre = u ++ [nw p]) ∧ ∃ v, post ++ [e] = od p :: v := by
  obtain ⟨u, a, ha⟩ := snoc_of_cons e pre
  obtain ⟨b, v, hb⟩ := cons_of_snoc post e
  have h : Lk nw od (e :: (pre ++ p :: post ++ [e])) := h
  have e1 : e :: (pre ++ p :: post ++ [e]) = u ++ a :: p :: b :: v := by
    rw [List.append_assoc, List.cons_append, hb, ← List.cons_append, ha]; simp
  rw [e1] at h
  have h2 := h.split.2
  exact ⟨⟨u, by rw [h2.2.1]; exact ha⟩, ⟨v, by rw [h2.2.2.1]; exact hb⟩⟩
theorem Ring.nw_mem {nw od : Nat → Nat} {e p : Nat} {pre post : List Nat} (h : Ring nw od e (pre ++ p :: post)) : nw p ∈ e :: pre := by
  obtain ⟨⟨u, hu⟩, _⟩ := h.at_; rw [hu]; simp
theorem Ring.od_mem {nw od : Nat → Nat} {e p : Nat} {pre post : List Nat} (h : Ring nw od e (pre ++ p :: post)) : od p ∈ post ++ [e] := by
  obtain ⟨_, ⟨v, hv⟩⟩ := h.at_; rw [hv]; simp
/-- A member is taken out. -/
theorem Ring.out {nw od : Nat → Nat} {e p : Nat} {pre post : List Nat} (h : Ring nw od e (pre ++ p :: post)) (hn : (e :: (pre ++ p :: post)).Nodup) : Ring (upd nw (od p) (nw p)) (upd od (nw p) (od p)) e (pre ++ post) := by
  obtain ⟨⟨u, hu⟩, ⟨v, hv⟩⟩ := h.at_
  have h' : Lk nw od (e :: (pre ++ p :: post ++ [e])) := h
  have e1 : e :: (pre ++ p :: post ++ [e]) = u ++ nw p :: p :: od p :: v := by
    rw [List.append_assoc, List.cons_append, hv, ← List.cons_append, hu]; simp
  rw [e1] at h'
  obtain ⟨k1, k2⟩ := h'.split
  have k3 := k2.2.2.2.2
  show Lk _ _ (e :: (pre ++ post ++ [e]))
  have e2 : e :: (pre ++ post ++ [e]) = u ++ nw p :: od p :: v := by
    rw [List.append_assoc, hv, ← List.cons_append, hu]; simp
  rw [e2]
  have hn2 := List.nodup_cons.1 hn
  have hn3 := List.nodup_append.1 hn2.2
  have hn4 := List.nodup_cons.1 hn3.2.1
  have nd1 : (e :: pre).Nodup := List.nodup_cons.2 ⟨fun hx => hn2.1 (by simp [hx]), hn3.1⟩
  have nd2 : (post ++ [e]).Nodup := List.nodup_append.2 ⟨hn4.2, by simp, fun x hx y hy => by simp at hy; subst hy; exact fun hxy => hn2.1 (by simp [← hxy, hx])⟩
  have dis : ∀ x ∈ pre, ∀ y ∈ post, x ≠ y := fun x hx y hy => hn3.2.2 x hx y (List.mem_cons_of_mem _ hy)
  rw [hu] at nd1
  rw [hv] at nd2
  have nd1' := List.nodup_append.1 nd1
  have nd2' := List.nodup_cons.1 nd2
  have tl : (u ++ [nw p]).tail = pre := by rw [← hu]; rfl
  have dl : (od p :: v).dropLast = post := by rw [← hv]; simp
  refine Lk.join (k1.frame (fun q hq => ?_) (fun q hq => ?_)) ⟨upd_same _ _ _, upd_same _ _ _, k3.frame (fun q hq => ?_) (fun q hq => ?_)⟩
  · rw [List.dropLast_concat] at hq
    exact upd_other _ _ _ (fun x => nd1'.2.2 q hq (nw p) (by simp) x)
  · rw [tl] at hq
    refine upd_other _ _ _ (fun x => ?_)
    have := h.od_mem
    rw [← x] at this
    rcases List.mem_append.1 this with h1 | h1
    · exact dis q hq q h1 rfl
    · simp at h1; subst h1; exact hn2.1 (by simp [hq])
  · rw [dl] at hq
    refine upd_other _ _ _ (fun x => ?_)
    have := h.nw_mem
    rw [← x] at this
    rcases List.mem_cons.1 this with h1 | h1
    · subst h1; exact hn2.1 (by simp [hq])
    · exact dis q h1 q hq rfl
  · exact upd_other _ _ _ (fun x => nd2'.1 (x ▸ hq))
/-- One that stands in no ring is put ahead. -/
theorem Ring.ahead {nw od : Nat → Nat} {e p : Nat} {l : List Nat} (h : Ring nw od e l) (hn : (e :: p :: l).Nodup) : Ring (upd (upd nw p e) (od e) p) (upd (upd od p (od e)) e p) e (p :: l) := by
  obtain ⟨b, v, hb⟩ := cons_of_snoc l e
  have h' : Lk nw od (e :: (l ++ [e])) := h
  rw [hb] at h'
  have hn1 := List.nodup_cons.1 hn
  have hn2 := List.nodup_cons.1 hn1.2
  have hep : e ≠ p := fun x => hn1.1 (by simp [x])
  have nd2 : (l ++ [e]).Nodup := List.nodup_append.2 ⟨hn2.2, by simp, fun x hx y hy => by simp at hy; subst hy; exact fun hxy => hn1.1 (by simp [← hxy, hx])⟩
  rw [hb] at nd2
  have nd2' := List.nodup_cons.1 nd2
  have dl : (b :: v).dropLast = l := by rw [← hb]; simp
  have hpb : p ∉ b :: v := by rw [← hb]; simp; exact ⟨hn2.1, fun x => hep x.symm⟩
  have hob : od e = b := h'.1
  show Lk _ _ (e :: p :: (l ++ [e]))
  rw [hb, hob]
  refine ⟨upd_same _ _ _, ?_, ?_, upd_same _ _ _, h'.2.2.frame (fun q hq => ?_) (fun q hq => ?_)⟩
  · rw [upd_other _ _ _ (fun x => hpb (by simp [x])), upd_same]
  · rw [upd_other _ _ _ (fun x => hep x.symm), upd_same]
  · rw [dl] at hq
    rw [upd_other _ _ _ (fun x => hn1.1 (by simp [← x, hq])), upd_other _ _ _ (fun x => hn2.1 (by rw [← x]; exact hq))]
  · have hq : q ∈ v := hq
    rw [upd_other _ _ _ (fun x => nd2'.1 (by rw [← x]; exact hq)), upd_other _ _ _ (fun x => hpb (by subst x; exact List.mem_cons_of_mem _ hq))]
/-- Rings that a change doesn't reach stay. -/
theorem Ring.stay {nw od nw' od' : Nat → Nat} {e : Nat} {l : List Nat} (h : Ring nw od e l) (h1 : ∀ p ∈ e :: l, od' p = od p) (h2 : ∀ p ∈ e :: l, nw' p = nw p) : Ring nw' od' e l := by
  refine Lk.frame h (fun p hp => h1 p ?_) (fun p hp => h2 p ?_)
  · rw [← List.cons_append, List.dropLast_concat] at hp; exact hp
  · have hp : p ∈ l ++ [e] := hp
    simp at hp ⊢; rcases hp with hp | hp
    · exact .inr hp
    · exact .inl hp
theorem Ring.one (nw od : Nat → Nat) (e : Nat) (h1 : od e = e) (h2 : nw e = e) : Ring nw od e [] := ⟨h1, h2, trivial⟩
theorem Ring.first {nw od : Nat → Nat} {e : Nat} {l : List Nat} (h : Ring nw od e l) : od e = l.headD e := by
  cases l with
  | nil => exact h.1
  | cons a l => exact h.1
theorem Ring.od_e {nw od : Nat → Nat} {e : Nat} {l : List Nat} (h : Ring nw od e l) : od e ∈ e :: l := by
  rw [h.first]; cases l <;> simp
/-- Going on from a member. -/
theorem Ring.next {nw od : Nat → Nat} {e p : Nat} {pre post : List Nat} (h : Ring nw od e (pre ++ p :: post)) : od p = post.headD e := by
  obtain ⟨_, ⟨v, hv⟩⟩ := h.at_
  cases post with
  | nil => simp at hv; exact hv.1.symm
  | cons b post => simp at hv; exact hv.1.symm
/-- Going back. -/
theorem Ring.prev {nw od : Nat → Nat} {e p : Nat} {pre post : List Nat} (h : Ring nw od e (pre ++ p :: post)) : nw p = pre.getLastD e := by
  obtain ⟨⟨u, hu⟩, _⟩ := h.at_
  rcases List.eq_nil_or_concat pre with rfl | ⟨q, a, rfl⟩
  · cases u with
    | nil => simp at hu; simp [hu]
    | cons _ u => simp at hu
  · rw [List.concat_eq_append, ← List.cons_append] at hu
    have := List.append_inj_right' hu rfl
    simp at this
    simp [this]
theorem Ring.last {nw od : Nat → Nat} {e : Nat} {l : List Nat} (h : Ring nw od e l) : nw e = l.getLastD e := by
  rcases List.eq_nil_or_concat l with rfl | ⟨q, a, rfl⟩
  · exact h.2.1
  · have h' : Lk nw od (e :: (q.concat a ++ [e])) := h
    rw [List.concat_eq_append, List.append_assoc] at h'
    have e1 : e :: (q ++ ([a] ++ [e])) = (e :: q) ++ a :: [e] := by simp
    rw [e1] at h'
    have := h'.split.2.2.1
    rw [this]; simp
end Go.Proofs.Ytbflcnghpkmcoaa
