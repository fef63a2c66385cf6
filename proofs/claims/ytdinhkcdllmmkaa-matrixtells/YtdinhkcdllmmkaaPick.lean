/-
  LISTS OF NUMBERS IN MEMORY THAT ARE THE CALL'S OWN; picking rows without one twice: what MatrixAny's loops keep.
-/
import Derived.Test.YtdinhkcdllmmkaaMInv
import Derived.Deep.RegionLaw
namespace Go.Proofs.Ytdinhkcdllmmkaa
open Go.RowKit

theorem info3 : (Try.prog.info? 3).map (fun i => (i.zero, i.size, i.bytes)) = some (some (.int .i64 0), 1, 8) := by kernel_rfl
theorem under49 : Try.prog.underlying 49 = some (.slice 3) := by kernel_rfl
theorem elem49 : Try.prog.underlying 49 = some (.slice (Try.prog.elem 49)) := by kernel_rfl
theorem elem49' : Try.prog.elem 49 = 3 := by kernel_rfl
theorem size3' (w : World) : (sizeOf 3).run Try.prog w = .ok 1 w := by kernel_rfl
theorem islice_hi (a : Option Addr) (len cap h : Nat) (hh : h ≤ cap) (w : World) : (Instr.sliceAt 49 (.slice a len cap) none (some (.int .i64 (h : Int))) none).run Try.prog w = .ok (.slice (sl a 0 cap) h cap) w := by
  rw [run_sliceAt_slice _ _ _ _ _ _ elem49, run_slice_h _ _ _ _ _ elem49 _ _ (by omega) (by omega), elem49', size3']
  rfl
theorem islice_lo (a : Option Addr) (len cap l : Nat) (hl : l ≤ len) (w : World) : (Instr.sliceAt 49 (.slice a len cap) (some (.int .i64 (l : Int))) none none).run Try.prog w = .ok (.slice (sl a l cap) (len - l) (cap - l)) w := by
  rw [run_sliceAt_slice _ _ _ _ _ _ elem49, run_slice_l _ _ _ _ _ elem49 _ _ (by omega) (by omega), elem49', size3']
  rfl

/-- The cells of some numbers. -/
def ints (l : List Nat) : List Value := l.map (fun x => Value.int .i64 ((x : Nat) : Int))
theorem ints_length (l : List Nat) : (ints l).length = l.length := by simp [ints]
theorem ints_at {l : List Nat} {j x : Nat} (h : l[j]? = some x) : (ints l)[j]? = some (.int .i64 ((x : Nat) : Int)) := by simp [ints, h]
theorem ints_inv {l : List Nat} {j : Nat} {u : Value} (h : (ints l)[j]? = some u) : ∃ x, l[j]? = some x ∧ u = .int .i64 ((x : Nat) : Int) := by
  simp only [ints, List.getElem?_map, Option.map_eq_some_iff] at h
  obtain ⟨x, h1, h2⟩ := h
  exact ⟨x, h1, h2.symm⟩
theorem ints_one (l : List Nat) : ∀ u ∈ ints l, u.oneCell' = true := by
  intro u hu
  simp only [ints, List.mem_map] at hu
  obtain ⟨x, _, rfl⟩ := hu
  rfl
theorem ints_append (l l' : List Nat) : ints l ++ ints l' = ints (l ++ l') := by simp [ints]

/-- A list of the call's own that isn't empty, read. -/
theorem own_cells {w : World} {B e k : Nat} {v : Value} {xs : List Value} (h : w.ownsRow B e 1 v k xs) (hk : 1 ≤ k) : ∃ g c, v = .slice (some ⟨g, 0, none⟩) k c ∧ B ≤ g ∧ k ≤ c ∧ g < w.heap.size ∧ ∀ j u, xs[j]? = some u → w.cell? ⟨g, j, none⟩ = some u := by
  rcases h.2 with ⟨_, h0⟩ | ⟨g, cap, cur, rfl, hB, hh, hc, _, hcs, ht⟩
  · exfalso; omega
  · refine ⟨g, cap, rfl, hB, hc, (Array.getElem?_eq_some_iff.1 hh).1, fun j u hj => ?_⟩
    have hjk : j < k := by
      have := (List.getElem?_eq_some_iff.1 hj).1
      have := h.1
      omega
    rw [cell_of_row w g j cur e (0, 0) hh, ← hj, ← ht, List.getElem?_take_of_lt (by omega)]; simp
/-- What is the call's own stays while another list, of another kind, grows. -/
theorem own_keep {w w1 : World} {B e s k B' e' s' k' : Nat} {v v' : Value} {xs xs' : List Value} {o : Obj} (h : w.ownsRow B e s v k xs) (h' : w.ownsRow B' e' s' v' k' xs') (hne : e ≠ e') (hgrow : (w.alloc o).grownBy w1 v'.ownBlock) : w1.ownsRow B e s v k xs := by
  obtain ⟨h1, h2⟩ := h
  refine ⟨h1, ?_⟩
  rcases h2 with h2 | ⟨g, cap, cur, hv, hg, hh, r⟩
  · exact Or.inl h2
  · have hlt := (Array.getElem?_eq_some_iff.1 hh).1
    have hn : some g ≠ v'.ownBlock := by
      rcases h'.2 with ⟨rfl, _⟩ | ⟨g', cap', cur', rfl, _, hh', _⟩
      · intro e0; cases e0
      · intro e0
        injection e0 with e0
        subst e0
        rw [show w.heap[g]? = _ from hh'] at hh
        injection hh with hh; injection hh with _ e2 _
        exact hne e2.symm
    exact Or.inr ⟨g, cap, cur, hv, hg, by rw [hgrow.block g (by rw [World.size_alloc]; omega) hn, Below.heap_alloc _ _ _ hlt]; exact hh, r⟩
theorem RowF.at {w : World} {a : Option Addr} {f : Nat → Nat} {n : Nat} (h : RowF w a f n) : RowF w a f n := h

/-- i rows were picked, the r's, no one twice; l are the ones left of n; their slices are ys. -/
structure Picks (W : World) (n a i : Nat) (r : Nat → Nat) (l : List Nat) (ys : List Value) : Prop where
  len : l.length = n - i
  nd : l.Nodup
  mem : ∀ x, x ∈ l → x < n ∧ ∀ t, t < i → r t ≠ x
  inj : ∀ s t, s < i → t < i → r s = r t → s = t
  lt : ∀ t, t < i → r t < n
  row : ∀ t, t < i → ∃ ra rc, ys[t]? = some (.slice ra a rc) ∧ a ≤ rc ∧ RowF W ra (Gf.cau a (r t)) a
theorem Picks.start (W : World) (n a : Nat) (r : Nat → Nat) : Picks W n a 0 r (List.range n) [] :=
  ⟨by simp, List.nodup_range, fun x hx => ⟨by simpa using hx, fun t ht => by omega⟩, fun s t hs => by omega, fun t ht => by omega, fun t ht => by omega⟩
theorem Picks.step {W : World} {n a i p x : Nat} {r : Nat → Nat} {l : List Nat} {ys : List Value} {ra : Option Addr} {rc : Nat} (h : Picks W n a i r l ys) (hl : ys.length = i) (hin : i < n) (hp : l[p]? = some x) (h1 : a ≤ rc) (h2 : RowF W ra (Gf.cau a x) a) :
    Picks W n a (i + 1) (fun t => if t = i then x else r t) (l.take p ++ l.drop (p + 1)) (ys ++ [.slice ra a rc]) := by
  have hpl := (List.getElem?_eq_some_iff.1 hp).1
  have hx : x ∈ l := List.mem_of_getElem? hp
  have hsplit : l = l.take p ++ x :: l.drop (p + 1) := by
    have e : l[p] = x := (List.getElem?_eq_some_iff.1 hp).2
    rw [← e, ← List.drop_eq_getElem_cons hpl, List.take_append_drop]
  have hnd : (l.take p ++ x :: l.drop (p + 1)).Nodup := by rw [← hsplit]; exact h.nd
  have hperm : (l.take p ++ x :: l.drop (p + 1)).Perm (x :: (l.take p ++ l.drop (p + 1))) := List.perm_middle
  have hnd2 := hperm.nodup_iff.1 hnd
  rw [List.nodup_cons] at hnd2
  have hsub : ∀ y, y ∈ l.take p ++ l.drop (p + 1) → y ∈ l := fun y hy => by
    rw [hsplit]
    exact hperm.mem_iff.2 (List.mem_cons_of_mem _ hy)
  refine ⟨?_, hnd2.2, fun y hy => ⟨(h.mem y (hsub y hy)).1, fun t ht => ?_⟩, fun s t hs ht e => ?_, fun t ht => ?_, fun t ht => ?_⟩
  · rw [List.length_append, List.length_take, List.length_drop]; have := h.len; omega
  · show (if t = i then x else r t) ≠ y
    by_cases e : t = i
    · rw [if_pos e]; intro e2; subst e2; exact hnd2.1 hy
    · rw [if_neg e]; exact (h.mem y (hsub y hy)).2 t (by omega)
  · have e' : (if s = i then x else r s) = (if t = i then x else r t) := e
    by_cases e1 : s = i
    · by_cases e2 : t = i
      · omega
      · rw [if_pos e1, if_neg e2] at e'; exact absurd e'.symm ((h.mem x hx).2 t (by omega))
    · by_cases e2 : t = i
      · rw [if_neg e1, if_pos e2] at e'; exact absurd e' ((h.mem x hx).2 s (by omega))
      · rw [if_neg e1, if_neg e2] at e'; exact h.inj s t (by omega) (by omega) e'
  · show (if t = i then x else r t) < n
    by_cases e : t = i
    · rw [if_pos e]; exact (h.mem x hx).1
    · rw [if_neg e]; exact h.lt t (by omega)
  · show ∃ ra' rc', (ys ++ [Value.slice ra a rc])[t]? = some (.slice ra' a rc') ∧ a ≤ rc' ∧ RowF W ra' (Gf.cau a (if t = i then x else r t)) a
    by_cases e : t = i
    · rw [if_pos e]
      exact ⟨ra, rc, by rw [List.getElem?_append_right (by omega), hl, e, Nat.sub_self]; rfl, h1, h2⟩
    · rw [if_neg e]
      obtain ⟨ra', rc', q1, q2, q3⟩ := h.row t (by omega)
      exact ⟨ra', rc', by rw [List.getElem?_append_left (by omega)]; exact q1, q2, q3⟩
/-- The rows that were picked, as a matrix. -/
theorem Picks.matF {W w : World} {D n a : Nat} {r : Nat → Nat} {l : List Nat} {ys : List Value} {v : Value} (h : Picks W n a a r l ys) (ha : 1 ≤ a) (hown : w.ownsRow D 31 1 v a ys) (hb : Below W.heap.size W w) :
    ∃ g c, v = .slice (some ⟨g, 0, none⟩) a c ∧ MatF w (some ⟨g, 0, none⟩) (fun t => Gf.cau a (r t)) a a := by
  obtain ⟨g, c, hv, _, _, _, hc⟩ := own_cells hown ha
  refine ⟨g, c, hv, Or.inr ⟨g, 0, rfl, fun t ht => ?_⟩⟩
  obtain ⟨ra, rc, q1, q2, q3⟩ := h.row t ht
  exact ⟨ra, rc, by rw [Nat.zero_add]; exact hc t _ q1, q2, q3.below hb⟩
/-- append as one step of a region that draws. -/
theorem step_append_mine {P : Program} {ops : Array Oper} {o : Oper} {a : Act} {w : World} {K : Act → World → Prop} {Q : Exit → Act → World → Prop} {E : Prop} (hgd : o.guard = none) (s x : Operand) (t : TypeId)
    (ho : o.op = .call { callee := .builtin .append, args := #[s, x], argTypes := #[t, t] })
    (base : Nat) (e : TypeId) (i : TypeInfo) (z : Value) (size bytes : Nat) (ht : P.underlying t = some (.slice e)) (hi : P.info? e = some i) (hz : i.zero = some z)
    (hsize : i.size = size) (hby : i.bytes = bytes) (hzs : z.cells.size = size) (hsz : 0 < size)
    (v : Value) (n : Nat) (xs : List Value) (hs : a.eval s = v) (hown : w.ownsRow base e size v n xs)
    (ad : Addr) (m c : Nat) (news : List Value) (hx : a.eval x = .slice (some ad) m c) (hl : news.length = m * size) (hnews : ∀ j u, news[j]? = some u → w.cell? (ad.add j) = some u) (h1 : ∀ u ∈ news, u.oneCell' = true)
    (h63 : n + m ≤ maxLen) (hbytes : (n + m) * bytes ≤ 140737488355328) (hbase : base ≤ w.heap.size)
    (h : ∀ v' w', w'.ownsRow base e size v' (n + m) (xs ++ news) → w.grownBy w' v.ownBlock → K (a.put o.dst v') w') :
    if Region.wanted o (yielded ops a.tmps) = true then Oper.wp P o a w K Q else E := by
  rw [if_pos (by simp [Region.wanted, hgd])]
  exact wp_append_own w s x t ho base e i z size bytes ht hi hz hsize hby hzs hsz v n xs hs hown ad m c news hx hl hnews h1 h63 hbytes hbase (fun v' w' q1 q2 _ => h v' w' q1 q2)
end Go.Proofs.Ytdinhkcdllmmkaa
