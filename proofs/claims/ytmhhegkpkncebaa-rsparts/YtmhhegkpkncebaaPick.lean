/-
  LISTS OF NUMBERS IN MEMORY THAT ARE THE CALL'S OWN; picking fragments without one twice.
-/
import Derived.Test.YtmhhegkpkncebaaShort
import Derived.Deep.RegionLaw
namespace Go.Proofs.Ytmhhegkpkncebaa
open Go.RowKit

theorem info3 : (Try.prog.info? 3).map (fun i => (i.zero, i.size, i.bytes)) = some (some (.int .i64 0), 1, 8) := by kernel_rfl
theorem under49 : Try.prog.underlying 51 = some (.slice 3) := by kernel_rfl
theorem elem49 : Try.prog.underlying 51 = some (.slice (Try.prog.elem 51)) := by kernel_rfl
theorem elem49' : Try.prog.elem 51 = 3 := by kernel_rfl
theorem size3' (w : World) : (sizeOf 3).run Try.prog w = .ok 1 w := by kernel_rfl
theorem islice_hi (a : Option Addr) (len cap h : Nat) (hh : h ≤ cap) (w : World) : (Instr.sliceAt 51 (.slice a len cap) none (some (.int .i64 (h : Int))) none).run Try.prog w = .ok (.slice (sl a 0 cap) h cap) w := by
  rw [run_sliceAt_slice _ _ _ _ _ _ elem49, run_slice_h _ _ _ _ _ elem49 _ _ (by omega) (by omega), elem49', size3']
  rfl
theorem islice_lo (a : Option Addr) (len cap l : Nat) (hl : l ≤ len) (w : World) : (Instr.sliceAt 51 (.slice a len cap) (some (.int .i64 (l : Int))) none none).run Try.prog w = .ok (.slice (sl a l cap) (len - l) (cap - l)) w := by
  rw [run_sliceAt_slice _ _ _ _ _ _ elem49, run_slice_l _ _ _ _ _ elem49 _ _ (by omega) (by omega), elem49', size3']
  rfl

/-- The cells of some numbers. -/
def ints (l : List Nat) : List Value := l.map (fun x => Value.int .i64 ((x : Nat) : Int))
theorem ints_length (l : List Nat) : (ints l).length = l.length := by simp [ints]
theorem ints_at {l : List Nat} {j x : Nat} (h : l[j]? = some x) : (ints l)[j]? = some (.int .i64 ((x : Nat) : Int)) := by simp [ints, h]
theorem ints_inv {l : List Nat} {j : Nat} {u : Value} (h : (ints l)[j]? = some u) : ∃ x, l[j]? = some x ∧ u = .int .i64 ((x : Nat) : Int) := by
  simp only [ints, List.getElem?_map, Option.map_eq_some_iff] at h
  obtain ⟨x, h1, h2⟩ := h
  exact ⟨x, h1, h2.symm⟩
theorem ints_one (l : List Nat) : ∀ u ∈ ints l, u.oneCell' = true := by
  intro u hu
  simp only [ints, List.mem_map] at hu
  obtain ⟨x, _, rfl⟩ := hu
  rfl
theorem ints_append (l l' : List Nat) : ints l ++ ints l' = ints (l ++ l') := by simp [ints]

/-- A list of the call's own that isn't empty, read. -/
theorem own_cells {w : World} {B e k : Nat} {v : Value} {xs : List Value} (h : w.ownsRow B e 1 v k xs) (hk : 1 ≤ k) : ∃ g c, v = .slice (some ⟨g, 0, none⟩) k c ∧ B ≤ g ∧ k ≤ c ∧ g < w.heap.size ∧ ∀ j u, xs[j]? = some u → w.cell? ⟨g, j, none⟩ = some u := by
  rcases h.2 with ⟨_, h0⟩ | ⟨g, cap, cur, rfl, hB, hh, hc, _, hcs, ht⟩
  · exfalso; omega
  · refine ⟨g, cap, rfl, hB, hc, (Array.getElem?_eq_some_iff.1 hh).1, fun j u hj => ?_⟩
    have hjk : j < k := by
      have := (List.getElem?_eq_some_iff.1 hj).1
      have := h.1
      omega
    rw [cell_of_row w g j cur e (0, 0) hh, ← hj, ← ht, List.getElem?_take_of_lt (by omega)]; simp
/-- What is the call's own stays while another list, of another kind, grows. -/
theorem own_keep {w w1 : World} {B e s k B' e' s' k' : Nat} {v v' : Value} {xs xs' : List Value} {o : Obj} (h : w.ownsRow B e s v k xs) (h' : w.ownsRow B' e' s' v' k' xs') (hne : e ≠ e') (hgrow : (w.alloc o).grownBy w1 v'.ownBlock) : w1.ownsRow B e s v k xs := by
  obtain ⟨h1, h2⟩ := h
  refine ⟨h1, ?_⟩
  rcases h2 with h2 | ⟨g, cap, cur, hv, hg, hh, r⟩
  · exact Or.inl h2
  · have hlt := (Array.getElem?_eq_some_iff.1 hh).1
    have hn : some g ≠ v'.ownBlock := by
      rcases h'.2 with ⟨rfl, _⟩ | ⟨g', cap', cur', rfl, _, hh', _⟩
      · intro e0; cases e0
      · intro e0
        injection e0 with e0
        subst e0
        rw [show w.heap[g]? = _ from hh'] at hh
        injection hh with hh; injection hh with _ e2 _
        exact hne e2.symm
    exact Or.inr ⟨g, cap, cur, hv, hg, by rw [hgrow.block g (by rw [World.size_alloc]; omega) hn, Below.heap_alloc _ _ _ hlt]; exact hh, r⟩
theorem addr_add (g o j : Nat) : (⟨g, o, none⟩ : Addr).add j = ⟨g, o + j, none⟩ := by unfold Addr.add; split <;> simp_all
/-- A list of numbers cut in front: where it begins, what it holds. -/
theorem cut_cells {w : World} {g c p : Nat} {l : List Nat} (hlc : l.length ≤ c) (hc : ∀ j u, (ints l)[j]? = some u → w.cell? ⟨g, j, none⟩ = some u) :
    ∃ ad, sl (some ⟨g, 0, none⟩) p c = some ad ∧ ∀ j u, (ints (l.drop p))[j]? = some u → w.cell? (ad.add j) = some u := by
  unfold sl
  by_cases e : c = p
  · refine ⟨⟨g, 0, none⟩, by rw [if_pos e], fun j u hj => ?_⟩
    exfalso
    have := (List.getElem?_eq_some_iff.1 hj).1
    rw [ints_length, List.length_drop] at this
    omega
  · refine ⟨⟨g, 0 + p * 1, none⟩, by rw [if_neg e]; show some ((⟨g, 0, none⟩ : Addr).add (p * 1)) = _; rw [addr_add], fun j u hj => ?_⟩
    rw [addr_add, show 0 + p * 1 + j = p + j by omega]
    apply hc
    rw [← hj]; simp [ints, List.getElem?_drop]
theorem head_cells {w : World} {g c p : Nat} {l : List Nat} (hc : ∀ j u, (ints l)[j]? = some u → w.cell? ⟨g, j, none⟩ = some u) :
    ∃ ad, sl (some ⟨g, 0, none⟩) 0 c = some ad ∧ ∀ j u, (ints (l.take p))[j]? = some u → w.cell? (ad.add j) = some u := by
  have key : ∀ j u, (ints (l.take p))[j]? = some u → w.cell? ⟨g, j, none⟩ = some u := fun j u hj => by
    apply hc
    obtain ⟨x, h1, h2⟩ := ints_inv hj
    rw [h2]
    apply ints_at
    have hjp : j < p := by
      have := (List.getElem?_eq_some_iff.1 h1).1
      rw [List.length_take] at this; omega
    rw [List.getElem?_take_of_lt hjp] at h1
    exact h1
  unfold sl
  by_cases e : c = 0
  · exact ⟨⟨g, 0, none⟩, by rw [if_pos e], fun j u hj => by rw [addr_add, Nat.zero_add]; exact key j u hj⟩
  · refine ⟨⟨g, 0 + 0 * 1, none⟩, by rw [if_neg e]; show some ((⟨g, 0, none⟩ : Addr).add (0 * 1)) = _; rw [addr_add], fun j u hj => ?_⟩
    rw [addr_add, show 0 + 0 * 1 + j = j by omega]; exact key j u hj

theorem own_mono {w : World} {B B' e s k : Nat} {v : Value} {xs : List Value} (h : w.ownsRow B e s v k xs) (hB : B' ≤ B) : w.ownsRow B' e s v k xs := by
  obtain ⟨h1, h2⟩ := h
  refine ⟨h1, ?_⟩
  rcases h2 with h2 | ⟨g, cap, cur, hv, hg, r⟩
  · exact Or.inl h2
  · exact Or.inr ⟨g, cap, cur, hv, Nat.le_trans hB hg, r⟩
/-- i places were picked, the r's, no one twice; l are the ones left of n. -/
structure PickR (n i : Nat) (r : Nat → Nat) (l : List Nat) : Prop where
  len : l.length = n - i
  nd : l.Nodup
  mem : ∀ x, x ∈ l → x < n ∧ ∀ t, t < i → r t ≠ x
  inj : ∀ s t, s < i → t < i → r s = r t → s = t
  lt : ∀ t, t < i → r t < n
theorem PickR.start (n : Nat) (r : Nat → Nat) : PickR n 0 r (List.range n) :=
  ⟨by simp, List.nodup_range, fun x hx => ⟨by simpa using hx, fun t ht => by omega⟩, fun s t hs => by omega, fun t ht => by omega⟩
theorem PickR.step {n i p x : Nat} {r : Nat → Nat} {l : List Nat} (h : PickR n i r l) (hin : i < n) (hp : l[p]? = some x) : PickR n (i + 1) (fun t => if t = i then x else r t) (l.take p ++ l.drop (p + 1)) := by
  have hpl := (List.getElem?_eq_some_iff.1 hp).1
  have hx : x ∈ l := List.mem_of_getElem? hp
  have hsplit : l = l.take p ++ x :: l.drop (p + 1) := by
    have e : l[p] = x := (List.getElem?_eq_some_iff.1 hp).2
    rw [← e, ← List.drop_eq_getElem_cons hpl, List.take_append_drop]
  have hnd : (l.take p ++ x :: l.drop (p + 1)).Nodup := by rw [← hsplit]; exact h.nd
  have hperm : (l.take p ++ x :: l.drop (p + 1)).Perm (x :: (l.take p ++ l.drop (p + 1))) := List.perm_middle
  have hnd2 := hperm.nodup_iff.1 hnd
  rw [List.nodup_cons] at hnd2
  have hsub : ∀ y, y ∈ l.take p ++ l.drop (p + 1) → y ∈ l := fun y hy => by
    rw [hsplit]
    exact hperm.mem_iff.2 (List.mem_cons_of_mem _ hy)
  refine ⟨?_, hnd2.2, fun y hy => ⟨(h.mem y (hsub y hy)).1, fun t ht => ?_⟩, fun s t hs ht e => ?_, fun t ht => ?_⟩
  · rw [List.length_append, List.length_take, List.length_drop]; have := h.len; omega
  · show (if t = i then x else r t) ≠ y
    by_cases e : t = i
    · rw [if_pos e]; intro e2; subst e2; exact hnd2.1 hy
    · rw [if_neg e]; exact (h.mem y (hsub y hy)).2 t (by omega)
  · have e' : (if s = i then x else r s) = (if t = i then x else r t) := e
    by_cases e1 : s = i
    · by_cases e2 : t = i
      · omega
      · rw [if_pos e1, if_neg e2] at e'; exact absurd e'.symm ((h.mem x hx).2 t (by omega))
    · by_cases e2 : t = i
      · rw [if_neg e1, if_pos e2] at e'; exact absurd e' ((h.mem x hx).2 s (by omega))
      · rw [if_neg e1, if_neg e2] at e'; exact h.inj s t (by omega) (by omega) e'
  · show (if t = i then x else r t) < n
    by_cases e : t = i
    · rw [if_pos e]; exact (h.mem x hx).1
    · rw [if_neg e]; exact h.lt t (by omega)
/-- The places of the fragments: each one that was picked, and the first one again. -/
def atR (r : Nat → Nat) (j : Nat) : Nat := if j % 2 = 0 then r (j / 2) else r 0
def atI (r : Nat → Nat) (j : Nat) : Int := ((atR r j : Nat) : Int)
def atD (k : Nat) (v : ByteArray) (r : Nat → Nat) (j : Nat) : ByteArray := fragS k v (atR r j)
theorem atR_even (r : Nat → Nat) (t : Nat) : atR r (2 * t) = r t := by
  unfold atR; rw [if_pos (by omega), show 2 * t / 2 = t by omega]
theorem atR_odd (r : Nat → Nat) (t : Nat) : atR r (2 * t + 1) = r 0 := by
  unfold atR; rw [if_neg (by omega)]
theorem atR_lt {r : Nat → Nat} {i n : Nat} (h : ∀ t, t < i → r t < n) {j : Nat} (hj : j < 2 * i) : atR r j < n := by
  unfold atR; split
  · exact h _ (by omega)
  · exact h _ (by omega)
theorem atR_congr {r r' : Nat → Nat} {i : Nat} (h : ∀ t, t < i → r t = r' t) {j : Nat} (hj : j < 2 * i) : atR r j = atR r' j := by
  unfold atR; split
  · exact h _ (by omega)
  · exact h _ (by omega)
theorem pc_congr {A A' : Nat → Int} {D D' : Nat → ByteArray} : ∀ {l : List Nat}, (∀ j ∈ l, A j = A' j ∧ D j = D' j) → pc A D l = pc A' D' l
  | [], _ => rfl
  | x :: l, h => by
    show _ :: _ :: _ = _ :: _ :: _
    rw [(h x (List.mem_cons_self ..)).1, (h x (List.mem_cons_self ..)).2, pc_congr (fun j hj => h j (List.mem_cons_of_mem _ hj))]
theorem pc_step (k : Nat) (v : ByteArray) (r : Nat → Nat) (i x y : Nat) (hy : y = if i = 0 then x else r 0) :
    pc (atI r) (atD k v r) (List.range (2 * i)) ++ [.int .i64 (x : Int), .string (fragS k v x), .int .i64 (y : Int), .string (fragS k v y)] = pc (atI (fun t => if t = i then x else r t)) (atD k v (fun t => if t = i then x else r t)) (List.range (2 * (i + 1))) := by
  have e1 : List.range (2 * (i + 1)) = List.range (2 * i) ++ [2 * i, 2 * i + 1] := by
    rw [show 2 * (i + 1) = 2 * i + 1 + 1 by omega, List.range_succ, List.range_succ, List.append_assoc]; rfl
  have h1 : atR (fun t => if t = i then x else r t) (2 * i) = x := by rw [atR_even]; simp only [if_true]
  have h2 : atR (fun t => if t = i then x else r t) (2 * i + 1) = y := by
    rw [atR_odd, hy]
    by_cases e : i = 0
    · simp only [if_pos e, if_pos e.symm]
    · simp only [if_neg e, if_neg (fun h : 0 = i => e h.symm)]
  rw [e1, pc_append]
  congr 1
  · refine pc_congr (fun j hj => ?_)
    have hj' : j < 2 * i := List.mem_range.1 hj
    have := atR_congr (r := r) (r' := fun t => if t = i then x else r t) (i := i) (fun t ht => by simp only [if_neg (show ¬ t = i by omega)]) hj'
    unfold atI atD
    rw [this]; exact ⟨rfl, rfl⟩
  · show _ = [Value.int .i64 (atI _ (2 * i)), .string (atD k v _ (2 * i)), .int .i64 (atI _ (2 * i + 1)), .string (atD k v _ (2 * i + 1))]
    unfold atI atD
    rw [h1, h2]
theorem range_getD (n i : Nat) (h : i < n) : (List.range n).getD i 0 = i := by
  rw [List.getD_eq_getElem?_getD, List.getElem?_range h]; rfl
/-- The first of each: the even ones. -/
theorem fst_pick {r : Nat → Nat} {k : Nat} : ∀ {i : Nat}, i ≤ k → (∀ s t, s < i → t < i → r s = r t → s = t) → fst (atI r) k (2 * i) = (List.range i).map (2 * ·)
  | 0, _, _ => rfl
  | i + 1, hi, hinj => by
    have ih := fst_pick (r := r) (k := k) (i := i) (by omega) (fun s t hs ht => hinj s t (by omega) (by omega))
    have h1 : fst (atI r) k (2 * i + 1) = (List.range i).map (2 * ·) ++ [2 * i] := by
      rw [← ih]
      refine fst_new (by rw [ih]; simp; omega) (fun j hj e => ?_)
      rw [ih] at hj
      obtain ⟨t, ht, rfl⟩ := List.mem_map.1 hj
      have ht' := List.mem_range.1 ht
      unfold atI at e
      rw [atR_even, atR_even] at e
      have := hinj t i (by omega) (by omega) (by omega)
      omega
    show fst (atI r) k (2 * i + 1 + 1) = _
    rw [fst_old, h1, List.range_succ, List.map_append]
    · rfl
    · refine Or.inr ⟨0, ?_, ?_⟩
      · rw [h1]
        by_cases e : i = 0
        · subst e; simp
        · exact List.mem_append_left _ (List.mem_map.2 ⟨0, List.mem_range.2 (by omega), rfl⟩)
      · unfold atI
        rw [atR_odd]
        rfl
theorem atD_own {k N n i : Nat} {v : ByteArray} {r : Nat → Nat} (hN : n = N) (h : ∀ t, t < i → r t < n) : ∀ j, j < 2 * i → 0 ≤ atI r j ∧ atI r j < (N : Int) ∧ atD k v r j = fragS k v (atI r j).toNat := fun j hj => by
  have := atR_lt h hj
  unfold atI atD
  exact ⟨by omega, by omega, by rw [Int.toNat_natCast]⟩
theorem own_pick {w : World} {B n : Nat} {v : Value} {A : Nat → Int} {D : Nat → ByteArray} (hn : 1 ≤ n) (h : w.ownsRow B 31 2 v n (pc A D (List.range n))) : ∃ g cap, v = .slice (some ⟨g, 0, none⟩) n cap ∧ B ≤ g ∧ n ≤ cap ∧ PartF w (some ⟨g, 0, none⟩) A D n := by
  rcases own_partF (by rw [List.length_range]) h with ⟨_, h0⟩ | ⟨g, cap, hv, hg, hc, hp⟩
  · exfalso; omega
  · refine ⟨g, cap, hv, hg, hc, ?_⟩
    rcases hp with h0 | ⟨p, o, e, hr⟩
    · exact Or.inl h0
    · refine Or.inr ⟨p, o, e, fun i hi => ?_⟩
      have := hr i hi
      simp only [range_getD n i hi] at this
      exact this
theorem l0_any (a : Option Addr) (m c : Nat) (A : Nat → Int) (D : Nat → ByteArray) (x y : Int) (hy : y = if m = 0 then x else A 0) (hm : m ≤ 4096) (w : World) (hp : PartF w a A D m) :
    Calls Try.prog 26 #[.slice a m c, .int .i64 x] w fun e w' => e = .returned (.int .i64 y) ∧ w' = w := by
  by_cases h0 : m = 0
  · subst h0
    rw [if_pos rfl] at hy
    subst hy
    go_enter Try.func26, Try.ntmps26
    go_wp2_with fail
    go_ret
    exact ⟨rfl, rfl⟩
  · rw [if_neg h0] at hy
    subst hy
    have he : ((m : Int) == 0) = false := by simp; omega
    have hm0 : (0 : Int) < (m : Int) := by omega
    obtain ⟨p, o, rfl, q1⟩ : ∃ p off, a = some ⟨p, off, none⟩ ∧ ∀ i, i < m → w.cell? ⟨p, off + i * 2, none⟩ = some (.int .i64 (A i)) ∧ w.cell? ⟨p, off + i * 2 + 1, none⟩ = some (.string (D i)) := by
      rcases hp with r | r
      · exfalso; omega
      · exact r
    have d1 := (q1 0 (by omega)).1
    rw [Nat.zero_mul, Nat.add_zero] at d1
    clear q1
    go_enter Try.func26, Try.ntmps26
    go_wp2_with fail
    go_ret
    exact ⟨rfl, rfl⟩
theorem elem44 : Try.prog.underlying 44 = some (.slice (Try.prog.elem 44)) := by kernel_rfl
theorem elem44' : Try.prog.elem 44 = 31 := by kernel_rfl
theorem size31' (w : World) : (sizeOf 31).run Try.prog w = .ok 2 w := by kernel_rfl
theorem pslice_hi (g len cap h : Nat) (hh : h ≤ cap) (w : World) : (Instr.sliceAt 44 (.slice (some ⟨g, 0, none⟩) len cap) none (some (.int .i64 (h : Int))) none).run Try.prog w = .ok (.slice (some ⟨g, 0, none⟩) h cap) w := by
  rw [run_sliceAt_slice _ _ _ _ _ _ elem44, run_slice_h _ _ _ _ _ elem44 _ _ (by omega) (by omega), elem44', size31']
  show Result.ok (Value.slice (if cap = 0 then _ else _) (h - 0) (cap - 0)) w = _
  have : (if cap = 0 then (some ⟨g, 0, none⟩ : Option Addr) else (some (⟨g, 0, none⟩ : Addr)).map (·.add (0 * 2))) = some ⟨g, 0, none⟩ := by
    split
    · rfl
    · show some ((⟨g, 0, none⟩ : Addr).add (0 * 2)) = _
      rw [addr_add]
  rw [this]; rfl
theorem PartF.head {w : World} {a : Option Addr} {A : Nat → Int} {D : Nat → ByteArray} {n m : Nat} (h : PartF w a A D n) (hm : m ≤ n) : PartF w a A D m := by
  rcases h with h | ⟨p, o, e, hr⟩
  · exact Or.inl (by omega)
  · exact Or.inr ⟨p, o, e, fun i hi => hr i (by omega)⟩
/-- append as one step of a region that draws. -/
theorem step_append_mine {P : Program} {ops : Array Oper} {o : Oper} {a : Act} {w : World} {K : Act → World → Prop} {Q : Exit → Act → World → Prop} {E : Prop} (hgd : o.guard = none) (s x : Operand) (t : TypeId)
    (ho : o.op = .call { callee := .builtin .append, args := #[s, x], argTypes := #[t, t] })
    (base : Nat) (e : TypeId) (i : TypeInfo) (z : Value) (size bytes : Nat) (ht : P.underlying t = some (.slice e)) (hi : P.info? e = some i) (hz : i.zero = some z)
    (hsize : i.size = size) (hby : i.bytes = bytes) (hzs : z.cells.size = size) (hsz : 0 < size)
    (v : Value) (n : Nat) (xs : List Value) (hs : a.eval s = v) (hown : w.ownsRow base e size v n xs)
    (ad : Addr) (m c : Nat) (news : List Value) (hx : a.eval x = .slice (some ad) m c) (hl : news.length = m * size) (hnews : ∀ j u, news[j]? = some u → w.cell? (ad.add j) = some u) (h1 : ∀ u ∈ news, u.oneCell' = true)
    (h63 : n + m ≤ maxLen) (hbytes : (n + m) * bytes ≤ 140737488355328) (hbase : base ≤ w.heap.size)
    (h : ∀ v' w', w'.ownsRow base e size v' (n + m) (xs ++ news) → w.grownBy w' v.ownBlock → K (a.put o.dst v') w') :
    if Region.wanted o (yielded ops a.tmps) = true then Oper.wp P o a w K Q else E := by
  rw [if_pos (by simp [Region.wanted, hgd])]
  exact wp_append_own w s x t ho base e i z size bytes ht hi hz hsize hby hzs hsz v n xs hs hown ad m c news hx hl hnews h1 h63 hbytes hbase (fun v' w' q1 q2 _ => h v' w' q1 q2)
end Go.Proofs.Ytmhhegkpkncebaa
