/-
  A LAW: its model, its variables, what it was told; of.
-/
import Derived.Test.YtpkmfckifnomeaaDoorAp3
namespace Go.Proofs.YtpkmfckifnomeaaDoor
open Go.RowKit

open Go.Lib (TabIs pow10Tab)
/-- The law's memory: the model at block P holds l; variables in blocks of their own; lists that were told, each with a mark of its own. -/
structure Ls (w : World) (o : Nat → Nat × Nat) (P n : Nat) (l : List En) (vs : List (Nat × Nat × List Value)) (os : List (Nat × Value × Nat × List Value)) : Prop where
  m : ∃ b, IsM w o 1 P b n l
  v : ∀ g i cs, (g, i, cs) ∈ vs → w.rangeAt g 0 cs ∧ w.there g 0 cs.length ∧ o g = (8, i) ∧ g < w.heap.size
  s : ∀ i v k cs, (i, v, k, cs) ∈ os → OwnK w o (7, i) 4 v k cs
  ok : Ok l
  tab : TabIs Tryd.prog w "internal/strconv.uint64pow10" .u64 pow10Tab
theorem range_fr {T : Nat × Nat → Prop} {w w' : World} {o o' : Nat → Nat × Nat} {b : Nat} {cs : List Value} (h : w.rangeAt b 0 cs) (f : Fr T o o' w w') (hb : ¬ T (o b)) : w'.rangeAt b 0 cs := fun j v hv => f.cell (h j v hv) hb
theorem there_fr {T : Nat × Nat → Prop} {w w' : World} {o o' : Nat → Nat × Nat} {b n : Nat} (h : w.there b 0 n) (f : Fr T o o' w w') (hb : ¬ T (o b)) (hlt : b < w.heap.size) : w'.there b 0 n := fun j hj => by
  have e := f.block b hlt hb
  rw [World.cell?_of_block (a := ⟨b, 0 + j, none⟩) e, World.frozen?_of_block (a := ⟨b, 0 + j, none⟩) e]
  exact h j hj
theorem tabIs_fr {T : Nat × Nat → Prop} {w w' : World} {o o' : Nat → Nat × Nat} {name : String} {k : IntKind} {zs : List Int} (h : TabIs Tryd.prog w name k zs) (f : Fr T o o' w w') (hg : ∀ g, Tryd.prog.globalNamed name = some g → ¬ T (o g)) : TabIs Tryd.prog w' name k zs := by
  unfold TabIs World.var? at *
  cases hn : Tryd.prog.globalNamed name with
  | none => simp [hn] at h
  | some g =>
    simp only [hn, Option.bind_some] at h ⊢
    have hlt : g < w.heap.size := by
      rcases Nat.lt_or_ge g w.heap.size with h' | h'
      · exact h'
      · rw [Array.getElem?_eq_none h'] at h; simp at h
    rw [f.block g hlt (hg g hn)]
    exact h
theorem gPow : Tryd.prog.globalNamed "internal/strconv.uint64pow10" = some 0 := by kernel_rfl
theorem tab_lt {w : World} (h : TabIs Tryd.prog w "internal/strconv.uint64pow10" .u64 pow10Tab) : 0 < w.heap.size := by
  unfold TabIs World.var? at h
  simp only [gPow, Option.bind_some] at h
  rcases Nat.lt_or_ge 0 w.heap.size with h' | h'
  · exact h'
  · rw [Array.getElem?_eq_none h'] at h; simp at h
/-- Nothing that was there ahead of the law has a mark, or has turned. -/
structure Zz (w0 w : World) (o : Nat → Nat × Nat) : Prop where
  z : ∀ g, g < w0.heap.size → o g = (0, 0)
  b : Below w0.heap.size w0 w
  t : 0 < w0.heap.size
theorem Zz.fr {T : Nat × Nat → Prop} {w0 w w' : World} {o o' : Nat → Nat × Nat} (h : Zz w0 w o) (f : Fr T o o' w w') (hT : ¬ T (0, 0)) : Zz w0 w' o' :=
  ⟨fun g hg => (f.lab g (Nat.lt_of_lt_of_le hg h.b.size)).trans (h.z g hg), h.b.trans (f.below h.b.size (fun b hb => by rw [h.z b hb]; exact hT)), h.t⟩
theorem Zz.below {w0 w w' : World} {o : Nat → Nat × Nat} (h : Zz w0 w o) (f : Below w.heap.size w w') : Zz w0 w' o := h.fr (Fr.ofBelow (fun _ => False) o f) id
theorem Zz.lab {w0 w : World} {o : Nat → Nat × Nat} (h : Zz w0 w o) {p : Nat} (hp : w0.heap.size ≤ p) (t : Nat × Nat) : Zz w0 w (YtpkmfckifnomeaaDoor.lab o p t) := ⟨fun g hg => by rw [lab_other _ _ _ (by omega)]; exact h.z g hg, h.b, h.t⟩
theorem Zz.set {w0 w : World} {o : Nat → Nat × Nat} (h : Zz w0 w o) {g q : Nat} (hg : o g = (8, q)) (j : Nat) (u : Value) : Zz w0 (w.setCell ⟨g, j, none⟩ u) o := by
  have : w0.heap.size ≤ g := by
    rcases Nat.lt_or_ge g w0.heap.size with h' | h'
    · have := h.z g h'; rw [hg] at this; cases this
    · exact h'
  exact ⟨h.z, h.b.setCell (p := ⟨g, j, none⟩) this u, h.t⟩
theorem Ls.turn {T : Nat × Nat → Prop} {w0 w w' : World} {o o' : Nat → Nat × Nat} {P n n' : Nat} {l l' : List En} {vs : List (Nat × Nat × List Value)} {os : List (Nat × Value × Nat × List Value)} (h : Ls w o P n l vs os) (hz : Zz w0 w o) (f : Fr T o o' w w') (hm : ∃ b, IsM w' o' 1 P b n' l') (hok : Ok l') (h8 : ∀ g i cs, (g, i, cs) ∈ vs → ¬ T (8, i)) (hs : ∀ i v k cs, (i, v, k, cs) ∈ os → ¬ T (7, i)) (hzT : ¬ T (0, 0)) : Ls w' o' P n' l' vs os ∧ Zz w0 w' o' := by
  refine ⟨⟨hm, fun g i cs hg => ?_, fun i v k cs hm => (h.s i v k cs hm).fr f (hs i v k cs hm), hok, tabIs_fr h.tab f (fun g hg => ?_)⟩, hz.fr f hzT⟩
  · obtain ⟨a1, a2, a3, a4⟩ := h.v g i cs hg
    have : ¬ T (o g) := by rw [a3]; exact h8 g i cs hg
    exact ⟨range_fr a1 f this, there_fr a2 f this a4, (f.lab g a4).trans a3, Nat.lt_of_lt_of_le a4 f.size⟩
  · obtain rfl := Option.some.inj (gPow.symm.trans hg)
    rw [hz.z 0 hz.t]; exact hzT
theorem Ls.below {w w' : World} {o : Nat → Nat × Nat} {P n : Nat} {l : List En} {vs : List (Nat × Nat × List Value)} {os : List (Nat × Value × Nat × List Value)} (h : Ls w o P n l vs os) (f : Below w.heap.size w w') : Ls w' o P n l vs os := by
  obtain ⟨b, hb⟩ := h.m
  exact ⟨⟨b, hb.below f⟩, fun g i cs hg => by
    obtain ⟨a1, a2, a3, a4⟩ := h.v g i cs hg
    exact ⟨range_below a1 f, there_below a2 f, a3, Nat.lt_of_lt_of_le a4 f.size⟩, fun i v k cs hm => (h.s i v k cs hm).below f, h.ok, tabIs_below h.tab f⟩
/-- Another variable, in a new block p. -/
theorem Ls.more {w w' : World} {o : Nat → Nat × Nat} {P n : Nat} {l : List En} {vs : List (Nat × Nat × List Value)} {os : List (Nat × Value × Nat × List Value)} (h : Ls w o P n l vs os) (f : Below w.heap.size w w') (q : Nat) {p : Nat} {cs : List Value} (hp : w.heap.size ≤ p) (hp2 : p < w'.heap.size) (hr : w'.rangeAt p 0 cs) (ht : w'.there p 0 cs.length) : Ls w' (lab o p (8, q)) P n l ((p, q, cs) :: vs) os := by
  have f' : Fr (fun _ => False) o (lab o p (8, q)) w w' := ⟨f.os, f.tape, f.output, f.size, fun c hc => lab_other _ _ _ (by omega), fun c hc _ => f.block c hc⟩
  obtain ⟨b, hb⟩ := h.m
  exact ⟨⟨b, hb.fr f' id id⟩, fun g i ds hg => by
    rcases List.mem_cons.1 hg with e | hg
    · cases e; exact ⟨hr, ht, lab_same _ _ _, hp2⟩
    · obtain ⟨a1, a2, a3, a4⟩ := h.v g i ds hg
      exact ⟨range_below a1 f, there_below a2 f, (lab_other _ _ _ (by omega)).trans a3, Nat.lt_of_lt_of_le a4 f.size⟩, fun i v k ds hm => (h.s i v k ds hm).fr f' id, h.ok, tabIs_below h.tab f⟩
theorem Ls.alloc {w0 w : World} {o : Nat → Nat × Nat} {P n : Nat} {l : List En} {vs : List (Nat × Nat × List Value)} {os : List (Nat × Value × Nat × List Value)} (h : Ls w o P n l vs os) (hz : Zz w0 w o) (q : Nat) (cs : List Value) (t : TypeId) : Ls (w.alloc (.cells cs.toArray t)) (lab o w.heap.size (8, q)) P n l ((w.heap.size, q, cs) :: vs) os ∧ Zz w0 (w.alloc (.cells cs.toArray t)) (lab o w.heap.size (8, q)) :=
  ⟨h.more (below_alloc _ _) q (Nat.le_refl _) (by simp) (range_new _ _ _) (there_new _ _ _), (hz.below (below_alloc _ _)).lab hz.b.size _⟩
theorem Ls.sub {w : World} {o : Nat → Nat × Nat} {P n m : Nat} {l : List En} {vs vs' : List (Nat × Nat × List Value)} {os os' : List (Nat × Value × Nat × List Value)} (h : Ls w o P n l vs os) (hn : n ≤ m) (hv : ∀ x ∈ vs', x ∈ vs) (hs : ∀ x ∈ os', x ∈ os) : Ls w o P m l vs' os' := by
  obtain ⟨b, hb⟩ := h.m
  exact ⟨⟨b, hb.cell, hb.fz, hb.mP, hb.mb, hb.mp.mono hn, hb.lt⟩, fun g i cs hg => h.v g i cs (hv _ hg), fun i v k cs hm => h.s i v k cs (hs _ hm), h.ok, h.tab⟩
theorem Ls.cell {w : World} {o : Nat → Nat × Nat} {P n : Nat} {l : List En} {vs : List (Nat × Nat × List Value)} {os : List (Nat × Value × Nat × List Value)} (h : Ls w o P n l vs os) {g i : Nat} {cs : List Value} (hg : (g, i, cs) ∈ vs) {j : Nat} {v : Value} (hj : cs[j]? = some v) : w.cell? ⟨g, j, none⟩ = some v := by
  have := (h.v g i cs hg).1 j v hj
  rwa [Nat.zero_add] at this
theorem Ls.fz {w : World} {o : Nat → Nat × Nat} {P n : Nat} {l : List En} {vs : List (Nat × Nat × List Value)} {os : List (Nat × Value × Nat × List Value)} (h : Ls w o P n l vs os) {g i : Nat} {cs : List Value} (hg : (g, i, cs) ∈ vs) {j : Nat} (hj : j < cs.length) : w.frozen? ⟨g, j, none⟩ = false := by
  have := ((h.v g i cs hg).2.1 j hj).2
  rwa [Nat.zero_add] at this
/-- A store into a variable whose mark is its own. -/
theorem Ls.set {w0 w : World} {o : Nat → Nat × Nat} {P n : Nat} {l : List En} {vs : List (Nat × Nat × List Value)} {os : List (Nat × Value × Nat × List Value)} {g q : Nat} {cs : List Value} (h : Ls w o P n l ((g, q, cs) :: vs) os) (hz : Zz w0 w o) (hne : ∀ g' i ds, (g', i, ds) ∈ vs → i ≠ q) (j : Nat) (u : Value) (hj : j < cs.length) : Ls (w.setCell ⟨g, j, none⟩ u) o P n l ((g, q, cs.set j u) :: vs) os ∧ Zz w0 (w.setCell ⟨g, j, none⟩ u) o := by
  obtain ⟨a1, a2, a3, a4⟩ := h.v g q cs (by simp)
  have f : Fr (· = (8, q)) o o w (w.setCell ⟨g, j, none⟩ u) := Fr.set (a := ⟨g, j, none⟩) a3 u
  obtain ⟨b, hb⟩ := h.m
  have h' := (h.sub (Nat.le_refl _) (vs' := vs) (os' := os) (fun x hx => by simp [hx]) (fun x hx => hx)).turn hz f ⟨b, hb.fr f (fun e => by cases e) (fun e => by cases e)⟩ h.ok (fun g' i ds hm e => hne g' i ds hm (by cases e; rfl)) (fun i v k cs hm e => by cases e) (fun e => by cases e)
  refine ⟨⟨h'.1.m, fun g' i ds hg => ?_, h'.1.s, h'.1.ok, h'.1.tab⟩, hz.set a3 _ _⟩
  rcases List.mem_cons.1 hg with e | hg
  · cases e
    refine ⟨fun i v hi => ?_, by rw [List.length_set]; exact there_setCell a2 _ _, a3, by simpa [World.setCell] using a4⟩
    rw [Nat.zero_add]
    by_cases e : i = j
    · subst e
      rw [List.getElem?_set_self hj] at hi
      cases hi
      have hv : cs[i]? = some cs[i] := List.getElem?_eq_getElem hj
      have := a1 i _ hv
      rw [Nat.zero_add] at this
      exact World.cell?_setCell_same _ _ _ this
    · rw [List.getElem?_set_ne (fun x => e x.symm)] at hi
      rw [World.cell?_setCell_other _ _ _ _ (fun x => e (by cases x; rfl))]
      have := a1 i v hi
      rwa [Nat.zero_add] at this
  · exact h'.1.v g' i ds hg
/-- A request of one key. -/
def ofq (verb : Int) (data : ByteArray) (delta : Nat) : Rq := ⟨verb, 0, 0, (data.size : Int), 0, delta, false, data⟩
set_option maxRecDepth 100000 in
set_option maxHeartbeats 1000000 in
theorem of_any (verb : Int) (k d : ByteArray) (delta : Nat) {o : Nat → Nat × Nat} {P n : Nat} {l : List En} {vs : List (Nat × Nat × List Value)} {os : List (Nat × Value × Nat × List Value)} {w0 : World} (w : World) (h : Ls w o P n l vs os) (hz : Zz w0 w o) :
    Calls Tryd.prog 10 #[.int .i64 verb, .string k, .string d, .int .u64 (delta : Int)] w fun e w' => ∃ p o', e = .returned (.agg ((ofq verb d delta).cs (.slice (some ⟨p, 0, none⟩) 1 1)).toArray) ∧ Ls w' o' P n l ((p, 3, [.string k]) :: vs) os ∧ Zz w0 w' o' ∧ w.heap.size ≤ p := by
  obtain ⟨W1, hW1⟩ : ∃ W1, W1 = w.alloc (.cells #[.int .i64 verb, .slice (some ⟨w.heap.size + 1, 0, none⟩) 1 1, .int .i64 0, .int .i64 0, .int .i64 (d.size : Int), .int .i64 0, .int .u64 (delta : Int), .bool false, .string d] 27) := ⟨_, rfl⟩
  have H : Hid (∃ p o', (Ending.returned (.agg #[.int .i64 verb, .slice (some ⟨w.heap.size + 1, 0, none⟩) 1 1, .int .i64 0, .int .i64 0, .int .i64 (d.size : Int), .int .i64 0, .int .u64 (delta : Int), .bool false, .string d])) = .returned (.agg ((ofq verb d delta).cs (.slice (some ⟨p, 0, none⟩) 1 1)).toArray) ∧ Ls (W1.alloc (.cells #[.string k] 9)) o' P n l ((p, 3, [.string k]) :: vs) os ∧ Zz w0 (W1.alloc (.cells #[.string k] 9)) o' ∧ w.heap.size ≤ p) := Lib.hid (by
    have hs : W1.heap.size = w.heap.size + 1 := by rw [hW1]; simp
    have h1 : Ls W1 o P n l vs os := by rw [hW1]; exact h.below (below_alloc _ _)
    have z1 : Zz w0 W1 o := by rw [hW1]; exact hz.below (below_alloc _ _)
    have h2 := h1.alloc z1 3 [.string k] 9
    rw [hs] at h2
    exact ⟨w.heap.size + 1, _, rfl, h2.1, h2.2, by omega⟩)
  rw [hW1] at H
  clear h hz hW1
  go_enter Tryd.func10, Tryd.ntmps10
  go_wp2_with fail
  refine bodyPost_ret (v := .agg #[.int .i64 verb, .slice (some ⟨w.heap.size + 1, 0, none⟩) 1 1, .int .i64 0, .int .i64 0, .int .i64 (d.size : Int), .int .i64 0, .int .u64 (delta : Int), .bool false, .string d]) (by simp [results, Tryd.results10]; go_simp) rfl ?_
  exact H.out
/-- Apply of a request of one key. -/
theorem ls_one (r : Rq) (now ver : Int) (k : ByteArray) (p kc : Nat) (h1 : (r.verb == 1) = false) (h2 : (r.verb == 2) = false) (h13 : (r.verb == 13) = false) {o : Nat → Nat × Nat} {P n : Nat} {l : List En} {vs : List (Nat × Nat × List Value)} {os : List (Nat × Value × Nat × List Value)} (hn : n < 1000000) (hk : k.size ≤ 140737488355328) (hd : r.data.size ≤ 140737488355328) {w0 : World} (w : World) (h : Ls w o P n l vs os) (hz : Zz w0 w o) (hp : (p, 3, [.string k]) ∈ vs) :
    Calls Tryd.prog 11 #[.pointer (some ⟨P, 0, none⟩), .agg (r.cs (.slice (some ⟨p, 0, none⟩) 1 kc)).toArray, .int .i64 now, .int .i64 ver] w fun e w' => ∃ o', e = .returned (.agg (q1 r k now ver l).1.cs.toArray) ∧ Ls w' o' P (n + 1) (stp r k now ver l) vs os ∧ Zz w0 w' o' := by
  obtain ⟨b, hb⟩ := h.m
  have c : w.cell? ⟨p, 0, none⟩ = some (.string k) := h.cell hp rfl
  refine (apply_one 1 r now ver p 0 kc k h1 h2 h13 hn h.ok hk hd w hb c (by omega) h.tab).mono ?_
  rintro e w' ⟨o', rfl, i1, f1⟩
  obtain ⟨i2, z2⟩ := h.turn hz f1 ⟨b, i1⟩ (stp_ok h.ok hk hd) (fun _ _ _ _ e => by have : 8 = 1 := e; omega) (fun _ _ _ _ _ e => by have : 7 = 1 := e; omega) (fun e => by have : 0 = 1 := e; omega)
  exact ⟨o', rfl, i2, z2⟩
/-- Apply of a get of one key. -/
theorem ls_get (g : Bool) (q : Nat) (r : Rq) (now ver : Int) (k : ByteArray) (p kc : Nat) (hv : r.verb = if g then 2 else 1) {o : Nat → Nat × Nat} {P n : Nat} {l : List En} {vs : List (Nat × Nat × List Value)} {os : List (Nat × Value × Nat × List Value)} (hk : k.size ≤ 140737488355328) {w0 : World} (w : World) (h : Ls w o P n l vs os) (hz : Zz w0 w o) (hp : (p, 3, [.string k]) ∈ vs) (hq : ∀ i v k cs, (i, v, k, cs) ∈ os → i ≠ q) :
    Calls Tryd.prog 11 #[.pointer (some ⟨P, 0, none⟩), .agg (r.cs (.slice (some ⟨p, 0, none⟩) 1 kc)).toArray, .int .i64 now, .int .i64 ver] w fun e w' => ∃ a' m c o', e = .returned (.agg (acs 1 (.slice a' m c) g 0 ⟨#[]⟩).toArray) ∧ m = (fnd l now [k]).length ∧ Ls w' o' P n l vs ((q, .slice a' m c, m, fcs (fnd l now [k])) :: os) ∧ Zz w0 w' o' := by
  obtain ⟨b, hb⟩ := h.m
  have c : w.cell? ⟨p, 0, none⟩ = some (.string k) := h.cell hp rfl
  have hK : Ks w (some ⟨p, 0, none⟩) [k] := .inr ⟨p, 0, rfl, fun i u hu => by
    match i, hu with
    | 0, hu => cases hu; exact c
    | i + 1, hu => cases hu⟩
  have hoff : Off o (some ⟨p, 0, none⟩) (· = (7, q)) := fun p' off e => by
    cases e; intro e'; rw [(h.v p 3 _ hp).2.2.1] at e'; cases e'
  have hlt : ∀ p' off, some (⟨p, 0, none⟩ : Addr) = some ⟨p', off, none⟩ → p' < w.heap.size := fun p' off e => by cases e; exact (h.v p 3 _ hp).2.2.2
  have post : ∀ e w', (∃ a' m c o', e = Ending.returned (.agg (acs 1 (.slice a' m c) g 0 ⟨#[]⟩).toArray) ∧ OwnK w' o' (7, q) 4 (.slice a' m c) m (fcs (fnd l now [k])) ∧ m = (fnd l now [k]).length ∧ IsM w' o' 1 P b n l ∧ Fr (· = (7, q)) o o' w w') → ∃ a' m c o', e = .returned (.agg (acs 1 (.slice a' m c) g 0 ⟨#[]⟩).toArray) ∧ m = (fnd l now [k]).length ∧ Ls w' o' P n l vs ((q, .slice a' m c, m, fcs (fnd l now [k])) :: os) ∧ Zz w0 w' o' := by
    rintro e w' ⟨a', m, c, o', rfl, hO, hm, i1, f1⟩
    obtain ⟨i2, z2⟩ := h.turn hz f1 ⟨b, i1⟩ h.ok (fun _ _ _ _ e => by cases e) (fun i v k cs hm e => hq i v k cs hm (by cases e; rfl)) (fun e => by cases e)
    refine ⟨a', m, c, o', rfl, hm, ⟨i2.m, i2.v, fun i v k cs hm => ?_, i2.ok, i2.tab⟩, z2⟩
    rcases List.mem_cons.1 hm with e | hm
    · cases e; exact hO
    · exact i2.s i v k cs hm
  have hks : ∀ k' ∈ [k], k'.size ≤ 140737488355328 := fun k' hk' => by simp at hk'; subst hk'; exact hk
  show Calls Tryd.prog 11 #[.pointer (some ⟨P, 0, none⟩), .agg #[.int .i64 r.verb, .slice (some ⟨p, 0, none⟩) 1 kc, .int .i64 r.fl, .int .i64 r.exp, .int .i64 r.bytes, .int .i64 r.cas, .int .u64 (r.delta : Int), .bool r.quiet, .string r.data], .int .i64 now, .int .i64 ver] w _
  cases g with
  | false =>
    rw [show r.verb = 1 from hv]
    exact (apply_get 1 (7, q) now ver (some ⟨p, 0, none⟩) kc [k] r.fl r.exp r.bytes r.cas r.delta r.quiet r.data (by simp) hks (fun e => by cases e) (fun e => by cases e) (fun e => by cases e) (fun e => by cases e) w hb hK (fun _ => hoff) (fun _ => hlt)).mono post
  | true =>
    rw [show r.verb = 2 from hv]
    exact (apply_gets 1 (7, q) now ver (some ⟨p, 0, none⟩) kc [k] r.fl r.exp r.bytes r.cas r.delta r.quiet r.data (by simp) hks (fun e => by cases e) (fun e => by cases e) (fun e => by cases e) (fun e => by cases e) w hb hK (fun _ => hoff) (fun _ => hlt)).mono post
theorem ls_new (w : World) (htab : TabIs Tryd.prog w "internal/strconv.uint64pow10" .u64 pow10Tab) : Calls Tryd.prog 9 #[] w fun e w' => ∃ P o', e = .returned (.pointer (some ⟨P, 0, none⟩)) ∧ Ls w' o' P 0 [] [] [] ∧ Zz w w' o' := by
  refine (new_any 1 o0 w).mono ?_
  rintro e w' ⟨P, b, o', rfl, i1, f1⟩
  have z0 : Zz w w o0 := ⟨fun _ _ => rfl, Below.refl _ _, tab_lt htab⟩
  exact ⟨P, o', rfl, ⟨⟨b, i1⟩, (fun _ _ _ h => by cases h), (fun _ _ _ _ h => by cases h), Ok.nil, tabIs_fr htab f1 (fun _ _ h => h)⟩, z0.fr f1 id⟩
end Go.Proofs.YtpkmfckifnomeaaDoor
