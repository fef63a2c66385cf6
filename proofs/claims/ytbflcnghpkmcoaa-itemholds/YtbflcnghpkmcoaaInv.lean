/-
  WHAT HOLDS OF A STORE'S PLACES: the rings of all items and of each class's, the spare places, the map.
-/
import Derived.Test.YtbflcnghpkmcoaaRow
namespace Go.Proofs.Ytbflcnghpkmcoaa
open Go.RowKit

abbrev PI := Nat × It
/-- A class's. -/
def ofc (c : Nat) (M : List PI) : List PI := M.filter fun x => decide (x.2.c = c)
theorem ofc_append (c : Nat) (M M' : List PI) : ofc c (M ++ M') = ofc c M ++ ofc c M' := List.filter_append ..
theorem ofc_yes {c : Nat} {x : PI} (h : x.2.c = c) (M : List PI) : ofc c (x :: M) = x :: ofc c M := List.filter_cons_of_pos (by simpa using h)
theorem ofc_no {c : Nat} {x : PI} (h : x.2.c ≠ c) (M : List PI) : ofc c (x :: M) = ofc c M := List.filter_cons_of_neg (by simpa using h)
theorem mem_ofc {c : Nat} {M : List PI} {x : PI} : x ∈ ofc c M ↔ x ∈ M ∧ x.2.c = c := by unfold ofc; simp
structure Rings (n : Nat) (nw od : Nat → Nat → Nat) (M : List PI) : Prop where
  r0 : Ring (nw 0) (od 0) 0 (M.map (·.1))
  r1 : ∀ c, c < n → Ring (nw 1) (od 1) (c + 1) ((ofc c M).map (·.1))
theorem pl_inj {M : List PI} (h : (M.map (·.1)).Nodup) {x y : PI} (hx : x ∈ M) (hy : y ∈ M) (e : x.1 = y.1) : x = y := by
  induction M with
  | nil => cases hx
  | cons a M ih =>
    rw [List.map_cons, List.nodup_cons] at h
    rcases List.mem_cons.1 hx with h1 | h1 <;> rcases List.mem_cons.1 hy with h2 | h2
    · rw [h1, h2]
    · exact absurd (by rw [← h1, e]; exact List.mem_map_of_mem h2) h.1
    · exact absurd (by rw [← h2, ← e]; exact List.mem_map_of_mem h1) h.1
    · exact ih h.2 h1 h2
theorem sub_ofc (c : Nat) (M : List PI) : ((ofc c M).map (·.1)).Sublist (M.map (·.1)) := (List.filter_sublist).map _
theorem Rings.leave {n : Nat} {nw od : Nat → Nat → Nat} {pre post : List PI} {x : PI} (h : Rings n nw od (pre ++ x :: post)) (hn : ((pre ++ x :: post).map (·.1)).Nodup) (hb : ∀ y ∈ pre ++ x :: post, n + 1 ≤ y.1) (hc : x.2.c < n) : Rings n (lvn nw od x.1 2) (lvo nw od x.1 2) (pre ++ post) := by
  have e0 : lvn nw od x.1 2 0 = upd (nw 0) (od 0 x.1) (nw 0 x.1) := if_pos (by omega)
  have e1 : lvn nw od x.1 2 1 = upd (nw 1) (od 1 x.1) (nw 1 x.1) := if_pos (by omega)
  have f0 : lvo nw od x.1 2 0 = upd (od 0) (nw 0 x.1) (od 0 x.1) := if_pos (by omega)
  have f1 : lvo nw od x.1 2 1 = upd (od 1) (nw 1 x.1) (od 1 x.1) := if_pos (by omega)
  have hx : x ∈ pre ++ x :: post := by simp
  refine ⟨?_, fun c hcn => ?_⟩
  · rw [e0, f0, List.map_append]
    have h0 := h.r0
    rw [List.map_append, List.map_cons] at h0 hn
    refine h0.out (List.nodup_cons.2 ⟨fun hm => ?_, hn⟩)
    rw [← List.map_cons, ← List.map_append] at hm
    obtain ⟨y, hy, e⟩ := List.mem_map.1 hm
    have := hb y hy
    have e : y.1 = 0 := e
    omega
  · rw [e1, f1]
    have hq := h.r1 x.2.c hc
    rw [ofc_append, ofc_yes rfl, List.map_append, List.map_cons] at hq
    have inM : ∀ c p, p ∈ (ofc c (pre ++ x :: post)).map (·.1) → ∃ y ∈ pre ++ x :: post, y.2.c = c ∧ y.1 = p := fun c p hp => by
      obtain ⟨y, hy, e⟩ := List.mem_map.1 hp
      obtain ⟨hy1, hy2⟩ := mem_ofc.1 hy
      exact ⟨y, hy1, hy2, e⟩
    by_cases e : c = x.2.c
    · subst e
      rw [ofc_append, List.map_append]
      refine hq.out (List.nodup_cons.2 ⟨fun hm => ?_, ?_⟩)
      · rw [← List.map_cons, ← List.map_append, ← ofc_yes rfl, ← ofc_append] at hm
        obtain ⟨y, hy, _, e⟩ := inM _ _ hm
        have := hb y hy
        omega
      · rw [← List.map_cons, ← List.map_append, ← ofc_yes rfl, ← ofc_append]
        exact hn.sublist (sub_ofc _ _)
    · have ho : ofc c (pre ++ x :: post) = ofc c (pre ++ post) := by rw [ofc_append, ofc_append, ofc_no (fun z => e z.symm)]
      have hr := h.r1 c hcn
      rw [← ho]
      have far : ∀ p, p ∈ (c + 1) :: (ofc c (pre ++ x :: post)).map (·.1) → ∀ q, q ∈ (x.2.c + 1) :: (ofc x.2.c (pre ++ x :: post)).map (·.1) → p ≠ q := by
        intro p hp q hq epq
        subst epq
        rcases List.mem_cons.1 hp with h1 | h1 <;> rcases List.mem_cons.1 hq with h2 | h2
        · omega
        · obtain ⟨y, hy, _, e'⟩ := inM _ _ h2
          have := hb y hy; omega
        · obtain ⟨y, hy, _, e'⟩ := inM _ _ h1
          have := hb y hy; omega
        · obtain ⟨y, hy, c1, e'⟩ := inM _ _ h1
          obtain ⟨y', hy', c2, e''⟩ := inM _ _ h2
          have := pl_inj hn hy hy' (e'.trans e''.symm)
          subst this
          exact e (c1.symm.trans c2)
      have m1 := hq.nw_mem
      have m2 := hq.od_mem
      refine hr.stay (fun p hp => upd_other _ _ _ (far p hp _ ?_)) (fun p hp => upd_other _ _ _ (far p hp _ ?_))
      · rw [ofc_append, ofc_yes rfl, List.map_append, List.map_cons]
        rcases List.mem_cons.1 m1 with h1 | h1
        · rw [h1]; exact List.mem_cons_self
        · exact List.mem_cons_of_mem _ (List.mem_append_left _ h1)
      · rw [ofc_append, ofc_yes rfl, List.map_append, List.map_cons]
        rcases List.mem_append.1 m2 with h1 | h1
        · exact List.mem_cons_of_mem _ (List.mem_append_right _ (List.mem_cons_of_mem _ h1))
        · simp at h1; rw [h1]; exact List.mem_cons_self
theorem Rings.lead {n : Nat} {nw od : Nat → Nat → Nat} {M : List PI} {x : PI} (h : Rings n nw od M) (hn : ((x :: M).map (·.1)).Nodup) (hb : ∀ y ∈ x :: M, n + 1 ≤ y.1) (hc : x.2.c < n) : Rings n (ldn nw od x.2.c x.1 2) (ldo nw od x.2.c x.1 2) (x :: M) := by
  have e0 : ldn nw od x.2.c x.1 2 0 = upd (upd (nw 0) x.1 0) (od 0 0) x.1 := if_pos (by omega)
  have e1 : ldn nw od x.2.c x.1 2 1 = upd (upd (nw 1) x.1 (x.2.c + 1)) (od 1 (x.2.c + 1)) x.1 := if_pos (by omega)
  have f0 : ldo nw od x.2.c x.1 2 0 = upd (upd (od 0) x.1 (od 0 0)) 0 x.1 := if_pos (by omega)
  have f1 : ldo nw od x.2.c x.1 2 1 = upd (upd (od 1) x.1 (od 1 (x.2.c + 1))) (x.2.c + 1) x.1 := if_pos (by omega)
  have hn' := List.nodup_cons.1 (by rw [List.map_cons] at hn; exact hn)
  have hx := hb x List.mem_cons_self
  have inM : ∀ c p, p ∈ (ofc c M).map (·.1) → ∃ y ∈ M, y.2.c = c ∧ y.1 = p := fun c p hp => by
    obtain ⟨y, hy, e⟩ := List.mem_map.1 hp
    obtain ⟨hy1, hy2⟩ := mem_ofc.1 hy
    exact ⟨y, hy1, hy2, e⟩
  refine ⟨?_, fun c hcn => ?_⟩
  · rw [e0, f0, List.map_cons]
    refine h.r0.ahead (List.nodup_cons.2 ⟨fun hm => ?_, by rw [List.map_cons] at hn; exact hn⟩)
    rw [← List.map_cons] at hm
    obtain ⟨y, hy, e⟩ := List.mem_map.1 hm
    have := hb y hy
    have e : y.1 = 0 := e
    omega
  · rw [e1, f1]
    have hq := h.r1 x.2.c hc
    by_cases e : c = x.2.c
    · subst e
      rw [ofc_yes rfl, List.map_cons]
      refine hq.ahead (List.nodup_cons.2 ⟨fun hm => ?_, List.nodup_cons.2 ⟨fun hm => ?_, hn'.2.sublist (sub_ofc _ _)⟩⟩)
      · rcases List.mem_cons.1 hm with h1 | h1
        · omega
        · obtain ⟨y, hy, _, e⟩ := inM _ _ h1
          have := hb y (List.mem_cons_of_mem _ hy); omega
      · obtain ⟨y, hy, _, e⟩ := inM _ _ hm
        exact hn'.1 (by rw [← e]; exact List.mem_map_of_mem hy)
    · rw [ofc_no (fun z => e z.symm)]
      have far : ∀ p, p ∈ (c + 1) :: (ofc c M).map (·.1) → ∀ q, q ∈ (x.2.c + 1) :: (ofc x.2.c M).map (·.1) → p ≠ q := by
        intro p hp q hq epq
        subst epq
        rcases List.mem_cons.1 hp with h1 | h1 <;> rcases List.mem_cons.1 hq with h2 | h2
        · omega
        · obtain ⟨y, hy, _, e'⟩ := inM _ _ h2
          have := hb y (List.mem_cons_of_mem _ hy); omega
        · obtain ⟨y, hy, _, e'⟩ := inM _ _ h1
          have := hb y (List.mem_cons_of_mem _ hy); omega
        · obtain ⟨y, hy, c1, e'⟩ := inM _ _ h1
          obtain ⟨y', hy', c2, e''⟩ := inM _ _ h2
          have := pl_inj hn'.2 hy hy' (e'.trans e''.symm)
          subst this
          exact e (c1.symm.trans c2)
      have nx : ∀ p, p ∈ (c + 1) :: (ofc c M).map (·.1) → p ≠ x.1 := by
        intro p hp ex
        rcases List.mem_cons.1 hp with h1 | h1
        · omega
        · obtain ⟨y, hy, _, e'⟩ := inM _ _ h1
          exact hn'.1 (by rw [← ex, ← e']; exact List.mem_map_of_mem hy)
      exact (h.r1 c hcn).stay (fun p hp => by rw [upd_other _ _ _ (far p hp _ List.mem_cons_self), upd_other _ _ _ (nx p hp)]) (fun p hp => by rw [upd_other _ _ _ (far p hp _ hq.od_e), upd_other _ _ _ (nx p hp)])
/-- An item's cells. -/
def CellsOf (g : Nat → Value) (p : Nat) (i : It) : Prop := g (p * 8) = .string i.key ∧ g (p * 8 + 1) = .int .i64 ((i.c : Nat) : Int) ∧ g (p * 8 + 2) = .int .i64 ((i.k : Nat) : Int) ∧ g (p * 8 + 3) = .bool i.pin
theorem CellsOf.keep {g g' : Nat → Value} {p : Nat} {i : It} (h : CellsOf g p i) (k : Keep g g') : CellsOf g' p i :=
  ⟨(k _ (by omega)).trans h.1, (k _ (by omega)).trans h.2.1, (k _ (by omega)).trans h.2.2.1, (k _ (by omega)).trans h.2.2.2⟩
/-- The map of the places. -/
structure MapOf (a : A) (L : List PI) : Prop where
  ff : ∀ k v, a.F k = some v ↔ ∃ x ∈ L, x.2.key = k ∧ v = ((x.1 : Nat) : Int)
  ks : a.keys = ((L.length : Nat) : Int)
/-- Where items and spare places stand. -/
structure Plc (n N : Nat) (L : List PI) (sp : List Nat) : Prop where
  nd : (L.map (·.1) ++ sp).Nodup
  bd : ∀ p ∈ L.map (·.1) ++ sp, n + 1 ≤ p ∧ p < N
  nn : N = n + 1 + (L.length + sp.length)
theorem Plc.ndL {n N : Nat} {L : List PI} {sp : List Nat} (h : Plc n N L sp) : (L.map (·.1)).Nodup := (List.nodup_append.1 h.nd).1
theorem Plc.bdL {n N : Nat} {L : List PI} {sp : List Nat} (h : Plc n N L sp) {x : PI} (hx : x ∈ L) : n + 1 ≤ x.1 ∧ x.1 < N := h.bd _ (List.mem_append_left _ (List.mem_map_of_mem hx))
/-- What a store is in memory, beside its items. -/
structure Gh where
  S : Nat
  C : Nat
  G : Nat
  N : Nat
  cap : Nat
  g : Nat → Value
  sv : Value
  sp : List Nat
  a : A
  nw : Nat → Nat → Nat
  od : Nat → Nat → Nat
  L : List PI
structure IsG (w : World) (o : Nat → Nat × Nat) (X : Nat) (z : Sp) (h : Gh) : Prop where
  mem : MemS w o X h.S h.C h.G h.N h.cap h.g h.sv
  spr : OwnK w o (1, 2) 1 h.sv h.sp.length (frc h.sp)
  slab : IsSlab w o 2 h.S z.s
  chn : IsChain w o 3 h.C h.a
  lk : Links h.N h.g h.nw h.od
  it : ∀ x ∈ h.L, CellsOf h.g x.1 x.2
  rg : Rings z.s.n h.nw h.od h.L
  pl : Plc z.s.n h.N h.L h.sp
  mp : MapOf h.a h.L
  ll : h.L.map (·.2) = z.l
  ok : OkSp z
/-- A store lies in block X. -/
def IsSt (w : World) (o : Nat → Nat × Nat) (X : Nat) (z : Sp) : Prop := ∃ h, IsG w o X z h
/-- A store's marks. -/
def TS (t : Nat × Nat) : Prop := 1 ≤ t.1 ∧ t.1 ≤ 3
theorem TS.mk1 (q : Nat) : TS (1, q) := ⟨Nat.le_refl _, by show 1 ≤ 3; omega⟩
theorem TS.mk2 (q : Nat) : TS (2, q) := ⟨by show 1 ≤ 2; omega, by show 2 ≤ 3; omega⟩
theorem TS.mk3 (q : Nat) : TS (3, q) := ⟨by show 1 ≤ 3; omega, Nat.le_refl _⟩
theorem IsG.fr {T : Nat × Nat → Prop} {w w' : World} {o o' : Nat → Nat × Nat} {X : Nat} {z : Sp} {h : Gh} (I : IsG w o X z h) (f : Fr T o o' w w') (hT : ∀ t, TS t → ¬ T t) : IsG w' o' X z h :=
  ⟨I.mem.fr f (hT _ (TS.mk1 _)) (hT _ (TS.mk1 _)), I.spr.fr f (hT _ (TS.mk1 _)), I.slab.fr f (fun _ => hT _ (TS.mk2 _)), I.chn.fr f (fun _ => hT _ (TS.mk3 _)), I.lk, I.it, I.rg, I.pl, I.mp, I.ll, I.ok⟩
theorem IsG.below {w w' : World} {o : Nat → Nat × Nat} {X : Nat} {z : Sp} {h : Gh} (I : IsG w o X z h) (hb : Below w.heap.size w w') : IsG w' o X z h := I.fr (Fr.ofBelow (fun _ => False) o hb) (fun _ _ x => x)
theorem IsSt.fr {T : Nat × Nat → Prop} {w w' : World} {o o' : Nat → Nat × Nat} {X : Nat} {z : Sp} (I : IsSt w o X z) (f : Fr T o o' w w') (hT : ∀ t, TS t → ¬ T t) : IsSt w' o' X z := by
  obtain ⟨h, I⟩ := I; exact ⟨h, I.fr f hT⟩
theorem IsSt.below {w w' : World} {o : Nat → Nat × Nat} {X : Nat} {z : Sp} (I : IsSt w o X z) (hb : Below w.heap.size w w') : IsSt w' o X z := by
  obtain ⟨h, I⟩ := I; exact ⟨h, I.below hb⟩
theorem IsSt.ok {w : World} {o : Nat → Nat × Nat} {X : Nat} {z : Sp} (I : IsSt w o X z) : OkSp z := by obtain ⟨h, I⟩ := I; exact I.ok
/-- An item's place. -/
theorem IsG.place {w : World} {o : Nat → Nat × Nat} {X : Nat} {z : Sp} {h : Gh} (I : IsG w o X z h) {key : ByteArray} : (∀ i, fnd z.l key = some i → ∃ x ∈ h.L, x.2 = i ∧ h.a.F key = some ((x.1 : Nat) : Int)) ∧ (fnd z.l key = none → h.a.F key = none) := by
  refine ⟨fun i hi => ?_, fun hn => ?_⟩
  · obtain ⟨h1, h2⟩ := fnd_some hi
    rw [← I.ll] at h1
    obtain ⟨x, hx, e⟩ := List.mem_map.1 h1
    exact ⟨x, hx, e, (I.mp.ff _ _).2 ⟨x, hx, by rw [e]; exact h2, rfl⟩⟩
  · cases e : h.a.F key with
    | none => rfl
    | some v =>
      obtain ⟨x, hx, hk, _⟩ := (I.mp.ff _ _).1 e
      exact absurd hk (fnd_none hn x.2 (by rw [← I.ll]; exact List.mem_map_of_mem hx))
theorem IsG.cl {w : World} {o : Nat → Nat × Nat} {X : Nat} {z : Sp} {h : Gh} (I : IsG w o X z h) {x : PI} (hx : x ∈ h.L) : x.2 ∈ z.l ∧ x.2.c < z.s.n := by
  have h1 : x.2 ∈ z.l := by rw [← I.ll]; exact List.mem_map_of_mem hx
  exact ⟨h1, (I.ok.live _ h1).1⟩
end Go.Proofs.Ytbflcnghpkmcoaa
