/-
  WHAT HOLDS OF A STORE'S PLACES: the rings of all items and of each class's, the spare places, the map.
-/
import Derived.Test.YtfinaichajbnkaaGreatDoorRow
namespace Go.Proofs.YtfinaichajbnkaaGreatDoor
open Go.RowKit

abbrev PI := Nat × It
/-- A class's. -/
def ofc (c : Nat) (M : List PI) : List PI := M.filter fun x => decide (x.2.c = c)
theorem ofc_append (c : Nat) (M M' : List PI) : ofc c (M ++ M') = ofc c M ++ ofc c M' := List.filter_append ..
theorem ofc_yes {c : Nat} {x : PI} (h : x.2.c = c) (M : List PI) : ofc c (x :: M) = x :: ofc c M := List.filter_cons_of_pos (by simpa using h)
theorem ofc_no {c : Nat} {x : PI} (h : x.2.c ≠ c) (M : List PI) : ofc c (x :: M) = ofc c M := List.filter_cons_of_neg (by simpa using h)
theorem mem_ofc {c : Nat} {M : List PI} {x : PI} : x ∈ ofc c M ↔ x ∈ M ∧ x.2.c = c := by unfold ofc; simp
structure Rings (n : Nat) (nw od : Nat → Nat → Nat) (M : List PI) : Prop where
  r0 : Ring (nw 0) (od 0) 0 (M.map (·.1))
  r1 : ∀ c, c < n → Ring (nw 1) (od 1) (c + 1) ((ofc c M).map (·.1))
theorem pl_inj {M : List PI} (h : (M.map (·.1)).Nodup) {x y : PI} (hx : x ∈ M) (hy : y ∈ M) (e : x.1 = y.1) : x = y := by
  induction M with
  | nil => cases hx
  | cons a M ih =>
    rw [List.map_cons, List.nodup_cons] at h
    rcases List.mem_cons.1 hx with h1 | h1 <;> rcases List.mem_cons.1 hy with h2 | h2
    · rw [h1, h2]
    · exact absurd (by rw [← h1, e]; exact List.mem_map_of_mem h2) h.1
    · exact absurd (by rw [← h2, ← e]; exact List.mem_map_of_mem h1) h.1
    · exact ih h.2 h1 h2
theorem sub_ofc (c : Nat) (M : List PI) : ((ofc c M).map (·.1)).Sublist (M.map (·.1)) := (List.filter_sublist).map _
theorem Rings.leave {n : Nat} {nw od : Nat → Nat → Nat} {pre post : List PI} {x : PI} (h : Rings n nw od (pre ++ x :: post)) (hn : ((pre ++ x :: post).map (·.1)).Nodup) (hb : ∀ y ∈ pre ++ x :: post, n + 1 ≤ y.1) (hc : x.2.c < n) : Rings n (lvn nw od x.1 2) (lvo nw od x.1 2) (pre ++ post) := by
  have e0 : lvn nw od x.1 2 0 = upd (nw 0) (od 0 x.1) (nw 0 x.1) := if_pos (by omega)
  have e1 : lvn nw od x.1 2 1 = upd (nw 1) (od 1 x.1) (nw 1 x.1) := if_pos (by omega)
  have f0 : lvo nw od x.1 2 0 = upd (od 0) (nw 0 x.1) (od 0 x.1) := if_pos (by omega)
  have f1 : lvo nw od x.1 2 1 = upd (od 1) (nw 1 x.1) (od 1 x.1) := if_pos (by omega)
  have hx : x ∈ pre ++ x :: post := by simp
  refine ⟨?_, fun c hcn => ?_⟩
  · rw [e0, f0, List.map_append]
    have h0 := h.r0
    rw [List.map_append, List.map_cons] at h0 hn
    refine h0.out (List.nodup_cons.2 ⟨fun hm => ?_, hn⟩)
    rw [← List.map_cons, ← List.map_append] at hm
    obtain ⟨y, hy, e⟩ := List.mem_map.1 hm
    have := hb y hy
    have e : y.1 = 0 := e
    omega
  · rw [e1, f1]
    have hq := h.r1 x.2.c hc
    rw [ofc_append, ofc_yes rfl, List.map_append, List.map_cons] at hq
    have inM : ∀ c p, p ∈ (ofc c (pre ++ x :: post)).map (·.1) → ∃ y ∈ pre ++ x :: post, y.2.c = c ∧ y.1 = p := fun c p hp => by
      obtain ⟨y, hy, e⟩ := List.mem_map.1 hp
      obtain ⟨hy1, hy2⟩ := mem_ofc.1 hy
      exact ⟨y, hy1, hy2, e⟩
    by_cases e : c = x.2.c
    · subst e
      rw [ofc_append, List.map_append]
      refine hq.out (List.nodup_cons.2 ⟨fun hm => ?_, ?_⟩)
      · rw [← List.map_cons, ← List.map_append, ← ofc_yes rfl, ← ofc_append] at hm
        obtain ⟨y, hy, _, e⟩ := inM _ _ hm
        have := hb y hy
        omega
      · rw [← List.map_cons, ← List.map_append, ← ofc_yes rfl, ← ofc_append]
        exact hn.sublist (sub_ofc _ _)
    · have ho : ofc c (pre ++ x :: post) = ofc c (pre ++ post) := by rw [ofc_append, ofc_append, ofc_no (fun z => e z.symm)]
      have hr := h.r1 c hcn
      rw [← ho]
      have far : ∀ p, p ∈ (c + 1) :: (ofc c (pre ++ x :: post)).map (·.1) → ∀ q, q ∈ (x.2.c + 1) :: (ofc x.2.c (pre ++ x :: post)).map (·.1) → p ≠ q := by
        intro p hp q hq epq
        subst epq
        rcases List.mem_cons.1 hp with h1 | h1 <;> rcases List.mem_cons.1 hq with h2 | h2
        · omega
        · obtain ⟨y, hy, _, e'⟩ := inM _ _ h2
          have := hb y hy; omega
        · obtain ⟨y, hy, _, e'⟩ := inM _ _ h1
          have := hb y hy; omega
        · obtain ⟨y, hy, c1, e'⟩ := inM _ _ h1
          obtain ⟨y', hy', c2, e''⟩ := inM _ _ h2
          have := pl_inj hn hy hy' (e'.trans e''.symm)
          subst this
          exact e (c1.symm.trans c2)
      have m1 := hq.nw_mem
      have m2 := hq.od_mem
      refine hr.stay (fun p hp => upd_other _ _ _ (far p hp _ ?_)) (fun p hp => upd_other _ _ _ (far p hp _ ?_))
      · rw [ofc_append, ofc_yes rfl, List.map_append, List.map_cons]
        rcases List.mem_cons.1 m1 with h1 | h1
        · rw [h1]; exact List.mem_cons_self
        · exact List.mem_cons_of_mem _ (List.mem_append_left _ h1)
      · rw [ofc_append, ofc_yes rfl, List.map_append, List.map_cons]
        rcases List.mem_append.1 m2 with h1 | h1
        · exact List.mem_cons_of_mem _ (List.mem_append_right _ (List.mem_cons_of_mem _ h1))
        · simp at h1; rw [h1]; exact List.mem_cons_self
theorem Rings.lead {n : Nat} {nw od : Nat → Nat → Nat} {M : List PI} {x : PI} (h : Rings n nw od M) (hn : ((x :: M).map (·.1)).Nodup) (hb : ∀ y ∈ x :: M, n + 1 ≤ y.1) (hc : x.2.c < n) : Rings n (ldn nw od x.2.c x.1 2) (ldo nw od x.2.c x.1 2) (x :: M) := by
  have e0 : ldn nw od x.2.c x.1 2 0 = upd (upd (nw 0) x.1 0) (od 0 0) x.1 := if_pos (by omega)
  have e1 : ldn nw od x.2.c x.1 2 1 = upd (upd (nw 1) x.1 (x.2.c + 1)) (od 1 (x.2.c + 1)) x.1 := if_pos (by omega)
  have f0 : ldo nw od x.2.c x.1 2 0 = upd (upd (od 0) x.1 (od 0 0)) 0 x.1 := if_pos (by omega)
  have f1 : ldo nw od x.2.c x.1 2 1 = upd (upd (od 1) x.1 (od 1 (x.2.c + 1))) (x.2.c + 1) x.1 := if_pos (by omega)
  have hn' := List.nodup_cons.1 (by rw [List.map_cons] at hn; exact hn)
  have hx := hb x List.mem_cons_self
  have inM : ∀ c p, p ∈ (ofc c M).map (·.1) → ∃ y ∈ M, y.2.c = c ∧ y.1 = p := fun c p hp => by
    obtain ⟨y, hy, e⟩ := List.mem_map.1 hp
    obtain ⟨hy1, hy2⟩ := mem_ofc.1 hy
    exact ⟨y, hy1, hy2, e⟩
  refine ⟨?_, fun c hcn => ?_⟩
  · rw [e0, f0, List.map_cons]
    refine h.r0.ahead (List.nodup_cons.2 ⟨fun hm => ?_, by rw [List.map_cons] at hn; exact hn⟩)
    rw [← List.map_cons] at hm
    obtain ⟨y, hy, e⟩ := List.mem_map.1 hm
    have := hb y hy
    have e : y.1 = 0 := e
    omega
  · rw [e1, f1]
    have hq := h.r1 x.2.c hc
    by_cases e : c = x.2.c
    · subst e
      rw [ofc_yes rfl, List.map_cons]
      refine hq.ahead (List.nodup_cons.2 ⟨fun hm => ?_, List.nodup_cons.2 ⟨fun hm => ?_, hn'.2.sublist (sub_ofc _ _)⟩⟩)
      · rcases List.mem_cons.1 hm with h1 | h1
        · omega
        · obtain ⟨y, hy, _, e⟩ := inM _ _ h1
          have := hb y (List.mem_cons_of_mem _ hy); omega
      · obtain ⟨y, hy, _, e⟩ := inM _ _ hm
        exact hn'.1 (by rw [← e]; exact List.mem_map_of_mem hy)
    · rw [ofc_no (fun z => e z.symm)]
      have far : ∀ p, p ∈ (c + 1) :: (ofc c M).map (·.1) → ∀ q, q ∈ (x.2.c + 1) :: (ofc x.2.c M).map (·.1) → p ≠ q := by
        intro p hp q hq epq
        subst epq
        rcases List.mem_cons.1 hp with h1 | h1 <;> rcases List.mem_cons.1 hq with h2 | h2
        · omega
        · obtain ⟨y, hy, _, e'⟩ := inM _ _ h2
          have := hb y (List.mem_cons_of_mem _ hy); omega
        · obtain ⟨y, hy, _, e'⟩ := inM _ _ h1
          have := hb y (List.mem_cons_of_mem _ hy); omega
        · obtain ⟨y, hy, c1, e'⟩ := inM _ _ h1
          obtain ⟨y', hy', c2, e''⟩ := inM _ _ h2
          have := pl_inj hn'.2 hy hy' (e'.trans e''.symm)
          subst this
          exact e (c1.symm.trans c2)
      have nx : ∀ p, p ∈ (c + 1) :: (ofc c M).map (·.1) → p ≠ x.1 := by
        intro p hp ex
        rcases List.mem_cons.1 hp with h1 | h1
        · omega
        · obtain ⟨y, hy, _, e'⟩ := inM _ _ h1
          exact hn'.1 (by rw [← ex, ← e']; exact List.mem_map_of_mem hy)
      exact (h.r1 c hcn).stay (fun p hp => by rw [upd_other _ _ _ (far p hp _ List.mem_cons_self), upd_other _ _ _ (nx p hp)]) (fun p hp => by rw [upd_other _ _ _ (far p hp _ hq.od_e), upd_other _ _ _ (nx p hp)])
/-- An item's cells. -/
def CellsOf (g : Nat → Value) (p : Nat) (i : It) : Prop := g (p * 8) = .string i.key ∧ g (p * 8 + 1) = .int .i64 ((i.c : Nat) : Int) ∧ g (p * 8 + 2) = .int .i64 ((i.k : Nat) : Int) ∧ g (p * 8 + 3) = .bool i.pin
theorem CellsOf.keep {g g' : Nat → Value} {p : Nat} {i : It} (h : CellsOf g p i) (k : Keep g g') : CellsOf g' p i :=
  ⟨(k _ (by omega)).trans h.1, (k _ (by omega)).trans h.2.1, (k _ (by omega)).trans h.2.2.1, (k _ (by omega)).trans h.2.2.2⟩
/-- The map of the places. -/
structure MapOf (a : A) (L : List PI) : Prop where
  ff : ∀ k v, a.F k = some v ↔ ∃ x ∈ L, x.2.key = k ∧ v = ((x.1 : Nat) : Int)
  ks : a.keys = ((L.length : Nat) : Int)
/-- Where items and spare places stand. -/
structure Plc (n N : Nat) (L : List PI) (sp : List Nat) : Prop where
  nd : (L.map (·.1) ++ sp).Nodup
  bd : ∀ p ∈ L.map (·.1) ++ sp, n + 1 ≤ p ∧ p < N
  nn : N = n + 1 + (L.length + sp.length)
theorem Plc.ndL {n N : Nat} {L : List PI} {sp : List Nat} (h : Plc n N L sp) : (L.map (·.1)).Nodup := (List.nodup_append.1 h.nd).1
theorem Plc.bdL {n N : Nat} {L : List PI} {sp : List Nat} (h : Plc n N L sp) {x : PI} (hx : x ∈ L) : n + 1 ≤ x.1 ∧ x.1 < N := h.bd _ (List.mem_append_left _ (List.mem_map_of_mem hx))
/-- What a store is in memory, beside its items. -/
structure Gh where
  S : Nat
  C : Nat
  G : Nat
  N : Nat
  cap : Nat
  g : Nat → Value
  sv : Value
  sp : List Nat
  a : A
  nw : Nat → Nat → Nat
  od : Nat → Nat → Nat
  L : List PI
structure IsG (w : World) (o : Nat → Nat × Nat) (X : Nat) (z : Sp) (h : Gh) : Prop where
  mem : MemS w o X h.S h.C h.G h.N h.cap h.g h.sv
  spr : OwnK w o (1, 2) 1 h.sv h.sp.length (frc h.sp)
  slab : IsSlab w o 2 h.S z.s
  chn : IsChain w o 3 h.C h.a
  lk : Links h.N h.g h.nw h.od
  it : ∀ x ∈ h.L, CellsOf h.g x.1 x.2
  rg : Rings z.s.n h.nw h.od h.L
  pl : Plc z.s.n h.N h.L h.sp
  mp : MapOf h.a h.L
  ll : h.L.map (·.2) = z.l
  ok : OkSp z
/-- A store lies in block X. -/
def IsSt (w : World) (o : Nat → Nat × Nat) (X : Nat) (z : Sp) : Prop := ∃ h, IsG w o X z h
/-- A store's marks. -/
def TS (t : Nat × Nat) : Prop := 1 ≤ t.1 ∧ t.1 ≤ 3
theorem TS.mk1 (q : Nat) : TS (1, q) := ⟨Nat.le_refl _, by show 1 ≤ 3; omega⟩
theorem TS.mk2 (q : Nat) : TS (2, q) := ⟨by show 1 ≤ 2; omega, by show 2 ≤ 3; omega⟩
theorem TS.mk3 (q : Nat) : TS (3, q) := ⟨by show 1 ≤ 3; omega, Nat.le_refl _⟩
theorem IsG.fr {T : Nat × Nat → Prop} {w w' : World} {o o' : Nat → Nat × Nat} {X : Nat} {z : Sp} {h : Gh} (I : IsG w o X z h) (f : Fr T o o' w w') (hT : ∀ t, TS t → ¬ T t) : IsG w' o' X z h :=
  ⟨I.mem.fr f (hT _ (TS.mk1 _)) (hT _ (TS.mk1 _)), I.spr.fr f (hT _ (TS.mk1 _)), I.slab.fr f (fun _ => hT _ (TS.mk2 _)), I.chn.fr f (fun _ => hT _ (TS.mk3 _)), I.lk, I.it, I.rg, I.pl, I.mp, I.ll, I.ok⟩
theorem IsG.below {w w' : World} {o : Nat → Nat × Nat} {X : Nat} {z : Sp} {h : Gh} (I : IsG w o X z h) (hb : Below w.heap.size w w') : IsG w' o X z h := I.fr (Fr.ofBelow (fun _ => False) o hb) (fun _ _ x => x)
theorem IsSt.fr {T : Nat × Nat → Prop} {w w' : World} {o o' : Nat → Nat × Nat} {X : Nat} {z : Sp} (I : IsSt w o X z) (f : Fr T o o' w w') (hT : ∀ t, TS t → ¬ T t) : IsSt w' o' X z := by
  obtain ⟨h, I⟩ := I; exact ⟨h, I.fr f hT⟩
theorem IsSt.below {w w' : World} {o : Nat → Nat × Nat} {X : Nat} {z : Sp} (I : IsSt w o X z) (hb : Below w.heap.size w w') : IsSt w' o X z := by
  obtain ⟨h, I⟩ := I; exact ⟨h, I.below hb⟩
theorem IsSt.ok {w : World} {o : Nat → Nat × Nat} {X : Nat} {z : Sp} (I : IsSt w o X z) : OkSp z := by obtain ⟨h, I⟩ := I; exact I.ok
/-- An item's place. -/
theorem IsG.place {w : World} {o : Nat → Nat × Nat} {X : Nat} {z : Sp} {h : Gh} (I : IsG w o X z h) {key : ByteArray} : (∀ i, fnd z.l key = some i → ∃ x ∈ h.L, x.2 = i ∧ h.a.F key = some ((x.1 : Nat) : Int)) ∧ (fnd z.l key = none → h.a.F key = none) := by
  refine ⟨fun i hi => ?_, fun hn => ?_⟩
  · obtain ⟨h1, h2⟩ := fnd_some hi
    rw [← I.ll] at h1
    obtain ⟨x, hx, e⟩ := List.mem_map.1 h1
    exact ⟨x, hx, e, (I.mp.ff _ _).2 ⟨x, hx, by rw [e]; exact h2, rfl⟩⟩
  · cases e : h.a.F key with
    | none => rfl
    | some v =>
      obtain ⟨x, hx, hk, _⟩ := (I.mp.ff _ _).1 e
      exact absurd hk (fnd_none hn x.2 (by rw [← I.ll]; exact List.mem_map_of_mem hx))
theorem IsG.cl {w : World} {o : Nat → Nat × Nat} {X : Nat} {z : Sp} {h : Gh} (I : IsG w o X z h) {x : PI} (hx : x ∈ h.L) : x.2 ∈ z.l ∧ x.2.c < z.s.n := by
  have h1 : x.2 ∈ z.l := by rw [← I.ll]; exact List.mem_map_of_mem hx
  exact ⟨h1, (I.ok.live _ h1).1⟩
end Go.Proofs.YtfinaichajbnkaaGreatDoor


namespace Go.Proofs.YtfinaichajbnkaaGreatDoor
open Go.RowKit

set_option maxRecDepth 100000 in
theorem slen_any (X : Nat) (z : Sp) (w : World) (o : Nat → Nat × Nat) (h : IsSt w o X z) :
    Calls Tryz.prog 76 #[.pointer (some ⟨X, 0, none⟩)] w fun e w' => e = .returned (.int .i64 ((z.l.length : Nat) : Int)) ∧ w = w' := by
  obtain ⟨h, I⟩ := h
  have c1 := I.mem.c1
  have HC : Hid (IsChain w o 3 h.C h.a) := I.chn
  have HL : Hid (h.a.keys = ((z.l.length : Nat) : Int)) := by show _ = _; rw [← I.ll, List.length_map]; exact I.mp.ks
  clear I
  go_enter Tryz.func76, Tryz.ntmps76
  go_wp2_with fail
  refine (len_any 3 h.C h.a _ o HC.out).mono ?_
  rintro e w2 ⟨rfl, rfl⟩
  rw [HL.out]
  go_wp2_with fail
  go_ret
  exact ⟨rfl, rfl⟩
theorem ba_back (a b : ByteArray) : (a ++ b).extract a.size (a ++ b).size = b := by
  rw [ByteArray.size_append]
  exact ByteArray.extract_append_eq_right rfl rfl
set_option maxHeartbeats 1000000 in
set_option maxRecDepth 100000 in
theorem data_any (X : Nat) (z : Sp) (h : Gh) (x : PI) (P : Int) (hP : P = ((x.1 : Nat) : Int)) (hx : x ∈ h.L) (w : World) (o : Nat → Nat × Nat) (I : IsG w o X z h) :
    Calls Tryz.prog 72 #[.pointer (some ⟨X, 0, none⟩), .int .i64 P] w fun e w' => e = .returned (.string x.2.d) ∧ Below w.heap.size w w' := by
  obtain ⟨p, i⟩ := x
  subst hP
  have hb := I.pl.bdL hx
  have n1 := I.mem.n1
  obtain ⟨k0, k1, k2, k3⟩ := I.it _ hx
  obtain ⟨hz, hc⟩ := I.cl hx
  have hlv := I.ok.live _ hz
  have hfit := I.ok.fit _ hz
  have c0 := I.mem.c0
  have c2 := I.mem.c2
  have d0 := (I.mem.at_ (q := p * 8) (by have := hb.2; simp at this; omega)).1
  have d1 := (I.mem.at_ (q := p * 8 + 1) (by have := hb.2; simp at this; omega)).1
  have d2 := (I.mem.at_ (q := p * 8 + 2) (by have := hb.2; simp at this; omega)).1
  simp only at k0 k1 k2 k3 hz hc hlv hb hfit
  rw [k0] at d0
  rw [k1] at d1
  rw [k2] at d2
  have HS : Hid (IsSlab w o 2 h.S z.s) := I.slab
  have hr : z.s.rd i.c i.k = i.key ++ i.d := by unfold St.rd; rw [if_pos (St.has_mk hlv.1 hlv.2).1]; exact (St.has_mk hlv.1 hlv.2).2
  have hh : z.s.has i.c i.k = true := (St.has_mk hlv.1 hlv.2).1
  have HR : Hid (z.s.rd i.c i.k = i.key ++ i.d ∧ z.s.has i.c i.k = true) := ⟨hr, hh⟩
  have hp1 : (p : Int) < (h.N : Int) := by omega
  have HD : Hid (w.cell? ⟨X, 2, none⟩ = some (.slice (some ⟨h.G, 0, none⟩) h.N h.cap) ∧ w.cell? ⟨h.G, p * 8, none⟩ = some (.string i.key)) := ⟨c2, d0⟩
  clear I k0 k1 k2 k3 hlv hr hh hx d0
  go_enter Tryz.func72, Tryz.ntmps72
  go_wp2_with fail
  go_region_held3 (fun w' => w'.cell? ⟨X, 0, none⟩ = some (.pointer (some ⟨h.S, 0, none⟩)) ∧ w'.cell? ⟨X, 2, none⟩ = some (.slice (some ⟨h.G, 0, none⟩) h.N h.cap) ∧ w'.cell? ⟨h.G, p * 8 + 1, none⟩ = some (.int .i64 ((i.c : Nat) : Int)) ∧ w'.cell? ⟨h.G, p * 8 + 2, none⟩ = some (.int .i64 ((i.k : Nat) : Int))) (first | exact ⟨c0, c2, d1, d2⟩ | exact D3)
    ((go_at_call 89; refine (read_any 2 h.S z.s i.c i.k w.drew o (HS.out.fr (Fr.drew1 (fun _ => False) o w) (fun _ x => x))).mono ?_; rintro e w3 ⟨rfl, B3⟩; have D3 : w3.cell? ⟨X, 0, none⟩ = some (.pointer (some ⟨h.S, 0, none⟩)) ∧ w3.cell? ⟨X, 2, none⟩ = some (.slice (some ⟨h.G, 0, none⟩) h.N h.cap) ∧ w3.cell? ⟨h.G, p * 8 + 1, none⟩ = some (.int .i64 ((i.c : Nat) : Int)) ∧ w3.cell? ⟨h.G, p * 8 + 2, none⟩ = some (.int .i64 ((i.k : Nat) : Int)) := ⟨cell_up B3 c0, cell_up B3 c2, cell_up B3 d1, cell_up B3 d2⟩))
  have BB : Hid (Below w.heap.size w w3) := ((Below.refl _ _).trans (below_drewN (Below.refl _ _) 1)).trans B3
  have c2' := D3.2.1
  have d0' : w3.cell? ⟨h.G, p * 8, none⟩ = some (.string i.key) := cell_up B3 HD.out.2
  rw [HR.out.1, HR.out.2]
  obtain ⟨t, ht⟩ : ∃ t, t = i.key ++ i.d := ⟨_, rfl⟩
  have hd : t.extract i.key.size t.size = i.d := by rw [ht]; exact ba_back _ _
  have hsz : (i.key.size : Int) ≤ (t.size : Int) := by rw [ht, ba_size]; omega
  have hsz2 : i.key.size ≤ t.size := by omega
  have hsz3 : t.size ≤ 65536 := by rw [ht]; exact hfit
  rw [← ht]
  clear ht D3 c0 c2 d1 d2 B3 HD HR HS hfit
  go_wp2_with fail
  go_ret
  exact ⟨rfl, BB.out⟩
/-- What is told of an item that may be there. -/
def tel : Option It → ByteArray
  | none => ⟨#[]⟩
  | some i => i.d
/-- The same items in another order. -/
theorem Plc.perm {n N : Nat} {L L' : List PI} {sp : List Nat} (h : Plc n N L sp) (e : L'.Perm L) : Plc n N L' sp :=
  ⟨((e.map (·.1)).append_right sp).nodup_iff.2 h.nd, fun p hp => h.bd p (((e.map (·.1)).append_right sp).mem_iff.1 hp), by rw [e.length_eq]; exact h.nn⟩
theorem MapOf.perm {a : A} {L L' : List PI} (h : MapOf a L) (e : L'.Perm L) : MapOf a L' :=
  ⟨fun k v => (h.ff k v).trans ⟨fun ⟨x, hx, r⟩ => ⟨x, e.mem_iff.2 hx, r⟩, fun ⟨x, hx, r⟩ => ⟨x, e.mem_iff.1 hx, r⟩⟩, by rw [e.length_eq]; exact h.ks⟩
theorem IsG.ndL {w : World} {o : Nat → Nat × Nat} {X : Nat} {z : Sp} {h : Gh} (I : IsG w o X z h) {pre post : List PI} {x : PI} (e : h.L = pre ++ x :: post) : but z.l x.2.key = (pre ++ post).map (·.2) := by
  have h1 := I.ok.ndk
  have h2 := I.ll
  rw [e, List.map_append, List.map_cons] at h2
  rw [← h2] at h1 ⊢
  rw [but_split h1, List.map_append]
theorem fnd_of {w : World} {o : Nat → Nat × Nat} {X : Nat} {z : Sp} {h : Gh} (I : IsG w o X z h) {x : PI} (hx : x ∈ h.L) : fnd z.l x.2.key = some x.2 := fnd_mk I.ok.ndk (by rw [← I.ll]; exact List.mem_map_of_mem hx)
set_option maxHeartbeats 1000000 in
set_option maxRecDepth 100000 in
theorem sget_any (X : Nat) (z : Sp) (key : ByteArray) (hk : key.size ≤ 140737488355328) (w : World) (o : Nat → Nat × Nat) (I : IsSt w o X z) :
    Calls Tryz.prog 49 #[.pointer (some ⟨X, 0, none⟩), .string key] w fun e w' => e = .returned (.tuple #[.string (tel (fnd z.l key)), .bool (fnd z.l key).isSome]) ∧ IsSt w' o X (z.touch key) ∧ Fr TS o o w w' := by
  obtain ⟨h, I⟩ := I
  have c1 := I.mem.c1
  have HI : Hid (IsG w o X z h) := I
  clear I
  go_enter Tryz.func49, Tryz.ntmps49
  go_wp2_with fail
  refine (get_any 3 h.C h.a key hk _ o HI.out.chn).mono ?_
  rintro e w2 ⟨rfl, B2⟩
  have I2 : Hid (IsG w2 o X z h) := HI.out.below B2
  have HB : Hid (Fr TS o o w w2) := Fr.ofBelow _ o B2
  clear B2
  cases hf : fnd z.l key with
  | none =>
    have HT : Hid (z.touch key = z) := by show _ = _; unfold Sp.touch; rw [hf]
    rw [HI.out.place.2 hf]
    have HN : Hid (fnd z.l key = none) := hf
    clear hf
    go_wp2_with fail
    go_ret2
    exact ⟨by rw [HN.out]; rfl, by rw [HT.out]; exact ⟨h, I2.out⟩, HB.out⟩
  | some i =>
    obtain ⟨x, hx, hxi, hF⟩ := HI.out.place.1 i hf
    obtain ⟨pre, post, hL⟩ := List.append_of_mem hx
    have hik := (fnd_some hf).2
    have HT : Hid (z.touch key = ⟨z.s, i :: (pre ++ post).map (·.2)⟩) := by
      show _ = _
      unfold Sp.touch; rw [hf]
      simp only
      rw [← HI.out.ndL hL, hxi, hik]
    rw [hF]
    have HX : Hid (x ∈ h.L ∧ x.2 = i ∧ h.L = pre ++ x :: post) := ⟨hx, hxi, hL⟩
    have hbx := HI.out.pl.bdL hx
    have HN : Hid (fnd z.l key = some i) := hf
    clear hf hx hxi hF hL hik
    go_wp2_with fail
    refine (leave_any (nw := h.nw) (od := h.od) x.1 _ rfl hbx.2 _ o I2.out.mem I2.out.lk).mono ?_
    rintro e w3 ⟨rfl, g3, M3, K3, P3, F3⟩
    have HM3 : Hid (MemS w3 o X h.S h.C h.G h.N h.cap g3 h.sv ∧ Links h.N g3 (lvn h.nw h.od x.1 2) (lvo h.nw h.od x.1 2) ∧ Keep h.g g3 ∧ Fr (fun t => t = (1, 1)) o o w2 w3) := ⟨M3, K3, P3, F3⟩
    have hg3 : Hid (g3 (x.1 * 8 + 1) = .int .i64 ((x.2.c : Nat) : Int)) := ((HI.out.it _ HX.out.1).keep P3).2.1
    have hcc : Hid (x.2.c + 1 < h.N) := by show _ < _; have := (HI.out.cl HX.out.1).2; have := HI.out.pl.nn; have := hbx; omega
    clear M3 K3 P3 F3
    go_wp2_with fail
    refine (lead_any (nw := lvn h.nw h.od x.1 2) (od := lvo h.nw h.od x.1 2) x.2.c x.1 _ rfl hbx.2 hcc.out hg3.out _ o HM3.out.1 HM3.out.2.1).mono ?_
    rintro e w4 ⟨rfl, g4, M4, K4, P4, F4⟩
    have F24 : Fr (fun t => t = (1, 1)) o o w2 w4 := HM3.out.2.2.2.trans F4
    have nd := HI.out.pl.ndL
    rw [HX.out.2.2] at nd
    have bd : ∀ y ∈ pre ++ x :: post, z.s.n + 1 ≤ y.1 := fun y hy => (HI.out.pl.bdL (by rw [HX.out.2.2]; exact hy)).1
    have pm : (x :: (pre ++ post)).Perm (pre ++ x :: post) := List.perm_middle.symm
    have pm' : (x :: (pre ++ post)).Perm h.L := by rw [HX.out.2.2]; exact pm
    have rg := HI.out.rg
    rw [HX.out.2.2] at rg
    have hc := (HI.out.cl HX.out.1).2
    have rg4 := (rg.leave nd bd hc).lead (x := x) ((pm.map (·.1)).nodup_iff.2 nd) (fun y hy => bd y (pm.mem_iff.1 hy)) hc
    have okT := HI.out.ok.touch key
    rw [HT.out] at okT
    have I4 : Hid (IsG w4 o X ⟨z.s, i :: (pre ++ post).map (·.2)⟩ { h with g := g4, nw := ldn (lvn h.nw h.od x.1 2) (lvo h.nw h.od x.1 2) x.2.c x.1 2, od := ldo (lvn h.nw h.od x.1 2) (lvo h.nw h.od x.1 2) x.2.c x.1 2, L := x :: (pre ++ post) }) :=
      ⟨M4, I2.out.spr.fr F24 (fun e => by injection e with _ e; cases e), I2.out.slab.fr F24 (fun _ e => by injection e with e; cases e), I2.out.chn.fr F24 (fun _ e => by injection e with e; cases e), K4, fun y hy => ((I2.out.it y (pm'.mem_iff.1 hy)).keep HM3.out.2.2.1).keep P4, rg4, I2.out.pl.perm pm', I2.out.mp.perm pm', by show x.2 :: _ = i :: _; rw [HX.out.2.1], okT⟩
    have F4' : Hid (Fr TS o o w w4) := HB.out.trans (F24.mono (fun t e => by rw [e]; exact TS.mk1 1))
    clear M4 K4 P4 F4 F24 nd bd pm pm' rg hc rg4 okT
    go_wp2_with fail
    refine (data_any X _ _ x _ rfl (by exact List.mem_cons_self) _ o I4.out).mono ?_
    rintro e w5 ⟨rfl, B5⟩
    have F5 : Hid (Fr TS o o w w5) := F4'.out.trans (Fr.ofBelow _ o B5)
    have I5 : Hid (IsSt w5 o X (z.touch key)) := by show IsSt _ _ _ _; rw [HT.out]; exact ⟨_, I4.out.below B5⟩
    rw [HX.out.2.1]
    clear B5 I4 F4'
    go_wp2_with fail
    go_ret2
    exact ⟨by rw [HN.out]; rfl, I5.out, F5.out⟩
end Go.Proofs.YtfinaichajbnkaaGreatDoor
