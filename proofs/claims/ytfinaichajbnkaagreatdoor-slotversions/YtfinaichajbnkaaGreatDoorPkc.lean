/-
  A REQUEST IN A BOX; a reader's At and Wrong; what stands there, plainly.
-/
import Derived.Test.YtfinaichajbnkaaGreatDoorPky
import Derived.Test.YtfinaichajbnkaaGreatDoorSma
import Derived.Deep.MidRow
import Derived.Test.YtfinaichajbnkaaGreatDoorTurn
namespace Go.Proofs.YtfinaichajbnkaaGreatDoor
open Go.RowKit
open Wi (F enc fold unf lf sb OwnC RowF tab IsRd pk)

/-- A request lies in block B. -/
structure KB (W : World) (o : Nat → Nat × Nat) (B : Nat) (f : F) : Prop where
  lb : o B = (8, 1)
  lt : B < W.heap.size
  q : ∀ i u, f.cs[i]? = some u → W.cell? ⟨B, i, none⟩ = some u
theorem KB.fr {T : Nat × Nat → Prop} {W W' : World} {o o' : Nat → Nat × Nat} {B : Nat} {f : F} (h : KB W o B f) (g : Fr T o o' W W') (hT : ¬ T (8, 1)) : KB W' o' B f := by
  have t0 : ¬ T (o B) := by rw [h.lb]; exact hT
  exact ⟨(g.lab _ h.lt).trans h.lb, Nat.lt_of_lt_of_le h.lt g.size, fun i u e => g.cell (h.q i u e) t0⟩
theorem KB.below {W W' : World} {o : Nat → Nat × Nat} {B : Nat} {f : F} (h : KB W o B f) (b : Below W.heap.size W W') : KB W' o B f := h.fr (Fr.ofBelow (fun _ => False) o b) id
/-- Labels for the call's own boxes. -/
def nwl (o : Nat → Nat × Nat) (n : Nat) : Nat → Nat × Nat := fun b => if b < n then o b else (8, 1)
theorem nwl_new {o : Nat → Nat × Nat} {n b : Nat} (h : n ≤ b) : nwl o n b = (8, 1) := by unfold nwl; rw [if_neg (by omega)]
theorem nwl_fr (T : Nat × Nat → Prop) (o : Nat → Nat × Nat) {w V : World} (h : Below w.heap.size w V) : Fr T o (nwl o w.heap.size) w V :=
  ⟨h.os, h.tape, h.output, h.size, fun b hb => by unfold nwl; rw [if_pos hb], fun b hb _ => h.block b hb⟩
theorem KB.start (w : World) (o : Nat → Nat × Nat) (f : F) : KB (w.alloc (.cells f.cs.toArray 28)) (nwl o w.heap.size) w.heap.size f :=
  ⟨nwl_new (Nat.le_refl _), by rw [World.size_alloc]; omega, fun i u e => by rw [World.cell?_alloc_new, List.getElem?_toArray]; exact e⟩
theorem KB.nine {W : World} {o : Nat → Nat × Nat} {B : Nat} {f0 f1 f2 f3 f4 f5 : Int} {f6 : ByteArray} {f7 : Int} {f8 : ByteArray} (h : KB W o B ⟨f0, f1, f2, f3, f4, f5, f6, f7, f8⟩) : W.cell? ⟨B, 0, none⟩ = some (.int .i64 f0) ∧ W.cell? ⟨B, 1, none⟩ = some (.int .i64 f1) ∧ W.cell? ⟨B, 2, none⟩ = some (.int .i64 f2) ∧ W.cell? ⟨B, 3, none⟩ = some (.int .i64 f3) ∧ W.cell? ⟨B, 4, none⟩ = some (.int .i64 f4) ∧ W.cell? ⟨B, 5, none⟩ = some (.int .i64 f5) ∧ W.cell? ⟨B, 6, none⟩ = some (.string f6) ∧ W.cell? ⟨B, 7, none⟩ = some (.int .i64 f7) ∧ W.cell? ⟨B, 8, none⟩ = some (.string f8) :=
  ⟨h.q 0 _ rfl, h.q 1 _ rfl, h.q 2 _ rfl, h.q 3 _ rfl, h.q 4 _ rfl, h.q 5 _ rfl, h.q 6 _ rfl, h.q 7 _ rfl, h.q 8 _ rfl⟩
theorem nTS8 : ¬ TS (8, 1) := fun h => by have := h.2; have : 8 ≤ 3 := this; omega
theorem nTS10 (q : Nat) : ¬ TS (10, q) := fun h => by have := h.2; have : 10 ≤ 3 := this; omega
set_option maxRecDepth 100000 in
theorem prdat_any (R at' : Nat) (w : World) (he : w.cell? ⟨R, 1, none⟩ = some (.int .i64 ((at' : Nat) : Int))) :
    Calls Tryz.prog 52 #[.pointer (some ⟨R, 0, none⟩)] w fun e w' => e = .returned (.int .i64 ((at' : Nat) : Int)) ∧ w' = w := by
  go_enter Tryz.func52, Tryz.ntmps52
  go_wp2
  go_ret
  exact ⟨rfl, rfl⟩
/- What stands there. -/
def gV : Option (Int × ByteArray) → Int
  | none => 0
  | some p => p.1
def gD : Option (Int × ByteArray) → ByteArray
  | none => ⟨#[]⟩
  | some p => p.2
end Go.Proofs.YtfinaichajbnkaaGreatDoor


namespace Go.Proofs.YtfinaichajbnkaaGreatDoor
open Go.RowKit
open Wi (F)

/-- Worlds behind Y in which nothing elder has turned. -/
structure Up (Y : World) where
  w : World
  h : Below Y.heap.size Y w
/-- A region that draws its order and whose calls make new memory: walked in all the worlds in which nothing elder has turned. -/
theorem region_up {P : Program} {id : Nat} {Q : Exit → Act → World → Prop} {a : Act} {w : World} {l : List Oper} (hm : P.follows .mixedOrders = true) (hB : Region.lexB .any l.toArray = true) (Y : World) (hY : Y = { w with drawn := w.drawn + 1 })
    (h : wpQuiet P l.toArray (fun w' => ∃ s : Up Y, w' = s.w) (fun a' => ∀ w', (∃ s : Up Y, w' = s.w) → Q .normal a' w') l a) : (Code.region id l.toArray true).wp P Q a w :=
  wp_region_quiet (C := fun w' => ∃ s : Up Y, w' = s.w) hm hB ⟨⟨Y, Below.refl _ _⟩, hY.symm⟩ (by simpa using h)
/-- What may be told, as a value. -/
def optv : Option F → Value
  | none => Wi.Z.v
  | some a => a.v
/-- A box for what is answered. -/
structure RB9 (W : World) (o : Nat → Nat × Nat) (B : Nat) : Prop where
  lb : o B = (8, 1)
  lt : B < W.heap.size
  q : ∀ i, i < 9 → (W.cell? ⟨B, i, none⟩).isSome = true
  z : ∀ i, W.frozen? ⟨B, i, none⟩ = false
theorem RB9.fr {T : Nat × Nat → Prop} {W W' : World} {o o' : Nat → Nat × Nat} {B : Nat} (h : RB9 W o B) (g : Fr T o o' W W') (hT : ¬ T (8, 1)) : RB9 W' o' B := by
  have t0 : ¬ T (o B) := by rw [h.lb]; exact hT
  exact ⟨(g.lab _ h.lt).trans h.lb, Nat.lt_of_lt_of_le h.lt g.size, fun i hi => by rw [World.cell?_of_block (a := ⟨B, i, none⟩) (g.block B h.lt t0)]; exact h.q i hi, fun i => (g.frozen h.lt t0).trans (h.z i)⟩
theorem RB9.below {W W' : World} {o : Nat → Nat × Nat} {B : Nat} (h : RB9 W o B) (b : Below W.heap.size W W') : RB9 W' o B := h.fr (Fr.ofBelow (fun _ => False) o b) id
theorem loadz {w : World} {b : Nat} {E : List Value} (h : w.rangeAt b 0 E) (hl : E.length = 9) : (loadVar 28 ⟨b, 0, none⟩).run Tryz.prog w = .ok (.agg E.toArray) w :=
  run_loadVar_mid w b 0 28 E _ h Tryz.underlying28 rfl (by rw [hl]; kernel_rfl)
theorem res2z {W : World} {B : Nat} {A : List Value} {b : Value} (hz : (loadVar 28 ⟨B, 0, none⟩).run Tryz.prog W = .ok (.agg A.toArray) W) :
    ((Sem.run Tryz.prog (asAddr (.pointer (some ⟨B, 0, none⟩))) W).andThen fun a w' => (Sem.run Tryz.prog (loadVar 28 a) w').andThen fun a w' => Result.ok (Value.tuple #[a, b]) w') = Result.ok (Value.tuple #[.agg A.toArray, b]) W := by
  have ha : (asAddr (.pointer (some ⟨B, 0, none⟩))).run Tryz.prog W = .ok ⟨B, 0, none⟩ W := rfl
  rw [ha, Result.andThen_ok, hz, Result.andThen_ok]
theorem fz_len (f : F) : f.cs.length = 9 := rfl
theorem fz_ones (f : F) : ∀ u ∈ f.cs, u.oneCell' = true := by
  intro u hu
  simp only [Wi.F.cs, List.mem_cons, List.not_mem_nil, or_false] at hu
  rcases hu with rfl | rfl | rfl | rfl | rfl | rfl | rfl | rfl | rfl <;> rfl
theorem Fr.setsNw {T : Nat × Nat → Prop} {o o' : Nat → Nat × Nat} {w0 w : World} (h : Fr T o o' w0 w) {g : Nat} (hg : w0.heap.size ≤ g) : ∀ (vs : List Value) (off : Nat), Fr T o o' w0 (w.setCells g off vs) := fun vs => by
  induction vs generalizing w with
  | nil => intro off; exact h
  | cons v vs ih => intro off; exact ih (h.setNew (a := ⟨g, off, none⟩) hg v) (off + 1)
theorem nTP8 : ∀ t, TP t → t ≠ (8, 1) := fun t h e => by
  rw [e] at h
  rcases h with h | h
  · have : 8 ≤ 3 := h.2; omega
  · have : 8 = 10 := h; omega
/-- The end: the answer stored where it is handed back from. -/
theorem RB9.fin {T : Nat × Nat → Prop} {w W : World} {o o1 : Nat → Nat × Nat} {X B : Nat} {s' : Sl} (R : RB9 W o1 B) (hI : IsPsl W o1 X s') (g : Fr T o o1 w W) (hB : w.heap.size ≤ B) (a : F) :
    W.there B 0 a.cs.length ∧ (W.setCells B 0 a.cs).rangeAt B 0 a.cs ∧ IsPsl (W.setCells B 0 a.cs) o1 X s' ∧ Fr T o o1 w (W.setCells B 0 a.cs) := by
  have t : W.there B 0 a.cs.length := fun j hj => ⟨by rw [Nat.zero_add]; exact R.q j (by rw [fz_len] at hj; exact hj), by rw [Nat.zero_add]; exact R.z j⟩
  have f1 : Fr (· = (8, 1)) o1 o1 W (W.setCells B 0 a.cs) := Fr.sets (T := (· = (8, 1))) R.lb _ _ _
  exact ⟨t, World.rangeAt_setCells_same _ _ _ _ t, hI.fr f1 nTP8, g.setsNw hB _ _⟩
/-- The two boxes, new. -/
theorem start2 (w : World) (o : Nat → Nat × Nat) (f : F) : KB ((w.alloc (.cells f.cs.toArray 28)).alloc (.cells Wi.Z.cs.toArray 28)) (nwl o w.heap.size) w.heap.size f ∧ RB9 ((w.alloc (.cells f.cs.toArray 28)).alloc (.cells Wi.Z.cs.toArray 28)) (nwl o w.heap.size) (w.heap.size + 1) ∧ Below w.heap.size w ((w.alloc (.cells f.cs.toArray 28)).alloc (.cells Wi.Z.cs.toArray 28)) := by
  have s1 : (w.alloc (.cells f.cs.toArray 28)).heap.size = w.heap.size + 1 := World.size_alloc _ _
  have b1 := bel_alloc w (.cells f.cs.toArray 28)
  have b2 := bel_alloc (w.alloc (.cells f.cs.toArray 28)) (.cells Wi.Z.cs.toArray 28)
  refine ⟨(KB.start w o f).below b2, ⟨nwl_new (by omega), by rw [World.size_alloc, s1]; omega, fun i hi => ?_, fun i => ?_⟩, b1.trans (b2.mono b1.size)⟩
  · rw [← s1, World.cell?_alloc_new, List.getElem?_toArray, List.getElem?_eq_getElem (by rw [fz_len]; exact hi)]; rfl
  · rw [← s1]; exact World.frozen?_alloc_new _ _ _ _
end Go.Proofs.YtfinaichajbnkaaGreatDoor


namespace Go.Proofs.YtfinaichajbnkaaGreatDoor
open Go.RowKit
open Wi (F)

/-- A frame lies in block A; it may be written. -/
structure KC (W : World) (o : Nat → Nat × Nat) (A : Nat) (a : F) : Prop where
  k : KB W o A a
  z : ∀ i, W.frozen? ⟨A, i, none⟩ = false
theorem KC.fr {T : Nat × Nat → Prop} {W W' : World} {o o' : Nat → Nat × Nat} {A : Nat} {a : F} (h : KC W o A a) (g : Fr T o o' W W') (hT : ¬ T (8, 1)) : KC W' o' A a :=
  ⟨h.k.fr g hT, fun i => (g.frozen h.k.lt (by rw [h.k.lb]; exact hT)).trans (h.z i)⟩
theorem KC.below {W W' : World} {o : Nat → Nat × Nat} {A : Nat} {a : F} (h : KC W o A a) (b : Below W.heap.size W W') : KC W' o A a := h.fr (Fr.ofBelow (fun _ => False) o b) id
theorem KC.start {w W : World} {o : Nat → Nat × Nat} (h : w.heap.size ≤ W.heap.size) (a : F) : KC (W.alloc (.cells a.cs.toArray 28)) (nwl o w.heap.size) W.heap.size a :=
  ⟨⟨nwl_new h, by rw [World.size_alloc]; omega, fun i u e => by rw [World.cell?_alloc_new, List.getElem?_toArray]; exact e⟩, fun i => World.frozen?_alloc_new _ _ _ _⟩
theorem KC.set {W : World} {o : Nat → Nat × Nat} {A : Nat} {a : F} (h : KC W o A a) (j : Nat) (v : Value) (a' : F) (ha : ∀ i u, a'.cs[i]? = some u → if i = j then v = u else a.cs[i]? = some u) (hj : j < 9) : KC (W.setCell ⟨A, j, none⟩ v) o A a' := by
  obtain ⟨u0, hu0⟩ : ∃ u, W.cell? ⟨A, j, none⟩ = some u := ⟨_, h.k.q j _ (List.getElem?_eq_getElem (by rw [fz_len]; exact hj))⟩
  refine ⟨⟨h.k.lb, by simpa [World.setCell] using h.k.lt, fun i u e => ?_⟩, fun i => by rw [World.frozen?_setCell]; exact h.z i⟩
  have hh := ha i u e
  by_cases hij : i = j
  · rw [if_pos hij] at hh
    rw [hij, World.cell?_setCell_same _ _ _ hu0, hh]
  · rw [if_neg hij] at hh
    rw [World.cell?_setCell_other _ _ _ _ (fun x => hij (by injection x with _ x; exact x.symm))]
    exact h.k.q i u hh
theorem KC.set5 {W : World} {o : Nat → Nat × Nat} {A : Nat} {a : F} (h : KC W o A a) (x : Int) : KC (W.setCell ⟨A, 5, none⟩ (.int .i64 x)) o A { a with role := x } :=
  h.set 5 (.int .i64 x) _ (fun i u e => by
    obtain ⟨a0, a1, a2, a3, a4, a5, a6, a7, a8⟩ := a
    rcases i with _ | _ | _ | _ | _ | _ | _ | _ | _ | i <;> first | exact e | (simp [Wi.F.cs] at e ⊢; try exact e)) (by omega)
theorem KC.set6 {W : World} {o : Nat → Nat × Nat} {A : Nat} {a : F} (h : KC W o A a) (x : ByteArray) : KC (W.setCell ⟨A, 6, none⟩ (.string x)) o A { a with key := x } :=
  h.set 6 (.string x) _ (fun i u e => by
    obtain ⟨a0, a1, a2, a3, a4, a5, a6, a7, a8⟩ := a
    rcases i with _ | _ | _ | _ | _ | _ | _ | _ | _ | i <;> first | exact e | (simp [Wi.F.cs] at e ⊢; try exact e)) (by omega)
theorem KC.set7 {W : World} {o : Nat → Nat × Nat} {A : Nat} {a : F} (h : KC W o A a) (x : Int) : KC (W.setCell ⟨A, 7, none⟩ (.int .i64 x)) o A { a with ver := x } :=
  h.set 7 (.int .i64 x) _ (fun i u e => by
    obtain ⟨a0, a1, a2, a3, a4, a5, a6, a7, a8⟩ := a
    rcases i with _ | _ | _ | _ | _ | _ | _ | _ | _ | i <;> first | exact e | (simp [Wi.F.cs] at e ⊢; try exact e)) (by omega)
theorem KC.set8 {W : World} {o : Nat → Nat × Nat} {A : Nat} {a : F} (h : KC W o A a) (x : ByteArray) : KC (W.setCell ⟨A, 8, none⟩ (.string x)) o A { a with data := x } :=
  h.set 8 (.string x) _ (fun i u e => by
    obtain ⟨a0, a1, a2, a3, a4, a5, a6, a7, a8⟩ := a
    rcases i with _ | _ | _ | _ | _ | _ | _ | _ | _ | i <;> first | exact e | (simp [Wi.F.cs] at e ⊢; try exact e)) (by omega)
/-- A box in another block stays. -/
theorem KB.seto {W : World} {o : Nat → Nat × Nat} {B A j : Nat} {v : Value} {f : F} (h : KB W o B f) (hne : B ≠ A) : KB (W.setCell ⟨A, j, none⟩ v) o B f :=
  ⟨h.lb, by simpa [World.setCell] using h.lt, fun i u e => by rw [World.cell?_setCell_other _ _ _ _ (fun x => by injection x with x _; exact hne x.symm)]; exact h.q i u e⟩
theorem RB9.seto {W : World} {o : Nat → Nat × Nat} {B A j : Nat} {v : Value} (h : RB9 W o B) : RB9 (W.setCell ⟨A, j, none⟩ v) o B :=
  ⟨h.lb, by simpa [World.setCell] using h.lt, fun i hi => some_setCell _ _ _ _ (h.q i hi), fun i => by rw [World.frozen?_setCell]; exact h.z i⟩
theorem nTP8' : ∀ t, TP t → ¬ (t = (8, 1)) := nTP8
theorem IsPl.seto {W : World} {o : Nat → Nat × Nat} {X A j : Nat} {v : Value} {s : Sl} {C : Nat} {D : Value} {d : List F} (h : IsPl W o X s C D d) (hA : o A = (8, 1)) : IsPl (W.setCell ⟨A, j, none⟩ v) o X s C D d :=
  h.fr (Fr.set (T := (· = (8, 1))) (a := ⟨A, j, none⟩) hA v) nTP8
theorem RB9.finp {T : Nat × Nat → Prop} {w W : World} {o o1 : Nat → Nat × Nat} {X B : Nat} {s' : Sl} {C : Nat} {D : Value} {d : List F} (R : RB9 W o1 B) (hI : IsPl W o1 X s' C D d) (g : Fr T o o1 w W) (hB : w.heap.size ≤ B) (a : F) :
    W.there B 0 a.cs.length ∧ (W.setCells B 0 a.cs).rangeAt B 0 a.cs ∧ IsPl (W.setCells B 0 a.cs) o1 X s' C D d ∧ Fr T o o1 w (W.setCells B 0 a.cs) := by
  have t : W.there B 0 a.cs.length := fun j hj => ⟨by rw [Nat.zero_add]; exact R.q j (by rw [fz_len] at hj; exact hj), by rw [Nat.zero_add]; exact R.z j⟩
  have f1 : Fr (· = (8, 1)) o1 o1 W (W.setCells B 0 a.cs) := Fr.sets (T := (· = (8, 1))) R.lb _ _ _
  exact ⟨t, World.rangeAt_setCells_same _ _ _ _ t, hI.fr f1 nTP8, g.setsNw hB _ _⟩
set_option maxRecDepth 100000 in
theorem pclone_any (t : ByteArray) (ht : t.size ≤ 281474976710656) (w : World) : Calls Tryz.prog 35 #[.string t] w fun e w' => e = .returned (.string t) ∧ Below w.heap.size w w' := by
  have K := hid (fun W => Tryz.stringslite_Clone t W ht)
  clear ht
  go_enter Tryz.func35, Tryz.ntmps35
  go_wp2_with fail
  refine (K.out _).mono ?_
  rintro e w1 ⟨rfl, b1⟩
  have HB := hid b1
  clear b1
  go_wp2_with fail
  go_ret
  exact ⟨rfl, HB.out⟩
end Go.Proofs.YtfinaichajbnkaaGreatDoor
