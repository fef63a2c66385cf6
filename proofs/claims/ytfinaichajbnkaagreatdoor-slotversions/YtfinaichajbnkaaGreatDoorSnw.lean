/-
  SMALL THINGS of this seat: cells behind an alloc, bytes of a text, labels turned, what always holds of a slot's numbers.
-/
import Derived.Test.YtfinaichajbnkaaGreatDoorSky
import Derived.Test.YtfinaichajbnkaaGreatDoorWRead
import Derived.Test.YtfinaichajbnkaaGreatDoorBk
import Derived.Deep.RegionHeld3
import Derived.StillTailTactics
import Derived.Lib.SlBytesConst
namespace Go.Proofs.YtfinaichajbnkaaGreatDoor
open Go.RowKit
open Wi (F enc fold unf lf sb OwnC RowF tab IsRd pk)

theorem hid {P : Prop} (h : P) : Hid P := h
theorem bel_alloc (w : World) (ob : Obj) : Below w.heap.size w (w.alloc ob) := (Below.refl _ _).alloc (Nat.le_refl _) ob
theorem cell_b {w w' : World} {b off : Nat} {v : Value} (h : w.cell? ⟨b, off, none⟩ = some v) (f : Below w.heap.size w w') : w'.cell? ⟨b, off, none⟩ = some v := (f.cell (p := ⟨b, off, none⟩) (World.block_lt_of_cell? _ _ h)).trans h
theorem cell_marked (w : World) (C : Array Value) (e : TypeId) (m : Nat × Nat) (i : Nat) : (w.alloc (.cells C e m)).cell? ⟨w.heap.size, i, none⟩ = C[i]? := by
  have : (w.alloc (.cells C e m)).heap[w.heap.size]? = some (.cells C e m) := by
    show (w.heap.push (.cells C e m))[w.heap.size]? = _
    simp
  unfold World.cell?
  rw [this]
  rfl
theorem bs_tab (l : List Nat) : Wi.mkS (lf l) l.length = bs l := rfl
/-- []byte(s), as a row. -/
theorem conv_bytes (w : World) (s : ByteArray) : ∃ cap w1, (convert 9 95 (.string s)).run Tryz.prog w = .ok (.slice (some ⟨w.heap.size, 0, none⟩) s.size cap) w1 ∧ s.size ≤ cap ∧ RowF w1 (some ⟨w.heap.size, 0, none⟩) (Wi.bt s) s.size ∧ Below w.heap.size w w1 := by
  have h := run_bytes_of_string (P := Tryz.prog) w 9 95 5 s Tryz.underlying9 Tryz.underlying95 Tryz.underlying5
  refine ⟨_, _, h, grownCap_ge w s.size 0 5, .inr ⟨w.heap.size, 0, rfl, fun i hi => ?_⟩, (below_drewN (Below.refl _ _) 1).alloc (Nat.le_refl _) _⟩
  have e := cell_marked w.drew (bytesRow s (grownCap w s.size 0 5)) 5 ((bytesRow s (grownCap w s.size 0 5)).size, (bytesRow s (grownCap w s.size 0 5)).size + 1) (0 + i)
  refine e.trans ?_
  rw [Nat.zero_add, bytesRow_at s _ i hi]
  unfold Wi.bt
  rw [List.getD_eq_getElem?_getD, List.getElem?_eq_getElem (by rw [Wi.size_len]; exact hi)]
  simp
theorem ct_bd (t : ByteArray) : ctN t ≤ t.size := by
  unfold ctN
  rcases Wi.pk_cases (Wi.bt t) t.size 0 0 (Nat.zero_le _) (Wi.bt_lt t) with ⟨e, h, _⟩ | ⟨c, s, h, _, _, h2, _⟩
  · rw [h]; exact Nat.zero_le _
  · rw [h]; show s ≤ t.size; omega
theorem OwnK.relab {w : World} {o o' : Nat → Nat × Nat} {t : Nat × Nat} {k n : Nat} {v : Value} {cs : List Value} (h : OwnK w o t k v n cs) (hl : ∀ b, b < w.heap.size → o b = t → o' b = t) : OwnK w o' t k v n cs := by
  refine ⟨h.1, h.2.1, ?_⟩
  rcases h.2.2 with h | ⟨g, cap, h1, h2, h3, h4⟩
  · exact .inl h
  · exact .inr ⟨g, cap, h1, hl g h3 h2, h3, h4⟩
theorem cls_same {n m page : Nat} (h : ∀ i, i < n ↔ sz i ≤ page) (k : ∀ i, i < m ↔ sz i ≤ page) : n = m := by
  rcases Nat.lt_trichotomy n m with e | e | e
  · have := (h n).2 ((k n).1 e); omega
  · exact e
  · have := (k m).2 ((h m).1 e); omega
/- Numbers, frames as cells. -/
def icz (l : List Int) : List Value := l.map (Value.int .i64)
def fcz (l : List F) : List Value := l.flatMap F.cs
/-- What always holds of a slot's own numbers. -/
structure OkSl (s : Sl) : Prop where
  i1 : 0 ≤ s.id
  i2 : s.id < 12
  p1 : 1 ≤ s.pages
  p2 : s.pages ≤ 64
  g1 : 64 ≤ s.page
  g2 : s.page ≤ 65536
  cn : ∀ i, i < s.n ↔ sz i ≤ s.page
theorem nm_le (f : F) (hv1 : -9223372036854775808 ≤ f.ver) (hv2 : f.ver ≤ 9223372036854775807) : (nm f).size ≤ 11 + f.key.size := by
  have h10 := Wi.enc_len10 (Wi.fold_lt hv1 hv2)
  unfold nm
  by_cases h : f.role = 1
  · rw [if_pos h, ByteArray.size_append, show (⟨#[109]⟩ : ByteArray).size = 1 from rfl]; omega
  · rw [if_neg h, ByteArray.size_append, bs_size, List.length_cons]; omega
end Go.Proofs.YtfinaichajbnkaaGreatDoor


namespace Go.Proofs.YtfinaichajbnkaaGreatDoor
open Go.RowKit
open Wi (F)

theorem MemS.relab {w : World} {o o' : Nat → Nat × Nat} {X S C G N cap : Nat} {g : Nat → Value} {sv : Value} (h : MemS w o X S C G N cap g sv) (hl : ∀ b, b < w.heap.size → (o b).1 = 1 → o' b = o b) : MemS w o' X S C G N cap g sv :=
  ⟨(hl X h.lt (by rw [h.oX])).trans h.oX, h.c0, h.c1, h.c2, h.c3, h.fz, h.en.relab (fun b hb e => (hl b hb (by rw [e])).trans e), h.n0, h.n1⟩
theorem IsSlab.relab {w : World} {o o' : Nat → Nat × Nat} {x S : Nat} {s : St} (h : IsSlab w o x S s) (hl : ∀ b, b < w.heap.size → (o b).1 = x → o' b = o b) : IsSlab w o' x S s := by
  have hk : ∀ a, ∀ b, b < w.heap.size → o b = (x, a) → o' b = (x, a) := fun a b hb e => (hl b hb (by rw [e])).trans e
  obtain ⟨C, cap, kv, fv, h1, h2, c⟩ := h.cl
  exact ⟨h.ok, hk 0 S (World.block_lt_of_cell? _ _ h.c0) h.oS, h.c0, h.c1, h.c2, h.f2, C, cap, kv, fv, h1, h2, hk 1 C (World.block_lt_of_cell? _ _ (c.c0 0 h.ok.n0)) c.oC, c.c0, c.c1, c.c2, c.f1, c.f2, fun i hi => (c.kk i hi).relab (hk _), fun i hi => (c.ff i hi).relab (hk _)⟩
theorem Chn.relab {w : World} {o o' : Nat → Nat × Nat} {x : Nat} {l : List Ent} (h : Chn w o x l) (hl : ∀ b, b < w.heap.size → (o b).1 = x → o' b = o b) : Chn w o' x l :=
  h.cg (fun _ _ => rfl) (fun e he => by obtain ⟨nx, hn⟩ := h.mem he; exact hl _ hn.lt (by rw [hn.ob]))
theorem IsChain.relab {w : World} {o o' : Nat → Nat × Nat} {x C : Nat} {a : A} (h : IsChain w o x C a) (hl : ∀ b, b < w.heap.size → (o b).1 = x → o' b = o b) : IsChain w o' x C a := by
  obtain ⟨E, G, h⟩ := h
  exact ⟨E, G, h.has, (hl C (World.block_lt_of_cell? _ _ h.c0) (by rw [h.oC])).trans h.oC, h.c0, h.c1, h.c2, h.c3, h.c4, h.fz, fun r hr => by
    have q := h.row r hr
    exact ⟨(hl _ (World.block_lt_of_cell? _ _ (q.cl 0 hr)) (by rw [q.og])).trans q.og, q.cl, q.fz, fun i hi => (q.ch i hi).relab hl⟩, h.gne⟩
theorem IsSt.relab {w : World} {o o' : Nat → Nat × Nat} {X : Nat} {z : Sp} (I : IsSt w o X z) (hl : ∀ b, b < w.heap.size → TS (o b) → o' b = o b) : IsSt w o' X z := by
  obtain ⟨h, I⟩ := I
  have k : ∀ x, 1 ≤ x → x ≤ 3 → ∀ b, b < w.heap.size → (o b).1 = x → o' b = o b := fun x h1 h3 b hb e => hl b hb ⟨by rw [e]; exact h1, by rw [e]; exact h3⟩
  exact ⟨h, I.mem.relab (k 1 (by omega) (by omega)), I.spr.relab (fun b hb e => (k 1 (by omega) (by omega) b hb (by rw [e])).trans e), I.slab.relab (k 2 (by omega) (by omega)), I.chn.relab (k 3 (by omega) (by omega)), I.lk, I.it, I.rg, I.pl, I.mp, I.ll, I.ok⟩
/-- Labels without a store's. -/
def noTS (o : Nat → Nat × Nat) : Nat → Nat × Nat := fun b => if 1 ≤ (o b).1 ∧ (o b).1 ≤ 3 then (9, 9) else o b
theorem noTS_no (o : Nat → Nat × Nat) (b : Nat) : ¬ TS (noTS o b) := by
  unfold noTS
  split
  · exact fun e => by have : 9 ≤ 3 := e.2; omega
  · rename_i h; exact h
set_option maxRecDepth 100000 in
/-- A new store, whatever there was. -/
theorem snew_any (pages page : Nat) (P Q : Int) (hP : P = (pages : Int)) (hQ : Q = (page : Int)) (p1 : 1 ≤ pages) (p2 : pages ≤ 64) (g1 : 64 ≤ page) (g2 : page ≤ 65536) (w : World) (o : Nat → Nat × Nat) :
    Calls Tryz.prog 10 #[.int .i64 P, .int .i64 Q] w fun e w' => ∃ Y, e = .returned (.tuple #[.pointer (some ⟨Y, 0, none⟩), .int .i64 0]) ∧ SNew w o pages page w' Y := by
  refine (snew_yes pages page P Q hP hQ p1 p2 g1 g2 w (noTS o) (fun b _ => ⟨fun e => noTS_no o b ⟨by rw [e]; omega, by rw [e]; omega⟩, fun e => noTS_no o b ⟨by rw [e]; omega, by rw [e]; omega⟩⟩)).mono ?_
  rintro e w' ⟨Y, rfl, o1, n, hn, hI, f⟩
  refine ⟨Y, rfl, fun b => if b < w.heap.size then o b else o1 b, n, hn, hI.relab (fun b hb ht => ?_), ⟨f.os, f.tape, f.output, f.size, fun b hb => if_pos hb, fun b hb _ => f.block b hb id⟩⟩
  by_cases hlt : b < w.heap.size
  · rw [f.lab b hlt] at ht
    exact absurd ht (noTS_no o b)
  · show (if b < w.heap.size then o b else o1 b) = o1 b
    rw [if_neg hlt]
/-- The slot lies in block X: its own cells. -/
structure PlC (w : World) (X : Nat) (s : Sl) (C : Nat) (D : Value) : Prop where
  c0 : w.cell? ⟨X, 0, none⟩ = some (.int .i64 s.id)
  c1 : w.cell? ⟨X, 1, none⟩ = some (.int .i64 (s.pages : Int))
  c2 : w.cell? ⟨X, 2, none⟩ = some (.int .i64 (s.page : Int))
  c3 : w.cell? ⟨X, 3, none⟩ = some (.bool s.on)
  c4 : w.cell? ⟨X, 4, none⟩ = some (.int .i64 s.inc)
  c5 : w.cell? ⟨X, 5, none⟩ = some (.int .i64 s.floor)
  c6 : w.cell? ⟨X, 6, none⟩ = some (.pointer (some ⟨C, 0, none⟩))
  c7 : w.cell? ⟨X, 7, none⟩ = some D
  fz : ∀ j, w.frozen? ⟨X, j, none⟩ = false
/-- What was done, by rising numbers. -/
structure DnOk (l d : List F) : Prop where
  pm : d.Perm l
  up : d.Pairwise fun a b => a.rid < b.rid
theorem DnOk.nil : DnOk [] [] := ⟨List.Perm.refl _, List.Pairwise.nil⟩
theorem DnOk.len {l d : List F} (h : DnOk l d) : d.length = l.length := h.pm.length_eq
structure IsPl (w : World) (o : Nat → Nat × Nat) (X : Nat) (s : Sl) (C : Nat) (D : Value) (d : List F) : Prop where
  oX : o X = (10, 0)
  c : PlC w X s C D
  st : IsSt w o C s.z
  dn : OwnK w o (10, 2) 9 D d.length (fcz d)
  dd : DnOk s.done d
  ok : OkSl s
def IsPsl (w : World) (o : Nat → Nat × Nat) (X : Nat) (s : Sl) : Prop := ∃ C D d, IsPl w o X s C D d
/-- The slot's own labels. -/
def TP (t : Nat × Nat) : Prop := (1 ≤ t.1 ∧ t.1 ≤ 3) ∨ t.1 = 10
theorem TS.tp {t : Nat × Nat} (h : TS t) : TP t := .inl h
theorem PlC.lt {w : World} {X : Nat} {s : Sl} {C : Nat} {D : Value} (h : PlC w X s C D) : X < w.heap.size := World.block_lt_of_cell? _ _ h.c0
theorem PlC.fr {T : Nat × Nat → Prop} {w w' : World} {o o' : Nat → Nat × Nat} {X : Nat} {s : Sl} {C : Nat} {D : Value} (h : PlC w X s C D) (f : Fr T o o' w w') (hX : ¬ T (o X)) : PlC w' X s C D :=
  ⟨f.cell h.c0 hX, f.cell h.c1 hX, f.cell h.c2 hX, f.cell h.c3 hX, f.cell h.c4 hX, f.cell h.c5 hX, f.cell h.c6 hX, f.cell h.c7 hX, fun j => (f.frozen h.lt hX).trans (h.fz j)⟩
theorem PlC.z {w : World} {X : Nat} {s : Sl} {C : Nat} {D : Value} (h : PlC w X s C D) (z' : Sp) : PlC w X { s with z := z' } C D := ⟨h.c0, h.c1, h.c2, h.c3, h.c4, h.c5, h.c6, h.c7, h.fz⟩
theorem OkSl.z {s : Sl} (h : OkSl s) (z' : Sp) : OkSl { s with z := z' } := ⟨h.i1, h.i2, h.p1, h.p2, h.g1, h.g2, h.cn⟩
theorem IsPl.fr {T : Nat × Nat → Prop} {w w' : World} {o o' : Nat → Nat × Nat} {X : Nat} {s : Sl} {C : Nat} {D : Value} {d : List F} (h : IsPl w o X s C D d) (f : Fr T o o' w w') (hT : ∀ t, TP t → ¬ T t) : IsPl w' o' X s C D d := by
  have h6 : ∀ q, ¬ T (10, q) := fun q => hT _ (.inr rfl)
  have hX : ¬ T (o X) := by rw [h.oX]; exact h6 0
  exact ⟨(f.lab X h.c.lt).trans h.oX, h.c.fr f hX, h.st.fr f (fun t ht => hT t ht.tp), h.dn.fr f (h6 2), h.dd, h.ok⟩
theorem IsPl.below {w w' : World} {o : Nat → Nat × Nat} {X : Nat} {s : Sl} {C : Nat} {D : Value} {d : List F} (h : IsPl w o X s C D d) (b : Below w.heap.size w w') : IsPl w' o X s C D d := h.fr (Fr.ofBelow (fun _ => False) o b) (fun _ _ => id)
/-- The store alone has turned. -/
theorem IsPl.store {T : Nat × Nat → Prop} {w w' : World} {o o' : Nat → Nat × Nat} {X : Nat} {s : Sl} {C : Nat} {D : Value} {d : List F} (h : IsPl w o X s C D d) (f : Fr T o o' w w') (hT : ∀ q, ¬ T (10, q)) {z' : Sp} (hS : IsSt w' o' C z') : IsPl w' o' X { s with z := z' } C D d := by
  have hX : ¬ T (o X) := by rw [h.oX]; exact hT 0
  exact ⟨(f.lab X h.c.lt).trans h.oX, (h.c.fr f hX).z z', hS, h.dn.fr f (hT 2), h.dd, h.ok.z z'⟩
theorem IsPsl.fr {T : Nat × Nat → Prop} {w w' : World} {o o' : Nat → Nat × Nat} {X : Nat} {s : Sl} (h : IsPsl w o X s) (f : Fr T o o' w w') (hT : ∀ t, TP t → ¬ T t) : IsPsl w' o' X s := by
  obtain ⟨C, D, d, h⟩ := h
  exact ⟨C, D, d, h.fr f hT⟩
theorem IsPsl.below {w w' : World} {o : Nat → Nat × Nat} {X : Nat} {s : Sl} (h : IsPsl w o X s) (b : Below w.heap.size w w') : IsPsl w' o X s := h.fr (Fr.ofBelow (fun _ => False) o b) (fun _ _ => id)
/-- A cell of the slot stored: what is told then. -/
theorem PlC.set {w : World} {X : Nat} {s s' : Sl} {C C' : Nat} {D D' : Value} (h : PlC w X s C D) (j : Nat) (v : Value)
    (hv : ∀ i u, (#[.int .i64 s'.id, .int .i64 (s'.pages : Int), .int .i64 (s'.page : Int), .bool s'.on, .int .i64 s'.inc, .int .i64 s'.floor, .pointer (some ⟨C', 0, none⟩), D'] : Array Value)[i]? = some u → if i = j then v = u else (#[.int .i64 s.id, .int .i64 (s.pages : Int), .int .i64 (s.page : Int), .bool s.on, .int .i64 s.inc, .int .i64 s.floor, .pointer (some ⟨C, 0, none⟩), D] : Array Value)[i]? = some u) (hj : j < 8) :
    PlC (w.setCell ⟨X, j, none⟩ v) X s' C' D' := by
  have old : ∀ i u, (#[.int .i64 s.id, .int .i64 (s.pages : Int), .int .i64 (s.page : Int), .bool s.on, .int .i64 s.inc, .int .i64 s.floor, .pointer (some ⟨C, 0, none⟩), D] : Array Value)[i]? = some u → w.cell? ⟨X, i, none⟩ = some u := fun i u e => by
    rcases i with _ | _ | _ | _ | _ | _ | _ | _ | i
    · exact h.c0.trans e
    · exact h.c1.trans e
    · exact h.c2.trans e
    · exact h.c3.trans e
    · exact h.c4.trans e
    · exact h.c5.trans e
    · exact h.c6.trans e
    · exact h.c7.trans e
    · simp at e
  have there : ∃ u, w.cell? ⟨X, j, none⟩ = some u := by
    rcases j with _ | _ | _ | _ | _ | _ | _ | _ | j
    · exact ⟨_, h.c0⟩
    · exact ⟨_, h.c1⟩
    · exact ⟨_, h.c2⟩
    · exact ⟨_, h.c3⟩
    · exact ⟨_, h.c4⟩
    · exact ⟨_, h.c5⟩
    · exact ⟨_, h.c6⟩
    · exact ⟨_, h.c7⟩
    · omega
  obtain ⟨u0, hu0⟩ := there
  have new : ∀ i u, (#[.int .i64 s'.id, .int .i64 (s'.pages : Int), .int .i64 (s'.page : Int), .bool s'.on, .int .i64 s'.inc, .int .i64 s'.floor, .pointer (some ⟨C', 0, none⟩), D'] : Array Value)[i]? = some u → (w.setCell ⟨X, j, none⟩ v).cell? ⟨X, i, none⟩ = some u := fun i u e => by
    have hh := hv i u e
    by_cases hij : i = j
    · rw [if_pos hij] at hh
      rw [hij, World.cell?_setCell_same _ _ _ hu0, hh]
    · rw [if_neg hij] at hh
      rw [World.cell?_setCell_other _ _ _ _ (fun x => hij (by injection x with _ x; exact x.symm))]
      exact old i u hh
  exact ⟨new 0 _ rfl, new 1 _ rfl, new 2 _ rfl, new 3 _ rfl, new 4 _ rfl, new 5 _ rfl, new 6 _ rfl, new 7 _ rfl, fun i => by rw [World.frozen?_setCell]; exact h.fz i⟩
end Go.Proofs.YtfinaichajbnkaaGreatDoor


namespace Go.Proofs.YtfinaichajbnkaaGreatDoor
open Wi (F)

/-- May there be such a slot? -/
def rightS (id pages page : Int) : Prop := 0 ≤ id ∧ id < 12 ∧ rightN pages page
/-- A new slot. -/
def Sl.new (id : Int) (pages page n : Nat) : Sl := ⟨id, pages, page, n, false, 0, 0, ⟨St.new pages page n, []⟩, []⟩
end Go.Proofs.YtfinaichajbnkaaGreatDoor
