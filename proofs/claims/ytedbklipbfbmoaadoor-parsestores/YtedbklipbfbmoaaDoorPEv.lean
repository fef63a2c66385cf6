/-
  Events that are handed back; say, none, end.
-/
import Derived.Test.YtedbklipbfbmoaaDoorPSm
namespace Go.Proofs.YtedbklipbfbmoaaDoor
open Go.RowKit

/-- The cells E are those of the event. -/
def EvV (w : World) (o : Nat → Nat × Nat) (E : List Value) (ev : Ev) : Prop := ∃ a n c, E = ev.cs (.slice a n c) ∧ Ks w o (.slice a n c) ev.rq.keys
theorem EvV.fr {T : Nat × Nat → Prop} {w w' : World} {o o' : Nat → Nat × Nat} {E : List Value} {ev : Ev} (h : EvV w o E ev) (f : Fr T o o' w w') (hT : ¬ T (9, 9)) : EvV w' o' E ev := by
  obtain ⟨a, n, c, h1, h2⟩ := h
  exact ⟨a, n, c, h1, h2.fr f hT⟩
theorem EvV.len {w : World} {o : Nat → Nat × Nat} {E : List Value} {ev : Ev} (h : EvV w o E ev) : E.length = 18 := by
  obtain ⟨a, n, c, h1, h2⟩ := h
  rw [h1]; rfl
theorem EvV.one {w : World} {o : Nat → Nat × Nat} {E : List Value} {ev : Ev} (h : EvV w o E ev) : ∀ u ∈ E, u.oneCell' = true := by
  obtain ⟨a, n, c, h1, h2⟩ := h
  rw [h1]; exact ev_one _ _ _ _
theorem EvV.ans (w : World) (o : Nat → Nat × Nat) (k : Nat) (t : B) : EvV w o ((YtedbklipbfbmoaaDoor.ans k t).cs (.slice none 0 0)) (YtedbklipbfbmoaaDoor.ans k t) := ⟨none, 0, 0, rfl, Ks.nil _ _⟩
theorem EvV.no (w : World) (o : Nat → Nat × Nat) : EvV w o (Ev.none.cs (.slice none 0 0)) Ev.none := ⟨none, 0, 0, rfl, Ks.nil _ _⟩
theorem load36 {w : World} {b : Nat} {E : List Value} (h : w.rangeAt b 0 E) (hl : E.length = 18) : (loadVar 36 ⟨b, 0, none⟩).run Tryd.prog w = .ok (.agg E.toArray) w :=
  run_loadVar_mid w b 0 36 E _ h Tryd.underlying36 rfl (by rw [hl]; kernel_rfl)
theorem there_fr {T : Nat × Nat → Prop} {w w' : World} {o o' : Nat → Nat × Nat} {b n : Nat} (h : w.there b 0 n) (f : Fr T o o' w w') (hb : ¬ T (o b)) (hlt : b < w.heap.size) : w'.there b 0 n := fun j hj => by
  have e := f.block b hlt hb
  rw [World.cell?_of_block (a := ⟨b, 0 + j, none⟩) e, World.frozen?_of_block (a := ⟨b, 0 + j, none⟩) e]
  exact h j hj
theorem Fr.setsNew {T : Nat × Nat → Prop} {o o' : Nat → Nat × Nat} {w0 w : World} (h : Fr T o o' w0 w) {g : Nat} (hg : w0.heap.size ≤ g) : ∀ (vs : List Value) (off : Nat), Fr T o o' w0 (w.setCells g off vs) := fun vs => by
  induction vs generalizing w with
  | nil => intro off; exact h
  | cons v vs ih => intro off; exact ih (h.setNew (a := ⟨g, off, none⟩) hg v) (off + 1)
/-- A new block of an event, all nought. -/
structure Res (w : World) (o : Nat → Nat × Nat) (b : Nat) : Prop where
  th : w.there b 0 18
  mark : o b = (8, 8)
  lt : b < w.heap.size
theorem Res.fr {T : Nat × Nat → Prop} {w w' : World} {o o' : Nat → Nat × Nat} {b : Nat} (h : Res w o b) (f : Fr T o o' w w') (hT : ¬ T (8, 8)) : Res w' o' b :=
  ⟨there_fr h.th f (by rw [h.mark]; exact hT) h.lt, (f.lab b h.lt).trans h.mark, Nat.lt_of_lt_of_le h.lt f.size⟩
theorem Res.new (w : World) (o : Nat → Nat × Nat) : Res (w.alloc (.cells (Ev.none.cs (.slice none 0 0)).toArray 36)) (lab o w.heap.size (8, 8)) w.heap.size :=
  ⟨fun j hj => by
    obtain ⟨v, hv⟩ : ∃ v, (Ev.none.cs (.slice none 0 0))[j]? = some v := ⟨_, List.getElem?_eq_getElem (show j < (Ev.none.cs (.slice none 0 0)).length from hj)⟩
    rw [Nat.zero_add, World.cell?_alloc_new, World.frozen?_alloc_new, List.getElem?_toArray, hv]
    exact ⟨rfl, rfl⟩, lab_same _ _ _, by simp⟩
/-- What is behind a call that hands an event back. -/
def OutE (w : World) (o : Nat → Nat × Nat) (x P : Nat) (p' : Ps) (ev : Ev) (E : List Value) (w' : World) : Prop :=
  ∃ o' a n c ka kn kc, EvV w' o' E ev ∧ IsP w' o' x P p' a n c ka kn kc ∧ Fr (TX x) o o' w w'
theorem tx8 {x : Nat} (hx : x < 8) : ¬ TX x (8, 8) := fun e => by have : 8 = x := e; omega
theorem tx9 {x : Nat} (hx : x < 8) : ¬ TX x (9, 9) := fun e => by have : 9 = x := e; omega
/-- The event stored where it is handed back from. -/
theorem fin_e {w W : World} {o0 o : Nat → Nat × Nat} {x P b : Nat} {p' : Ps} {a : Option Addr} {n c : Nat} {ka : Option Addr} {kn kc : Nat} {E : List Value} {ev : Ev} (hx : x < 8) (hF : Fr (TX x) o0 o w W) (hI : IsP W o x P p' a n c ka kn kc) (hE : EvV W o E ev) (hR : Res W o b) (hn : w.heap.size ≤ b) :
    (W.setCells b 0 E).rangeAt b 0 E ∧ OutE w o0 x P p' ev E (W.setCells b 0 E) := by
  have f : Fr (· = (8, 8)) o o W (W.setCells b 0 E) := Fr.sets (T := (· = (8, 8))) hR.mark _ _ _
  exact ⟨World.rangeAt_setCells_same _ _ _ _ (by rw [hE.len]; exact hR.th), o, a, n, c, ka, kn, kc, hE.fr f (fun e => by cases e), hI.fr f (fun e => by injection e with e _; omega) (fun e => by injection e with e _; omega) (fun e => by cases e), hF.setsNew hn _ _⟩
set_option maxRecDepth 100000 in
theorem say_any (k : Nat) (t : B) (K : Int) (s : ByteArray) (hK : ((k : Nat) : Int) = K) (hs : S t = s) (w : World) : Calls Tryd.prog 41 #[.int .i64 K, .string s] w fun e w' => e = .returned (.agg ((ans k t).cs (.slice none 0 0)).toArray) ∧ Below w.heap.size w w' := by
  obtain ⟨E, hE⟩ : ∃ E, E = (ans k t).cs (.slice none 0 0) := ⟨_, rfl⟩
  rw [← hE]
  have EV : EvV w o0 E (ans k t) := by rw [hE]; exact EvV.ans _ _ _ _
  have hE2 : E = [.int .i64 0, .slice none 0 0, .int .i64 0, .int .i64 0, .int .i64 0, .int .i64 0, .int .u64 0, .bool false, .string ⟨#[]⟩, .int .i64 K, .slice none 0 0, .bool false, .int .u64 0, .string s, .int .i64 0, .int .i64 0, .int .i64 0, .int .i64 0] := by rw [hE, ← hK, ← hs]; rfl
  have R := Res.new w o0
  have HT : Hid ((w.alloc (.cells (Ev.none.cs (.slice none 0 0)).toArray 36)).there w.heap.size 0 E.length) := Lib.hid (by rw [EV.len]; exact R.th)
  have HR : Hid (((w.alloc (.cells (Ev.none.cs (.slice none 0 0)).toArray 36)).setCells w.heap.size 0 E).rangeAt w.heap.size 0 E) := Lib.hid (World.rangeAt_setCells_same _ _ _ _ HT.out)
  have HB : Hid (Below w.heap.size w ((w.alloc (.cells (Ev.none.cs (.slice none 0 0)).toArray 36)).setCells w.heap.size 0 E)) := Lib.hid (((Fr.alloc (fun _ => False) o0 w (.cells (Ev.none.cs (.slice none 0 0)).toArray 36)).setsNew (Nat.le_refl _) E 0).below (Nat.le_refl _) (fun _ _ h => h))
  have HL := Lib.hid EV.len
  have H1 := Lib.hid EV.one
  have HE := Lib.hid hE2
  clear R EV hE hE2 hK hs
  go_enter Tryd.func41, Tryd.ntmps41
  go_wp2_with ((with_reducible show wpList _ _ _ (Oper.mk none (Op.store 36 (.tmp 4) _) _ _ _ _ :: _) _ _); refine wpList_store_mid (by rfl) 36 (.tmp 4) (.tmp 8) (by rfl) w.heap.size 0 E.toArray (by rfl) (by rw [HE.out]; rfl) HT.out (by rw [List.size_toArray, HL.out]; kernel_rfl) (all_oneCell_toArray H1.out) ?_; rw [show E.toArray.toList = E from rfl])
  refine bodyPost_ret (v := .agg E.toArray) (by simp [results, Tryd.results41]; exact load36 HR.out HL.out) rfl ⟨rfl, HB.out⟩
end Go.Proofs.YtedbklipbfbmoaaDoor
