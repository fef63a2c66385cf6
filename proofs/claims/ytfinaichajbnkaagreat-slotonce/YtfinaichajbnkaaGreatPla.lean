/-
  FRAMES HELD AGAINST EACH OTHER by '=='.
-/
import Derived.Test.YtfinaichajbnkaaGreatWWir
import Derived.Laws.StructEq
import Derived.Test.YtfinaichajbnkaaGreatPtk
import Derived.Test.YtfinaichajbnkaaGreatPkc
namespace Go.Proofs.YtfinaichajbnkaaGreat.Wi
open Go.RowKit

theorem under27 : Tryz.prog.underlying 27 = some (.struct (Tryz.prog.fieldsOf 27)) := by kernel_rfl
theorem stood25 : Tryz.prog.stoodInHeld 27 = false := by kernel_rfl
theorem fields25 : (Tryz.prog.fieldsOf 27).toList.map (fun f => (f.name, f.type, f.offset)) = [("Kind", 3, 0), ("Slot", 3, 1), ("Inc", 3, 2), ("Rid", 3, 3), ("Floor", 3, 4), ("Role", 3, 5), ("Key", 9, 6), ("Version", 3, 7), ("Data", 9, 8)] := by kernel_rfl
theorem part1 (w : World) (t : TypeId) (ht : Tryz.prog.underlying t = some (.int .i64) ∨ Tryz.prog.underlying t = some .string) (xs : Array Value) (i : Nat) (v : Value) (hv : xs[i]? = some v) : (Go.part t xs i).run Tryz.prog w = .ok v w := by
  rcases ht with ht | ht <;> simp [Go.part, isAgg, run_underlying ht, hv]
/-- Fields: are they all the same? -/
theorem eq_fields (w : World) (d : Nat) (xs ys : Array Value) : ∀ (fs : List Field), (∀ f ∈ fs, f.name ≠ "_" ∧ ((Tryz.prog.underlying f.type = some (.int .i64) ∧ ∃ x y, xs[f.offset]? = some (.int .i64 x) ∧ ys[f.offset]? = some (.int .i64 y)) ∨ (Tryz.prog.underlying f.type = some .string ∧ ∃ x y, xs[f.offset]? = some (.string x) ∧ ys[f.offset]? = some (.string y)))) →
    ∃ b : Bool, (Op.eqFields (d + 1) xs ys fs).run Tryz.prog w = .ok b w ∧ (b = true ↔ ∀ f ∈ fs, xs[f.offset]? = ys[f.offset]?)
  | [], _ => ⟨true, by simp [Op.eqFields], by simp⟩
  | f :: fs, h => by
    obtain ⟨b, ih, ib⟩ := eq_fields w d xs ys fs (fun g hg => h g (List.mem_cons_of_mem _ hg))
    obtain ⟨hn, hf⟩ := h f List.mem_cons_self
    unfold Op.eqFields
    rw [if_pos hn]
    rcases hf with ⟨ht, x, y, hx, hy⟩ | ⟨ht, x, y, hx, hy⟩
    · have hp := part1 w f.type (.inl ht) xs f.offset _ hx
      have hq := part1 w f.type (.inl ht) ys f.offset _ hy
      have he : (Op.equalIn (d + 1) f.type (.int .i64 x) (.int .i64 y)).run Tryz.prog w = .ok (x == y) w := by simp [Op.equalIn, run_underlying ht]
      simp only [Sem.run_bind, hp, hq, Result.andThen_ok, he]
      by_cases e : x = y
      · subst e
        refine ⟨b, by simp [ih], ?_⟩
        rw [ib]
        simp [hx, hy]
      · refine ⟨false, by simp [e], ?_⟩
        simp [hx, hy, e]
    · have hp := part1 w f.type (.inr ht) xs f.offset _ hx
      have hq := part1 w f.type (.inr ht) ys f.offset _ hy
      have he : (Op.equalIn (d + 1) f.type (.string x) (.string y)).run Tryz.prog w = .ok (x.toList == y.toList) w := by simp [Op.equalIn, run_underlying ht, beq_toListBytes]
      simp only [Sem.run_bind, hp, hq, Result.andThen_ok, he]
      by_cases e : x = y
      · subst e
        refine ⟨b, by simp [ih], ?_⟩
        rw [ib]
        simp [hx, hy]
      · have e2 : (x.toList == y.toList) = false := by
          rw [← beq_toListBytes]
          obtain ⟨⟨l⟩⟩ := x
          obtain ⟨⟨m⟩⟩ := y
          show ((⟨l⟩ : Array UInt8) == ⟨m⟩) = false
          have : l ≠ m := fun h => e (by rw [h])
          simpa using this
        refine ⟨false, by simp [e2], ?_⟩
        simp [hx, hy, e]
theorem eq25 (w : World) (d : Nat) (f g : F) : ∃ b : Bool, (Op.equalIn (d + 1 + 1) 27 f.v g.v).run Tryz.prog w = .ok b w ∧ (b = true ↔ f = g) := by
  have e3 : Tryz.prog.underlying 3 = some (.int .i64) := Tryz.underlying3
  have e9 : Tryz.prog.underlying 9 = some .string := Tryz.underlying9
  obtain ⟨b, hb, hi⟩ := eq_fields w d f.cs.toArray g.cs.toArray (Tryz.prog.fieldsOf 27).toList (fun h hh => by
    have hm : (h.name, h.type, h.offset) ∈ (Tryz.prog.fieldsOf 27).toList.map (fun f => (f.name, f.type, f.offset)) := List.mem_map_of_mem hh
    rw [fields25] at hm
    simp only [List.mem_cons, List.not_mem_nil, or_false, Prod.mk.injEq] at hm
    rcases hm with ⟨n, t, o⟩ | ⟨n, t, o⟩ | ⟨n, t, o⟩ | ⟨n, t, o⟩ | ⟨n, t, o⟩ | ⟨n, t, o⟩ | ⟨n, t, o⟩ | ⟨n, t, o⟩ | ⟨n, t, o⟩ <;> rw [n, t, o]
    · exact ⟨by decide, .inl ⟨e3, _, _, rfl, rfl⟩⟩
    · exact ⟨by decide, .inl ⟨e3, _, _, rfl, rfl⟩⟩
    · exact ⟨by decide, .inl ⟨e3, _, _, rfl, rfl⟩⟩
    · exact ⟨by decide, .inl ⟨e3, _, _, rfl, rfl⟩⟩
    · exact ⟨by decide, .inl ⟨e3, _, _, rfl, rfl⟩⟩
    · exact ⟨by decide, .inl ⟨e3, _, _, rfl, rfl⟩⟩
    · exact ⟨by decide, .inr ⟨e9, _, _, rfl, rfl⟩⟩
    · exact ⟨by decide, .inl ⟨e3, _, _, rfl, rfl⟩⟩
    · exact ⟨by decide, .inr ⟨e9, _, _, rfl, rfl⟩⟩)
  refine ⟨b, ?_, ?_⟩
  · show (Op.equalIn (d + 1 + 1) 27 (.agg f.cs.toArray) (.agg g.cs.toArray)).run Tryz.prog w = .ok b w
    rw [run_equalIn_struct w (d + 1) 27 _ _ under27 stood25]
    exact hb
  · rw [hi]
    constructor
    · intro h
      have all : ∀ o, o < 9 → f.cs.toArray[o]? = g.cs.toArray[o]? := fun o ho => by
        have hm : ∃ (nm : String) (ty : TypeId), (nm, ty, o) ∈ (Tryz.prog.fieldsOf 27).toList.map (fun f => (f.name, f.type, f.offset)) := by
          rw [fields25]
          have hos : o = 0 ∨ o = 1 ∨ o = 2 ∨ o = 3 ∨ o = 4 ∨ o = 5 ∨ o = 6 ∨ o = 7 ∨ o = 8 := by omega
          rcases hos with rfl | rfl | rfl | rfl | rfl | rfl | rfl | rfl | rfl
          · exact ⟨_, _, .head _⟩
          · exact ⟨_, _, .tail _ (.head _)⟩
          · exact ⟨_, _, .tail _ (.tail _ (.head _))⟩
          · exact ⟨_, _, .tail _ (.tail _ (.tail _ (.head _)))⟩
          · exact ⟨_, _, .tail _ (.tail _ (.tail _ (.tail _ (.head _))))⟩
          · exact ⟨_, _, .tail _ (.tail _ (.tail _ (.tail _ (.tail _ (.head _)))))⟩
          · exact ⟨_, _, .tail _ (.tail _ (.tail _ (.tail _ (.tail _ (.tail _ (.head _))))))⟩
          · exact ⟨_, _, .tail _ (.tail _ (.tail _ (.tail _ (.tail _ (.tail _ (.tail _ (.head _)))))))⟩
          · exact ⟨_, _, .tail _ (.tail _ (.tail _ (.tail _ (.tail _ (.tail _ (.tail _ (.tail _ (.head _))))))))⟩
        obtain ⟨nm, ty, hm⟩ := hm
        obtain ⟨z, hz, he⟩ := List.mem_map.1 hm
        simp only [Prod.mk.injEq] at he
        have := h z hz
        rw [he.2.2] at this
        exact this
      obtain ⟨f0, f1, f2, f3, f4, f5, f6, f7, f8⟩ := f
      obtain ⟨g0, g1, g2, g3, g4, g5, g6, g7, g8⟩ := g
      have a0 := all 0 (by decide)
      have a1 := all 1 (by decide)
      have a2 := all 2 (by decide)
      have a3 := all 3 (by decide)
      have a4 := all 4 (by decide)
      have a5 := all 5 (by decide)
      have a6 := all 6 (by decide)
      have a7 := all 7 (by decide)
      have a8 := all 8 (by decide)
      simp [F.cs] at a0 a1 a2 a3 a4 a5 a6 a7 a8
      rw [a0, a1, a2, a3, a4, a5, a6, a7, a8]
    · rintro rfl _ _; rfl
theorem eql25 (w : World) (f g : F) (b : Bool) (hb : b = true ↔ f = g) : (binOp .eql 27 f.v g.v).run Tryz.prog w = .ok (.bool b) w := by
  obtain ⟨b', h1, h2⟩ : ∃ b : Bool, (Op.equal 27 f.v g.v).run Tryz.prog w = .ok b w ∧ (b = true ↔ f = g) := by
    unfold Op.equal
    exact eq25 w _ f g
  have e : b' = b := by rw [Bool.eq_iff_iff, h2, hb]
  subst e
  have e : (binOp .eql 27 f.v g.v) = (do pure (.bool (← Op.equal 27 f.v g.v))) := rfl
  rw [e]
  simp only [Sem.run_bind, h1, Result.andThen_ok, Sem.run_pure]
end Go.Proofs.YtfinaichajbnkaaGreat.Wi


namespace Go.Proofs.YtfinaichajbnkaaGreat
open Go.RowKit
open Wi (F)

def o00 : Nat → Nat × Nat := fun _ => (0, 0)
/-- A law's memory behind w0: the slot at X, what there was has not turned. -/
structure Lw (w0 W : World) (o : Nat → Nat × Nat) (X : Nat) (s : Sl) : Prop where
  I : IsPsl W o X s
  G : Fr TP o00 o w0 W
theorem nTP0 : ¬ TP (0, 0) := fun h => by
  rcases h with h | h
  · have : 1 ≤ 0 := h.1; omega
  · have : 0 = 10 := h; omega
theorem nTPb : ¬ TP (8, 1) := fun h => nTP8 _ h rfl
theorem Lw.fin {w0 W : World} {o : Nat → Nat × Nat} {X : Nat} {s : Sl} (h : Lw w0 W o X s) : Below w0.heap.size w0 W := h.G.below (Nat.le_refl _) (fun _ _ => nTP0)
theorem Lw.below {w0 W W' : World} {o : Nat → Nat × Nat} {X : Nat} {s : Sl} (h : Lw w0 W o X s) (b : Below W.heap.size W W') : Lw w0 W' o X s := ⟨h.I.below b, h.G.trans (Fr.ofBelow TP o b)⟩
theorem Lw.fr {w0 W W' : World} {o o' : Nat → Nat × Nat} {X : Nat} {s s' : Sl} (h : Lw w0 W o X s) (I : IsPsl W' o' X s') (g : Fr TP o o' W W') : Lw w0 W' o' X s' := ⟨I, h.G.trans g⟩
/-- All boxes that are kept. -/
def Kept (W : World) (o : Nat → Nat × Nat) (W' : World) (o' : Nat → Nat × Nat) : Prop := ∀ B (g : F), KB W o B g → KB W' o' B g
theorem Kept.trans {W W' W'' : World} {o o' o'' : Nat → Nat × Nat} (h : Kept W o W' o') (k : Kept W' o' W'' o'') : Kept W o W'' o'' := fun B g q => k B g (h B g q)
theorem Kept.fr {T : Nat × Nat → Prop} {W W' : World} {o o' : Nat → Nat × Nat} (g : Fr T o o' W W') (hT : ¬ T (8, 1)) : Kept W o W' o' := fun _ _ q => q.fr g hT
theorem Kept.below {W W' : World} (o : Nat → Nat × Nat) (b : Below W.heap.size W W') : Kept W o W' o := fun _ _ q => q.below b
/-- An answer in a new box. -/
theorem Lw.box {w0 W : World} {o : Nat → Nat × Nat} {X : Nat} {s : Sl} (h : Lw w0 W o X s) (a : F) :
    Lw w0 (W.alloc (.cells a.cs.toArray 27)) (nwl o W.heap.size) X s ∧ KC (W.alloc (.cells a.cs.toArray 27)) (nwl o W.heap.size) W.heap.size a ∧ Kept W o (W.alloc (.cells a.cs.toArray 27)) (nwl o W.heap.size) :=
  ⟨⟨h.I.fr (nwl_fr (fun _ => False) o (bel_alloc _ _)) (fun _ _ => id), h.G.trans (nwl_fr TP o (bel_alloc _ _))⟩, KC.start (Nat.le_refl _) a, Kept.fr (nwl_fr (fun _ => False) o (bel_alloc W (.cells a.cs.toArray 27))) id⟩
/-- New. -/
theorem lw_new (w : World) : Calls Tryz.prog 8 #[.int .i64 1, .int .i64 4, .int .i64 1024] w fun e w' => ∃ X o n, e = .returned (.tuple #[.pointer (some ⟨X, 0, none⟩), .int .i64 0]) ∧ (∀ i, i < n ↔ sz i ≤ 1024) ∧ Lw w w' o X (Sl.new 1 4 1024 n) :=
  (pnews_yes 1 4 1024 4 1024 rfl rfl (by omega) (by omega) (by omega) (by omega) (by omega) (by omega) w o00).mono (by
    rintro e w' ⟨X, o', n, rfl, hn, I, g⟩
    exact ⟨X, o', n, rfl, hn, I, g.mono (fun _ e => e.elim)⟩)
/-- Take. -/
theorem lw_take {w0 W : World} {o : Nat → Nat × Nat} {X : Nat} {s : Sl} (h : Lw w0 W o X s) (hn : s.done.length ≤ 90000) (f : F) {r : Option F} {s' : Sl} (ht : s.take f = (r, s')) {v : Value} {b : Bool} (hv : optv r = v) (hb : r.isSome = b) :
    Calls Tryz.prog 9 #[.pointer (some ⟨X, 0, none⟩), f.v] W fun e w' => e = .returned (.tuple #[v, .bool b]) ∧ ∃ o', Lw w0 w' o' X s' ∧ Kept W o w' o' :=
  (ptake_any X s f hn W o h.I).mono (by
    rintro e w' ⟨rfl, o', I, g⟩
    rw [ht] at I ⊢
    subst hv hb
    exact ⟨rfl, o', h.fr I g, Kept.fr g nTPb⟩)
theorem lw_wipe {w0 W : World} {o : Nat → Nat × Nat} {X : Nat} {s : Sl} (h : Lw w0 W o X s) :
    Calls Tryz.prog 11 #[.pointer (some ⟨X, 0, none⟩)] W fun e w' => e = .returned (.tuple #[]) ∧ ∃ o', Lw w0 w' o' X s.wipe ∧ Kept W o w' o' :=
  (pwipe_any X s W o h.I).mono (by
    rintro e w' ⟨rfl, o', I, g⟩
    exact ⟨rfl, o', h.fr I (g.mono (fun t e => by rw [e]; exact .inr rfl)), Kept.fr g (fun e => by cases e)⟩)
/-- '==', '!=' of frames. -/
theorem eqz (w : World) (f g : F) (b : Bool) (hb : b = true ↔ f = g) : (binOp .eql 27 f.v g.v).run Tryz.prog w = .ok (.bool b) w := Wi.eql25 w f g b hb
theorem neqz (w : World) (f g : F) (b : Bool) (hb : b = true ↔ f = g) : (binOp .neq 27 f.v g.v).run Tryz.prog w = .ok (.bool (!b)) w := by
  obtain ⟨b', h1, h2⟩ : ∃ b : Bool, (Op.equal 27 f.v g.v).run Tryz.prog w = .ok b w ∧ (b = true ↔ f = g) := by
    unfold Op.equal
    exact Wi.eq25 w _ f g
  have e : b' = b := by rw [Bool.eq_iff_iff, h2, hb]
  subst e
  have e : (binOp .neq 27 f.v g.v) = (do pure (.bool (!(← Op.equal 27 f.v g.v)))) := rfl
  rw [e]
  simp only [Sem.run_bind, h1, Result.andThen_ok, Sem.run_pure]
set_option maxRecDepth 100000 in
set_option maxHeartbeats 1000000 in
theorem ask5_any (rid : Int) (key data : ByteArray) (ver : Int) (w : World) :
    Calls Tryz.prog 10 #[.int .i64 5, .int .i64 rid, .string key, .string data, .int .i64 ver] w fun e w' => e = .returned (.agg #[.int .i64 5, .int .i64 1, .int .i64 3, .int .i64 rid, .int .i64 0, .int .i64 0, .string key, .int .i64 ver, .string data]) ∧ Below w.heap.size w w' := by
  go_enter Tryz.func10, Tryz.ntmps10
  go_wp2_with fail
  refine bodyPost_ret (v := .agg #[.int .i64 5, .int .i64 1, .int .i64 3, .int .i64 rid, .int .i64 0, .int .i64 0, .string key, .int .i64 ver, .string data]) (by simp [results, Tryz.results10, go_sem]) rfl ⟨rfl, ?_⟩
  exact (bel_alloc _ _).trans ((bel_alloc _ _).mono (bel_alloc _ _).size)
set_option maxRecDepth 100000 in
set_option maxHeartbeats 1000000 in
theorem askn_any (k rid : Int) (key data : ByteArray) (ver : Int) (hk : (k != 5) = true) (w : World) :
    Calls Tryz.prog 10 #[.int .i64 k, .int .i64 rid, .string key, .string data, .int .i64 ver] w fun e w' => e = .returned (.agg #[.int .i64 k, .int .i64 1, .int .i64 3, .int .i64 rid, .int .i64 0, .int .i64 1, .string key, .int .i64 ver, .string data]) ∧ Below w.heap.size w w' := by
  go_enter Tryz.func10, Tryz.ntmps10
  go_wp2_with fail
  refine bodyPost_ret (v := .agg #[.int .i64 k, .int .i64 1, .int .i64 3, .int .i64 rid, .int .i64 0, .int .i64 1, .string key, .int .i64 ver, .string data]) (by simp [results, Tryz.results10, go_sem]) rfl ⟨rfl, ?_⟩
  exact (bel_alloc _ _).trans ((bel_alloc _ _).mono (bel_alloc _ _).size)
end Go.Proofs.YtfinaichajbnkaaGreat
