/-
  A LAW's MEMORY: the slot, answers in boxes; ask.
-/
import Derived.Test.YtfinaichajbnkaaGreatPtk
import Derived.Test.YtfinaichajbnkaaGreatPkc
import Derived.Test.YtfinaichajbnkaaGreatWEqs
namespace Go.Proofs.YtfinaichajbnkaaGreat
open Go.RowKit
open Wi (F)

def o00 : Nat → Nat × Nat := fun _ => (0, 0)
/-- A law's memory behind w0: the slot at X, what there was has not turned. -/
structure Lw (w0 W : World) (o : Nat → Nat × Nat) (X : Nat) (s : Sl) : Prop where
  I : IsPsl W o X s
  G : Fr TP o00 o w0 W
theorem nTP0 : ¬ TP (0, 0) := fun h => by
  rcases h with h | h
  · have : 1 ≤ 0 := h.1; omega
  · have : 0 = 10 := h; omega
theorem nTPb : ¬ TP (8, 1) := fun h => nTP8 _ h rfl
theorem Lw.fin {w0 W : World} {o : Nat → Nat × Nat} {X : Nat} {s : Sl} (h : Lw w0 W o X s) : Below w0.heap.size w0 W := h.G.below (Nat.le_refl _) (fun _ _ => nTP0)
theorem Lw.below {w0 W W' : World} {o : Nat → Nat × Nat} {X : Nat} {s : Sl} (h : Lw w0 W o X s) (b : Below W.heap.size W W') : Lw w0 W' o X s := ⟨h.I.below b, h.G.trans (Fr.ofBelow TP o b)⟩
theorem Lw.fr {w0 W W' : World} {o o' : Nat → Nat × Nat} {X : Nat} {s s' : Sl} (h : Lw w0 W o X s) (I : IsPsl W' o' X s') (g : Fr TP o o' W W') : Lw w0 W' o' X s' := ⟨I, h.G.trans g⟩
/-- All boxes that are kept. -/
def Kept (W : World) (o : Nat → Nat × Nat) (W' : World) (o' : Nat → Nat × Nat) : Prop := ∀ B (g : F), KB W o B g → KB W' o' B g
theorem Kept.trans {W W' W'' : World} {o o' o'' : Nat → Nat × Nat} (h : Kept W o W' o') (k : Kept W' o' W'' o'') : Kept W o W'' o'' := fun B g q => k B g (h B g q)
theorem Kept.fr {T : Nat × Nat → Prop} {W W' : World} {o o' : Nat → Nat × Nat} (g : Fr T o o' W W') (hT : ¬ T (8, 1)) : Kept W o W' o' := fun _ _ q => q.fr g hT
theorem Kept.below {W W' : World} (o : Nat → Nat × Nat) (b : Below W.heap.size W W') : Kept W o W' o := fun _ _ q => q.below b
/-- An answer in a new box. -/
theorem Lw.box {w0 W : World} {o : Nat → Nat × Nat} {X : Nat} {s : Sl} (h : Lw w0 W o X s) (a : F) :
    Lw w0 (W.alloc (.cells a.cs.toArray 27)) (nwl o W.heap.size) X s ∧ KC (W.alloc (.cells a.cs.toArray 27)) (nwl o W.heap.size) W.heap.size a ∧ Kept W o (W.alloc (.cells a.cs.toArray 27)) (nwl o W.heap.size) :=
  ⟨⟨h.I.fr (nwl_fr (fun _ => False) o (bel_alloc _ _)) (fun _ _ => id), h.G.trans (nwl_fr TP o (bel_alloc _ _))⟩, KC.start (Nat.le_refl _) a, Kept.fr (nwl_fr (fun _ => False) o (bel_alloc W (.cells a.cs.toArray 27))) id⟩
/-- New. -/
theorem lw_new (w : World) : Calls Tryz.prog 8 #[.int .i64 1, .int .i64 4, .int .i64 1024] w fun e w' => ∃ X o n, e = .returned (.tuple #[.pointer (some ⟨X, 0, none⟩), .int .i64 0]) ∧ (∀ i, i < n ↔ sz i ≤ 1024) ∧ Lw w w' o X (Sl.new 1 4 1024 n) :=
  (pnews_yes 1 4 1024 4 1024 rfl rfl (by omega) (by omega) (by omega) (by omega) (by omega) (by omega) w o00).mono (by
    rintro e w' ⟨X, o', n, rfl, hn, I, g⟩
    exact ⟨X, o', n, rfl, hn, I, g.mono (fun _ e => e.elim)⟩)
/-- Take. -/
theorem lw_take {w0 W : World} {o : Nat → Nat × Nat} {X : Nat} {s : Sl} (h : Lw w0 W o X s) (hn : s.done.length ≤ 90000) (f : F) {r : Option F} {s' : Sl} (ht : s.take f = (r, s')) {v : Value} {b : Bool} (hv : optv r = v) (hb : r.isSome = b) :
    Calls Tryz.prog 9 #[.pointer (some ⟨X, 0, none⟩), f.v] W fun e w' => e = .returned (.tuple #[v, .bool b]) ∧ ∃ o', Lw w0 w' o' X s' ∧ Kept W o w' o' :=
  (ptake_any X s f hn W o h.I).mono (by
    rintro e w' ⟨rfl, o', I, g⟩
    rw [ht] at I ⊢
    subst hv hb
    exact ⟨rfl, o', h.fr I g, Kept.fr g nTPb⟩)
theorem lw_wipe {w0 W : World} {o : Nat → Nat × Nat} {X : Nat} {s : Sl} (h : Lw w0 W o X s) :
    Calls Tryz.prog 11 #[.pointer (some ⟨X, 0, none⟩)] W fun e w' => e = .returned (.tuple #[]) ∧ ∃ o', Lw w0 w' o' X s.wipe ∧ Kept W o w' o' :=
  (pwipe_any X s W o h.I).mono (by
    rintro e w' ⟨rfl, o', I, g⟩
    exact ⟨rfl, o', h.fr I (g.mono (fun t e => by rw [e]; exact .inr rfl)), Kept.fr g (fun e => by cases e)⟩)
/-- '==', '!=' of frames. -/
theorem eqz (w : World) (f g : F) (b : Bool) (hb : b = true ↔ f = g) : (binOp .eql 27 f.v g.v).run Tryz.prog w = .ok (.bool b) w := Wi.eql25 w f g b hb
theorem neqz (w : World) (f g : F) (b : Bool) (hb : b = true ↔ f = g) : (binOp .neq 27 f.v g.v).run Tryz.prog w = .ok (.bool (!b)) w := by
  obtain ⟨b', h1, h2⟩ : ∃ b : Bool, (Op.equal 27 f.v g.v).run Tryz.prog w = .ok b w ∧ (b = true ↔ f = g) := by
    unfold Op.equal
    exact Wi.eq25 w _ f g
  have e : b' = b := by rw [Bool.eq_iff_iff, h2, hb]
  subst e
  have e : (binOp .neq 27 f.v g.v) = (do pure (.bool (!(← Op.equal 27 f.v g.v)))) := rfl
  rw [e]
  simp only [Sem.run_bind, h1, Result.andThen_ok, Sem.run_pure]
set_option maxRecDepth 100000 in
set_option maxHeartbeats 1000000 in
theorem ask5_any (rid : Int) (key data : ByteArray) (ver : Int) (w : World) :
    Calls Tryz.prog 10 #[.int .i64 5, .int .i64 rid, .string key, .string data, .int .i64 ver] w fun e w' => e = .returned (.agg #[.int .i64 5, .int .i64 1, .int .i64 3, .int .i64 rid, .int .i64 0, .int .i64 0, .string key, .int .i64 ver, .string data]) ∧ Below w.heap.size w w' := by
  go_enter Tryz.func10, Tryz.ntmps10
  go_wp2_with fail
  refine bodyPost_ret (v := .agg #[.int .i64 5, .int .i64 1, .int .i64 3, .int .i64 rid, .int .i64 0, .int .i64 0, .string key, .int .i64 ver, .string data]) (by simp [results, Tryz.results10, go_sem]) rfl ⟨rfl, ?_⟩
  exact (bel_alloc _ _).trans ((bel_alloc _ _).mono (bel_alloc _ _).size)
set_option maxRecDepth 100000 in
set_option maxHeartbeats 1000000 in
theorem askn_any (k rid : Int) (key data : ByteArray) (ver : Int) (hk : (k != 5) = true) (w : World) :
    Calls Tryz.prog 10 #[.int .i64 k, .int .i64 rid, .string key, .string data, .int .i64 ver] w fun e w' => e = .returned (.agg #[.int .i64 k, .int .i64 1, .int .i64 3, .int .i64 rid, .int .i64 0, .int .i64 1, .string key, .int .i64 ver, .string data]) ∧ Below w.heap.size w w' := by
  go_enter Tryz.func10, Tryz.ntmps10
  go_wp2_with fail
  refine bodyPost_ret (v := .agg #[.int .i64 k, .int .i64 1, .int .i64 3, .int .i64 rid, .int .i64 0, .int .i64 1, .string key, .int .i64 ver, .string data]) (by simp [results, Tryz.results10, go_sem]) rfl ⟨rfl, ?_⟩
  exact (bel_alloc _ _).trans ((bel_alloc _ _).mono (bel_alloc _ _).size)
end Go.Proofs.YtfinaichajbnkaaGreat
