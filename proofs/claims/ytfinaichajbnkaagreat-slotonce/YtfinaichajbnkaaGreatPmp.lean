/-
  A MAP of texts to numbers, as what it tells of each text.
-/
import Derived.Test.YtfinaichajbnkaaGreatPap
import Derived.Test.YtfinaichajbnkaaGreatSky
import Derived.Maps.OwnSet
namespace Go.Proofs.YtfinaichajbnkaaGreat
open Go.RowKit
open Go.ChangeMaps Go.MapKept

theorem K9 : Maps.Keyed Tryz.prog 9 := Maps.string_keyed Tryz.underlying9
theorem key9 (s : ByteArray) (h : s.size ≤ 1000) : keyOf Tryz.prog 9 (.string s) = some (.string s.data.toList) := WideMaps.keyOf_string_mk (P := Tryz.prog) Tryz.underlying9 (by unfold maxLen; omega)
theorem under_m : Tryz.prog.underlying 57 = some (.map 9 3) := by kernel_rfl
theorem zero3 (w : World) : (zeroValue 3).run Tryz.prog w = .ok (.int .i64 0) w := by kernel_rfl
/-- The map in block b tells V. -/
def IsMv (w : World) (b n : Nat) (V : ByteArray → Int) : Prop := ∃ D : DataW Unit, w.ownsMap Tryz.prog 9 (plainElem Tryz.prog 3) b n D ∧ ∀ k : ByteArray, k.size ≤ 1000 → D.atKey (.string k.data.toList) (.lit (.int .i64 0)) = .lit (.int .i64 (V k))
set_option maxRecDepth 100000 in
theorem IsMv.look {w : World} {b n : Nat} {V : ByteArray → Int} (h : IsMv w b n V) (k : ByteArray) (hk : k.size ≤ 1000) : (Instr.lookup 57 (.map (some b)) (.string k) false).run Tryz.prog w = .ok (.int .i64 (V k)) w := by
  obtain ⟨D, hD, hV⟩ := h
  obtain ⟨c, hrun, hat, _⟩ := hD.lookup_int K9 under_m Tryz.underlying3 (zero3 w) (key9 k hk)
  rw [hV k hk] at hat
  injection hat with hat
  injection hat with _ hat
  rw [hrun, hat]
theorem list_str {a b : ByteArray} (h : a.data.toList = b.data.toList) : a = b := by
  obtain ⟨⟨a⟩⟩ := a
  obtain ⟨⟨b⟩⟩ := b
  have : a = b := h
  rw [this]
theorem turned_fr {T : Nat × Nat → Prop} {o : Nat → Nat × Nat} {w w' : World} {b : Nat} (h : w.mapTurned w' b) (hb : T (o b)) : Fr T o o w w' := by
  obtain ⟨es, clock, es', clock', hb', rfl⟩ := h
  exact ⟨rfl, rfl, rfl, by simp [setBlock], fun _ _ => rfl, fun c _ hc => heap_setBlock_other hb' _ (fun e => hc (by rw [e]; exact hb))⟩
set_option maxRecDepth 100000 in
theorem IsMv.put {w : World} {b n : Nat} {V : ByteArray → Int} {o : Nat → Nat × Nat} {t : Nat × Nat} (h : IsMv w b n V) (hb : o b = t) (hn : n < 1000000) (k : ByteArray) (hk : k.size ≤ 1000) (v : Int) (hv : (Lit.int .i64 v).wf = true) :
    ∃ w', (Instr.mapUpdate 57 (.map (some b)) (.string k) (.int .i64 v)).run Tryz.prog w = .ok () w' ∧ IsMv w' b (n + 1) (updV V k v) ∧ Fr (· = t) o o w w' := by
  obtain ⟨D, hD, hV⟩ := h
  obtain ⟨w', hr, h', ht⟩ := World.ownsMap.store hD K9 under_m (by unfold maxLen; omega) (key9 k hk) (plainElem_int Tryz.underlying3 hv)
  refine ⟨w', hr, ⟨_, h', fun k' hk' => ?_⟩, turned_fr ht hb⟩
  unfold updV
  by_cases e : k' = k
  · subst e
    rw [if_pos rfl]
    exact Maps.atKey_put_same hD.isMap (by trivial) _ _
  · rw [if_neg e, Maps.atKey_put_other (fun x => e (by injection x with x; exact list_str x))]
    exact hV k' hk'
theorem IsMv.fr {T : Nat × Nat → Prop} {w w' : World} {o o' : Nat → Nat × Nat} {b n : Nat} {V : ByteArray → Int} (h : IsMv w b n V) (f : Fr T o o' w w') (hb : ¬ T (o b)) : IsMv w' b n V := by
  obtain ⟨D, hD, hV⟩ := h
  have hl := World.ownsMap.lt hD
  obtain ⟨es, clock, hb', F, hs, hD⟩ := hD
  exact ⟨D, ⟨es, clock, (f.block b hl hb).trans hb', F, hs, hD⟩, hV⟩
theorem IsMv.lt {w : World} {b n : Nat} {V : ByteArray → Int} (h : IsMv w b n V) : b < w.heap.size := by
  obtain ⟨D, hD, _⟩ := h
  exact World.ownsMap.lt hD
theorem IsMv.mono {w : World} {b n m : Nat} {V : ByteArray → Int} (h : IsMv w b n V) (hn : n ≤ m) : IsMv w b m V := by
  obtain ⟨D, hD, hV⟩ := h
  exact ⟨D, World.ownsMap.mono hD hn, hV⟩
theorem IsMv.new (w : World) : IsMv (w.alloc (.map #[] 0)) w.heap.size 0 (fun _ => 0) :=
  ⟨_, World.ownsMap_made w Tryz.prog 9 _, fun _ _ => rfl⟩
end Go.Proofs.YtfinaichajbnkaaGreat
