/-
  THE MAP, as a list of entries.
-/
import Derived.Test.YtpkmfckifnomeaaDoorNext
import Derived.Maps.OwnSet
namespace Go.Proofs.YtpkmfckifnomeaaDoor
open Go.RowKit

open Go.Lib (TabIs pow10Tab)
open Go.ChangeMaps Go.MapKept

/-- How an entry reads. -/
def rdE : Value → Option (DataW En × List MemPlace)
  | .agg cs => match cs.toList with
    | [.string k, .int .i64 f, .int .i64 d, .string v, .int .i64 c] => some (.held ⟨k, f, d, v, c⟩, [])
    | _ => none
  | _ => none
theorem rdE_v (e : En) : rdE (.agg e.cs.toArray) = some (.held e, []) := rfl
theorem rdE_inv {v : Value} {z : DataW En × List MemPlace} (h : rdE v = some z) : ∃ e : En, v = .agg e.cs.toArray ∧ z = (.held e, []) := by
  unfold rdE at h
  split at h
  · rename_i cs
    split at h
    · rename_i k f d v c hl
      cases h
      exact ⟨⟨k, f, d, v, c⟩, by rw [show cs = cs.toList.toArray by simp, hl]; rfl, rfl⟩
    · cases h
  · cases h
def ky (e : En) : Lit := .string (L e.key)
/-- The list as what is read. -/
def dm (l : List En) : DataW En := .map (l.map fun e => (ky e, .held e))
def del (k : B) (l : List En) : List En := l.filter fun e => !(L e.key == k)
def ins (e : En) : List En → List En
  | [] => [e]
  | y :: r => if bytesBefore (L e.key) (L y.key) then e :: y :: r else y :: ins e r
def put (e : En) (l : List En) : List En := ins e (del (L e.key) l)
def look (k : B) (l : List En) : Option En := l.find? fun e => L e.key == k
theorem dm_del (l : List En) (k : B) : (dm l).del (.string k) = dm (del k l) := by
  show DataW.map _ = DataW.map _
  congr 1
  unfold del
  induction l with
  | nil => rfl
  | cons e l ih =>
    simp only [List.map_cons, List.filter_cons]
    rw [show (ky e).sameKey (.string k) = (L e.key == k) from rfl]
    cases (L e.key == k) <;> simp [ih]
theorem ins_map (e : En) : ∀ l : List En, DataW.insert (ky e, .held e) (l.map fun e => (ky e, (.held e : DataW En))) = (ins e l).map fun e => (ky e, .held e)
  | [] => rfl
  | y :: r => by
    rw [List.map_cons, DataW.insert, ins, show (ky e).before (ky y) = bytesBefore (L e.key) (L y.key) from rfl]
    split
    · rfl
    · rw [ins_map e r]; rfl
theorem dm_put (l : List En) (e : En) : (dm l).put (ky e) (.held e) = dm (put e l) := by
  have h := dm_del l (L e.key)
  have h' : (l.map fun e => (ky e, (.held e : DataW En))).filter (fun p => !p.1.sameKey (ky e)) = (del (L e.key) l).map fun e => (ky e, .held e) := by
    injection h
  show DataW.map (DataW.insert _ _) = _
  rw [h', ins_map]; rfl
theorem dm_find (l : List En) (k : B) : (l.map fun e => (ky e, (.held e : DataW En))).find? (fun p => p.1.sameKey (.string k)) = (look k l).map fun e => (ky e, .held e) := by
  unfold look
  induction l with
  | nil => rfl
  | cons e l ih =>
    rw [List.map_cons, List.find?_cons, List.find?_cons, show (ky e).sameKey (.string k) = (L e.key == k) from rfl]
    cases (L e.key == k)
    · exact ih
    · rfl
theorem dm_at (l : List En) (k : B) (z : DataW En) : (dm l).atKey (.string k) z = match look k l with | some e => .held e | none => z := by
  unfold DataW.atKey dm
  simp only
  rw [dm_find]
  cases look k l <;> rfl
theorem dm_has (l : List En) (k : B) : Maps.has (dm l) (.string k) = (look k l).isSome := by
  show (l.map fun e => (ky e, (.held e : DataW En))).any (fun p => p.1.sameKey (.string k)) = _
  unfold look
  induction l with
  | nil => rfl
  | cons e l ih =>
    rw [List.map_cons, List.any_cons, List.find?_cons, show (ky e).sameKey (.string k) = (L e.key == k) from rfl, ih]
    cases (L e.key == k) <;> rfl
theorem look_key {k : B} {l : List En} {e : En} (h : look k l = some e) : L e.key = k := by
  have := List.find?_some h
  simpa using this
theorem look_mem {k : B} {l : List En} {e : En} (h : look k l = some e) : e ∈ l := List.mem_of_find?_eq_some h
theorem K9 : Maps.Keyed Tryd.prog 9 := Maps.string_keyed Tryd.underlying9
theorem key9 (s : ByteArray) (h : s.size ≤ 140737488355328) : keyOf Tryd.prog 9 (.string s) = some (.string (L s)) := WideMaps.keyOf_string_mk (P := Tryd.prog) Tryd.underlying9 (by unfold maxLen; omega)
theorem under63 : Tryd.prog.underlying 63 = some (.map 9 49) := by kernel_rfl
theorem zero49 (w : World) : (zeroValue 49).run Tryd.prog w = .ok (.agg e0.cs.toArray) w := by kernel_rfl
/-- The map in block b is that list. -/
def IsMp (w : World) (b n : Nat) (l : List En) : Prop := w.ownsMap Tryd.prog 9 rdE b n (dm l)
/-- 'v, ok := m[k]'. -/
def got (l : List En) (k : B) : En := (look k l).getD e0
theorem IsMp.look {w : World} {b n : Nat} {l : List En} (h : IsMp w b n l) (k : ByteArray) (hk : k.size ≤ 140737488355328) : (Instr.lookup 63 (.map (some b)) (.string k) true).run Tryd.prog w = .ok (.tuple #[.agg (got l (L k)).cs.toArray, .bool (look (L k) l).isSome]) w := by
  obtain ⟨v, ps, hr, hv⟩ := World.ownsMap.look_ok h K9 under63 (zero49 w) (rdE_v e0) (key9 k hk)
  rw [dm_at] at hv
  rw [dm_has] at hr
  obtain ⟨e, rfl, he⟩ := rdE_inv hv
  rw [hr]
  have : got l (L k) = e := by
    unfold got
    have he' := congrArg Prod.fst he
    cases hl : YtpkmfckifnomeaaDoor.look (L k) l with
    | none => simp only [hl] at he'; exact DataW.held.inj he'
    | some x => simp only [hl] at he'; exact DataW.held.inj he'
  rw [this]
theorem IsMp.fr {T : Nat × Nat → Prop} {w w' : World} {o o' : Nat → Nat × Nat} {b n : Nat} {l : List En} (h : IsMp w b n l) (f : Fr T o o' w w') (hb : ¬ T (o b)) : IsMp w' b n l := by
  have hl := World.ownsMap.lt h
  obtain ⟨es, clock, hb', F, hs, hD⟩ := h
  exact ⟨es, clock, (f.block b hl hb).trans hb', F, hs, hD⟩
theorem Fr.turned {T : Nat × Nat → Prop} {o : Nat → Nat × Nat} {w w' : World} {b : Nat} (h : w.mapTurned w' b) (hb : T (o b)) : Fr T o o w w' := by
  obtain ⟨es, clock, es', clock', hb', rfl⟩ := h
  exact ⟨rfl, rfl, rfl, by simp [setBlock], fun _ _ => rfl, fun c _ hc => heap_setBlock_other hb' _ (fun e => hc (by rw [e]; exact hb))⟩
theorem IsMp.del {w : World} {b n : Nat} {l : List En} {o : Nat → Nat × Nat} {t : Nat × Nat} (h : IsMp w b n l) (hb : o b = t) (k : ByteArray) (hk : k.size ≤ 140737488355328) (ty : TypeId) : ∃ w', (Builtin.delete_ #[63, 9] ty #[.map (some b), .string k]).run Tryd.prog w = .ok (.tuple #[]) w' ∧ IsMp w' b n (YtpkmfckifnomeaaDoor.del (L k) l) ∧ Fr (· = t) o o w w' ∧ w.mapTurned w' b := by
  obtain ⟨w', hr, h', ht⟩ := World.ownsMap.drop h K9 under63 (key9 k hk) ty
  rw [dm_del] at h'
  exact ⟨w', hr, h', Fr.turned ht hb, ht⟩
theorem IsMp.put {w : World} {b n : Nat} {l : List En} {o : Nat → Nat × Nat} {t : Nat × Nat} (h : IsMp w b n l) (hb : o b = t) (hn : n < 1000000) (e : En) (hk : e.key.size ≤ 140737488355328) : ∃ w', (Instr.mapUpdate 63 (.map (some b)) (.string e.key) (.agg e.cs.toArray)).run Tryd.prog w = .ok () w' ∧ IsMp w' b (n + 1) (YtpkmfckifnomeaaDoor.put e l) ∧ Fr (· = t) o o w w' ∧ w.mapTurned w' b := by
  obtain ⟨w', hr, h', ht⟩ := World.ownsMap.store h K9 under63 (by unfold maxLen; omega) (key9 e.key hk) (rdE_v e)
  rw [show (Lit.string (L e.key)) = ky e from rfl, dm_put] at h'
  exact ⟨w', hr, h', Fr.turned ht hb, ht⟩
theorem IsMp.new (w : World) : IsMp (w.alloc (.map #[] 0)) w.heap.size 0 [] := World.ownsMap_made w Tryd.prog 9 rdE
theorem IsMp.mono {w : World} {b n m : Nat} {l : List En} (h : IsMp w b n l) (hn : n ≤ m) : IsMp w b m l := World.ownsMap.mono h hn

/-- The model of the owner x at block P: its map holds l. -/
structure IsM (w : World) (o : Nat → Nat × Nat) (x P b n : Nat) (l : List En) : Prop where
  cell : w.cell? ⟨P, 0, none⟩ = some (.map (some b))
  fz : w.frozen? ⟨P, 0, none⟩ = false
  mP : o P = (x, 0)
  mb : o b = (x, 1)
  mp : IsMp w b n l
  lt : P < w.heap.size
theorem IsM.fr {T : Nat × Nat → Prop} {w w' : World} {o o' : Nat → Nat × Nat} {x P b n : Nat} {l : List En} (h : IsM w o x P b n l) (f : Fr T o o' w w') (h0 : ¬ T (x, 0)) (h1 : ¬ T (x, 1)) : IsM w' o' x P b n l := by
  have hlb := World.ownsMap.lt h.mp
  exact ⟨f.cell h.cell (by rw [h.mP]; exact h0), (f.frozen h.lt (by rw [h.mP]; exact h0)).trans h.fz, (f.lab P h.lt).trans h.mP, (f.lab b hlb).trans h.mb, h.mp.fr f (by rw [h.mb]; exact h1), Nat.lt_of_lt_of_le h.lt f.size⟩
theorem IsM.below {w w' : World} {o : Nat → Nat × Nat} {x P b n : Nat} {l : List En} (h : IsM w o x P b n l) (f : Below w.heap.size w w') : IsM w' o x P b n l := h.fr (Fr.ofBelow (fun _ => False) o f) id id
theorem turned_at {w w' : World} {b c : Nat} (h : w.mapTurned w' b) (hc : c ≠ b) : w'.heap[c]? = w.heap[c]? := by
  obtain ⟨es, clock, es', clock', hb, rfl⟩ := h
  exact heap_setBlock_other hb _ hc
theorem turned_range {w w' : World} {b c : Nat} {cs : List Value} (h : w.mapTurned w' b) (hc : c ≠ b) (hr : w.rangeAt c 0 cs) : w'.rangeAt c 0 cs := fun j v hv => (World.cell?_of_block (a := ⟨c, 0 + j, none⟩) (turned_at h hc)).trans (hr j v hv)
theorem turned_there {w w' : World} {b c n : Nat} (h : w.mapTurned w' b) (hc : c ≠ b) (hr : w.there c 0 n) : w'.there c 0 n := fun j hj => by
  rw [World.cell?_of_block (a := ⟨c, 0 + j, none⟩) (turned_at h hc), World.frozen?_of_block (a := ⟨c, 0 + j, none⟩) (turned_at h hc)]
  exact hr j hj
theorem heap_setCells_other {g c : Nat} (hc : c ≠ g) : ∀ (cs : List Value) (off : Nat) (w : World), (w.setCells g off cs).heap[c]? = w.heap[c]?
  | [], _, _ => rfl
  | v :: vs, off, w => by
    show ((w.setCell ⟨g, off, none⟩ v).setCells g (off + 1) vs).heap[c]? = _
    rw [heap_setCells_other hc vs (off + 1)]
    exact Below.heap_setCell _ _ _ _ hc
theorem IsM.same {w w' : World} {o : Nat → Nat × Nat} {x P b n : Nat} {l : List En} (h : IsM w o x P b n l) (h1 : w'.heap[P]? = w.heap[P]?) (h2 : w'.heap[b]? = w.heap[b]?) (hs : w.heap.size ≤ w'.heap.size) : IsM w' o x P b n l := by
  refine ⟨(World.cell?_of_block (a := ⟨P, 0, none⟩) h1).trans h.cell, (World.frozen?_of_block (a := ⟨P, 0, none⟩) h1).trans h.fz, h.mP, h.mb, ?_, Nat.lt_of_lt_of_le h.lt hs⟩
  obtain ⟨es, clock, hb, F, hn, hD⟩ := h.mp
  exact ⟨es, clock, h2.trans hb, F, hn, hD⟩
theorem IsM.drew {w : World} {o : Nat → Nat × Nat} {x P b n : Nat} {l : List En} (h : IsM w o x P b n l) : IsM w.drew o x P b n l := ⟨h.cell, h.fz, h.mP, h.mb, h.mp, h.lt⟩
theorem IsM.ne {w : World} {o : Nat → Nat × Nat} {x P b n : Nat} {l : List En} (h : IsM w o x P b n l) : P ≠ b := fun e => by have := h.mP; rw [e, h.mb] at this; cases this
theorem IsM.ltb {w : World} {o : Nat → Nat × Nat} {x P b n : Nat} {l : List En} (h : IsM w o x P b n l) : b < w.heap.size := World.ownsMap.lt h.mp
theorem IsM.turn {w w' : World} {o : Nat → Nat × Nat} {x P b n m : Nat} {l l' : List En} (h : IsM w o x P b n l) (ht : w.mapTurned w' b) (h' : IsMp w' b m l') : IsM w' o x P b m l' :=
  ⟨(World.cell?_of_block (a := ⟨P, 0, none⟩) (turned_at ht h.ne)).trans h.cell, (World.frozen?_of_block (a := ⟨P, 0, none⟩) (turned_at ht h.ne)).trans h.fz, h.mP, h.mb, h', Nat.lt_of_lt_of_le h.lt ht.grown.size⟩
theorem Fr.setsNew {T : Nat × Nat → Prop} {o o' : Nat → Nat × Nat} {w0 w : World} (h : Fr T o o' w0 w) {g : Nat} (hg : w0.heap.size ≤ g) : ∀ (vs : List Value) (off : Nat), Fr T o o' w0 (w.setCells g off vs) := fun vs => by
  induction vs generalizing w with
  | nil => intro off; exact h
  | cons v vs ih => intro off; exact ih (h.setNew (a := ⟨g, off, none⟩) hg v) (off + 1)
/-- The parts of the owner x. -/
def TX (x : Nat) (t : Nat × Nat) : Prop := t.1 = x
end Go.Proofs.YtpkmfckifnomeaaDoor


namespace Go.Proofs.YtpkmfckifnomeaaDoor
open Go.RowKit


/-- What is told of a key: its entry, if there is one that lives; else the key alone. -/
def liv (l : List En) (k : ByteArray) (now : Int) : En × Bool := if (look (L k) l).isSome && lv (got l (L k)).dl now then (got l (L k), true) else (⟨k, 0, 0, ⟨#[]⟩, 0⟩, false)
set_option maxRecDepth 100000 in
set_option maxHeartbeats 1000000 in
theorem new_any (x : Nat) (o : Nat → Nat × Nat) (w : World) : Calls Tryd.prog 9 #[] w fun e w' => ∃ P b o', e = .returned (.pointer (some ⟨P, 0, none⟩)) ∧ IsM w' o' x P b 0 [] ∧ Fr (fun _ => False) o o' w w' := by
  have mm : (Instr.makeMap 63 none).run Tryd.prog w = .ok (.map (some w.heap.size)) (w.alloc (.map #[] 0)) := run_makeMap 63 w
  have H : Hid (∃ P b o', (Ending.returned (.pointer (some ⟨w.heap.size + 1, 0, none⟩)) = .returned (.pointer (some ⟨P, 0, none⟩))) ∧ IsM ((w.alloc (.map #[] 0)).alloc (.cells #[.map (some w.heap.size)] 65)) o' x P b 0 [] ∧ Fr (fun _ => False) o o' w ((w.alloc (.map #[] 0)).alloc (.cells #[.map (some w.heap.size)] 65))) := Lib.hid (by
    have f1 : Fr (fun _ => False) o (lab o w.heap.size (x, 1)) w (w.alloc (.map #[] 0)) := Fr.new _ o w _ (x, 1)
    have f2 : Fr (fun _ => False) (lab o w.heap.size (x, 1)) (lab (lab o w.heap.size (x, 1)) (w.heap.size + 1) (x, 0)) (w.alloc (.map #[] 0)) ((w.alloc (.map #[] 0)).alloc (.cells #[.map (some w.heap.size)] 65)) := by
      have := Fr.new (fun _ => False) (lab o w.heap.size (x, 1)) (w.alloc (.map #[] 0)) (.cells #[.map (some w.heap.size)] 65) (x, 0)
      rwa [World.size_alloc] at this
    have c := World.cell?_alloc_new (w.alloc (.map #[] 0)) #[.map (some w.heap.size)] 65 0
    have z := World.frozen?_alloc_new (w.alloc (.map #[] 0)) #[.map (some w.heap.size)] 65 0
    rw [World.size_alloc] at c z
    refine ⟨w.heap.size + 1, w.heap.size, _, rfl, ⟨c, z, lab_same _ _ _, ?_, (IsMp.new w).fr f2 id, by simp⟩, f1.trans f2⟩
    rw [lab_other _ _ _ (by omega)]; exact lab_same _ _ _)
  go_enter Tryd.func9, Tryd.ntmps9
  go_wp2_with fail
  go_ret
  exact H.out
set_option maxRecDepth 100000 in
set_option maxHeartbeats 1000000 in
theorem twin_any (x y : Nat) {o : Nat → Nat × Nat} {P b n : Nat} {l : List En} (w : World) (h : IsM w o x P b n l) : Calls Tryd.prog 13 #[.pointer (some ⟨P, 0, none⟩)] w fun e w' => ∃ P' b' o', e = .returned (.pointer (some ⟨P', 0, none⟩)) ∧ IsM w' o' y P' b' n l ∧ Fr (fun _ => False) o o' w w' := by
  have c0 := h.cell
  have HM := Lib.hid h.mp
  clear h
  have CL := Lib.hid (AnyW.maps_Clone_owns Tryd.cloneM 9 rdE b n (dm l) w HM.out)
  have CL2 : Hid (Calls Tryd.prog 26 #[.map (some b)] w fun e w' => e = .returned (.map (some w.heap.size)) ∧ IsMp w' w.heap.size n l ∧ Below w.heap.size w w') := Lib.hid (CL.out.mono fun e w' hh => ⟨hh.1, hh.2.1, hh.2.2.2⟩)
  clear CL HM
  go_enter Tryd.func13, Tryd.ntmps13
  go_wp2_with fail
  refine CL2.out.mono ?_
  rintro e w1 ⟨rfl, h1, b1⟩
  have H : Hid (∃ P' b' o', (Ending.returned (.pointer (some ⟨w1.heap.size, 0, none⟩)) = .returned (.pointer (some ⟨P', 0, none⟩))) ∧ IsM (w1.alloc (.cells #[.map (some w.heap.size)] 65)) o' y P' b' n l ∧ Fr (fun _ => False) o o' w (w1.alloc (.cells #[.map (some w.heap.size)] 65))) := Lib.hid (by
    have hlt := World.ownsMap.lt h1
    have f1 : Fr (fun _ => False) o (lab o w.heap.size (y, 1)) w w1 := ⟨b1.os, b1.tape, b1.output, b1.size, fun c hc => lab_other _ _ _ (by omega), fun c hc _ => b1.block c hc⟩
    have f2 := Fr.new (fun _ => False) (lab o w.heap.size (y, 1)) w1 (.cells #[.map (some w.heap.size)] 65) (y, 0)
    refine ⟨w1.heap.size, w.heap.size, _, rfl, ⟨World.cell?_alloc_new _ _ _ _, World.frozen?_alloc_new _ _ _ _, lab_same _ _ _, ?_, h1.fr f2 id, by simp⟩, f1.trans f2⟩
    rw [lab_other _ _ _ (by omega)]; exact lab_same _ _ _)
  clear h1 b1 CL2
  go_wp2_with fail
  go_ret
  exact H.out
set_option maxRecDepth 100000 in
set_option maxHeartbeats 1000000 in
theorem forget_any (x : Nat) {o : Nat → Nat × Nat} {P b n : Nat} {l : List En} (k : ByteArray) (hk : k.size ≤ 140737488355328) (w : World) (h : IsM w o x P b n l) : Calls Tryd.prog 14 #[.pointer (some ⟨P, 0, none⟩), .string k] w fun e w' => e = .returned (.bool (look (L k) l).isSome) ∧ IsM w' o x P b n (del (L k) l) ∧ Fr (TX x) o o w w' := by
  have c0 := h.cell
  have lk := h.mp.look k hk
  obtain ⟨G, hG⟩ : ∃ G, (got l (L k)) = G := ⟨_, rfl⟩
  obtain ⟨t, ht⟩ : ∃ t, (look (L k) l).isSome = t := ⟨_, rfl⟩
  rw [hG, ht] at lk
  rw [ht]
  clear hG ht
  have f1 := Fr.alloc (fun _ => False) o w (.cells #[.string G.key, .int .i64 G.fl, .int .i64 G.dl, .string G.val, .int .i64 G.cas] 49)
  have h1 := h.fr f1 id id
  have lk' : (Instr.lookup 63 (.map (some b)) (.string k) true).run Tryd.prog w = .ok (.tuple #[.agg #[.string G.key, .int .i64 G.fl, .int .i64 G.dl, .string G.val, .int .i64 G.cas], .bool t]) w := lk
  obtain ⟨w2, rd, h2, f2, -⟩ := h1.mp.del (o := o) h1.mb k hk 0
  have c1 := h1.cell
  have H : Hid (IsM w2 o x P b n (del (L k) l) ∧ Fr (TX x) o o w w2) := Lib.hid (by
    have hlb := World.ownsMap.lt h1.mp
    refine ⟨⟨f2.cell h1.cell (by rw [h1.mP]; exact fun e => by cases e), (f2.frozen h1.lt (by rw [h1.mP]; exact fun e => by cases e)).trans h1.fz, h1.mP, h1.mb, h2, Nat.lt_of_lt_of_le h1.lt f2.size⟩, (f1.mono (fun _ h => h.elim)).trans (f2.mono (fun t e => by show t.1 = x; rw [e]))⟩)
  clear lk h h1 f1 f2 h2
  go_enter Tryd.func14, Tryd.ntmps14
  go_wp2_with fail
  go_ret
  exact ⟨rfl, H.out⟩
set_option maxRecDepth 100000 in
set_option maxHeartbeats 1000000 in
theorem living_any (x : Nat) {o : Nat → Nat × Nat} {P b n : Nat} {l : List En} (k : ByteArray) (hk : k.size ≤ 140737488355328) (now : Int) (w : World) (h : IsM w o x P b n l) : Calls Tryd.prog 46 #[.pointer (some ⟨P, 0, none⟩), .string k, .int .i64 now] w fun e w' => e = .returned (.tuple #[.agg (liv l k now).1.cs.toArray, .bool (liv l k now).2]) ∧ Below w.heap.size w w' := by
  have c0 := h.cell
  have lk := h.mp.look k hk
  have HLV : Hid (liv l k now = if (look (L k) l).isSome && lv (got l (L k)).dl now then (got l (L k), true) else (⟨k, 0, 0, ⟨#[]⟩, 0⟩, false)) := Lib.hid rfl
  obtain ⟨G, hG⟩ : ∃ G, (got l (L k)) = G := ⟨_, rfl⟩
  obtain ⟨t, ht⟩ : ∃ t, (look (L k) l).isSome = t := ⟨_, rfl⟩
  rw [hG, ht] at lk HLV
  rw [HLV.out]
  have lk' : (Instr.lookup 63 (.map (some b)) (.string k) true).run Tryd.prog (w.alloc (.cells #[.string ⟨#[]⟩, .int .i64 0, .int .i64 0, .string ⟨#[]⟩, .int .i64 0] 49)) = .ok (.tuple #[.agg #[.string G.key, .int .i64 G.fl, .int .i64 G.dl, .string G.val, .int .i64 G.cas], .bool t]) (w.alloc (.cells #[.string ⟨#[]⟩, .int .i64 0, .int .i64 0, .string ⟨#[]⟩, .int .i64 0] 49)) := by
    have := (h.fr (Fr.alloc (fun _ => False) o w (.cells #[.string ⟨#[]⟩, .int .i64 0, .int .i64 0, .string ⟨#[]⟩, .int .i64 0] 49)) id id).mp.look k hk
    rw [hG, ht] at this
    exact this
  have c1 := (h.fr (Fr.alloc (fun _ => False) o w (.cells #[.string ⟨#[]⟩, .int .i64 0, .int .i64 0, .string ⟨#[]⟩, .int .i64 0] 49)) id id).cell
  clear hG ht HLV lk h
  obtain ⟨lb, hlb⟩ : ∃ lb, lv G.dl now = lb := ⟨_, rfl⟩
  have LC := Lib.hid (live_c G.dl now lb hlb)
  rw [hlb]
  clear hlb
  cases t with
  | false =>
    rw [show (false && lb) = false by cases lb <;> rfl]
    go_enter Tryd.func46, Tryd.ntmps46
    go_wp2_with fail
    refine bodyPost_ret (v := .tuple #[.agg #[.string k, .int .i64 0, .int .i64 0, .string ⟨#[]⟩, .int .i64 0], .bool false]) (by simp [results, Tryd.results46]; go_simp) rfl ?_
    exact ⟨rfl, (below_alloc w _).trans ((below_alloc _ _).mono (by simp))⟩
  | true =>
    cases lb with
    | false =>
      go_enter Tryd.func46, Tryd.ntmps46
      go_wp2_with fail
      refine (LC.out _).mono ?_
      rintro e w1 ⟨rfl, rfl⟩
      go_wp2_with fail
      refine bodyPost_ret (v := .tuple #[.agg #[.string k, .int .i64 0, .int .i64 0, .string ⟨#[]⟩, .int .i64 0], .bool false]) (by simp [results, Tryd.results46]; go_simp) rfl ?_
      exact ⟨rfl, (below_alloc w _).trans ((below_alloc _ _).mono (by simp))⟩
    | true =>
      go_enter Tryd.func46, Tryd.ntmps46
      go_wp2_with fail
      refine (LC.out _).mono ?_
      rintro e w1 ⟨rfl, rfl⟩
      go_wp2_with fail
      refine bodyPost_ret (v := .tuple #[.agg #[.string G.key, .int .i64 G.fl, .int .i64 G.dl, .string G.val, .int .i64 G.cas], .bool true]) (by simp [results, Tryd.results46]; go_simp) rfl ?_
      exact ⟨rfl, (below_alloc w _).trans ((below_alloc _ _).mono (by simp))⟩
end Go.Proofs.YtpkmfckifnomeaaDoor
