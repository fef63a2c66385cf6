/-
  FRAMES: as cells, as lists of cells, held against each other; of, Within, Same; rows of numbers that came in.
-/
import Derived.Test.YtgbjohipijpimaaMem
import Derived.Laws.Rows
import Derived.Laws.StructEq
namespace Go.Proofs.Ytgbjohipijpimaa
open Go.RowKit

/-- A frame. -/
structure F where
  kind : Int
  slot : Int
  inc : Int
  rid : Int
  floor : Int
  role : Int
  key : ByteArray
  ver : Int
  data : ByteArray
def F.cs (f : F) : List Value := [.int .i64 f.kind, .int .i64 f.slot, .int .i64 f.inc, .int .i64 f.rid, .int .i64 f.floor, .int .i64 f.role, .string f.key, .int .i64 f.ver, .string f.data]
def F.v (f : F) : Value := .agg f.cs.toArray
/-- No frame. -/
def Z : F := ⟨0, 0, 0, 0, 0, 0, ⟨#[]⟩, 0, ⟨#[]⟩⟩
/-- A frame of a number. -/
def fo (n : Int) : F := ⟨0, 0, 0, n, 0, 0, ⟨#[]⟩, 0, ⟨#[]⟩⟩
theorem cs_one (f : F) : ∀ u ∈ f.cs, u.oneCell' = true := fun u hf => by
  simp [F.cs] at hf
  rcases hf with h | h | h | h | h | h | h | h | h <;> rw [h] <;> rfl
theorem under26 : Try.prog.underlying 26 = some (.struct (Try.prog.fieldsOf 26)) := by kernel_rfl
theorem under32 : Try.prog.underlying 32 = some (.slice 26) := by kernel_rfl
theorem under44 : Try.prog.underlying 44 = some (.slice 3) := by kernel_rfl
theorem info26 : (Try.prog.info? 26).map (fun i => (i.zero, i.size, i.bytes)) = some (some Z.v, 9, 88) := by kernel_rfl
theorem cells26 : (Z.v).cells.size = 9 := by kernel_rfl
theorem stood26 : Try.prog.stoodInHeld 26 = false := by kernel_rfl
theorem fields26 : (Try.prog.fieldsOf 26).toList.map (fun f => (f.name, f.type, f.offset)) = [("Kind", 3, 0), ("Slot", 3, 1), ("Inc", 3, 2), ("Rid", 3, 3), ("Floor", 3, 4), ("Role", 3, 5), ("Key", 9, 6), ("Version", 3, 7), ("Data", 9, 8)] := by kernel_rfl
theorem part1 (w : World) (t : TypeId) (ht : Try.prog.underlying t = some (.int .i64) ∨ Try.prog.underlying t = some .string) (xs : Array Value) (i : Nat) (v : Value) (hv : xs[i]? = some v) : (part t xs i).run Try.prog w = .ok v w := by
  rcases ht with ht | ht <;> simp [part, isAgg, run_underlying ht, hv]
/-- Fields that are all the same. -/
theorem eq_fields (w : World) (d : Nat) (xs : Array Value) : ∀ (fs : List Field), (∀ f ∈ fs, (Try.prog.underlying f.type = some (.int .i64) ∧ ∃ z, xs[f.offset]? = some (.int .i64 z)) ∨ (Try.prog.underlying f.type = some .string ∧ ∃ s, xs[f.offset]? = some (.string s))) → (Op.eqFields (d + 1) xs xs fs).run Try.prog w = .ok true w
  | [], _ => by simp [Op.eqFields]
  | f :: fs, h => by
    have ih := eq_fields w d xs fs (fun g hg => h g (List.mem_cons_of_mem _ hg))
    unfold Op.eqFields
    split
    · rcases h f List.mem_cons_self with ⟨ht, z, hz⟩ | ⟨ht, s, hs⟩
      · have hp := part1 w f.type (.inl ht) xs f.offset _ hz
        have he : (Op.equalIn (d + 1) f.type (.int .i64 z) (.int .i64 z)).run Try.prog w = .ok true w := by simp [Op.equalIn, run_underlying ht]
        simp only [Sem.run_bind, hp, Result.andThen_ok, he, Bool.not_true, Bool.false_eq_true, if_false]
        exact ih
      · have hp := part1 w f.type (.inr ht) xs f.offset _ hs
        have he : (Op.equalIn (d + 1) f.type (.string s) (.string s)).run Try.prog w = .ok true w := by simp [Op.equalIn, run_underlying ht, beq_toListBytes]
        simp only [Sem.run_bind, hp, Result.andThen_ok, he, Bool.not_true, Bool.false_eq_true, if_false]
        exact ih
    · exact ih
theorem eq26 (w : World) (d : Nat) (f : F) : (Op.equalIn (d + 1 + 1) 26 f.v f.v).run Try.prog w = .ok true w := by
  show (Op.equalIn (d + 1 + 1) 26 (.agg f.cs.toArray) (.agg f.cs.toArray)).run Try.prog w = .ok true w
  rw [run_equalIn_struct w (d + 1) 26 _ _ under26 stood26]
  refine eq_fields w d _ _ (fun g hg => ?_)
  have hm : (g.name, g.type, g.offset) ∈ (Try.prog.fieldsOf 26).toList.map (fun f => (f.name, f.type, f.offset)) := List.mem_map_of_mem hg
  rw [fields26] at hm
  have e3 : Try.prog.underlying 3 = some (.int .i64) := Try.underlying3
  have e9 : Try.prog.underlying 9 = some .string := Try.underlying9
  simp only [List.mem_cons, List.not_mem_nil, or_false, Prod.mk.injEq] at hm
  rcases hm with ⟨_, t, o⟩ | ⟨_, t, o⟩ | ⟨_, t, o⟩ | ⟨_, t, o⟩ | ⟨_, t, o⟩ | ⟨_, t, o⟩ | ⟨_, t, o⟩ | ⟨_, t, o⟩ | ⟨_, t, o⟩ <;> rw [t, o]
  · exact .inl ⟨e3, _, rfl⟩
  · exact .inl ⟨e3, _, rfl⟩
  · exact .inl ⟨e3, _, rfl⟩
  · exact .inl ⟨e3, _, rfl⟩
  · exact .inl ⟨e3, _, rfl⟩
  · exact .inl ⟨e3, _, rfl⟩
  · exact .inr ⟨e9, _, rfl⟩
  · exact .inl ⟨e3, _, rfl⟩
  · exact .inr ⟨e9, _, rfl⟩
theorem eqg26 : Try.prog.eqGuardType Try.prog.depth 26 = false := by kernel_rfl
/-- '!=' of a frame and itself. -/
theorem neq26 (w : World) (f : F) : (binOp .neq 26 f.v f.v).run Try.prog w = .ok (.bool false) w := by
  have h : (Op.equal 26 f.v f.v).run Try.prog w = .ok true w := by
    unfold Op.equal
    exact eq26 w _ f
  have e : (binOp .neq 26 f.v f.v) = (do pure (.bool (!(← Op.equal 26 f.v f.v)))) := rfl
  rw [e]
  simp only [Sem.run_bind, h, Result.andThen_ok, Sem.run_pure, Bool.not_true]
/-- '==' of a frame and itself. -/
theorem eql26 (w : World) (f : F) : (binOp .eql 26 f.v f.v).run Try.prog w = .ok (.bool true) w := by
  have h : (Op.equal 26 f.v f.v).run Try.prog w = .ok true w := by
    unfold Op.equal
    exact eq26 w _ f
  have e : (binOp .eql 26 f.v f.v) = (do pure (.bool (← Op.equal 26 f.v f.v))) := rfl
  rw [e]
  simp only [Sem.run_bind, h, Result.andThen_ok, Sem.run_pure]
/-- Frames as cells. -/
def fc (l : List F) : List Value := l.flatMap F.cs
theorem fc_nil : fc [] = [] := rfl
theorem fc_length (l : List F) : (fc l).length = l.length * 9 := by
  induction l with
  | nil => rfl
  | cons f l ih => simp only [fc, List.flatMap_cons, List.length_append] at ih ⊢; rw [ih]; simp [F.cs]; omega
theorem fc_append (l m : List F) : fc (l ++ m) = fc l ++ fc m := by simp [fc]
theorem fc_single (f : F) : fc [f] = f.cs := by simp [fc]
theorem fc_at (l : List F) {j : Nat} {f : F} (h : l[j]? = some f) (i : Nat) (hi : i < 9) : (fc l)[j * 9 + i]? = f.cs[i]? := by
  induction l generalizing j with
  | nil => cases h
  | cons g l ih =>
    cases j with
    | zero =>
      simp only [List.getElem?_cons_zero, Option.some.injEq] at h
      subst h
      rw [Nat.zero_mul, Nat.zero_add]
      show (g.cs ++ fc l)[i]? = _
      rw [List.getElem?_append_left (by simp [F.cs]; omega)]
    | succ j =>
      rw [List.getElem?_cons_succ] at h
      show (g.cs ++ fc l)[(j + 1) * 9 + i]? = _
      rw [List.getElem?_append_right (by simp [F.cs]; omega), show (j + 1) * 9 + i - g.cs.length = j * 9 + i by simp [F.cs]; omega]
      exact ih h
theorem fc_one (l : List F) : ∀ u ∈ fc l, u.oneCell' = true := fun u hu => by
  obtain ⟨f, _, hf⟩ := List.mem_flatMap.1 hu
  exact cs_one f u hf
theorem fc_take (l : List F) (k : Nat) : (fc l).take (k * 9) = fc (l.take k) := by
  induction l generalizing k with
  | nil => simp [fc]
  | cons f l ih =>
    cases k with
    | zero => simp [fc]
    | succ k =>
      show (f.cs ++ fc l).take ((k + 1) * 9) = f.cs ++ fc (l.take k)
      rw [show (k + 1) * 9 = f.cs.length + k * 9 by simp [F.cs]; omega, List.take_length_add_append, ih]
theorem fc_drop (l : List F) (k : Nat) : (fc l).drop (k * 9) = fc (l.drop k) := by
  induction l generalizing k with
  | nil => simp [fc]
  | cons f l ih =>
    cases k with
    | zero => simp [fc]
    | succ k =>
      show (f.cs ++ fc l).drop ((k + 1) * 9) = fc (l.drop k)
      rw [show (k + 1) * 9 = f.cs.length + k * 9 by simp [F.cs]; omega, List.drop_length_add_append, ih]
/-- The list without its k-th. -/
def out (l : List F) (k : Nat) : List F := l.take k ++ l.drop (k + 1)
theorem out_length {l : List F} {k : Nat} (h : k < l.length) : (out l k).length = l.length - 1 := by
  unfold out; rw [List.length_append, List.length_take, List.length_drop]; omega
theorem fc_out (l : List F) (k : Nat) : (fc l).take (k * 9) ++ (fc l).drop ((k + 1) * 9) = fc (out l k) := by
  rw [fc_take, fc_drop, ← fc_append]; rfl
/-- Nine cells of a frame. -/
def FrmAt (w : World) (g off : Nat) (f : F) : Prop := ∀ j u, f.cs[j]? = some u → w.cell? ⟨g, off + j, none⟩ = some u
theorem FrmAt.cells {w : World} {g off : Nat} {f : F} (h : FrmAt w g off f) : w.cell? ⟨g, off, none⟩ = some (.int .i64 f.kind) ∧ w.cell? ⟨g, off + 1, none⟩ = some (.int .i64 f.slot) ∧ w.cell? ⟨g, off + 2, none⟩ = some (.int .i64 f.inc) ∧ w.cell? ⟨g, off + 3, none⟩ = some (.int .i64 f.rid) ∧ w.cell? ⟨g, off + 4, none⟩ = some (.int .i64 f.floor) ∧ w.cell? ⟨g, off + 5, none⟩ = some (.int .i64 f.role) ∧ w.cell? ⟨g, off + 6, none⟩ = some (.string f.key) ∧ w.cell? ⟨g, off + 7, none⟩ = some (.int .i64 f.ver) ∧ w.cell? ⟨g, off + 8, none⟩ = some (.string f.data) :=
  ⟨h 0 _ rfl, h 1 _ rfl, h 2 _ rfl, h 3 _ rfl, h 4 _ rfl, h 5 _ rfl, h 6 _ rfl, h 7 _ rfl, h 8 _ rfl⟩
theorem FrmAt.fr {T : Nat × Nat → Prop} {w w' : World} {o o' : Nat → Nat × Nat} {g off : Nat} {f : F} (h : FrmAt w g off f) (x : Fr T o o' w w') (ht : ¬ T (o g)) : FrmAt w' g off f := fun j u hu => x.cell (h j u hu) ht
theorem FrmAt.below {w w' : World} {g off : Nat} {f : F} (h : FrmAt w g off f) (b : Below w.heap.size w w') : FrmAt w' g off f := fun j u hu => (Fr.ofBelow (fun _ => False) (fun _ => (0, 0)) b).cell (h j u hu) id
theorem FrmAt.new (w : World) (f : F) (e : TypeId) : FrmAt (w.alloc (.cells f.cs.toArray e)) w.heap.size 0 f := fun j u hu => by
  rw [Nat.zero_add, World.cell?_alloc_new, List.getElem?_toArray]; exact hu
theorem OwnK.frame {w : World} {o : Nat → Nat × Nat} {t : Nat × Nat} {a : Option Addr} {n c : Nat} {l : List F} (h : OwnK w o t 9 (.slice a n c) n (fc l)) {k : Nat} {f : F} (hf : l[k]? = some f) : ∃ g, a = some ⟨g, 0, none⟩ ∧ k < n ∧ o g = t ∧ FrmAt w g (k * 9) f := by
  have hl := h.1
  have hk := (List.getElem?_eq_some_iff.1 hf).1
  rw [fc_length] at hl
  obtain ⟨g, cap, e, h2, h3, h4, h5, h6, h7⟩ := h.there (by omega)
  injection e with e1
  refine ⟨g, e1, by omega, h2, fun j u hu => h6 _ _ ?_⟩
  have hj := (List.getElem?_eq_some_iff.1 hu).1
  rw [fc_at l hf j (by simpa [F.cs] using hj)]
  exact hu
set_option maxRecDepth 100000 in
theorem of_any (n : Int) (w : World) : Calls Try.prog 9 #[.int .i64 n] w fun e w' => e = .returned (fo n).v ∧ ∃ ob, w' = w.alloc ob := by
  simp only [fo, F.v, F.cs]
  go_enter Try.func9, Try.ntmps9
  go_wp2_with fail
  refine bodyPost_ret (v := .agg #[.int .i64 0, .int .i64 0, .int .i64 0, .int .i64 n, .int .i64 0, .int .i64 0, .string ⟨#[]⟩, .int .i64 0, .string ⟨#[]⟩]) (by simp [results, Try.results9]; go_simp) rfl ?_
  exact ⟨rfl, _, rfl⟩
/-- Numbers that came in lie at a. -/
def IntsF (w : World) (a : Option Addr) (q : Nat → Int) (n : Nat) : Prop := n = 0 ∨ ∃ p off, a = some ⟨p, off, none⟩ ∧ ∀ i, i < n → w.cell? ⟨p, off + i, none⟩ = some (.int .i64 (q i))
theorem tmod_bd (n : Int) (h : Nat) : -((h : Int) + 1) < n.tmod ((h : Int) + 1) ∧ n.tmod ((h : Int) + 1) < (h : Int) + 1 := by
  have h1 := Int.tmod_lt_of_pos n (show (0 : Int) < (h : Int) + 1 by omega)
  have h2 := Int.lt_tmod_of_pos n (show (0 : Int) < (h : Int) + 1 by omega)
  exact ⟨h2, h1⟩
/-- What Within answers. -/
def wi (n L H : Int) : Int := let q := n.tmod (H - L + 1); if q < 0 then L + (q + H - L + 1) else L + q
theorem wi_bd (n L H : Int) (hLH : L ≤ H) : L ≤ wi n L H ∧ wi n L H ≤ H := by
  obtain ⟨d, hd⟩ : ∃ d : Nat, H - L = (d : Int) := ⟨(H - L).toNat, by omega⟩
  obtain ⟨q1, q2⟩ := tmod_bd n d
  unfold wi
  rw [hd]
  simp only
  split <;> omega
set_option maxRecDepth 100000 in
set_option maxHeartbeats 400000 in
/-- Within: a number of the bounds. -/
theorem within_any (n L H : Int) (hL : -1000 ≤ L) (hLH : L ≤ H) (hH : H ≤ 100000000) (w : World) :
    Calls Try.prog 18 #[.int .i64 n, .int .i64 L, .int .i64 H] w fun e w' => e = .returned (.int .i64 (wi n L H)) ∧ w = w' := by
  obtain ⟨d, hd⟩ : ∃ d : Nat, H - L = (d : Int) := ⟨(H - L).toNat, by omega⟩
  have hHL : H = L + (d : Int) := by omega
  subst hHL
  obtain ⟨q1, q2⟩ := tmod_bd n d
  have HWI : Hid (wi n L (L + (d : Int)) = if n.tmod ((d : Int) + 1) < 0 then L + (n.tmod ((d : Int) + 1) + (L + d) - L + 1) else L + n.tmod ((d : Int) + 1)) := by
    show _ = _; unfold wi; rw [show L + (d : Int) - L + 1 = (d : Int) + 1 by omega]
  clear hd
  obtain ⟨q, hq⟩ : ∃ q, n.tmod ((d : Int) + 1) = q := ⟨_, rfl⟩
  rw [hq] at q1 q2 HWI
  have e1 : L + (d : Int) - L + 1 = (d : Int) + 1 := by omega
  have hne : ((d : Int) + 1 == 0) = false := by simp; omega
  have hne2 : ¬ ((d : Int) + 1 = -1) := by omega
  have hne3 : ¬ ((d : Int) + 1 = 0) := by omega
  by_cases q0 : q < 0
  · go_enter Try.func18, Try.ntmps18
    go_wp2
    go_ret
    exact ⟨ret_int (by rw [HWI.out, if_pos q0]), rfl⟩
  · go_enter Try.func18, Try.ntmps18
    go_wp2
    go_ret
    exact ⟨ret_int (by rw [HWI.out, if_neg (by omega)]), rfl⟩
set_option maxRecDepth 100000 in
set_option maxHeartbeats 1000000 in
/-- Same, of two lists of the same frames. -/
theorem same_any {o1 o2 : Nat → Nat × Nat} {t1 t2 : Nat × Nat} {a1 a2 : Option Addr} {c1 c2 : Nat} (l : List F) (n : Nat) (hn : n ≤ 1000000) (w : World) (h1 : OwnK w o1 t1 9 (.slice a1 n c1) n (fc l)) (h2 : OwnK w o2 t2 9 (.slice a2 n c2) n (fc l)) :
    Calls Try.prog 13 #[.slice a1 n c1, .slice a2 n c2] w fun e w' => e = .returned (.bool true) ∧ Below w.heap.size w w' := by
  have hl : n = l.length := by have := h1.1; rw [fc_length] at this; omega
  have H1 : Hid (OwnK w o1 t1 9 (.slice a1 n c1) n (fc l)) := h1
  have H2 : Hid (OwnK w o2 t2 9 (.slice a2 n c2) n (fc l)) := h2
  have HN : Hid (n = l.length) := hl
  have ne : ((n : Int) != (n : Int)) = false := by simp
  clear h1 h2 hl
  go_enter Try.func13, Try.ntmps13
  go_wp2_with fail
  go_loopw [5] (fun i wr => ∃ j m : Nat, j ≤ n ∧ i = .int .i64 (j : Int) ∧ Hid (wr = w.drewN m)) (fun i _ => n - (intOf i).toNat)
  case atStart => exact ⟨0, 0, by omega, rfl, rfl⟩
  case round =>
    obtain ⟨j, m, hj, rfl, HW⟩ := hrel
    by_cases hlt : j < n
    · obtain ⟨f, hf⟩ : ∃ f, l[j]? = some f := ⟨_, List.getElem?_eq_getElem (by rw [← HN.out]; exact hlt)⟩
      obtain ⟨g1, e1, _, _, d1⟩ := H1.out.frame hf
      obtain ⟨g2, e2, _, _, d2⟩ := H2.out.frame hf
      subst e1 e2
      have D1 : FrmAt wr g1 (j * 9) f := by rw [HW.out]; exact d1
      have D2 : FrmAt wr g2 (j * 9) f := by rw [HW.out]; exact d2
      obtain ⟨x0, x1, x2, x3, x4, x5, x6, x7, x8⟩ := D1.cells
      obtain ⟨y0, y1, y2, y3, y4, y5, y6, y7, y8⟩ := D2.cells
      have hi1 : (j : Int) < (n : Int) := by omega
      have hne := fun w => neq26 w f
      obtain ⟨p0, p1, p2, p3, p4, p5, p6, p7, p8⟩ := f
      simp only [F.v, F.cs] at hne
      clear d1 d2 hf D1 D2
      go_wp2_with fail
      go_quiet (fail)
      go_wp2_with fail
      exact ⟨⟨j + 1, m + nq, by omega, by go_num, by show _ = _; rw [HW.out, World.drewN_drewN]⟩, by simp [intOf]; omega⟩
    · go_wp2_with fail
      go_ret
      exact ⟨rfl, by rw [HW.out]; exact below_drewN (Below.refl _ _) m⟩
end Go.Proofs.Ytgbjohipijpimaa
