/-
  ENTRIES, ANSWERS, REQUESTS as cells; blocks of structs that are kept, stored, handed back.
-/
import Derived.Test.YtpkmfckifnomeaaDoorMem
import Derived.Test.YtpkmfckifnomeaaDoorFmt
import Derived.Test.YtpkmfckifnomeaaDoorWhen
import Derived.Test.YtpkmfckifnomeaaDoorShelf
import Derived.Deep.MidRow
import Derived.Deep.RegionHeld3
namespace Go.Proofs.YtpkmfckifnomeaaDoor
open Go.RowKit

theorem below_alloc (w : World) (ob : Obj) : Below w.heap.size w (w.alloc ob) := (Below.refl _ w).alloc (Nat.le_refl _) ob
def o0 : Nat → Nat × Nat := fun _ => (0, 0)
/-- An entry. -/
structure En where
  key : ByteArray
  fl : Int
  dl : Int
  val : ByteArray
  cas : Int
def En.cs (e : En) : List Value := [.string e.key, .int .i64 e.fl, .int .i64 e.dl, .string e.val, .int .i64 e.cas]
def En.v (e : En) : Value := .agg e.cs.toArray
theorem En.len (e : En) : e.cs.length = 5 := rfl
theorem En.one (e : En) : ∀ u ∈ e.cs, u.oneCell' = true := by
  intro u hu
  simp only [En.cs, List.mem_cons, List.not_mem_nil, or_false] at hu
  rcases hu with rfl | rfl | rfl | rfl | rfl <;> rfl
def e0 : En := ⟨⟨#[]⟩, 0, 0, ⟨#[]⟩, 0⟩
/-- An answer's cells. -/
def acs (k : Int) (v : Value) (g : Bool) (n : Int) (t : ByteArray) : List Value := [.int .i64 k, v, .bool g, .int .u64 n, .string t, .int .i64 0, .int .i64 0, .int .i64 0, .int .i64 0]
/-- An answer without values. -/
structure Ab where
  kind : Int
  num : Int
  text : ByteArray
def Ab.cs (a : Ab) : List Value := acs a.kind (.slice none 0 0) false a.num a.text
theorem Ab.len (a : Ab) : a.cs.length = 9 := rfl
theorem acs_one (k : Int) (a : Option Addr) (m c : Nat) (g : Bool) (n : Int) (t : ByteArray) : ∀ u ∈ acs k (.slice a m c) g n t, u.oneCell' = true := by
  intro u hu
  simp only [acs, List.mem_cons, List.not_mem_nil, or_false] at hu
  rcases hu with rfl | rfl | rfl | rfl | rfl | rfl | rfl | rfl | rfl <;> rfl
theorem Ab.one (a : Ab) : ∀ u ∈ a.cs, u.oneCell' = true := acs_one _ _ _ _ _ _ _
/-- Of a kind alone. -/
def ab (k : Int) : Ab := ⟨k, 0, ⟨#[]⟩⟩
/-- A request, but for its keys. -/
structure Rq where
  verb : Int
  fl : Int
  exp : Int
  bytes : Int
  cas : Int
  delta : Nat
  quiet : Bool
  data : ByteArray
def Rq.cs (r : Rq) (ks : Value) : List Value := [.int .i64 r.verb, ks, .int .i64 r.fl, .int .i64 r.exp, .int .i64 r.bytes, .int .i64 r.cas, .int .u64 (r.delta : Int), .bool r.quiet, .string r.data]
theorem Rq.one (r : Rq) (a : Option Addr) (m c : Nat) : ∀ u ∈ r.cs (.slice a m c), u.oneCell' = true := by
  intro u hu
  simp only [Rq.cs, List.mem_cons, List.not_mem_nil, or_false] at hu
  rcases hu with rfl | rfl | rfl | rfl | rfl | rfl | rfl | rfl | rfl <;> rfl

theorem range_below {w w' : World} {b : Nat} {cs : List Value} (h : w.rangeAt b 0 cs) (f : Below w.heap.size w w') : w'.rangeAt b 0 cs := fun j v hv => by
  have := h j v hv
  exact (f.cell (p := ⟨b, 0 + j, none⟩) (World.block_lt_of_cell? _ _ this)).trans this
theorem there_below {w w' : World} {b n : Nat} (h : w.there b 0 n) (f : Below w.heap.size w w') : w'.there b 0 n := fun j hj => by
  obtain ⟨h1, h2⟩ := h j hj
  obtain ⟨u, hu⟩ := Option.isSome_iff_exists.1 h1
  have hl := World.block_lt_of_cell? _ _ hu
  have e := f.block b hl
  rw [World.cell?_of_block (a := ⟨b, 0 + j, none⟩) e, World.frozen?_of_block (a := ⟨b, 0 + j, none⟩) e]
  exact ⟨h1, h2⟩
theorem range_new (w : World) (cs : List Value) (t : TypeId) : (w.alloc (.cells cs.toArray t)).rangeAt w.heap.size 0 cs := fun j v hv => by rw [Nat.zero_add, World.cell?_alloc_new, List.getElem?_toArray]; exact hv
theorem there_new (w : World) (cs : List Value) (t : TypeId) : (w.alloc (.cells cs.toArray t)).there w.heap.size 0 cs.length := fun j hj => by
  rw [Nat.zero_add, World.cell?_alloc_new, World.frozen?_alloc_new, List.getElem?_toArray, List.getElem?_eq_getElem hj]
  exact ⟨rfl, rfl⟩
theorem there_other {w : World} {b c n : Nat} (h : w.there b 0 n) (cs : List Value) : (w.setCells c 0 cs).there b 0 n := fun j hj => by
  obtain ⟨h1, h2⟩ := h j hj
  refine ⟨some_setCells c _ _ _ _ h1, by rw [World.frozen?_setCells]; exact h2⟩
theorem range_other {w : World} {b c : Nat} {cs : List Value} (h : w.rangeAt b 0 cs) (hne : c ≠ b) (ds : List Value) : (w.setCells c 0 ds).rangeAt b 0 cs := fun j v hv => by
  rw [World.cell?_setCells_out c ds 0 w ⟨b, 0 + j, none⟩ (fun e _ => absurd e.symm hne)]
  exact h j v hv
theorem below_sets {w W : World} {n b : Nat} (h : Below n w W) (hb : n ≤ b) : ∀ (cs : List Value) (off : Nat), Below n w (W.setCells b off cs) := fun cs => by
  induction cs generalizing W with
  | nil => intro off; exact h
  | cons v vs ih => intro off; exact ih (h.setCell (p := ⟨b, off, none⟩) hb v) (off + 1)
theorem load32 {w : World} {b : Nat} {E : List Value} (h : w.rangeAt b 0 E) (hl : E.length = 9) : (loadVar 32 ⟨b, 0, none⟩).run Tryd.prog w = .ok (.agg E.toArray) w :=
  run_loadVar_mid w b 0 32 E _ h Tryd.underlying32 rfl (by rw [hl]; kernel_rfl)
theorem load49 {w : World} {b : Nat} {E : List Value} (h : w.rangeAt b 0 E) (hl : E.length = 5) : (loadVar 49 ⟨b, 0, none⟩).run Tryd.prog w = .ok (.agg E.toArray) w :=
  run_loadVar_mid w b 0 49 E _ h Tryd.underlying49 rfl (by rw [hl]; kernel_rfl)
/-- What a call hands back that makes but new memory. -/
def Out (w : World) (A X : List Value) (k d : Bool) (e : Ending) (w' : World) : Prop := e = .returned (.tuple #[.agg A.toArray, .agg X.toArray, .bool k, .bool d]) ∧ Below w.heap.size w w'
/-- The answer and the entry stored where they are handed back from. -/
theorem two_fin {w W : World} {b : Nat} {A X : List Value} (hA : A.length = 9) (hX : X.length = 5) (hb : w.heap.size ≤ b) (hW : Below w.heap.size w W) (h1 : W.there b 0 9) (h2 : W.there (b + 1) 0 5) :
    W.there b 0 A.length ∧ (W.setCells b 0 A).there (b + 1) 0 X.length ∧ ((W.setCells b 0 A).setCells (b + 1) 0 X).rangeAt b 0 A ∧ ((W.setCells b 0 A).setCells (b + 1) 0 X).rangeAt (b + 1) 0 X ∧ Below w.heap.size w ((W.setCells b 0 A).setCells (b + 1) 0 X) := by
  have t1 : W.there b 0 A.length := by rw [hA]; exact h1
  have t2 : (W.setCells b 0 A).there (b + 1) 0 X.length := by rw [hX]; exact there_other h2 A
  exact ⟨t1, t2, range_other (World.rangeAt_setCells_same _ _ _ _ t1) (by omega) X, World.rangeAt_setCells_same _ _ _ _ t2, below_sets (below_sets hW hb _ _) (by omega) _ _⟩
theorem store_run {w : World} {b : Nat} {E : List Value} (h : w.there b 0 E.length) (h1 : ∀ u ∈ E, u.oneCell' = true) : (storeCells ⟨b, 0, none⟩ E).run Tryd.prog w = .ok () (w.setCells b 0 E) :=
  run_storeCells_cells b 0 E 0 w (fun j hj => (h j hj).1) (fun j hj => (h j hj).2) h1
theorem step_store {P : Program} {ops : Array Oper} {op : Oper} {a : Act} {w : World} {K : Act → World → Prop} {Q : Exit → Act → World → Prop} {E : Prop} {X : World} {b o : Nat} {cells : Array Value} (ht : X.there b o cells.size) (h1 : cells.all (·.oneCell') = true) (ty : TypeId) (x y : Operand) (hw : w = X) (hgd : op.guard = none) (ho : op.op = .store ty x y)
    (hx : a.eval x = .pointer (some ⟨b, o, none⟩)) (hy : a.eval y = .agg cells) (hi : (P.info? ty).map (·.size) = some cells.size) (hk : K (a.put op.dst undef) (X.setCells b o cells.toList)) :
    if Region.wanted op (yielded ops a.tmps) = true then Oper.wp P op a w K Q else E := by
  subst hw
  rw [if_pos (by simp [Region.wanted, hgd])]
  exact wp_store_mid ty x y ho b o cells hx hy ht hi h1 hk
theorem step_ld {P : Program} {ops : Array Oper} {op : Oper} {a : Act} {w : World} {K : Act → World → Prop} {Q : Exit → Act → World → Prop} {E : Prop} {X : World} {v : Value} {p : Value} {ty : TypeId} (hl : (Instr.loadAt ty p).run P X = .ok v X) (x : Operand) (hw : w = X) (hgd : op.guard = none) (ho : op.op = .load ty x)
    (hx : a.eval x = p) (hk : K (a.put op.dst v) X) :
    if Region.wanted op (yielded ops a.tmps) = true then Oper.wp P op a w K Q else E := by
  subst hw
  rw [if_pos (by simp [Region.wanted, hgd])]
  unfold Oper.wp execOp
  simp only [ho, hx, Sem.run_bind, hl, Result.andThen_ok, Sem.run_pure]
  exact hk
theorem loadAt_mid {w : World} {b off ty : Nat} {u : TypeDesc} {E : List Value} (h : w.rangeAt b off E) (hu : Tryd.prog.underlying ty = some u) (hk : u.isRow = true) (hl : (Tryd.prog.info? ty).map (·.size) = some E.length) : (Instr.loadAt ty (.pointer (some ⟨b, off, none⟩))).run Tryd.prog w = .ok (.agg E.toArray) w := by
  simp only [Instr.loadAt, Instr.sureAddr, Sem.run_bind, Sem.run_pure, Result.andThen_ok]
  exact run_loadVar_mid w b off ty E _ h hu hk hl
/-- A struct's store as the next step of a region that draws, under what is held. -/
theorem storeH {P : Program} {md : Region.Mode} {ops : Array Oper} {Q : Exit → Act → World → Prop} {S : World → Prop} {fuel i : Nat} {listed : Array Bool} {a : Act} {w : World} {op : Oper} {b o : Nat} {cells : Array Value} (hr : Region.ready md ops listed = [i]) (hi : ops[i]? = some op) (hgd : op.guard = none)
    (ht : w.there b o cells.size) (h1 : cells.all (·.oneCell') = true) (ty : TypeId) (x y : Operand) (ho : op.op = .store ty x y) (hx : a.eval x = .pointer (some ⟨b, o, none⟩)) (hy : a.eval y = .agg cells) (hs : (P.info? ty).map (·.size) = some cells.size) (hS : S (w.setCells b o cells.toList))
    (h : wpAnyH P md ops Q S fuel (listed.setIfInBounds i true) (a.put op.dst undef) (w.setCells b o cells.toList)) : wpAnyH P md ops Q S (fuel + 1) listed a w :=
  wpAnyH_all hr (by simp) (fun j hj => by
    obtain rfl : j = i := by simpa using hj
    exact wpOp_step hi (fun K' hK => step_store ht h1 ty x y rfl hgd ho hx hy hs (hK _ _ ⟨hS, h⟩)))
theorem constH {P : Program} {md : Region.Mode} {ops : Array Oper} {Q : Exit → Act → World → Prop} {S : World → Prop} {fuel i : Nat} {listed : Array Bool} {a : Act} {w : World} {op : Oper} {v : Value} (hr : Region.ready md ops listed = [i]) (hi : ops[i]? = some op) (hgd : op.guard = none) (ho : op.op = .assign (.const v)) (hS : S w)
    (h : wpAnyH P md ops Q S fuel (listed.setIfInBounds i true) (a.put op.dst v) w) : wpAnyH P md ops Q S (fuel + 1) listed a w :=
  wpAnyH_all hr (by simp) (fun j hj => by
    obtain rfl : j = i := by simpa using hj
    refine wpOp_step hi (fun K' hK => ?_)
    rw [if_pos (by simp [Region.wanted, hgd])]
    unfold Oper.wp execOp
    simp only [ho, Act.eval, Sem.run_pure]
    exact hK _ _ ⟨hS, h⟩)
def zA : List Value := (ab 0).cs
theorem res4 {W : World} {b : Nat} {A X : List Value} {f : Func} {t : Array Value} {k d : Bool} {ia ix ik id_ : Nat} (hf : f.results = #[.cell ia 32, .cell ix 49, .tmp ik, .tmp id_]) (ha : t[ia]?.getD undef = .pointer (some ⟨b, 0, none⟩)) (hx : t[ix]?.getD undef = .pointer (some ⟨b + 1, 0, none⟩)) (hk : t[ik]?.getD undef = .bool k) (hd : t[id_]?.getD undef = .bool d) (hr1 : W.rangeAt b 0 A) (hr2 : W.rangeAt (b + 1) 0 X) (hA : A.length = 9) (hX : X.length = 5) :
    (results f t).run Tryd.prog W = .ok (.tuple #[.agg A.toArray, .agg X.toArray, .bool k, .bool d]) W := by
  simp [results, hf, ha, hx, hk, hd, asAddr, load32 hr1 hA, load49 hr2 hX]
/-- Blocks for an answer and an entry, new. -/
theorem two_new (W : World) {X Y : Array Value} (hX : X = zA.toArray) (hY : Y = e0.cs.toArray) : ((W.alloc (.cells X 32)).alloc (.cells Y 49)).there W.heap.size 0 9 ∧ ((W.alloc (.cells X 32)).alloc (.cells Y 49)).there (W.heap.size + 1) 0 5 ∧ Below W.heap.size W ((W.alloc (.cells X 32)).alloc (.cells Y 49)) := by
  subst hX hY
  refine ⟨there_below (there_new W zA 32) (below_alloc _ _), ?_, (below_alloc _ _).trans ((below_alloc _ _).mono (by simp))⟩
  have := there_new (W.alloc (.cells zA.toArray 32)) e0.cs 49
  rwa [World.size_alloc] at this
theorem clone_any (s : ByteArray) (hs : s.size ≤ 281474976710656) (w : World) : Calls Tryd.prog 54 #[.string s] w fun e w' => e = .returned (.string s) ∧ Below w.heap.size w w' := by
  go_enter Tryd.func54, Tryd.ntmps54
  go_wp2_with fail
  refine (Tryd.stringslite_Clone s w hs).mono ?_
  rintro e w1 ⟨rfl, hb⟩
  go_wp2_with fail
  go_ret
  exact ⟨rfl, hb⟩
end Go.Proofs.YtpkmfckifnomeaaDoor
