/-
  A PARSER IN MEMORY; bytes, keys, an event's cells.
-/
import Derived.Test.YtedbklipbfbmoaaDoorPars
import Derived.Deep.MidRow
namespace Go.Proofs.YtedbklipbfbmoaaDoor
open Go.RowKit

theorem under26 : Tryd.prog.underlying 26 = some (.slice 5) := by kernel_rfl
theorem info5 : (Tryd.prog.info? 5).map (fun i => (i.zero, i.size, i.bytes)) = some (some (.int .u8 0), 1, 1) := by kernel_rfl
/-- Bytes as cells. -/
def bc (l : B) : List Value := l.map fun c => .int .u8 ((c.toNat : Nat) : Int)
theorem bc_len (l : B) : (bc l).length = l.length := by simp [bc]
theorem bc_app (a b : B) : bc a ++ bc b = bc (a ++ b) := by simp [bc]
theorem bc_take (a : B) (n : Nat) : (bc a).take n = bc (a.take n) := by simp [bc, List.map_take]
theorem bc_cells (s : ByteArray) : byteCells s = bc (L s) := by
  unfold byteCells bc L
  rfl
theorem app_bytes {w : World} {o : Nat → Nat × Nat} {t : Nat × Nat} {v : Value} {l : B} (h : OwnK w o t 1 v l.length (bc l)) (s : ByteArray) (hb : l.length + s.size ≤ 140737488355328) :
    ∃ a c w' o', (Builtin.append_ #[26, 9] 26 #[v, .string s]).run Tryd.prog w = .ok (.slice a (l.length + s.size) c) w' ∧ OwnK w' o' t 1 (.slice a (l.length + s.size) c) (l ++ L s).length (bc (l ++ L s)) ∧ Fr (· = t) o o' w w' := by
  have hs : Src Tryd.prog 1 9 (.string s) s.size (bc (L s)) w := by rw [← bc_cells]; exact Src.ofString w under9 s
  obtain ⟨v', w', o', hr, h1, h2⟩ := app_own 26 9 5 (.int .u8 0) 1 under26 info5 rfl h hs (by omega) (by omega)
  obtain ⟨a, c, rfl, _⟩ := h1.form
  rw [bc_app] at h1
  exact ⟨a, c, w', o', hr, by rw [List.length_append, L_len]; exact h1, h2⟩
theorem nums_S (l : B) : strOfNums (l.map fun c => ((c.toNat : Nat) : Int)) = S l := by
  unfold strOfNums S
  congr 1
  simp [Function.comp_def]
set_option maxRecDepth 100000 in
/-- string(b). -/
theorem conv_own {w : World} {o : Nat → Nat × Nat} {t : Nat × Nat} {a : Option Addr} {n c : Nat} {l : B} (h : OwnK w o t 1 (.slice a n c) l.length (bc l)) : (convert 26 9 (.slice a n c)).run Tryd.prog w = .ok (.string (S l)) w := by
  obtain ⟨hl, h1, h⟩ := h
  rcases h with ⟨e, h0⟩ | ⟨g, cap, e, h2, h3, h4, h5, h6, h7⟩
  · injection e with e1 e2 e3
    subst e1 e2 e3
    have : l = [] := List.eq_nil_of_length_eq_zero h0
    subst this
    rw [run_convert_bytes_string w 26 9 5 _ 0 0 under26 under5 under9]
    simp [Conv.bytesToString]
    rfl
  · injection e with e1 e2 e3
    subst e1 e2 e3
    rw [run_convert_bytes_arg w 26 5 under26 under5 g 0 l.length c (l.map fun c => ((c.toNat : Nat) : Int)) (by simp) (fun i hi => by
      have hi' : i < l.length := by simpa using hi
      rw [Nat.zero_add, h6 i (.int .u8 ((l[i].toNat : Nat) : Int)) (by simp [bc, hi'])]
      simp [List.getD_eq_getElem?_getD, hi']) 9 under9, nums_S]
/-- Keys: strings in blocks that nothing turns. -/
def Ks (w : World) (o : Nat → Nat × Nat) (v : Value) (l : List B) : Prop :=
  Strs w v l ∧ (l ≠ [] → ∃ A n c, v = .slice (some A) n c ∧ o A.block = (9, 9) ∧ A.block < w.heap.size)
theorem Ks.fr {T : Nat × Nat → Prop} {w w' : World} {o o' : Nat → Nat × Nat} {v : Value} {l : List B} (h : Ks w o v l) (f : Fr T o o' w w') (hT : ¬ T (9, 9)) : Ks w' o' v l := by
  obtain ⟨⟨a, c, h1, h2, h3⟩, h4⟩ := h
  refine ⟨⟨a, c, h1, h2, fun hl => ?_⟩, fun hl => ?_⟩
  · obtain ⟨g, q, rfl, h5⟩ := h3 hl
    obtain ⟨A, n', c', e, hA, hlt⟩ := h4 hl
    rw [h1] at e
    injection e with e1 e2 e3
    injection e1 with e1
    subst e1
    exact ⟨g, q, rfl, fun i x hx => f.cell (h5 i x hx) (by rw [hA]; exact hT)⟩
  · obtain ⟨A, n', c', e, hA, hlt⟩ := h4 hl
    exact ⟨A, n', c', e, (f.lab _ hlt).trans hA, Nat.lt_of_lt_of_le hlt f.size⟩
theorem Ks.nil (w : World) (o : Nat → Nat × Nat) : Ks w o (.slice none 0 0) [] := ⟨⟨none, 0, rfl, Nat.le_refl _, fun h => absurd rfl h⟩, fun h => absurd rfl h⟩
theorem Ks.form {w : World} {o : Nat → Nat × Nat} {v : Value} {l : List B} (h : Ks w o v l) : ∃ a n c, v = .slice a n c := by
  obtain ⟨⟨a, c, h1, _⟩, _⟩ := h
  exact ⟨a, _, c, h1⟩
/-- Marks of new blocks, from N on. -/
def over (o : Nat → Nat × Nat) (N : Nat) (t : Nat × Nat) : Nat → Nat × Nat := fun b => if b < N then o b else t
theorem Fr.over (T : Nat × Nat → Prop) (o : Nat → Nat × Nat) {w w' : World} (h : Below w.heap.size w w') (t : Nat × Nat) : Fr T o (over o w.heap.size t) w w' :=
  ⟨h.os, h.tape, h.output, h.size, fun b hb => by unfold YtedbklipbfbmoaaDoor.over; rw [if_pos hb], fun b hb _ => h.block b hb⟩
/-- Strings in new memory as keys. -/
theorem Strs.ks {w w' : World} {o : Nat → Nat × Nat} {a : Option Addr} {n c : Nat} {l : List B} (h : Strs w' (.slice a n c) l) (_b : Below w.heap.size w w') (hn : ∀ A, a = some A → w.heap.size ≤ A.block) : Ks w' (over o w.heap.size (9, 9)) (.slice a n c) l := by
  refine ⟨h, fun hl => ?_⟩
  obtain ⟨a', c', h1, _, h3⟩ := h
  obtain ⟨g, q, e, h5⟩ := h3 hl
  injection h1 with e1 e2 e3
  subst e1 e
  obtain ⟨x, hx⟩ : ∃ x, l[0]? = some x := ⟨_, List.getElem?_eq_getElem (List.length_pos_iff.2 hl)⟩
  exact ⟨_, _, _, rfl, by unfold over; rw [if_neg (Nat.not_lt.2 (hn _ rfl))], World.block_lt_of_cell? _ _ (h5 0 x hx)⟩
/-- An event's cells, its keys in the slice kv. -/
def Ev.cs (e : Ev) (kv : Value) : List Value := [.int .i64 ((e.rq.verb : Nat) : Int), kv, .int .i64 e.rq.flags, .int .i64 e.rq.exp, .int .i64 e.rq.bytes, .int .i64 e.rq.cas, .int .u64 ((e.rq.delta : Nat) : Int), .bool e.rq.quiet, .string (S e.data), .int .i64 ((e.kind : Nat) : Int), .slice Option.none 0 0, .bool false, .int .u64 0, .string (S e.text), .int .i64 0, .int .i64 0, .int .i64 0, .int .i64 0]
def Ev.v (e : Ev) (kv : Value) : Value := .agg (e.cs kv).toArray
theorem ev_one (e : Ev) (a : Option Addr) (n c : Nat) : ∀ u ∈ e.cs (.slice a n c), u.oneCell' = true := fun u hu => by
  simp only [Ev.cs, List.mem_cons, List.not_mem_nil, or_false] at hu
  rcases hu with rfl | rfl | rfl | rfl | rfl | rfl | rfl | rfl | rfl | rfl | rfl | rfl | rfl | rfl | rfl | rfl | rfl | rfl <;> rfl
/-- A parser's cells. -/
def Ps.cs (p : Ps) (lv kv : Value) : List Value := [.int .i64 ((p.st : Nat) : Int), lv, .int .i64 ((p.rq.verb : Nat) : Int), kv, .int .i64 p.rq.flags, .int .i64 p.rq.exp, .int .i64 p.rq.bytes, .int .i64 p.rq.cas, .int .u64 ((p.rq.delta : Nat) : Int), .bool p.rq.quiet, .string ⟨#[]⟩, .int .i64 ((p.past : Nat) : Int)]
theorem ps_one (p : Ps) (a ka : Option Addr) (n c kn kc : Nat) : ∀ u ∈ p.cs (.slice a n c) (.slice ka kn kc), u.oneCell' = true := fun u hu => by
  simp only [Ps.cs, List.mem_cons, List.not_mem_nil, or_false] at hu
  rcases hu with rfl | rfl | rfl | rfl | rfl | rfl | rfl | rfl | rfl | rfl | rfl | rfl <;> rfl
/-- The marks of the owner x. -/
def TX (x : Nat) (t : Nat × Nat) : Prop := t.1 = x
/-- The parser p (of the owner x) lies at block P. -/
structure IsP (w : World) (o : Nat → Nat × Nat) (x P : Nat) (p : Ps) (a : Option Addr) (n c : Nat) (ka : Option Addr) (kn kc : Nat) : Prop where
  cells : w.rangeAt P 0 (p.cs (.slice a n c) (.slice ka kn kc))
  fz : ∀ j, w.frozen? ⟨P, j, none⟩ = false
  mark : o P = (x, 0)
  own : OwnK w o (x, 1) 1 (.slice a n c) p.left.length (bc p.left)
  len : n = p.left.length
  keys : Ks w o (.slice ka kn kc) p.rq.keys
theorem IsP.at_ {w : World} {o : Nat → Nat × Nat} {x P : Nat} {p : Ps} {a : Option Addr} {n c : Nat} {ka : Option Addr} {kn kc : Nat} (h : IsP w o x P p a n c ka kn kc) (j : Nat) (v : Value) (hv : (p.cs (.slice a n c) (.slice ka kn kc))[j]? = some v) : w.cell? ⟨P, j, none⟩ = some v := by
  have := h.cells j v hv
  rwa [Nat.zero_add] at this
theorem IsP.lt {w : World} {o : Nat → Nat × Nat} {x P : Nat} {p : Ps} {a : Option Addr} {n c : Nat} {ka : Option Addr} {kn kc : Nat} (h : IsP w o x P p a n c ka kn kc) : P < w.heap.size := World.block_lt_of_cell? _ _ (h.at_ 0 _ rfl)
theorem IsP.fr {T : Nat × Nat → Prop} {w w' : World} {o o' : Nat → Nat × Nat} {x P : Nat} {p : Ps} {a : Option Addr} {n c : Nat} {ka : Option Addr} {kn kc : Nat} (h : IsP w o x P p a n c ka kn kc) (f : Fr T o o' w w') (h0 : ¬ T (x, 0)) (h1 : ¬ T (x, 1)) (h9 : ¬ T (9, 9)) : IsP w' o' x P p a n c ka kn kc := by
  have hP : ¬ T (o P) := by rw [h.mark]; exact h0
  exact ⟨fun j v hv => f.cell (h.cells j v hv) hP, fun j => (f.frozen h.lt hP).trans (h.fz j), (f.lab P h.lt).trans h.mark, h.own.fr f h1, h.len, h.keys.fr f h9⟩
theorem IsP.below {w w' : World} {o : Nat → Nat × Nat} {x P : Nat} {p : Ps} {a : Option Addr} {n c : Nat} {ka : Option Addr} {kn kc : Nat} (h : IsP w o x P p a n c ka kn kc) (b : Below w.heap.size w w') : IsP w' o x P p a n c ka kn kc := h.fr (Fr.ofBelow (fun _ => False) o b) id id id
theorem IsP.there {w : World} {o : Nat → Nat × Nat} {x P : Nat} {p : Ps} {a : Option Addr} {n c : Nat} {ka : Option Addr} {kn kc : Nat} (h : IsP w o x P p a n c ka kn kc) : w.there P 0 12 := fun j hj => by
  obtain ⟨v, hv⟩ : ∃ v, (p.cs (.slice a n c) (.slice ka kn kc))[j]? = some v := ⟨_, List.getElem?_eq_getElem (show j < (p.cs (.slice a n c) (.slice ka kn kc)).length from hj)⟩
  have := h.cells j v hv
  rw [Nat.zero_add] at this ⊢
  rw [this]
  exact ⟨rfl, h.fz j⟩
theorem x10 {x : Nat} (hx : x ≠ 9) : ¬ TX x (9, 9) := fun e => hx e.symm
/-- A cell of the parser's stored anew. -/
theorem IsP.set {w : World} {o : Nat → Nat × Nat} {x P : Nat} {p p' : Ps} {a : Option Addr} {n c : Nat} {ka : Option Addr} {kn kc : Nat} (h : IsP w o x P p a n c ka kn kc) (hx : x ≠ 9) (i : Nat) (u : Value) (hi : i < 12) (hl : p'.left = p.left) (hk : p'.rq.keys = p.rq.keys) (e : (p.cs (.slice a n c) (.slice ka kn kc)).set i u = p'.cs (.slice a n c) (.slice ka kn kc)) :
    IsP (w.setCell ⟨P, i, none⟩ u) o x P p' a n c ka kn kc ∧ Fr (TX x) o o w (w.setCell ⟨P, i, none⟩ u) := by
  have fs : Fr (· = (x, 0)) o o w (w.setCell ⟨P, i, none⟩ u) := Fr.set (a := ⟨P, i, none⟩) h.mark _
  refine ⟨⟨?_, fun j => by rw [World.frozen?_setCell]; exact h.fz j, h.mark, by rw [hl]; exact h.own.fr fs (fun e => by injection e with _ e; cases e), by rw [hl]; exact h.len, by rw [hk]; exact h.keys.fr fs (fun e => hx (congrArg Prod.fst e).symm)⟩, fs.mono (fun t e => by rw [e]; rfl)⟩
  have := range_set h.cells (i := i) (u := u) hi
  rwa [e] at this
/-- The bytes that are left, told anew. -/
theorem IsP.lay {w w' : World} {o o' : Nat → Nat × Nat} {x P : Nat} {p p' : Ps} {a : Option Addr} {n c : Nat} {ka : Option Addr} {kn kc : Nat} (h : IsP w o x P p a n c ka kn kc) (hx : x ≠ 9) (f : Fr (· = (x, 1)) o o' w w') {l : B} {a' : Option Addr} {n' c' : Nat} (hO : OwnK w' o' (x, 1) 1 (.slice a' n' c') l.length (bc l)) (hn : n' = l.length) (hp : p' = { p with left := l }) :
    IsP (w'.setCell ⟨P, 1, none⟩ (.slice a' n' c')) o' x P p' a' n' c' ka kn kc ∧ Fr (TX x) o o' w (w'.setCell ⟨P, 1, none⟩ (.slice a' n' c')) := by
  subst hp
  have hP : ¬ (o P = (x, 1)) := by rw [h.mark]; intro e; injection e with _ e; cases e
  have hm' : o' P = (x, 0) := (f.lab P h.lt).trans h.mark
  have fs : Fr (· = (x, 0)) o' o' w' (w'.setCell ⟨P, 1, none⟩ (.slice a' n' c')) := Fr.set (a := ⟨P, 1, none⟩) hm' _
  refine ⟨⟨?_, fun j => by rw [World.frozen?_setCell]; exact (f.frozen h.lt hP).trans (h.fz j), hm', hO.fr fs (fun e => by injection e with _ e; cases e), hn, (h.keys.fr f (fun e => hx (congrArg Prod.fst e).symm)).fr fs (fun e => hx (congrArg Prod.fst e).symm)⟩, (f.mono (fun t e => by rw [e]; rfl)).trans (fs.mono (fun t e => by rw [e]; rfl))⟩
  have cl : w'.rangeAt P 0 (p.cs (.slice a n c) (.slice ka kn kc)) := fun j v hv => f.cell (h.cells j v hv) hP
  exact range_set cl (i := 1) (u := .slice a' n' c') (by simp [Ps.cs])
/-- A state's beginning. -/
theorem IsP.begin {w : World} {o : Nat → Nat × Nat} {x P : Nat} {p : Ps} {a : Option Addr} {n c : Nat} {ka : Option Addr} {kn kc : Nat} (h : IsP w o x P p a n c ka kn kc) (s : Nat) :
    IsP (w.setCells P 0 ((pz s).cs (.slice none 0 0) (.slice none 0 0))) o x P (pz s) none 0 0 none 0 0 ∧ Fr (TX x) o o w (w.setCells P 0 ((pz s).cs (.slice none 0 0) (.slice none 0 0))) := by
  refine ⟨⟨World.rangeAt_setCells_same _ _ _ _ h.there, fun j => by rw [World.frozen?_setCells]; exact h.fz j, h.mark, OwnK.nil _ _ _ _, rfl, Ks.nil _ _⟩, Fr.sets (T := TX x) (by rw [h.mark]; rfl) _ _ _⟩
/-- A request laid into the parser. -/
theorem IsP.ask {w : World} {o : Nat → Nat × Nat} {x P : Nat} {p : Ps} {a : Option Addr} {n c : Nat} {ka : Option Addr} {kn kc : Nat} (h : IsP w o x P p a n c ka kn kc) (hx : x ≠ 9) {r : Rq} {ra : Option Addr} {rn rc : Nat} (hr : Ks w o (.slice ra rn rc) r.keys) :
    IsP (w.setCells P 2 (r.cs (.slice ra rn rc))) o x P { p with rq := r } a n c ra rn rc ∧ Fr (TX x) o o w (w.setCells P 2 (r.cs (.slice ra rn rc))) := by
  have fs : Fr (· = (x, 0)) o o w (w.setCells P 2 (r.cs (.slice ra rn rc))) := Fr.sets (T := (· = (x, 0))) h.mark _ _ _
  refine ⟨⟨fun j v hv => ?_, fun j => by rw [World.frozen?_setCells]; exact h.fz j, h.mark, h.own.fr fs (fun e => by injection e with _ e; cases e), h.len, hr.fr fs (fun e => hx (congrArg Prod.fst e).symm)⟩, fs.mono (fun t e => by rw [e]; rfl)⟩
  rw [Nat.zero_add]
  have hj : j < 12 := (List.getElem?_eq_some_iff.1 hv).1
  have hth := h.there
  by_cases h2 : j < 2
  · rw [World.cell?_setCells_out P _ 2 w ⟨P, j, none⟩ (fun _ _ => .inl h2)]
    refine h.at_ j v ?_
    rcases j with _ | _ | j
    · exact hv
    · exact hv
    · omega
  · by_cases h11 : j < 11
    · have rs := World.rangeAt_setCells_same w P 2 (r.cs (.slice ra rn rc)) (fun q hq => by
        have := hth (2 + q) (by have : q < 9 := hq; omega)
        rw [Nat.zero_add] at this; exact this)
      obtain ⟨k, rfl⟩ : ∃ k, j = k + 2 := ⟨j - 2, by omega⟩
      have hk : k < 9 := by omega
      have e := rs k v (by rcases k with _ | _ | _ | _ | _ | _ | _ | _ | _ | k; all_goals first | exact hv | omega)
      rwa [Nat.add_comm] at e
    · have : j = 11 := by omega
      subst this
      rw [World.cell?_setCells_out P (r.cs (.slice ra rn rc)) 2 w ⟨P, 11, none⟩ (fun _ _ => .inr (Nat.le_refl 11))]
      exact h.at_ 11 v hv
end Go.Proofs.YtedbklipbfbmoaaDoor
