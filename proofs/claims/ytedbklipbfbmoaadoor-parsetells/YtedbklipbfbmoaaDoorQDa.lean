/-
  data of the reference.
-/
import Derived.Test.YtedbklipbfbmoaaDoorQLi
namespace Go.Proofs.YtedbklipbfbmoaaDoor
open Go.RowKit

/-- Where a reference's parser may stand. -/
def Bs (b : Ps) : Prop := b.left = [] ∧ Okp b
theorem bs_pz (s : Nat) (h : s = 0 ∨ s = 3 ∨ s = 4) : Bs (pz s) := ⟨rfl, okp_pz s h⟩
/-- How a step of the reference's goes on. -/
def Rel (b : Ps) (R : B) (b' : Ps) (R' : B) (ev : Ev) (more : Bool) : Prop :=
  Bs b' ∧ ((more = true ∧ feed b R = thn ev (feed b' R') ∧ 2 * R'.length + st1 b' < 2 * R.length + st1 b ∧ (b'.st = 4 → R' = [])) ∨ (more = false ∧ feed b R = ({ b' with left := R' }, evs ev)))
def SOut (w : World) (o : Nat → Nat × Nat) (x P : Nat) (b : Ps) (R : B) (e : Ending) (w' : World) : Prop :=
  ∃ E b' R' ev more, e = .returned (.tuple #[.agg E.toArray, .bool more]) ∧ OutR w o x P b' R' ev E w' ∧ Rel b R b' R' ev more
/-- An event and a bool, handed back. -/
theorem res2r {W : World} {b : Nat} {E : List Value} {f : Func} {t : Array Value} {u : Value} (hf : f.results = #[.cell 2 44, .tmp 3]) (h4 : t[3]?.getD undef = u) (h5 : t[2]?.getD undef = .pointer (some ⟨b, 0, none⟩)) (hr : W.rangeAt b 0 E) (hl : E.length = 18) : (results f t).run Tryd.prog W = .ok (.tuple #[.agg E.toArray, u]) W := by
  simp [results, hf, h4, h5, asAddr, load44 hr hl]
/-- data on its way. -/
structure DatR (w : World) (o0 : Nat → Nat × Nat) (x P b : Nat) (p : Ps) (RS : B) (R : List Value) (W : World) (o : Nat → Nat × Nat) (ka : Option Addr) (kn kc : Nat) : Prop where
  fr : Fr (TX x) o0 o w W
  is : IsRf W o x P p RS ka kn kc
  res : Res W o w.heap.size
  rg : W.rangeAt b 0 R
  th : W.there b 0 9
  mark : o b = (8, 7)
  lt : b < W.heap.size
theorem DatR.up {w : World} {o0 : Nat → Nat × Nat} {x P b : Nat} {p p' : Ps} {RS RS' : B} {R : List Value} {W W' : World} {o o' : Nat → Nat × Nat} {ka ka' : Option Addr} {kn kc kn' kc' : Nat} (hx : x < 8) (h : DatR w o0 x P b p RS R W o ka kn kc) (f : Fr (TX x) o o' W W') (hI : IsRf W' o' x P p' RS' ka' kn' kc') : DatR w o0 x P b p' RS' R W' o' ka' kn' kc' := by
  have hb : ¬ TX x (o b) := by rw [h.mark]; exact fun e => by have : 8 = x := e; omega
  exact ⟨h.fr.trans f, hI, h.res.fr f (tx8 hx), range_fr h.rg f hb, there_fr h.th f hb h.lt, (f.lab b h.lt).trans h.mark, Nat.lt_of_lt_of_le h.lt f.size⟩
theorem DatR.below {w : World} {o0 : Nat → Nat × Nat} {x P b : Nat} {p : Ps} {RS : B} {R : List Value} {W W' : World} {o : Nat → Nat × Nat} {ka : Option Addr} {kn kc : Nat} (hx : x < 8) (h : DatR w o0 x P b p RS R W o ka kn kc) (bl : Below W.heap.size W W') : DatR w o0 x P b p RS R W' o ka kn kc := h.up hx (Fr.ofBelow _ _ bl) (h.is.below bl)
theorem DatR.start {w : World} {o : Nat → Nat × Nat} {x P : Nat} {q : Rq} {RS : B} {ka : Option Addr} {kn kc : Nat} (h : IsRf w o x P (pd [] q) RS ka kn kc) {W1 W3 : World} {R : List Value} (hR : R = q.cs (.slice ka kn kc)) (hW1 : W1 = w.alloc (.cells (Ev.none.cs (.slice none 0 0)).toArray 44)) (hW3 : W3 = (W1.alloc (.cells #[.int .i64 0, .slice none 0 0, .int .i64 0, .int .i64 0, .int .i64 0, .int .i64 0, .int .u64 0, .bool false, .string ⟨#[]⟩] 30)).setCells (w.heap.size + 1) 0 R) :
    W1.rangeAt P 1 R ∧ (W1.alloc (.cells #[.int .i64 0, .slice none 0 0, .int .i64 0, .int .i64 0, .int .i64 0, .int .i64 0, .int .u64 0, .bool false, .string ⟨#[]⟩] 30)).there (w.heap.size + 1) 0 9 ∧ ∃ o3, DatR w o x P (w.heap.size + 1) (pd [] q) RS R W3 o3 ka kn kc := by
  have F1 : Fr (fun _ => False) o (lab o w.heap.size (8, 8)) w W1 := by rw [hW1]; exact Fr.new _ _ _ _ _
  have R1 : Res W1 (lab o w.heap.size (8, 8)) w.heap.size := by rw [hW1]; exact Res.new44 _ _
  have I1 := h.fr F1 id id
  have hs : W1.heap.size = w.heap.size + 1 := by rw [hW1]; simp
  have rl : R.length = 9 := by rw [hR]; rfl
  have hW3' : W3 = (W1.alloc (.cells ZV.toArray 30)).setCells W1.heap.size 0 R := by rw [hs]; exact hW3
  obtain ⟨f4, g4, th4, m4⟩ := rq_lay (o := lab o w.heap.size (8, 8)) rl hW3'
  rw [hs] at g4 th4 m4
  refine ⟨fun j v hv => ?_, th4, _, ⟨(F1.mono (fun _ h => h.elim)).trans (f4.mono (fun _ h => h.elim)), I1.fr f4 id id, R1.fr f4 id, g4, ?_, by rw [hs]; exact m4, ?_⟩⟩
  · have hj : j < 9 := by rw [← rl]; exact (List.getElem?_eq_some_iff.1 hv).1
    refine I1.at_ (1 + j) v ?_
    rw [hR] at hv
    rw [← hv, Nat.add_comm]
    rcases j with _ | _ | _ | _ | _ | _ | _ | _ | _ | j
    all_goals first | rfl | omega
  · rw [hW3]; exact World.there_setCells th4 _ _ _
  · rw [hW3', size_setCells, size_alloc, hs]; omega
theorem DatR.data {w : World} {o0 : Nat → Nat × Nat} {x P b : Nat} {p : Ps} {RS : B} {R : List Value} {W : World} {o : Nat → Nat × Nat} {ka : Option Addr} {kn kc : Nat} (hx : x < 8) (h : DatR w o0 x P b p RS R W o ka kn kc) (hb : w.heap.size ≤ b) (hR : R.length = 9) (v : Value) :
    Fr (TX x) o0 o w (W.setCell ⟨b, 8, none⟩ v) ∧ IsRf (W.setCell ⟨b, 8, none⟩ v) o x P p RS ka kn kc ∧ Res (W.setCell ⟨b, 8, none⟩ v) o w.heap.size ∧ (W.setCell ⟨b, 8, none⟩ v).rangeAt b 0 (R.set 8 v) := by
  have fs : Fr (· = (8, 7)) o o W (W.setCell ⟨b, 8, none⟩ v) := Fr.set (a := ⟨b, 8, none⟩) h.mark _
  exact ⟨h.fr.setNew (a := ⟨b, 8, none⟩) hb _, h.is.fr fs (fun e => by injection e with e _; omega) (fun e => by cases e), h.res.fr fs (fun e => by cases e), range_set h.rg (by rw [hR]; omega)⟩
/-- Data that are short yet. -/
theorem short_1 {q : Rq} {R : B} (h : R.length ≤ q.bytes.toNat) : feed (pd [] q) R = (pd R q, []) := by
  have := feed_pd q R [] (by simpa using h)
  simpa using this
theorem split_n {R : B} {n : Nat} {c : UInt8} (h : R[n]? = some c) : R = R.take n ++ c :: R.drop (n + 1) ∧ (R.take n).length = n := by
  obtain ⟨h1, h2⟩ := List.getElem?_eq_some_iff.1 h
  refine ⟨?_, by rw [List.length_take]; omega⟩
  conv => lhs; rw [← List.take_append_drop n R]
  rw [List.drop_eq_getElem_cons h1, h2]
theorem short_2 {q : Rq} {R : B} (h : R.length = q.bytes.toNat + 1) (hc : R[q.bytes.toNat]? = some 13) : feed (pd [] q) R = (pd R q, []) := by
  obtain ⟨e, hl⟩ := split_n hc
  have e2 : R.drop (q.bytes.toNat + 1) = [] := List.drop_eq_nil_of_le (by omega)
  rw [e2] at e
  have h1 : feed (pd [] q) (R.take q.bytes.toNat) = (pd (R.take q.bytes.toNat) q, []) := by
    have := feed_pd q (R.take q.bytes.toNat) [] (by simp; omega)
    simpa using this
  conv => lhs; rw [e]
  rw [feed_go h1, feed_pd_13 q _ _ hl, feed_nil, ← e]
theorem bad_1 {q : Rq} {R : B} {c : UInt8} (hc : R[q.bytes.toNat]? = some c) (h13 : c ≠ 13) : feed (pd [] q) R = thn (ans 13 badData) (feed (pz 3) (R.drop q.bytes.toNat)) := by
  obtain ⟨e, hl⟩ := split_n hc
  have h1 : feed (pd [] q) (R.take q.bytes.toNat) = (pd (R.take q.bytes.toNat) q, []) := by
    have := feed_pd q (R.take q.bytes.toNat) [] (by simp; omega)
    simpa using this
  have e3 : R.drop q.bytes.toNat = c :: R.drop (q.bytes.toNat + 1) := by
    obtain ⟨h1, h2⟩ := List.getElem?_eq_some_iff.1 hc
    rw [List.drop_eq_getElem_cons h1, h2]
  rw [e3]
  conv => lhs; rw [e]
  rw [feed_go h1]
  exact feed_pd_bad q _ c _ (by omega) (by rw [if_pos hl]; exact h13)
theorem drop_two {R : B} {n : Nat} {c d : UInt8} (hc : R[n]? = some c) (hd : R[n + 1]? = some d) : R.drop n = c :: d :: R.drop (n + 2) := by
  obtain ⟨h1, h2⟩ := List.getElem?_eq_some_iff.1 hc
  obtain ⟨h3, h4⟩ := List.getElem?_eq_some_iff.1 hd
  rw [List.drop_eq_getElem_cons h1, h2, List.drop_eq_getElem_cons h3, h4]
theorem bad_2 {q : Rq} {R : B} {d : UInt8} (hc : R[q.bytes.toNat]? = some 13) (hd : R[q.bytes.toNat + 1]? = some d) (h10 : d ≠ 10) : feed (pd [] q) R = thn (ans 13 badData) (feed (pz 3) (R.drop q.bytes.toNat)) := by
  have e0 := drop_two hc hd
  have hl : (R.take q.bytes.toNat).length = q.bytes.toNat := (split_n hc).2
  have h1 : feed (pd [] q) (R.take q.bytes.toNat) = (pd (R.take q.bytes.toNat) q, []) := by
    have := feed_pd q (R.take q.bytes.toNat) [] (by simp; omega)
    simpa using this
  conv => lhs; rw [← List.take_append_drop q.bytes.toNat R, e0]
  rw [feed_go h1, feed_pd_13 q _ _ hl, feed_pd_bad q _ d _ (by rw [List.length_append, hl]; exact Nat.le_add_right _ _) (by rw [if_neg (by rw [List.length_append, hl]; exact Nat.succ_ne_self _)]; exact h10), e0, feed_cons (pz 3) 13, step_3, if_neg (by decide), thn_none]
theorem good_2 {q : Rq} {R : B} (hc : R[q.bytes.toNat]? = some 13) (hd : R[q.bytes.toNat + 1]? = some 10) : feed (pd [] q) R = thn (req q (R.take q.bytes.toNat)) (feed (pz 0) (R.drop (q.bytes.toNat + 2))) := by
  have e0 := drop_two hc hd
  have hl : (R.take q.bytes.toNat).length = q.bytes.toNat := (split_n hc).2
  have h1 : feed (pd [] q) (R.take q.bytes.toNat) = (pd (R.take q.bytes.toNat) q, []) := by
    have := feed_pd q (R.take q.bytes.toNat) [] (by simp; omega)
    simpa using this
  conv => lhs; rw [← List.take_append_drop q.bytes.toNat R, e0]
  rw [feed_go h1, feed_pd_13 q _ _ hl, feed_pd_10 q _ _ (by rw [List.length_append, hl]; rfl), List.take_append_of_le_length (Nat.le_of_eq hl.symm), List.take_of_length_le (Nat.le_of_eq hl)]
end Go.Proofs.YtedbklipbfbmoaaDoor
