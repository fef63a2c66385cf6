/-
  Feed: many bytes.
-/
import Derived.Test.YtedbklipbfbmoaaDoorPRd
namespace Go.Proofs.YtedbklipbfbmoaaDoor
open Go.RowKit

theorem under24 : Tryd.prog.underlying 24 = some (.slice 36) := by kernel_rfl
/-- Events in a slice of the call's own (its mark te), each with its keys. -/
structure Evs (w : World) (o : Nat → Nat × Nat) (te : Nat × Nat) (v : Value) (l : List Ev) : Prop where
  ex : ∃ cs : List (List Value), cs.length = l.length ∧ OwnK w o te 18 v l.length cs.flatten ∧ ∀ (i : Nat) (E : List Value), cs[i]? = some E → ∃ ev, l[i]? = some ev ∧ EvV w o E ev
theorem Evs.nil (w : World) (o : Nat → Nat × Nat) (te : Nat × Nat) : Evs w o te (.slice none 0 0) [] := ⟨[], rfl, OwnK.nil _ _ _ _, fun i E h => by simp at h⟩
theorem Evs.fr {T : Nat × Nat → Prop} {w w' : World} {o o' : Nat → Nat × Nat} {te : Nat × Nat} {v : Value} {l : List Ev} (h : Evs w o te v l) (f : Fr T o o' w w') (ht : ¬ T te) (h9 : ¬ T (9, 9)) : Evs w' o' te v l := by
  obtain ⟨cs, h1, h2, h3⟩ := h.ex
  refine ⟨cs, h1, h2.fr f ht, fun i E hE => ?_⟩
  obtain ⟨ev, h4, h5⟩ := h3 i E hE
  exact ⟨ev, h4, h5.fr f h9⟩
theorem Evs.form {w : World} {o : Nat → Nat × Nat} {te : Nat × Nat} {v : Value} {l : List Ev} (h : Evs w o te v l) : ∃ a c, v = .slice a l.length c := by
  obtain ⟨cs, h1, h2, h3⟩ := h.ex
  obtain ⟨a, c, e, _⟩ := h2.form
  exact ⟨a, c, e⟩
theorem info36 : (Tryd.prog.info? 36).map (fun i => (i.zero, i.size, i.bytes)) = some (some (.agg ([.int .i64 0, .slice none 0 0, .int .i64 0, .int .i64 0, .int .i64 0, .int .i64 0, .int .u64 0, .bool false, .string ⟨#[]⟩, .int .i64 0, .slice none 0 0, .bool false, .int .u64 0, .string ⟨#[]⟩, .int .i64 0, .int .i64 0, .int .i64 0, .int .i64 0] : List Value).toArray), 18, 192) := by kernel_rfl
/-- One event more. -/
theorem Evs.app {w : World} {o : Nat → Nat × Nat} {te : Nat × Nat} {v : Value} {l : List Ev} (h : Evs w o te v l) (ht : te ≠ (9, 9)) {E : List Value} {ev : Ev} (hE : EvV w o E ev) (hl : l.length < 10000000000) :
    ∃ a c w' o', (Builtin.append_ #[24, 24] 24 #[v, .slice (some ⟨w.heap.size, 0, none⟩) 1 1]).run Tryd.prog (w.alloc (.cells E.toArray 36)) = .ok (.slice a (l.length + 1) c) w' ∧ Evs w' o' te (.slice a (l.length + 1) c) (l ++ [ev]) ∧ Fr (· = te) o o' w w' := by
  obtain ⟨cs, h1, h2, h3⟩ := h.ex
  obtain ⟨v', w', o', hr, O3, F3⟩ := app_one 24 36 _ 192 under24 info36 rfl h2 E hE.len hE.one (by omega) (by omega)
  obtain ⟨a, c, rfl, _⟩ := O3.form
  refine ⟨a, c, w', o', hr, ⟨cs ++ [E], by simp [h1], ?_, fun i E' hi => ?_⟩, F3⟩
  · rw [List.length_append, List.flatten_append]
    simpa using O3
  · have h9 : ¬ ((9, 9) = te) := fun e => ht e.symm
    by_cases hlt : i < cs.length
    · rw [List.getElem?_append_left hlt] at hi
      obtain ⟨ev', h4, h5⟩ := h3 i E' hi
      exact ⟨ev', by rw [List.getElem?_append_left (by omega)]; exact h4, h5.fr F3 h9⟩
    · rw [List.getElem?_append_right (by omega)] at hi
      have hz : i - cs.length = 0 := by
        have := (List.getElem?_eq_some_iff.1 hi).1
        simp at this; omega
      rw [hz] at hi
      simp at hi
      subst hi
      exact ⟨ev, by rw [List.getElem?_append_right (by omega), show i - l.length = 0 by omega]; rfl, hE.fr F3 h9⟩
/-- Is it in data? -/
def st1 (p : Ps) : Nat := if p.st = 1 then 1 else 0
/-- What a reading call comes to. -/
def ROut (w : World) (o : Nat → Nat × Nat) (x P : Nat) (p : Ps) (s : ByteArray) (e : Ending) (w' : World) : Prop :=
  ∃ E p' ev rest, e = .returned (.tuple #[.string (S rest), .agg E.toArray]) ∧ OutE w o x P p' ev E w' ∧ feed p (L s) = thn ev (feed p' rest) ∧ 2 * rest.length + st1 p' < 2 * s.size + st1 p ∧ Okp p'
theorem okp_rest {p p' : Ps} {b : B} {ev : Ev} (h : Okp p) (e : feed p b = thn ev (feed p' [])) : Okp p' := by
  have := okp_feed b h
  rw [e] at this
  exact this
theorem rd_line {o : Nat → Nat × Nat} {x P : Nat} {l : B} {a : Option Addr} {n c : Nat} {ka : Option Addr} {kn kc : Nat} (hx : x < 8) (s : ByteArray) (hs : s.size ≤ 1000000000) (h0 : 0 < s.size) (hl : l.length ≤ 2048) (hp : Okp (pl l)) (w : World) (h : IsP w o x P (pl l) a n c ka kn kc) (ht : Tb w o) :
    Calls Tryd.prog 22 #[.pointer (some ⟨P, 0, none⟩), .string s] w fun e w' => ROut w o x P (pl l) s e w' := by
  obtain ⟨p', ev, rest, hC, hf, hr, hk⟩ := read_line hx s hs h0 hl w h ht
  refine hC.mono ?_
  rintro e w' ⟨E, he, hO⟩
  refine ⟨E, p', ev, rest, he, hO, hf, ?_, by rcases hk with rfl | hk; exact okp_rest hp hf; exact hk⟩
  have : st1 p' ≤ 1 := by unfold st1; split <;> omega
  have : st1 (pl l) = 0 := rfl
  omega
theorem rd_data {o : Nat → Nat × Nat} {x P : Nat} {q : Rq} {l : B} {a : Option Addr} {n c : Nat} {ka : Option Addr} {kn kc : Nat} (hx : x < 8) (s : ByteArray) (hs : s.size ≤ 1000000000) (h0 : 0 < s.size) (hq0 : 0 ≤ q.bytes) (hq1 : q.bytes ≤ 1048576) (hl : l.length ≤ q.bytes.toNat + 1) (hp : Okp (pd l q)) (w : World) (h : IsP w o x P (pd l q) a n c ka kn kc) :
    Calls Tryd.prog 23 #[.pointer (some ⟨P, 0, none⟩), .string s] w fun e w' => ROut w o x P (pd l q) s e w' := by
  refine (read_data hx s hs h0 q.bytes.toNat (by omega) (by omega) hl w h).mono ?_
  rintro e w' ⟨E, p', ev, rest, he, hO, hf, hm, hk⟩
  exact ⟨E, p', ev, rest, he, hO, hf, hm, by rcases hk with rfl | rfl | rfl; exact okp_rest hp hf; exact okp_pz 0 (.inl rfl); exact okp_pz 3 (.inr (.inl rfl))⟩
/-- A state's number in memory: is it in data? -/
def stOf (w : World) (P : Nat) : Nat := match w.cell? ⟨P, 0, none⟩ with
  | some (.int _ k) => if k = 1 then 1 else 0
  | _ => 0
theorem stOf_is {w : World} {o : Nat → Nat × Nat} {x P : Nat} {p : Ps} {a : Option Addr} {n c : Nat} {ka : Option Addr} {kn kc : Nat} (h : IsP w o x P p a n c ka kn kc) : stOf w P = st1 p := by
  unfold stOf st1
  rw [h.at_ 0 _ rfl]
  simp only
  by_cases e : p.st = 1
  · rw [if_pos e, if_pos (by rw [e]; rfl)]
  · rw [if_neg e, if_neg (by omega)]
def TF (x : Nat) (te : Nat × Nat) (t : Nat × Nat) : Prop := t.1 = x ∨ t = te
/-- Feed on its way. -/
structure Fd (w : World) (o0 : Nat → Nat × Nat) (x P : Nat) (te : Nat × Nat) (p0 : Ps) (s : ByteArray) (wr : World) (rs : B) (acc : List Ev) (p : Ps) (ev : Value) : Prop where
  ex : ∃ o a n c ka kn kc, Evs wr o te ev acc ∧ IsP wr o x P p a n c ka kn kc ∧ Fr (TF x te) o0 o w wr ∧ Tb wr o
  ok : Okp p
  eq : feed p0 (L s) = ((feed p rs).1, acc ++ (feed p rs).2)
  sz : rs.length ≤ s.size
theorem Fd.few {w : World} {o0 : Nat → Nat × Nat} {x P : Nat} {te : Nat × Nat} {p0 : Ps} {s : ByteArray} {wr : World} {rs : B} {acc : List Ev} {p : Ps} {ev : Value} (h : Fd w o0 x P te p0 s wr rs acc p ev) : acc.length ≤ s.size := by
  have := feed_len (L s) p0
  rw [h.eq, L_len] at this
  simp at this; omega
/-- A step that makes no event. -/
theorem Fd.go {w : World} {o0 : Nat → Nat × Nat} {x P : Nat} {te : Nat × Nat} {p0 : Ps} {s : ByteArray} {wr wr' : World} {rs rs' : B} {acc : List Ev} {p p' : Ps} {ev : Value} (hx : x < 7) (hte : te.1 = 7) (h : Fd w o0 x P te p0 s wr rs acc p ev) {o o' : Nat → Nat × Nat} (hE : Evs wr o te ev acc) (hF : Fr (TF x te) o0 o w wr) (hT : Tb wr o) (f : Fr (TX x) o o' wr wr')
    {a : Option Addr} {n c : Nat} {ka : Option Addr} {kn kc : Nat} (hI : IsP wr' o' x P p' a n c ka kn kc) (hp : Okp p') (e : feed p rs = feed p' rs') (hz : rs'.length ≤ rs.length) : Fd w o0 x P te p0 s wr' rs' acc p' ev := by
  refine ⟨⟨o', a, n, c, ka, kn, kc, hE.fr f (fun h => ?_) (fun h => ?_), hI, hF.trans (f.mono (fun t h => .inl h)), hT.fr f (fun h => ?_)⟩, hp, ?_, Nat.le_trans hz h.sz⟩
  · have : te.1 = x := h
    omega
  · have : 9 = x := h
    omega
  · have : 9 = x := h
    omega
  · rw [h.eq, e]
end Go.Proofs.YtedbklipbfbmoaaDoor
