/-
  BUILDERS that the call has made; lines.
-/
import Derived.Test.YtjlcnfafjblmkaaDoorPure
import Derived.Test.YtjlcnfafjblmkaaDoorShelf
namespace Go.Proofs.YtjlcnfafjblmkaaDoor
open Go.RowKit Go.Lib

/-- The builder at block b, its memory from block b0 on, holds these bytes. -/
def IsB (w : World) (b0 b : Nat) (l : B) : Prop := IsBuilderF 47 5 b0 b (Lib.byteCells l) w
theorem grown_of_below {w w' : World} (h : Below w.heap.size w w') : w.grownBy w' none := ⟨h.os, h.tape, h.output, h.size, fun k hk _ => h.block k hk⟩
theorem atF_up {b0 b : Nat} {p : Value} {bs : List Value} {w w' : World} (h : BuilderAtF 47 5 b0 b p bs w) (hb : Below w.heap.size w w') : BuilderAtF 47 5 b0 b p bs w' := by
  have hlt := h.lt
  obtain ⟨hB, v, hv, hown, hne⟩ := h
  exact ⟨hB, v, (hb.block b hlt).trans hv, hown.kept (grown_of_below hb) (by cases hv : v.ownBlock <;> simp), hne⟩
theorem IsB.up {w w' : World} {b0 b : Nat} {l : B} (h : IsB w b0 b l) (hb : Below w.heap.size w w') : IsB w' b0 b l := h.elim (fun x => .inl (atF_up x hb)) (fun x => .inr (atF_up x hb))
theorem IsB.lt {w : World} {b0 b : Nat} {l : B} (h : IsB w b0 b l) : b < w.heap.size := h.elim (fun x => x.lt) (fun x => x.lt)
theorem IsB.le {w : World} {b0 b : Nat} {l : B} (h : IsB w b0 b l) : b0 ≤ b := h.elim (fun x => x.1) (fun x => x.1)
theorem IsB.new (w : World) : IsB (w.alloc (.cells #[.pointer none, .slice none 0 0] 47)) w.heap.size w.heap.size [] := IsBuilderF.of (fresh_isBuilder 47 5 w)
theorem cells_app (l : B) (s : ByteArray) : Lib.byteCells l ++ Lib.strCells s = Lib.byteCells (l ++ L s) := by
  unfold Lib.byteCells Lib.strCells L
  rw [List.map_append]
theorem write_any {w : World} {b0 b : Nat} {l : B} (h : IsB w b0 b l) (s : ByteArray) (hl : l.length + s.size ≤ 140737488355328) :
    Calls Tryd.prog 17 #[.pointer (some ⟨b, 0, none⟩), .string s] w fun e w' => e = .returned (.tuple #[.int .i64 s.size, .nilIface]) ∧ IsB w' b0 b (l ++ L s) ∧ Below b0 w w' ∧ OthersKept 5 (some b) w w' := by
  refine (Tryd.Builder_WriteString_k b0 b (Lib.byteCells l) s w h (by rw [Lib.byteCells_length]; exact hl) (by have := h.lt; have := h.le; omega)).mono ?_
  rintro e w' ⟨rfl, h1, h2, h3⟩
  refine ⟨rfl, ?_, h2, h3⟩
  rw [cells_app] at h1
  exact .inr h1
theorem string_any {w : World} {b0 b : Nat} {l : B} (h : IsB w b0 b l) :
    Calls Tryd.prog 18 #[.pointer (some ⟨b, 0, none⟩)] w fun e w' => e = .returned (.string (S l)) ∧ Below b0 w w' := by
  refine (Tryd.Builder_String_any_k b0 b l w h (by have := h.lt; have := h.le; omega)).mono ?_
  rintro e w' ⟨rfl, _, h2, _⟩
  exact ⟨rfl, h2⟩
/-- Words in a slice. -/
def Ws (w : World) (q o : Nat) (xs : List ByteArray) : Prop := q < w.heap.size ∧ ∀ (j : Nat) x, xs[j]? = some x → w.cell? ⟨q, o + j, none⟩ = some (.string x)
theorem Ws.up {w w' : World} {q o : Nat} {xs : List ByteArray} (h : Ws w q o xs) (hb : Below w.heap.size w w') : Ws w' q o xs :=
  ⟨Nat.lt_of_lt_of_le h.1 hb.size, fun j x hx => (World.cell?_of_block (a := ⟨q, o + j, none⟩) (hb.block q h.1)).trans (h.2 j x hx)⟩
/-- line: words as a line. -/
theorem line_any {w : World} {q o c n : Nat} {xs : List ByteArray} (h : Ws w q o xs) (hn : xs.length = n) (hc : n ≤ c) (hlen : Lib.lens (xs.map L) + n ≤ 100000) :
    Calls Tryd.prog 12 #[.slice (some ⟨q, o, none⟩) n c] w fun e w' => e = .returned (.string (S (ln (xs.map L)))) ∧ Below w.heap.size w w' := by
  subst hn
  have hj : (Lib.join (xs.map (·.data.toList)) (⟨#[32]⟩ : ByteArray).data.toList).length ≤ 100000 := by
    show (Lib.join (xs.map L) [32]).length ≤ _
    cases xs with
    | nil => simp [Lib.join, List.intercalate]
    | cons x r =>
      rw [List.map_cons, Lib.join_length]
      rw [List.map_cons] at hlen
      simp only [List.length_map, List.length_cons, List.length_nil] at hlen ⊢
      omega
  have HC := Tryd.strings_Join q o c xs (⟨#[32]⟩ : ByteArray) w h.2 h.1 (by omega) hc (by omega)
  obtain ⟨J, hJ⟩ : ∃ J : ByteArray, J = ⟨(Lib.join (xs.map (·.data.toList)) (⟨#[32]⟩ : ByteArray).data.toList).toArray⟩ := ⟨_, rfl⟩
  rw [← hJ] at HC
  have z : J.size ≤ 100000 := by rw [hJ]; show (S _).size ≤ _; rw [S_size]; exact hj
  have e2 : S (ln (xs.map L)) = J ++ (⟨#[13, 10]⟩ : ByteArray) := by
    rw [hJ]; unfold ln; rw [← S_append]; rfl
  rw [e2]
  clear hj hJ e2 hlen h
  generalize xs.length = n at HC hc ⊢
  go_enter Tryd.func12, Tryd.ntmps12
  go_wp2_with fail
  refine HC.mono ?_
  rintro e w' ⟨rfl, b⟩
  go_wp2_with fail
  go_ret
  exact ⟨rfl, b⟩
end Go.Proofs.YtjlcnfafjblmkaaDoor
