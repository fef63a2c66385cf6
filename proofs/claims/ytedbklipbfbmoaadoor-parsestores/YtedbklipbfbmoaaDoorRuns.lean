/-
  Same, wrong; WORDSRUNS walked.
-/
import Derived.Test.YtedbklipbfbmoaaDoorLine
namespace Go.Proofs.YtedbklipbfbmoaaDoor
open Go.RowKit

set_option maxRecDepth 100000 in
theorem same_any (l : List B) (a1 a2 : Option Addr) (n1 n2 c1 c2 : Nat) (hl : l.length ≤ 100000) (w : World) (h1 : Strs w (.slice a1 n1 c1) l) (h2 : Strs w (.slice a2 n2 c2) l) :
    Calls Tryd.prog 44 #[.slice a1 n1 c1, .slice a2 n2 c2] w fun e w' => e = .returned (.bool true) ∧ Below w.heap.size w w' := by
  obtain ⟨e1, _⟩ := h1.len
  obtain ⟨e2, _⟩ := h2.len
  obtain ⟨n, hn⟩ : ∃ n, l.length = n := ⟨_, rfl⟩
  rw [hn] at e1 e2 hl
  subst n1 n2
  replace hn := hn.symm
  have H1 := Lib.hid h1
  have H2 := Lib.hid h2
  have HN := Lib.hid hn
  have nbd : n ≤ 100000 := hl
  have ne : ((n : Int) != (n : Int)) = false := by simp
  clear h1 h2 hn hl
  go_enter Tryd.func44, Tryd.ntmps44
  go_wp2_with fail
  go_loopw [5] (fun i wr => ∃ j m : Nat, j ≤ n ∧ i = .int .i64 (j : Int) ∧ Hid (wr = w.drewN m)) (fun i _ => n - (intOf i).toNat)
  case atStart => exact ⟨0, 0, by omega, rfl, rfl⟩
  case round =>
    obtain ⟨j, m, hj, rfl, HW⟩ := hrel
    by_cases hlt : j < n
    · obtain ⟨x, hx⟩ : ∃ x, l[j]? = some x := ⟨_, List.getElem?_eq_getElem (by rw [← HN.out]; exact hlt)⟩
      obtain ⟨g1, q1, f1, d1⟩ := H1.out.at_ hx
      obtain ⟨g2, q2, f2, d2⟩ := H2.out.at_ hx
      subst f1 f2
      have D1 : wr.cell? ⟨g1, q1 + j, none⟩ = some (.string (S x)) := by rw [HW.out]; exact d1
      have D2 : wr.cell? ⟨g2, q2 + j, none⟩ = some (.string (S x)) := by rw [HW.out]; exact d2
      have hi1 : (j : Int) < (n : Int) := by omega
      clear d1 d2 hx
      go_wp2_with fail
      go_quiet (fail)
      go_wp2_with fail
      exact ⟨⟨j + 1, m + nq, by omega, by go_num, by show _ = _; rw [HW.out, World.drewN_drewN]⟩, by simp [intOf]; omega⟩
    · have hi1 : decide ((j : Int) < (n : Int)) = false := decide_eq_false (by omega)
      go_wp2_with fail
      go_ret
      exact ⟨rfl, by rw [HW.out]; exact below_drewN (Below.refl _ _) m⟩
/-- Line, its answer by letters. -/
theorem line_c (s : ByteArray) (hs : s.size ≤ 100000) {v : Nat} {ks : List B} {f x b c : Int} {d : Nat} {q : Bool} {er : Nat} (h : line (L s) = (⟨v, ks, f, x, b, c, d, q⟩, er)) (V D E : Int) (hV : ((v : Nat) : Int) = V) (hD : ((d : Nat) : Int) = D) (hE : ((er : Nat) : Int) = E) (w : World) (ht : HasTab w) :
    Calls Tryd.prog 18 #[.string s] w fun e w' => ∃ a n cp, e = .returned (.tuple #[.agg #[.int .i64 V, .slice a n cp, .int .i64 f, .int .i64 x, .int .i64 b, .int .i64 c, .int .u64 D, .bool q, .string ⟨#[]⟩], .int .i64 E]) ∧ Strs w' (.slice a n cp) ks ∧ Below w.heap.size w w' ∧ ∀ A, a = some A → w.heap.size ≤ A.block := by
  have := line_any s hs w ht
  rw [h] at this
  subst hV hD hE
  exact this
theorem lit_strs (w : World) (l : List B) : Strs (w.alloc (.cells (sc l).toArray 9)) (.slice (some ⟨w.heap.size, 0, none⟩) l.length l.length) l :=
  ⟨_, _, rfl, Nat.le_refl _, fun _ => ⟨_, 0, rfl, fun i x hx => by rw [Nat.zero_add, World.cell?_alloc_new]; simp [sc, hx]⟩⟩
theorem lay_new (w : World) (cs : List Value) : (w.alloc (.cells cs.toArray 30)).rangeAt w.heap.size 0 cs := fun j v hv => by
  rw [Nat.zero_add, World.cell?_alloc_new, List.getElem?_toArray]; exact hv
theorem lay_up {w w' : World} {G : Nat} {cs : List Value} (b : Below w.heap.size w w') (h : w.rangeAt G 0 cs) : w'.rangeAt G 0 cs := fun j v hv => cell_up b (h j v hv)
/-- Same, of a list and one that is written out. -/
theorem same_lit (l : List B) (cs : Array Value) (k : Nat) (hcs : cs = (sc l).toArray) (hk : l.length = k) (a : Option Addr) (n c : Nat) (hl : l.length ≤ 100000) (w : World) (m : Nat) (hm : w.heap.size = m) (h : Strs w (.slice a n c) l) :
    Calls Tryd.prog 44 #[.slice a n c, .slice (some ⟨m, 0, none⟩) k k] (w.alloc (.cells cs 9)) fun e w' => e = .returned (.bool true) ∧ Below w.heap.size w w' := by
  subst hcs hk hm
  have b0 := (Below.refl w.heap.size w).alloc (Nat.le_refl _) (.cells (sc l).toArray 9)
  refine (same_any l _ _ _ _ _ _ hl _ (h.below b0) (lit_strs w l)).mono ?_
  rintro e w' ⟨rfl, b⟩
  exact ⟨rfl, b0.trans (b.mono b0.size)⟩
end Go.Proofs.YtedbklipbfbmoaaDoor
