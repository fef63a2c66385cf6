/-
  MAILDRAINS: the boxes and rows on their way; the reference's rounds.
-/
import Derived.Test.YtpepklgahljhbaaLeft
import Derived.StillTailTactics
namespace Go.Proofs.Ytpepklgahljhbaa
open Go.Conc Go.RowKit

/-- What is put into a box. -/
def ent (l : List Int) : List Int := if (l.take 8).head? = some 13 then [] else l.take 8
theorem ent_len (l : List Int) : (ent l).length ≤ 8 := by
  unfold ent; split
  · simp
  · rw [List.length_take]; omega
/-- The first i boxes are there. -/
structure Bd (w : World) (rl : List (List Int)) (wr : World) (o : Nat → Nat × Nat) (i : Nat) (B L : Value) (ps : List BP) (us : List Value) : Prop where
  hp : ps.length = i
  bo : OwnK wr o (8, 0) 1 B i (ps.map pv)
  le : OwnK wr o (8, 1) 1 L i us
  ru : RowsU wr o us ((rl.take i).map ent)
  bx : Bxs wr o ps ((rl.take i).map ent)
  fr : Fr TN o0 o w wr
theorem Bd.step {w wr w2 : World} {rl : List (List Int)} {o o2 : Nat → Nat × Nat} {i : Nat} {B L : Value} {ps : List BP} {us : List Value} (h : Bd w rl wr o i B L ps us) {l : List Int} (hl : rl[i]? = some l) (hi : i ≤ 6) (p : BP) (u : Value)
    (f : Fr (fun _ => False) o o2 wr w2) (hb : Bxs w2 o2 (ps ++ [p]) ((rl.take i).map ent ++ [ent l])) (hu : IntR w2 o2 (0, 0) u (ent l)) (h1 : u.oneCell' = true) :
    ∃ ba bc w3, (Builtin.append_ #[47, 47] 47 #[B, .slice (some ⟨w2.heap.size, 0, none⟩) 1 1]).run Try.prog (w2.alloc (.cells #[pv p] 22)) = .ok (.slice ba (i + 1) bc) w3 ∧
      ∃ la lc w4 o4, (Builtin.append_ #[46, 46] 46 #[L, .slice (some ⟨w3.heap.size, 0, none⟩) 1 1]).run Try.prog (w3.alloc (.cells #[u] 36)) = .ok (.slice la (i + 1) lc) w4 ∧
        Bd w rl w4 o4 (i + 1) (.slice ba (i + 1) bc) (.slice la (i + 1) lc) (ps ++ [p]) (us ++ [u]) := by
  have e : (rl.take (i + 1)).map ent = (rl.take i).map ent ++ [ent l] := by rw [List.take_add_one, hl]; simp
  obtain ⟨v3, w3, o3, r3, O3, F3⟩ := app_one (by decide) 47 22 (.pointer none) 8 under47 info22 (by kernel_rfl) (h.bo.fr f id) [pv p] rfl (fun u hu => by simp at hu; rw [hu]; rfl) (by omega) (by omega)
  obtain ⟨ba, bc, rfl, _⟩ := O3.form
  obtain ⟨v4, w4, o4, r4, O4, F4⟩ := app_one (by decide) 46 36 (.slice none 0 0) 24 under46 info36 (by kernel_rfl) ((h.le.fr f id).fr F3 (by decide)) [u] rfl (fun v hv => by simp at hv; rw [hv]; exact h1) (by omega) (by omega)
  obtain ⟨la, lc, rfl, _⟩ := O4.form
  refine ⟨ba, bc, w3, r3, la, lc, w4, o4, r4, ⟨by simp [h.hp], ?_, O4, ?_, ?_, ?_⟩⟩
  · rw [List.map_append]; exact O3.fr F4 (by decide)
  · rw [e]; exact ((((h.ru.fr f id).fr F3 (by decide)).fr F4 (by decide))).snoc ((hu.fr F3 (by decide)).fr F4 (by decide))
  · rw [e]; exact (hb.fr F3 (fun _ _ _ x => by cases x) (by decide)).fr F4 (fun _ _ _ x => by cases x) (by decide)
  · exact ((h.fr.trans (f.mono (fun _ x => x.elim))).trans (F3.mono (fun t x y => by rw [x] at y; cases y))).trans (F4.mono (fun t x y => by rw [x] at y; cases y))
/-- The reference's rounds on their way: what is left, what is wanted. -/
structure Wk (w : World) (ps : List BP) (l0 : List (List Int)) (wr : World) (o : Nat → Nat × Nat) (n : Nat) (B L W : Value) (us : List Value) (s : S) : Prop where
  hp : ps.length = n
  hn : s.1.length = n
  bo : OwnK wr o (8, 0) 1 B n (ps.map pv)
  le : OwnK wr o (8, 1) 1 L n us
  wt : OwnK wr o (8, 2) 1 W s.2.length (ic s.2)
  ru : RowsU wr o us s.1
  bx : Bxs wr o ps l0
  fr : Fr TN o0 o w wr
/-- A row's value. -/
theorem Wk.row {w : World} {ps : List BP} {l0 : List (List Int)} {wr : World} {o : Nat → Nat × Nat} {n : Nat} {B W : Value} {la : Option Addr} {lc : Nat} {us : List Value} {s : S} (h : Wk w ps l0 wr o n B (.slice la n lc) W us s) {i : Nat} {l : List Int} (hl : s.1[i]? = some l) :
    ∃ g a c, la = some ⟨g, 0, none⟩ ∧ us[i]? = some (.slice a l.length c) ∧ wr.cell? ⟨g, i, none⟩ = some (.slice a l.length c) ∧ wr.frozen? ⟨g, i, none⟩ = false ∧ IntR wr o (0, 0) (.slice a l.length c) l := by
  obtain ⟨a, c, hu, hr⟩ := h.ru.form hl
  have hi := (List.getElem?_eq_some_iff.1 hl).1
  obtain ⟨g, cap, e, _, _, h4, _, h6, h7⟩ := h.le.there (by have := h.hn; omega)
  injection e with e1 _ e3
  exact ⟨g, a, c, e1, hu, h6 i _ hu, (h7 i (by have := h.hn; omega)).2, hr⟩
/-- One frame more. -/
theorem Wk.step {w : World} {ps : List BP} {l0 : List (List Int)} {wr : World} {o : Nat → Nat × Nat} {n g lc : Nat} {B W : Value} {us : List Value} {s : S} (h : Wk w ps l0 wr o n B (.slice (some ⟨g, 0, none⟩) n lc) W us s) {i : Nat} {x : Int} {xs : List Int} {a : Option Addr} {c : Nat}
    (hl : s.1[i]? = some (x :: xs)) (hr : IntR wr o (0, 0) (.slice a (xs.length + 1) c) (x :: xs)) (hs : s.2.length ≤ 1000) :
    ∃ wa wc w3, (Builtin.append_ #[36, 36] 36 #[W, .slice (some ⟨wr.heap.size, 0, none⟩) 1 1]).run Try.prog (wr.alloc (.cells #[.int .i64 x] 3)) = .ok (.slice wa (s.2.length + 1) wc) w3 ∧ w3.cell? ⟨g, i, none⟩ = wr.cell? ⟨g, i, none⟩ ∧ w3.frozen? ⟨g, i, none⟩ = wr.frozen? ⟨g, i, none⟩ ∧
      ∃ ua uc o3, (∀ w' : World, (Instr.sliceAt 36 (.slice a (xs.length + 1) c) (some (.int .i64 1)) none none).run Try.prog w' = .ok (.slice ua xs.length uc) w') ∧
        Wk w ps l0 (w3.setCell ⟨g, i, none⟩ (.slice ua xs.length uc)) o3 n B (.slice (some ⟨g, 0, none⟩) n lc) (.slice wa (s.2.length + 1) wc) (us.set i (.slice ua xs.length uc)) (s.1.set i xs, s.2 ++ [x]) := by
  have hi := (List.getElem?_eq_some_iff.1 hl).1
  rw [h.hn] at hi
  obtain ⟨g', cap, e, hog, hgs, h4, _, h6, h7⟩ := h.le.there (by omega)
  injection e with e1 _ e3
  injection e1 with e1
  injection e1 with e1
  subst e1
  obtain ⟨v3, w3, o3, r3, O3, F3⟩ := app_one (by decide) 36 3 (.int .i64 0) 8 under36 info3 (by kernel_rfl) h.wt [.int .i64 x] rfl (fun u hu => by simp at hu; rw [hu]; rfl) (by omega) (by omega)
  obtain ⟨wa, wc, rfl, _⟩ := O3.form
  obtain ⟨U, hU, hR⟩ := hr.tail
  obtain ⟨ua, uc, rfl, _⟩ := hR.form
  have hb := F3.block g hgs (by rw [hog]; decide)
  have F4 : Fr (· = (8, 1)) o3 o3 w3 (w3.setCell ⟨g, i, none⟩ (.slice ua xs.length uc)) := Fr.set (a := ⟨g, i, none⟩) (show o3 g = (8, 1) by rw [F3.lab g hgs]; exact hog) _
  refine ⟨wa, wc, w3, r3, World.cell?_of_block (a := ⟨g, i, none⟩) hb, World.frozen?_of_block (a := ⟨g, i, none⟩) hb, ua, uc, o3, hU, ⟨h.hp, by simp [h.hn], ?_, ?_, ?_, ?_, ?_, ?_⟩⟩
  · exact (h.bo.fr F3 (by decide)).fr F4 (by decide)
  · exact (h.le.fr F3 (by decide)).set i (.slice ua xs.length uc) rfl (by omega)
  · simp only [List.length_append, List.length_singleton]
    have := O3.fr F4 (by decide)
    unfold ic at this ⊢
    rw [List.map_append]; exact this
  · exact ((h.ru.fr F3 (by decide)).fr F4 (by decide)).set i ((hR.fr F3 (by decide)).fr F4 (by decide))
  · exact (h.bx.fr F3 (fun _ _ _ x => by cases x) (by decide)).fr F4 (fun _ _ _ x => by cases x) (by decide)
  · exact (h.fr.trans (F3.mono (fun t x y => by rw [x] at y; cases y))).trans (F4.mono (fun t x y => by rw [x] at y; cases y))
theorem Wk.form {w : World} {ps : List BP} {l0 : List (List Int)} {wr : World} {o : Nat → Nat × Nat} {n : Nat} {B L W : Value} {us : List Value} {s : S} (h : Wk w ps l0 wr o n B L W us s) : (∃ a c, B = .slice a n c) ∧ (∃ a c, L = .slice a n c) ∧ ∃ a c, W = .slice a s.2.length c := by
  obtain ⟨a, c, e1, _⟩ := h.bo.form
  obtain ⟨a', c', e2, _⟩ := h.le.form
  obtain ⟨a2, c2, e3, _⟩ := h.wt.form
  exact ⟨⟨a, c, e1⟩, ⟨a', c', e2⟩, a2, c2, e3⟩
/-- All this stays while channels and lists of other marks turn. -/
theorem Wk.over {T : Nat × Nat → Prop} {w : World} {ps : List BP} {l0 l1 : List (List Int)} {wr w' : World} {o o' : Nat → Nat × Nat} {n : Nat} {B L W : Value} {us : List Value} {s : S} (h : Wk w ps l0 wr o n B L W us s) (f : Fr T o o' wr w') (h0 : ¬ T (8, 0)) (h1 : ¬ T (8, 1)) (h2 : ¬ T (8, 2)) (h3 : ¬ T (0, 0)) (hb : Bxs w' o' ps l1) : Wk w ps l1 w' o' n B L W us s :=
  ⟨h.hp, h.hn, h.bo.fr f h0, h.le.fr f h1, h.wt.fr f h2, h.ru.fr f h3, hb, h.fr.trans (f.mono (fun _ x y => h3 (y ▸ x)))⟩
/-- The first row that isn't empty, of the first j. -/
def At (ls : List (List Int)) (j : Nat) (z : Int) : Prop := (z = -1 ∧ ∀ q, q < j → ls[q]? = some []) ∨ ∃ (p : Nat) (x : Int) (xs : List Int), z = (p : Int) ∧ p < j ∧ (∀ q, q < p → ls[q]? = some []) ∧ ls[p]? = some (x :: xs)
theorem At.nil {ls : List (List Int)} {j : Nat} (h : At ls j (-1)) (hl : ls[j]? = some []) : At ls (j + 1) (-1) := by
  rcases h with ⟨_, h⟩ | ⟨p, _, _, e, _⟩
  · refine .inl ⟨rfl, fun q hq => ?_⟩
    by_cases e : q = j
    · subst e; exact hl
    · exact h q (by omega)
  · omega
theorem At.hit {ls : List (List Int)} {j : Nat} {x : Int} {xs : List Int} (h : At ls j (-1)) (hl : ls[j]? = some (x :: xs)) : At ls (j + 1) (j : Int) := by
  rcases h with ⟨_, h⟩ | ⟨p, _, _, e, _⟩
  · exact .inr ⟨j, x, xs, rfl, by omega, h, hl⟩
  · omega
theorem At.keep {ls : List (List Int)} {j : Nat} {z : Int} (h : At ls j z) (hz : 0 ≤ z) : At ls (j + 1) z := by
  rcases h with ⟨e, _⟩ | ⟨p, x, xs, e, h1, h2, h3⟩
  · omega
  · exact .inr ⟨p, x, xs, e, by omega, h2, h3⟩
theorem IsBox.drewN {w : World} {o : Nat → Nat × Nat} {b c room : Nat} {l : List F} (h : IsBox w o b c room l) (n : Nat) : IsBox (w.drewN n) o b c room l := h.fr (Fr.drewN (fun _ => False) o w n) id id
theorem len_q {o : Nat → Nat × Nat} {b c room : Nat} {l : List Int} (ll : Nat) (hl : ll = l.length) (w : World) (h : IsBox w o b c room (l.map fo)) :
    Calls Try.prog 13 #[.pointer (some ⟨b, 0, none⟩)] w fun e w' => e = .returned (.int .i64 (ll : Int)) ∧ w' = w :=
  (len_any w h).mono fun e w' ⟨h1, h2⟩ => ⟨by rw [h1, List.length_map, hl], h2⟩
/-- A world that lies above Y: nothing of Y has turned in it. -/
structure Up (Y : World) where
  w : World
  h : Below Y.heap.size Y w
/-- A region that draws its order and whose calls make new memory: walked in all the worlds in which nothing elder has turned. -/
theorem region_up {P : Program} {id : Nat} {Q : Exit → Act → World → Prop} {a : Act} {w : World} {l : List Oper} (hm : P.follows .mixedOrders = true) (hB : Region.lexB .any l.toArray = true) (Y : World) (hY : Y = { w with drawn := w.drawn + 1 })
    (h : wpQuiet P l.toArray (fun w' => ∃ s : Up Y, w' = s.w) (fun a' => ∀ w', (∃ s : Up Y, w' = s.w) → Q .normal a' w') l a) : (Code.region id l.toArray true).wp P Q a w :=
  wp_region_quiet (C := fun w' => ∃ s : Up Y, w' = s.w) hm hB ⟨⟨Y, Below.refl _ _⟩, hY.symm⟩ (by simpa using h)
theorem runs_up {Y : World} (s : Up Y) : Calls Try.prog 3 #[] s.w fun e w' => e = .returned (.bool true) ∧ ∃ s' : Up Y, w' = s'.w :=
  (runs_any s.w).mono fun _ w' h => ⟨h.1, ⟨w', s.h.trans (h.2.mono s.h.size)⟩, rfl⟩
theorem Up.cell {Y : World} (s : Up Y) {b off : Nat} {v : Value} (h : Y.cell? ⟨b, off, none⟩ = some v) : s.w.cell? ⟨b, off, none⟩ = some v :=
  (World.cell?_of_block (a := ⟨b, off, none⟩) (s.h.block b (World.block_lt_of_cell? _ _ h))).trans h
theorem ents_sum (rl : List (List Int)) : (((rl.map ent).map List.length).sum) ≤ 8 * rl.length := by
  induction rl with
  | nil => simp
  | cons l rl ih =>
    simp only [List.map_cons, List.sum_cons, List.length_cons]
    have := ent_len l
    omega
def bV : Value → Nat
  | .bool true => 1
  | _ => 0
end Go.Proofs.Ytpepklgahljhbaa
