/-
  PARSERUNS walked; events told by their cells.
-/
import Derived.Test.YtedbklipbfbmoaaDoorPFe
namespace Go.Proofs.YtedbklipbfbmoaaDoor
open Go.RowKit

theorem flat_at {cs : List (List Value)} (h : ∀ E ∈ cs, E.length = 18) {i j : Nat} {E : List Value} (hE : cs[i]? = some E) {v : Value} (hv : E[j]? = some v) : cs.flatten[i * 18 + j]? = some v := by
  induction cs generalizing i with
  | nil => simp at hE
  | cons X cs ih =>
    have hX := h X (by simp)
    have hj : j < E.length := (List.getElem?_eq_some_iff.1 hv).1
    rw [List.flatten_cons]
    cases i with
    | zero =>
      simp at hE
      subst hE
      rw [Nat.zero_mul, Nat.zero_add, List.getElem?_append_left hj]; exact hv
    | succ i =>
      rw [List.getElem?_append_right (by rw [hX]; omega), hX, show (i + 1) * 18 + j - 18 = i * 18 + j by omega]
      exact ih (fun E hE => h E (by simp [hE])) (by simpa using hE)
/-- An event of a row, by its cells. -/
theorem Evs.cell {w : World} {o : Nat → Nat × Nat} {te : Nat × Nat} {a : Option Addr} {n c : Nat} {l : List Ev} (h : Evs w o te (.slice a n c) l) {i : Nat} {ev : Ev} (hi : l[i]? = some ev) :
    ∃ g E, a = some ⟨g, 0, none⟩ ∧ EvV w o E ev ∧ ∀ j v, E[j]? = some v → w.cell? ⟨g, i * 18 + j, none⟩ = some v := by
  obtain ⟨cs, h1, h2, h3⟩ := h.ex
  have hil : i < l.length := (List.getElem?_eq_some_iff.1 hi).1
  obtain ⟨E, hE⟩ : ∃ E, cs[i]? = some E := ⟨_, List.getElem?_eq_getElem (by omega)⟩
  obtain ⟨ev', h4, h5⟩ := h3 i E hE
  rw [hi] at h4
  cases h4
  obtain ⟨g, cap, e, _, _, _, _, h6, _⟩ := h2.there (by omega)
  injection e with e1 e2 e3
  refine ⟨g, E, e1, h5, fun j v hv => h6 _ _ (flat_at (fun X hX => ?_) hE hv)⟩
  obtain ⟨k, hk⟩ := List.getElem?_of_mem hX
  obtain ⟨_, _, h7⟩ := h3 k X hk
  exact h7.len
theorem Evs.len {w : World} {o : Nat → Nat × Nat} {te : Nat × Nat} {a : Option Addr} {n c : Nat} {l : List Ev} (h : Evs w o te (.slice a n c) l) : n = l.length := by
  obtain ⟨cs, h1, h2, h3⟩ := h.ex
  obtain ⟨a', c', e, _⟩ := h2.form
  injection e
def zs (n : Nat) : ByteArray := S (List.replicate n 0)
set_option maxRecDepth 100000 in
/-- string(make([]byte, n)). -/
theorem make_zs (w : World) (n : Nat) (N : Int) (hN : N = (n : Int)) (hn : n ≤ 1000000) : ∃ w', (Instr.makeSlice 26 (.int .i64 N) (.int .i64 N)).run Tryd.prog w = .ok (.slice (some ⟨w.heap.size, 0, none⟩) n n) w' ∧
    (convert 26 9 (.slice (some ⟨w.heap.size, 0, none⟩) n n)).run Tryd.prog w' = .ok (.string (zs n)) w' ∧ Below w.heap.size w w' := by
  subst hN
  obtain ⟨i0, hi, hz0, hz1, hz2⟩ := info_parts info5
  have hr := run_make (P := Tryd.prog) w 26 5 i0 (.int .u8 0) under26 hi hz0 .i64 .i64 (n : Int) (n : Int) (by omega) (by omega) (by rw [hz2]; omega) (by omega)
  simp only [Int.toNat_natCast] at hr
  refine ⟨_, hr, ?_, (Below.refl _ _).alloc (Nat.le_refl _) _⟩
  rw [run_convert_bytes_arg _ 26 5 under26 under5 w.heap.size 0 n n (List.replicate n 0) (by simp) (fun i hi => by
    rw [World.cell?_alloc_new, hz1]
    simp [madeCells, List.getD_eq_getElem?_getD, hi, Value.cells, Nat.mod_one]
    ) 9 under9]
  unfold strOfNums zs S
  simp
def sa : ByteArray := ⟨#[103, 101, 116, 32, 97, 13, 10, 115, 101, 116, 32, 107, 32, 49, 32, 50, 32, 51, 13, 10, 97, 98, 99, 13, 10]⟩
def sb : ByteArray := ⟨#[115, 101, 116, 32, 107, 32, 48, 32, 48, 32, 49, 10, 97, 98, 99, 10, 118, 101, 114, 115, 105, 111, 110, 10]⟩
theorem run_a : feed (pz 0) (L sa) = (pz 0, [req ⟨1, [[97]], 0, 0, 0, 0, 0, false⟩ [], req ⟨3, [[107]], 1, 2, 3, 0, 0, false⟩ [97, 98, 99]]) := by kernel_rfl
theorem run_b : feed (pz 0) (L sb) = (pz 0, [ans 13 badData, req ⟨14, [], 0, 0, 0, 0, 0, false⟩ []]) := by kernel_rfl
theorem run_c : feed (pz 0) (L (zs 2049)) = (pz 4, [ans 15 []]) := by
  have := feed_pl_long (List.replicate 2049 0) [] [] (by rw [List.mem_replicate]; decide) (by rw [List.length_replicate]; decide) (by decide)
  rw [List.append_nil] at this
  exact this
/-- Feed, its answer by letters. -/
def FOk (w : World) (o : Nat → Nat × Nat) (x P : Nat) (te : Nat × Nat) (p' : Ps) (l : List Ev) (v : Value) (w' : World) (o' : Nat → Nat × Nat) : Prop :=
  ∃ a n c ka kn kc, Evs w' o' te v l ∧ IsP w' o' x P p' a n c ka kn kc ∧ Fr (TF x te) o o' w w' ∧ Tb w' o'
theorem feed_c {o : Nat → Nat × Nat} {x P : Nat} {p : Ps} {a : Option Addr} {n c : Nat} {ka : Option Addr} {kn kc : Nat} (hx : x < 7) (te : Nat × Nat) (hte : te.1 = 7) (hp : Okp p) (s : ByteArray) (hs : s.size ≤ 1000000000) {p' : Ps} {l : List Ev} (e : feed p (L s) = (p', l)) (N : Nat) (hN : l.length = N) (w : World) (h : IsP w o x P p a n c ka kn kc) (ht : Tb w o) :
    Calls Tryd.prog 10 #[.pointer (some ⟨P, 0, none⟩), .string s] w fun e w' => ∃ a c o', e = .returned (.slice a N c) ∧ FOk w o x P te p' l (.slice a N c) w' o' := by
  refine (feed_any hx te hte hp s hs w h ht).mono ?_
  rintro e' w' ⟨v, rfl, o', a', n', c', ka', kn', kc', h1, h2, h3, h4⟩
  rw [e] at h1 h2
  obtain ⟨a, c, rfl⟩ := h1.form
  rw [hN] at h1 ⊢
  exact ⟨a, c, o', rfl, a', n', c', ka', kn', kc', h1, h2, h3, h4⟩
theorem eqp (b : Nat) : ((Value.pointer (some ⟨b, 0, none⟩)) = .pointer none) = False := by simp
theorem tf_no {x : Nat} {te t : Nat × Nat} (h1 : t.1 ≠ x) (h2 : t ≠ te) : ¬ TF x te t := fun h => by rcases h with h | h; exact h1 h; exact h2 h
set_option maxRecDepth 100000 in
set_option maxHeartbeats 1000000 in
theorem runs_any (w : World) (ht : HasTab w) : Calls Tryd.prog 3 #[] w fun e w' => e = .returned (.bool true) ∧ Below w.heap.size w w' := by
  obtain ⟨o, ho⟩ : ∃ o : Nat → Nat × Nat, o = fun _ => (9, 9) := ⟨_, rfl⟩
  have T0 : Tb w o := ⟨ht, by rw [ho]⟩
  have HO : Hid (∀ b, o b = (9, 9)) := Lib.hid (fun b => by rw [ho])
  obtain ⟨Z, hZ⟩ : ∃ Z, Z = Obj.cells ((pz 0).cs (.slice none 0 0) (.slice none 0 0)).toArray 60 := ⟨_, rfl⟩
  obtain ⟨W1, hW1⟩ : ∃ W, W = w.alloc Z := ⟨_, rfl⟩
  obtain ⟨W2, hW2⟩ : ∃ W, W = W1.alloc Z := ⟨_, rfl⟩
  obtain ⟨W3, hW3⟩ : ∃ W, W = W2.alloc Z := ⟨_, rfl⟩
  obtain ⟨o3, H3⟩ : ∃ o3, IsP W3 o3 1 w.heap.size (pz 0) none 0 0 none 0 0 ∧ IsP W3 o3 2 W1.heap.size (pz 0) none 0 0 none 0 0 ∧ IsP W3 o3 3 W2.heap.size (pz 0) none 0 0 none 0 0 ∧ Tb W3 o3 ∧ Fr (fun _ => False) o o3 w W3 := by
    have i1 : IsP W1 (lab o w.heap.size (1, 0)) 1 w.heap.size (pz 0) none 0 0 none 0 0 := by rw [hW1, hZ]; exact IsP.new _ _ _
    have f1 : Fr (fun _ => False) o (lab o w.heap.size (1, 0)) w W1 := by rw [hW1]; exact Fr.new _ _ _ _ _
    have i2 : IsP W2 (lab (lab o w.heap.size (1, 0)) W1.heap.size (2, 0)) 2 W1.heap.size (pz 0) none 0 0 none 0 0 := by rw [hW2, hZ]; exact IsP.new _ _ _
    have f2 : Fr (fun _ => False) (lab o w.heap.size (1, 0)) (lab (lab o w.heap.size (1, 0)) W1.heap.size (2, 0)) W1 W2 := by rw [hW2]; exact Fr.new _ _ _ _ _
    have i3 : IsP W3 (lab (lab (lab o w.heap.size (1, 0)) W1.heap.size (2, 0)) W2.heap.size (3, 0)) 3 W2.heap.size (pz 0) none 0 0 none 0 0 := by rw [hW3, hZ]; exact IsP.new _ _ _
    have f3 : Fr (fun _ => False) (lab (lab o w.heap.size (1, 0)) W1.heap.size (2, 0)) (lab (lab (lab o w.heap.size (1, 0)) W1.heap.size (2, 0)) W2.heap.size (3, 0)) W2 W3 := by rw [hW3]; exact Fr.new _ _ _ _ _
    exact ⟨_, (i1.fr f2 id id id).fr f3 id id id, i2.fr f3 id id id, i3, ((T0.fr f1 id).fr f2 id).fr f3 id, (f1.trans f2).trans f3⟩
  have HH3 := Lib.hid H3
  rw [hZ] at hW1 hW2 hW3
  have HW1 := Lib.hid hW1
  have HW2 := Lib.hid hW2
  have HW3 := Lib.hid hW3
  clear hW1 hW2 hW3 hZ H3 T0 ht ho
  go_enter Tryd.func3, Tryd.ntmps3
  go_wp2_with fail
  refine (new_any w).mono ?_
  rintro e w1 ⟨rfl, hw1⟩
  have : w1 = W1 := by rw [hw1, HW1.out]
  clear hw1
  subst this
  go_wp2_with fail
  refine (new_any w1).mono ?_
  rintro e w2 ⟨rfl, hw2⟩
  have : w2 = W2 := by rw [hw2, HW2.out]
  clear hw2
  subst this
  go_wp2_with fail
  refine (new_any w2).mono ?_
  rintro e w3 ⟨rfl, hw3⟩
  have : w3 = W3 := by rw [hw3, HW3.out]
  clear hw3
  subst this
  obtain ⟨P1, hP1⟩ : ∃ P1, P1 = w.heap.size := ⟨_, rfl⟩
  obtain ⟨P2, hP2⟩ : ∃ P2, P2 = w1.heap.size := ⟨_, rfl⟩
  obtain ⟨P3, hP3⟩ : ∃ P3, P3 = w2.heap.size := ⟨_, rfl⟩
  rw [← hP1, ← hP2, ← hP3] at HH3 ⊢
  clear HW1 HW2 HW3 hP1 hP2 hP3
  go_wp2_with fail
  refine (feed_c (by decide) (7, 1) rfl (okp_pz 0 (.inl rfl)) sa (by decide) run_a 2 rfl w3 HH3.out.1 HH3.out.2.2.2.1).mono ?_
  rintro e w4 ⟨a4, c4, o4, rfl, _, _, _, _, _, _, E4, I4, F4, T4⟩
  obtain ⟨i1, i2, i3, t3, f3⟩ := HH3.out
  have H4 := Lib.hid (And.intro E4 (And.intro I4 (And.intro (i2.fr F4 (tf_no (by decide) (by decide)) (tf_no (by decide) (by decide)) (tf_no (by decide) (by decide))) (And.intro (i3.fr F4 (tf_no (by decide) (by decide)) (tf_no (by decide) (by decide)) (tf_no (by decide) (by decide))) (And.intro T4 ((f3.mono (T' := fun t => t ≠ (9, 9)) (fun _ h => h.elim)).trans (F4.mono (fun t h e => by subst e; exact tf_no (by decide) (by decide) h))))))))
  clear E4 I4 F4 T4 i1 i2 i3 t3 f3 HH3
  go_wp2_with fail
  refine (feed_c (by decide) (7, 2) rfl (okp_pz 0 (.inl rfl)) sb (by decide) run_b 2 rfl w4 H4.out.2.2.1 H4.out.2.2.2.2.1).mono ?_
  rintro e w5 ⟨a5, c5, o5, rfl, _, _, _, _, _, _, E5, I5, F5, T5⟩
  obtain ⟨E4, I4, i2, i3, T4, f4⟩ := H4.out
  have H5 := Lib.hid (And.intro E5 (And.intro (E4.fr F5 (tf_no (by decide) (by decide)) (tf_no (by decide) (by decide))) (And.intro (I4.fr F5 (tf_no (by decide) (by decide)) (tf_no (by decide) (by decide)) (tf_no (by decide) (by decide))) (And.intro (i3.fr F5 (tf_no (by decide) (by decide)) (tf_no (by decide) (by decide)) (tf_no (by decide) (by decide))) (And.intro T5 (f4.trans (F5.mono (T' := fun t => t ≠ (9, 9)) (fun t h e => by subst e; exact tf_no (by decide) (by decide) h))))))))
  clear E4 I4 i2 i3 T4 f4 E5 I5 F5 T5 H4
  obtain ⟨w6, hmk, hcv, b6⟩ := make_zs w5 2049 2049 rfl (by decide)
  obtain ⟨E5, E4, I4, i3, T5, f5⟩ := H5.out
  have g6 := Fr.ofBelow (fun _ => False) o5 b6
  have H6 := Lib.hid (And.intro (E5.fr g6 id id) (And.intro (E4.fr g6 id id) (And.intro (I4.fr g6 id id id) (And.intro (i3.fr g6 id id id) (And.intro (T5.fr g6 id) (f5.trans (g6.mono (fun _ h => h.elim))))))))
  clear E4 I4 i3 E5 T5 f5 g6 b6 H5
  go_wp2_with fail
  refine (feed_c (by decide) (7, 3) rfl (okp_pz 0 (.inl rfl)) (zs 2049) (by rw [zs, S_size, List.length_replicate]; decide) run_c 1 rfl w6 H6.out.2.2.2.1 H6.out.2.2.2.2.1).mono ?_
  rintro e w7 ⟨a7, c7, o7, rfl, ia, inn, ic, ika, ikn, ikc, E7, I7, F7, T7⟩
  obtain ⟨E5, E4, I4, i3, T5, f5⟩ := H6.out
  have e5 := E5.fr F7 (tf_no (by decide) (by decide)) (tf_no (by decide) (by decide))
  have e4 := E4.fr F7 (tf_no (by decide) (by decide)) (tf_no (by decide) (by decide))
  have i4 := I4.fr F7 (tf_no (by decide) (by decide)) (tf_no (by decide) (by decide)) (tf_no (by decide) (by decide))
  have f7 := f5.trans (F7.mono (T' := fun t => t ≠ (9, 9)) (fun t h e => by subst e; exact tf_no (by decide) (by decide) h))
  have HBL : Hid (Below w.heap.size w w7) := Lib.hid (f7.below (Nat.le_refl _) (fun b _ h => h (HO.out b)))
  obtain ⟨g4, X0, h40, ⟨_, _, _, hX0, _⟩, k0⟩ := e4.cell (i := 0) rfl
  obtain ⟨g4', X1, h41, ⟨_, _, _, hX1, _⟩, k1⟩ := e4.cell (i := 1) rfl
  rw [h40] at h41
  injection h41 with h41
  injection h41 with h41
  subst h41 h40
  obtain ⟨g5, Y0, h50, ⟨_, _, _, hY0, _⟩, l0⟩ := e5.cell (i := 0) rfl
  obtain ⟨g5', Y1, h51, ⟨_, _, _, hY1, _⟩, l1⟩ := e5.cell (i := 1) rfl
  rw [h50] at h51
  injection h51 with h51
  injection h51 with h51
  subst h51 h50
  obtain ⟨g7, Z0, h70, ⟨_, _, _, hZ0, _⟩, m0⟩ := E7.cell (i := 0) rfl
  subst h70
  have q1 : w7.cell? ⟨g4, 0, none⟩ = some (.int .i64 1) := k0 0 _ (by rw [hX0]; rfl)
  have q2 : w7.cell? ⟨g4, 18, none⟩ = some (.int .i64 3) := k1 0 _ (by rw [hX1]; rfl)
  have q3 : w7.cell? ⟨g4, 26, none⟩ = some (.string ⟨#[97, 98, 99]⟩) := k1 8 _ (by rw [hX1]; rfl)
  have q4 : w7.cell? ⟨g5, 9, none⟩ = some (.int .i64 13) := l0 9 _ (by rw [hY0]; rfl)
  have q5 : w7.cell? ⟨g5, 13, none⟩ = some (.string ⟨#[98, 97, 100, 32, 100, 97, 116, 97, 32, 99, 104, 117, 110, 107]⟩) := l0 13 _ (by rw [hY0]; rfl)
  have q6 : w7.cell? ⟨g5, 18, none⟩ = some (.int .i64 14) := l1 0 _ (by rw [hY1]; rfl)
  have q7 : w7.cell? ⟨g7, 9, none⟩ = some (.int .i64 15) := m0 9 _ (by rw [hZ0]; rfl)
  have HI7 := Lib.hid I7
  have HI4 := Lib.hid i4
  have HN7 : Hid (inn = 0) := Lib.hid I7.len
  clear E5 E4 I4 i3 T5 f5 e5 e4 i4 f7 E7 I7 F7 T7 H6 hmk hcv k0 k1 l0 l1 m0 hX0 hX1 hY0 hY1 hZ0
  go_wp2_with fail
  refine (shut_any w7 HI7.out true rfl).mono ?_
  rintro e w8 ⟨rfl, rfl⟩
  go_wp2_with fail
  refine (left_any w7 HI7.out).mono ?_
  rintro e w8 ⟨rfl, rfl⟩
  rw [HN7.out]
  rw [show ((0 : Nat) : Int) = 0 from rfl]
  go_wp2_with fail
  refine (shut_any w7 HI4.out false rfl).mono ?_
  rintro e w8 ⟨rfl, rfl⟩
  go_wp2_with fail
  go_ret
  exact ⟨rfl, HBL.out⟩
end Go.Proofs.YtedbklipbfbmoaaDoor
