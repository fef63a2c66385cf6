/-
  formOf: what stands behind a verb's word; just; hushed.
-/
import Derived.Test.YtedbklipbfbmoaaDoorSplit
namespace Go.Proofs.YtedbklipbfbmoaaDoor
open Go.RowKit

/-- The slice v holds these kinds. -/
def Knd (w : World) (v : Value) (ks : List Nat) : Prop :=
  ∃ a, v = .slice a ks.length ks.length ∧ (ks ≠ [] → ∃ g, a = some ⟨g, 0, none⟩ ∧ ∀ i k, ks[i]? = some k → w.cell? ⟨g, i, none⟩ = some (.int .i64 ((k : Nat) : Int)))
theorem Knd.below {w w' : World} {v : Value} {l : List Nat} (h : Knd w v l) (b : Below w.heap.size w w') : Knd w' v l := by
  obtain ⟨a, h1, h3⟩ := h
  refine ⟨a, h1, fun hl => ?_⟩
  obtain ⟨g, h4, h5⟩ := h3 hl
  exact ⟨g, h4, fun i x hx => cell_up b (h5 i x hx)⟩
theorem Knd.nil (w : World) : Knd w (.slice none 0 0) [] := ⟨none, rfl, fun h => absurd rfl h⟩
theorem Knd.new (w : World) (ks : List Nat) (e : TypeId) : Knd (w.alloc (.cells (ks.map fun k => Value.int .i64 ((k : Nat) : Int)).toArray e)) (.slice (some ⟨w.heap.size, 0, none⟩) ks.length ks.length) ks :=
  ⟨_, rfl, fun _ => ⟨_, rfl, fun i k hk => by rw [World.cell?_alloc_new]; simp [hk]⟩⟩
/-- A form as a value. -/
def Fm.v (f : Fm) (kv : Value) : Value := .agg #[kv, .int .i64 ((f.least : Nat) : Int), .int .i64 ((f.most : Nat) : Int), .bool f.hush]
set_option maxRecDepth 100000 in
theorem just_any (a : Option Addr) (n c : Nat) (w : World) : Calls Tryd.prog 48 #[.slice a n c] w fun e w' => e = .returned (.agg #[.slice a n c, .int .i64 ((n : Nat) : Int), .int .i64 ((n : Nat) : Int), .bool true]) ∧ w' = w.alloc (.cells #[.slice a n c, .int .i64 ((n : Nat) : Int), .int .i64 ((n : Nat) : Int), .bool true] 72) := by
  go_enter Tryd.func48, Tryd.ntmps48
  go_wp2_with fail
  refine bodyPost_ret (v := .agg #[.slice a n c, .int .i64 ((n : Nat) : Int), .int .i64 ((n : Nat) : Int), .bool true]) (by simp [results, Tryd.results48]; go_simp) rfl ?_
  exact ⟨rfl, rfl⟩
theorem alloc2_up (w : World) (A B : Obj) : Below w.heap.size w ((w.alloc A).alloc B) := ((Below.refl _ _).alloc (Nat.le_refl _) A).alloc (by simp) B
theorem alloc3_up (w : World) (A B C : Obj) : Below w.heap.size w (((w.alloc A).alloc B).alloc C) := (alloc2_up w A B).alloc (by simp; omega) C
theorem knd_new2 (w : World) (A : Obj) (ks : List Nat) (e : TypeId) : Knd ((w.alloc A).alloc (.cells (ks.map fun k => Value.int .i64 ((k : Nat) : Int)).toArray e)) (.slice (some ⟨w.heap.size + 1, 0, none⟩) ks.length ks.length) ks := by
  have := Knd.new (w.alloc A) ks e
  simpa using this
theorem knd_new3 (w : World) (A C : Obj) (ks : List Nat) (e : TypeId) : Knd (((w.alloc A).alloc (.cells (ks.map fun k => Value.int .i64 ((k : Nat) : Int)).toArray e)).alloc C) (.slice (some ⟨w.heap.size + 1, 0, none⟩) ks.length ks.length) ks :=
  (knd_new2 w A ks e).below ((Below.refl _ _).alloc (Nat.le_refl _) C)
set_option maxRecDepth 100000 in
theorem form_0 (w : World) : Calls Tryd.prog 31 #[.int .i64 0] w fun e w' => ∃ kv, e = .returned ((fm 0).v kv) ∧ Knd w' kv (fm 0).kinds ∧ Below w.heap.size w w' := by
  go_enter Tryd.func31, Tryd.ntmps31
  go_wp2_with fail
  refine bodyPost_ret (v := .agg #[.slice none 0 0, .int .i64 0, .int .i64 0, .bool false]) (by simp [results, Tryd.results31]; go_simp) rfl ?_
  exact ⟨_, rfl, Knd.nil _, (Below.refl _ _).alloc (Nat.le_refl _) _⟩
set_option maxRecDepth 100000 in
theorem form_1 (w : World) : Calls Tryd.prog 31 #[.int .i64 1] w fun e w' => ∃ kv, e = .returned ((fm 1).v kv) ∧ Knd w' kv (fm 1).kinds ∧ Below w.heap.size w w' := by
  go_enter Tryd.func31, Tryd.ntmps31
  go_wp2_with fail
  refine bodyPost_ret (v := .agg #[.slice (some ⟨w.heap.size + 1, 0, none⟩) 1 1, .int .i64 1, .int .i64 64, .bool false]) (by simp [results, Tryd.results31]; go_simp) rfl ?_
  exact ⟨_, rfl, knd_new2 w _ [0] 94, alloc2_up _ _ _⟩
set_option maxRecDepth 100000 in
theorem form_2 (w : World) : Calls Tryd.prog 31 #[.int .i64 2] w fun e w' => ∃ kv, e = .returned ((fm 2).v kv) ∧ Knd w' kv (fm 2).kinds ∧ Below w.heap.size w w' := by
  go_enter Tryd.func31, Tryd.ntmps31
  go_wp2_with fail
  refine bodyPost_ret (v := .agg #[.slice (some ⟨w.heap.size + 1, 0, none⟩) 1 1, .int .i64 1, .int .i64 64, .bool false]) (by simp [results, Tryd.results31]; go_simp) rfl ?_
  exact ⟨_, rfl, knd_new2 w _ [0] 94, alloc2_up _ _ _⟩
set_option maxRecDepth 100000 in
theorem form_3 (w : World) : Calls Tryd.prog 31 #[.int .i64 3] w fun e w' => ∃ kv, e = .returned ((fm 3).v kv) ∧ Knd w' kv (fm 3).kinds ∧ Below w.heap.size w w' := by
  go_enter Tryd.func31, Tryd.ntmps31
  go_wp2_with fail
  refine (just_any _ _ _ _).mono ?_
  rintro e w1 ⟨rfl, rfl⟩
  go_wp2_with fail
  refine bodyPost_ret (v := .agg #[.slice (some ⟨w.heap.size + 1, 0, none⟩) 4 4, .int .i64 4, .int .i64 4, .bool true]) (by simp [results, Tryd.results31]; go_simp) rfl ?_
  exact ⟨_, rfl, knd_new3 w _ _ [0, 1, 2, 3] 94, alloc3_up _ _ _ _⟩
set_option maxRecDepth 100000 in
theorem form_4 (w : World) : Calls Tryd.prog 31 #[.int .i64 4] w fun e w' => ∃ kv, e = .returned ((fm 4).v kv) ∧ Knd w' kv (fm 4).kinds ∧ Below w.heap.size w w' := by
  go_enter Tryd.func31, Tryd.ntmps31
  go_wp2_with fail
  refine (just_any _ _ _ _).mono ?_
  rintro e w1 ⟨rfl, rfl⟩
  go_wp2_with fail
  refine bodyPost_ret (v := .agg #[.slice (some ⟨w.heap.size + 1, 0, none⟩) 4 4, .int .i64 4, .int .i64 4, .bool true]) (by simp [results, Tryd.results31]; go_simp) rfl ?_
  exact ⟨_, rfl, knd_new3 w _ _ [0, 1, 2, 3] 94, alloc3_up _ _ _ _⟩
set_option maxRecDepth 100000 in
theorem form_5 (w : World) : Calls Tryd.prog 31 #[.int .i64 5] w fun e w' => ∃ kv, e = .returned ((fm 5).v kv) ∧ Knd w' kv (fm 5).kinds ∧ Below w.heap.size w w' := by
  go_enter Tryd.func31, Tryd.ntmps31
  go_wp2_with fail
  refine (just_any _ _ _ _).mono ?_
  rintro e w1 ⟨rfl, rfl⟩
  go_wp2_with fail
  refine bodyPost_ret (v := .agg #[.slice (some ⟨w.heap.size + 1, 0, none⟩) 4 4, .int .i64 4, .int .i64 4, .bool true]) (by simp [results, Tryd.results31]; go_simp) rfl ?_
  exact ⟨_, rfl, knd_new3 w _ _ [0, 1, 2, 3] 94, alloc3_up _ _ _ _⟩
set_option maxRecDepth 100000 in
theorem form_6 (w : World) : Calls Tryd.prog 31 #[.int .i64 6] w fun e w' => ∃ kv, e = .returned ((fm 6).v kv) ∧ Knd w' kv (fm 6).kinds ∧ Below w.heap.size w w' := by
  go_enter Tryd.func31, Tryd.ntmps31
  go_wp2_with fail
  refine (just_any _ _ _ _).mono ?_
  rintro e w1 ⟨rfl, rfl⟩
  go_wp2_with fail
  refine bodyPost_ret (v := .agg #[.slice (some ⟨w.heap.size + 1, 0, none⟩) 4 4, .int .i64 4, .int .i64 4, .bool true]) (by simp [results, Tryd.results31]; go_simp) rfl ?_
  exact ⟨_, rfl, knd_new3 w _ _ [0, 1, 2, 3] 94, alloc3_up _ _ _ _⟩
set_option maxRecDepth 100000 in
theorem form_7 (w : World) : Calls Tryd.prog 31 #[.int .i64 7] w fun e w' => ∃ kv, e = .returned ((fm 7).v kv) ∧ Knd w' kv (fm 7).kinds ∧ Below w.heap.size w w' := by
  go_enter Tryd.func31, Tryd.ntmps31
  go_wp2_with fail
  refine (just_any _ _ _ _).mono ?_
  rintro e w1 ⟨rfl, rfl⟩
  go_wp2_with fail
  refine bodyPost_ret (v := .agg #[.slice (some ⟨w.heap.size + 1, 0, none⟩) 4 4, .int .i64 4, .int .i64 4, .bool true]) (by simp [results, Tryd.results31]; go_simp) rfl ?_
  exact ⟨_, rfl, knd_new3 w _ _ [0, 1, 2, 3] 94, alloc3_up _ _ _ _⟩
set_option maxRecDepth 100000 in
theorem form_8 (w : World) : Calls Tryd.prog 31 #[.int .i64 8] w fun e w' => ∃ kv, e = .returned ((fm 8).v kv) ∧ Knd w' kv (fm 8).kinds ∧ Below w.heap.size w w' := by
  go_enter Tryd.func31, Tryd.ntmps31
  go_wp2_with fail
  refine (just_any _ _ _ _).mono ?_
  rintro e w1 ⟨rfl, rfl⟩
  go_wp2_with fail
  refine bodyPost_ret (v := .agg #[.slice (some ⟨w.heap.size + 1, 0, none⟩) 5 5, .int .i64 5, .int .i64 5, .bool true]) (by simp [results, Tryd.results31]; go_simp) rfl ?_
  exact ⟨_, rfl, knd_new3 w _ _ [0, 1, 2, 3, 4] 94, alloc3_up _ _ _ _⟩
set_option maxRecDepth 100000 in
theorem form_9 (w : World) : Calls Tryd.prog 31 #[.int .i64 9] w fun e w' => ∃ kv, e = .returned ((fm 9).v kv) ∧ Knd w' kv (fm 9).kinds ∧ Below w.heap.size w w' := by
  go_enter Tryd.func31, Tryd.ntmps31
  go_wp2_with fail
  refine (just_any _ _ _ _).mono ?_
  rintro e w1 ⟨rfl, rfl⟩
  go_wp2_with fail
  refine bodyPost_ret (v := .agg #[.slice (some ⟨w.heap.size + 1, 0, none⟩) 1 1, .int .i64 1, .int .i64 1, .bool true]) (by simp [results, Tryd.results31]; go_simp) rfl ?_
  exact ⟨_, rfl, knd_new3 w _ _ [0] 94, alloc3_up _ _ _ _⟩
set_option maxRecDepth 100000 in
theorem form_10 (w : World) : Calls Tryd.prog 31 #[.int .i64 10] w fun e w' => ∃ kv, e = .returned ((fm 10).v kv) ∧ Knd w' kv (fm 10).kinds ∧ Below w.heap.size w w' := by
  go_enter Tryd.func31, Tryd.ntmps31
  go_wp2_with fail
  refine (just_any _ _ _ _).mono ?_
  rintro e w1 ⟨rfl, rfl⟩
  go_wp2_with fail
  refine bodyPost_ret (v := .agg #[.slice (some ⟨w.heap.size + 1, 0, none⟩) 2 2, .int .i64 2, .int .i64 2, .bool true]) (by simp [results, Tryd.results31]; go_simp) rfl ?_
  exact ⟨_, rfl, knd_new3 w _ _ [0, 5] 94, alloc3_up _ _ _ _⟩
set_option maxRecDepth 100000 in
theorem form_11 (w : World) : Calls Tryd.prog 31 #[.int .i64 11] w fun e w' => ∃ kv, e = .returned ((fm 11).v kv) ∧ Knd w' kv (fm 11).kinds ∧ Below w.heap.size w w' := by
  go_enter Tryd.func31, Tryd.ntmps31
  go_wp2_with fail
  refine (just_any _ _ _ _).mono ?_
  rintro e w1 ⟨rfl, rfl⟩
  go_wp2_with fail
  refine bodyPost_ret (v := .agg #[.slice (some ⟨w.heap.size + 1, 0, none⟩) 2 2, .int .i64 2, .int .i64 2, .bool true]) (by simp [results, Tryd.results31]; go_simp) rfl ?_
  exact ⟨_, rfl, knd_new3 w _ _ [0, 5] 94, alloc3_up _ _ _ _⟩
set_option maxRecDepth 100000 in
theorem form_12 (w : World) : Calls Tryd.prog 31 #[.int .i64 12] w fun e w' => ∃ kv, e = .returned ((fm 12).v kv) ∧ Knd w' kv (fm 12).kinds ∧ Below w.heap.size w w' := by
  go_enter Tryd.func31, Tryd.ntmps31
  go_wp2_with fail
  refine (just_any _ _ _ _).mono ?_
  rintro e w1 ⟨rfl, rfl⟩
  go_wp2_with fail
  refine bodyPost_ret (v := .agg #[.slice (some ⟨w.heap.size + 1, 0, none⟩) 2 2, .int .i64 2, .int .i64 2, .bool true]) (by simp [results, Tryd.results31]; go_simp) rfl ?_
  exact ⟨_, rfl, knd_new3 w _ _ [0, 2] 94, alloc3_up _ _ _ _⟩
set_option maxRecDepth 100000 in
theorem form_13 (w : World) : Calls Tryd.prog 31 #[.int .i64 13] w fun e w' => ∃ kv, e = .returned ((fm 13).v kv) ∧ Knd w' kv (fm 13).kinds ∧ Below w.heap.size w w' := by
  go_enter Tryd.func31, Tryd.ntmps31
  go_wp2_with fail
  refine bodyPost_ret (v := .agg #[.slice (some ⟨w.heap.size + 1, 0, none⟩) 1 1, .int .i64 0, .int .i64 1, .bool true]) (by simp [results, Tryd.results31]; go_simp) rfl ?_
  exact ⟨_, rfl, knd_new2 w _ [7] 94, alloc2_up _ _ _⟩
set_option maxRecDepth 100000 in
theorem form_14 (w : World) : Calls Tryd.prog 31 #[.int .i64 14] w fun e w' => ∃ kv, e = .returned ((fm 14).v kv) ∧ Knd w' kv (fm 14).kinds ∧ Below w.heap.size w w' := by
  go_enter Tryd.func31, Tryd.ntmps31
  go_wp2_with fail
  refine bodyPost_ret (v := .agg #[.slice none 0 0, .int .i64 0, .int .i64 0, .bool false]) (by simp [results, Tryd.results31]; go_simp) rfl ?_
  exact ⟨_, rfl, Knd.nil _, (Below.refl _ _).alloc (Nat.le_refl _) _⟩
set_option maxRecDepth 100000 in
theorem form_15 (w : World) : Calls Tryd.prog 31 #[.int .i64 15] w fun e w' => ∃ kv, e = .returned ((fm 15).v kv) ∧ Knd w' kv (fm 15).kinds ∧ Below w.heap.size w w' := by
  go_enter Tryd.func31, Tryd.ntmps31
  go_wp2_with fail
  refine (just_any _ _ _ _).mono ?_
  rintro e w1 ⟨rfl, rfl⟩
  go_wp2_with fail
  refine bodyPost_ret (v := .agg #[.slice (some ⟨w.heap.size + 1, 0, none⟩) 1 1, .int .i64 1, .int .i64 1, .bool true]) (by simp [results, Tryd.results31]; go_simp) rfl ?_
  exact ⟨_, rfl, knd_new3 w _ _ [6] 94, alloc3_up _ _ _ _⟩
set_option maxRecDepth 100000 in
theorem form_16 (w : World) : Calls Tryd.prog 31 #[.int .i64 16] w fun e w' => ∃ kv, e = .returned ((fm 16).v kv) ∧ Knd w' kv (fm 16).kinds ∧ Below w.heap.size w w' := by
  go_enter Tryd.func31, Tryd.ntmps31
  go_wp2_with fail
  refine bodyPost_ret (v := .agg #[.slice none 0 0, .int .i64 0, .int .i64 0, .bool false]) (by simp [results, Tryd.results31]; go_simp) rfl ?_
  exact ⟨_, rfl, Knd.nil _, (Below.refl _ _).alloc (Nat.le_refl _) _⟩
set_option maxRecDepth 100000 in
theorem form_17 (w : World) : Calls Tryd.prog 31 #[.int .i64 17] w fun e w' => ∃ kv, e = .returned ((fm 17).v kv) ∧ Knd w' kv (fm 17).kinds ∧ Below w.heap.size w w' := by
  go_enter Tryd.func31, Tryd.ntmps31
  go_wp2_with fail
  refine bodyPost_ret (v := .agg #[.slice none 0 0, .int .i64 0, .int .i64 0, .bool false]) (by simp [results, Tryd.results31]; go_simp) rfl ?_
  exact ⟨_, rfl, Knd.nil _, (Below.refl _ _).alloc (Nat.le_refl _) _⟩
theorem form_any : ∀ (v : Nat), v < 18 → ∀ w : World, Calls Tryd.prog 31 #[.int .i64 ((v : Nat) : Int)] w fun e w' => ∃ kv, e = .returned ((fm v).v kv) ∧ Knd w' kv (fm v).kinds ∧ Below w.heap.size w w'
  | 0, _, w => form_0 w
  | 1, _, w => form_1 w
  | 2, _, w => form_2 w
  | 3, _, w => form_3 w
  | 4, _, w => form_4 w
  | 5, _, w => form_5 w
  | 6, _, w => form_6 w
  | 7, _, w => form_7 w
  | 8, _, w => form_8 w
  | 9, _, w => form_9 w
  | 10, _, w => form_10 w
  | 11, _, w => form_11 w
  | 12, _, w => form_12 w
  | 13, _, w => form_13 w
  | 14, _, w => form_14 w
  | 15, _, w => form_15 w
  | 16, _, w => form_16 w
  | 17, _, w => form_17 w
  | n + 18, h, _ => absurd h (by omega)
end Go.Proofs.YtedbklipbfbmoaaDoor
