/-
  THE CHAPTER'S RUNS.
-/
import Derived.Test.YtmhhegkpkncebaaOwn
namespace Go.Proofs.Ytmhhegkpkncebaa
open Go.RowKit

theorem run_f0 : fragS 2 ⟨#[97, 98, 99]⟩ 0 = ⟨#[97, 98]⟩ := by kernel_rfl
theorem run_f1 : fragS 2 ⟨#[97, 98, 99]⟩ 1 = ⟨#[99, 0]⟩ := by kernel_rfl
theorem run_z (i : Nat) : fragS 2 ⟨#[]⟩ i = ⟨#[]⟩ := rfl
/-- A list of two. -/
def two {α : Type} (x y : α) : Nat → α := fun i => if i = 0 then x else y
theorem ownS_at {w : World} {G n k : Nat} {R : Nat → ByteArray} (h : OwnS w G n R k) {i : Nat} (hi : i < k) : w.cell? ⟨G, i, none⟩ = some (.string (R i)) := by
  obtain ⟨C, h1, _, h2⟩ := h
  rw [cell_of_row w G i C 9 (0, 0) h1]; exact h2 i hi
theorem part2 (w : World) (x y : Int) (s t : ByteArray) : PartF (w.alloc (.cells #[.int .i64 x, .string s, .int .i64 y, .string t] 31)) (some ⟨w.heap.size, 0, none⟩) (two x y) (two s t) 2 := by
  refine Or.inr ⟨w.heap.size, 0, rfl, fun i hi => ?_⟩
  rw [Nat.zero_add, World.cell?_alloc_mark, World.cell?_alloc_mark]
  match i, hi with
  | 0, _ => exact ⟨rfl, rfl⟩
  | 1, _ => exact ⟨rfl, rfl⟩
theorem part1 (w : World) (x : Int) (s : ByteArray) : PartF (w.alloc (.cells #[.int .i64 x, .string s] 31)) (some ⟨w.heap.size, 0, none⟩) (fun _ => x) (fun _ => s) 1 := by
  refine Or.inr ⟨w.heap.size, 0, rfl, fun i hi => ?_⟩
  rw [Nat.zero_add, World.cell?_alloc_mark, World.cell?_alloc_mark]
  match i, hi with
  | 0, _ => exact ⟨rfl, rfl⟩
theorem IsCode.alloc {w : World} {b k n : Nat} (h : IsCode w b k n) (o : Obj) : IsCode (w.alloc o) b k n := h.up ((Below.refl _ _).alloc (Nat.le_refl _) _)

theorem PartF.alike {w w' : World} {a : Option Addr} {A : Nat → Int} {D : Nat → ByteArray} {n : Nat} (h : PartF w a A D n) (e : Alike w w') : PartF w' a A D n := h.up (e.below _)
theorem IsCode.alike {w w' : World} {b k n : Nat} (h : IsCode w b k n) (e : Alike w w') : IsCode w' b k n := h.up (e.below _)
theorem run_own : ∀ i, i < 2 → 0 ≤ two (2 : Int) 0 i ∧ two (2 : Int) 0 i < ((3 : Nat) : Int) ∧ two (fragS 2 ⟨#[97, 98, 99]⟩ 2) ⟨#[97, 98]⟩ i = fragS 2 ⟨#[97, 98, 99]⟩ (two (2 : Int) 0 i).toNat := by
  intro i hi
  match i, hi with
  | 0, _ => exact ⟨by decide, by decide, rfl⟩
  | 1, _ => exact ⟨by decide, by decide, run_f0.symm⟩
theorem run_own1 : ∀ i, i < 1 → 0 ≤ (fun _ : Nat => (0 : Int)) i ∧ (fun _ : Nat => (0 : Int)) i < ((3 : Nat) : Int) ∧ (fun _ : Nat => (⟨#[97, 98]⟩ : ByteArray)) i = fragS 2 ⟨#[97, 98, 99]⟩ ((fun _ : Nat => (0 : Int)) i).toNat := by
  intro i _
  refine ⟨?_, ?_, run_f0.symm⟩
  · show (0 : Int) ≤ 0; decide
  · show (0 : Int) < 3; decide

set_option maxHeartbeats 4000000 in
set_option maxRecDepth 100000 in
theorem rruns_any (w : World) : Calls Try.prog 3 #[] w fun e w' => e = .returned (.bool true) ∧ Below w.heap.size w w' := by
  go_enter Try.func3, Try.ntmps3
  go_wp2_with fail
  refine (new_any 2 1 _ _ rfl rfl (by decide) (by decide) (by decide) _).mono ?_
  rintro e w1 ⟨b, rfl, hC1, hb1⟩
  go_wp2_with fail
  refine (new_none 0 1 (by decide) _).mono ?_
  rintro e w2 ⟨rfl, hb2⟩
  have hC2 := hC1.up hb2
  have HB2 : Hid (Below w.heap.size w w2) := hb1.trans (hb2.mono hb1.size)
  clear hC1 hb1 hb2
  have HC2 : Hid (IsCode w2 b 2 3) := hC2
  clear hC2
  go_wp2_with fail
  refine (encode_any b 2 3 ⟨#[97, 98, 99]⟩ (by decide) (by decide) (by decide) (by decide) _ HC2.out).mono ?_
  rintro e w3 ⟨G, rfl, hG, OG, hb3⟩
  obtain ⟨F2, eF2⟩ : ∃ F, F = fragS 2 ⟨#[97, 98, 99]⟩ 2 := ⟨_, rfl⟩
  have l0 := ownS_at OG (i := 0) (by decide)
  have l1 := ownS_at OG (i := 1) (by decide)
  have l2 := ownS_at OG (i := 2) (by decide)
  rw [run_f0] at l0
  rw [run_f1] at l1
  rw [← eF2] at l2
  have HC3 : Hid (IsCode w3 b 2 3) := HC2.out.up hb3
  have HB3 : Hid (Below w.heap.size w w3) := HB2.out.trans (hb3.mono HB2.out.size)
  clear OG hb3 HC2 HB2 hG
  have EF2 : Hid (F2 = fragS 2 ⟨#[97, 98, 99]⟩ 2) := eF2
  clear eF2
  go_wp2_with fail
  have HC4 : Hid (IsCode (w3.alloc (.cells #[.int .i64 2, .string F2, .int .i64 0, .string ⟨#[97, 98]⟩] 31)).drew b 2 3) := (HC3.out.alloc _).alike ⟨rfl, rfl, rfl, rfl⟩
  have HP4 : Hid (PartF (w3.alloc (.cells #[.int .i64 2, .string F2, .int .i64 0, .string ⟨#[97, 98]⟩] 31)).drew (some ⟨w3.heap.size, 0, none⟩) (two 2 0) (two F2 ⟨#[97, 98]⟩) 2) := (part2 w3 2 0 F2 ⟨#[97, 98]⟩).alike ⟨rfl, rfl, rfl, rfl⟩
  have HBx : Hid (Below w3.heap.size w3 (w3.alloc (.cells #[.int .i64 2, .string F2, .int .i64 0, .string ⟨#[97, 98]⟩] 31)).drew) := below_alike ((Below.refl _ _).alloc (Nat.le_refl _) _) ⟨rfl, rfl, rfl, rfl⟩
  go_region_with (go_at_call 11; refine (decode_any b 2 3 2 2 3 _ (two 2 0) (two F2 ⟨#[97, 98]⟩) (by decide) (by decide) (by decide) (by decide) _ HC4.out HP4.out).mono ?_; rintro e w4 ⟨s4, r4, rfl, hd4, hb4⟩; obtain ⟨es, er⟩ := dec_own (v := ⟨#[97, 98, 99]⟩) (by decide) rfl (by decide) (by rw [EF2.out]; exact run_own) (by decide) hd4; subst es er; have B4 := HBx.out.trans (hb4.mono HBx.out.size); clear hb4 hd4)
  all_goals
    have m0 := cell_later B4 l0
    have m1 := cell_later B4 l1
    have m2 := cell_later B4 l2
    have HC5 : Hid (IsCode w4 b 2 3) := HC3.out.up B4
    have HB5 : Hid (Below w.heap.size w w4) := HB3.out.trans (B4.mono HB3.out.size)
    clear B4 HC4 HP4 HBx l0 l1 l2 HC3 HB3
    have HC4 : Hid (IsCode (w4.alloc (.cells #[.int .i64 2, .string F2, .int .i64 0, .string ⟨#[97, 98]⟩] 31)).drew b 2 3) := (HC5.out.alloc _).alike ⟨rfl, rfl, rfl, rfl⟩
    have HP4 : Hid (PartF (w4.alloc (.cells #[.int .i64 2, .string F2, .int .i64 0, .string ⟨#[97, 98]⟩] 31)).drew (some ⟨w4.heap.size, 0, none⟩) (two 2 0) (two F2 ⟨#[97, 98]⟩) 2) := (part2 w4 2 0 F2 ⟨#[97, 98]⟩).alike ⟨rfl, rfl, rfl, rfl⟩
    have HBx : Hid (Below w4.heap.size w4 (w4.alloc (.cells #[.int .i64 2, .string F2, .int .i64 0, .string ⟨#[97, 98]⟩] 31)).drew) := below_alike ((Below.refl _ _).alloc (Nat.le_refl _) _) ⟨rfl, rfl, rfl, rfl⟩
    go_wp2_with fail
    go_region_with (go_at_call 12; refine (rebuild_any b 2 3 2 2 3 1 _ (two 2 0) (two F2 ⟨#[97, 98]⟩) (by decide) (by decide) (by decide) (by decide) _ HC4.out HP4.out).mono ?_; rintro e w5 ⟨s5, r5, rfl, hd5, hb5⟩; obtain ⟨es, er⟩ := reb_own (v := ⟨#[97, 98, 99]⟩) (x := 1) (by decide) rfl (by decide) (by rw [EF2.out]; exact run_own) (by decide) rfl (by decide) hd5; rw [run_f1] at es; subst es er; have B5 := HBx.out.trans (hb5.mono HBx.out.size); clear hb5 hd5)
    all_goals
      have n0 := cell_later B5 m0
      have n1 := cell_later B5 m1
      have HC6 : Hid (IsCode w5 b 2 3) := HC5.out.up B5
      have HB6 : Hid (Below w.heap.size w w5) := HB5.out.trans (B5.mono HB5.out.size)
      clear B5 HC4 HP4 HBx m0 m1 m2 HC5 HB5
      have HC4 : Hid (IsCode (w5.alloc (.cells #[.int .i64 0, .string ⟨#[97, 98]⟩] 31)) b 2 3) := HC6.out.alloc _
      have HP4 : Hid (PartF (w5.alloc (.cells #[.int .i64 0, .string ⟨#[97, 98]⟩] 31)) (some ⟨w5.heap.size, 0, none⟩) (fun _ => 0) (fun _ => ⟨#[97, 98]⟩) 1) := part1 w5 0 ⟨#[97, 98]⟩
      have HBx : Hid (Below w5.heap.size w5 (w5.alloc (.cells #[.int .i64 0, .string ⟨#[97, 98]⟩] 31))) := (Below.refl _ _).alloc (Nat.le_refl _) _
      go_wp2_with fail
      refine (decode_any b 2 3 1 1 3 _ (fun _ => 0) (fun _ => ⟨#[97, 98]⟩) (by decide) (by decide) (by decide) (by decide) _ HC4.out HP4.out).mono ?_
      rintro e w6 ⟨s6, r6, rfl, hd6, hb6⟩
      have er := dec_few (v := ⟨#[97, 98, 99]⟩) rfl (by decide) run_own1 (by decide) hd6
      subst er
      have B6 := HBx.out.trans (hb6.mono HBx.out.size)
      have HC7 : Hid (IsCode w6 b 2 3) := HC6.out.up B6
      have HB7 : Hid (Below w.heap.size w w6) := HB6.out.trans (B6.mono HB6.out.size)
      have p1 := cell_later B6 n1
      clear hb6 hd6 B6 HC4 HP4 HBx HC6 HB6 n0 n1
      go_wp2_with fail
      refine (encode_any b 2 3 ⟨#[]⟩ (by decide) (by decide) (by decide) (by decide) _ HC7.out).mono ?_
      rintro e w7 ⟨G7, rfl, hG7, OG7, hb7⟩
      have q2 := ownS_at OG7 (i := 2) (by decide)
      rw [run_z] at q2
      have q1 := cell_later hb7 p1
      have HB8 : Hid (Below w.heap.size w w7) := HB7.out.trans (hb7.mono HB7.out.size)
      clear OG7 hb7 p1 hG7 HB7
      go_wp2_with fail
      go_ret
      exact ⟨rfl, HB8.out⟩
end Go.Proofs.Ytmhhegkpkncebaa
