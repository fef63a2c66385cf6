/-
  A BOX and its contents; New, Put, Take, Len, of.
-/
import Derived.Test.YtpepklgahljhbaaBox
namespace Go.Proofs.Ytpepklgahljhbaa
open Go.Conc Go.RowKit

/-- A frame of a number. -/
def fo (n : Int) : F := ⟨0, 0, 0, n, 0, 0, ⟨#[]⟩, 0, ⟨#[]⟩⟩
/-- The box at block b, its channel in block c, with so much room, holds such frames. -/
structure IsBox (w : World) (o : Nat → Nat × Nat) (b c room : Nat) (l : List F) : Prop where
  hb : w.cell? ⟨b, 0, none⟩ = some (.chan (some c))
  ob : o b = (2, 0)
  oc : o c = (1, c)
  hc : ∃ s r, w.heap[c]? = some (.chan room (l.map F.v).toArray false s r false)
theorem IsBox.fr {T : Nat × Nat → Prop} {w w' : World} {o o' : Nat → Nat × Nat} {b c room : Nat} {l : List F} (h : IsBox w o b c room l) (f : Fr T o o' w w') (h1 : ¬ T (1, c)) (h2 : ¬ T (2, 0)) : IsBox w' o' b c room l := by
  obtain ⟨s, r, hc⟩ := h.hc
  have hcl := lt_of_get hc
  have hbl := World.block_lt_of_cell? _ _ h.hb
  refine ⟨f.cell h.hb (by rw [h.ob]; exact h2), (f.lab b hbl).trans h.ob, (f.lab c hcl).trans h.oc, s, r, ?_⟩
  rw [f.block c hcl (by rw [h.oc]; exact h1)]; exact hc
theorem Fr.setChan {o : Nat → Nat × Nat} {w : World} {c cap s r : Nat} {buf : Array Value} (h : o c = (1, c)) : Fr (· = (1, c)) o o w (w.setChan c cap buf false s r false) :=
  ⟨rfl, rfl, rfl, by simp [World.setChan], fun _ _ => rfl, fun b _ ht => by
    simp only [World.setChan]
    rw [Array.getElem?_setIfInBounds_ne (fun e => ht (by rw [← e]; exact h))], id⟩
theorem IsBox.turn {w : World} {o : Nat → Nat × Nat} {b c room : Nat} {l l' : List F} (h : IsBox w o b c room l) (s r : Nat) : IsBox (w.setChan c room (l'.map F.v).toArray false s r false) o b c room l' := by
  obtain ⟨s0, r0, hc⟩ := h.hc
  refine ⟨(Fr.setChan h.oc).cell h.hb (by rw [h.ob]; intro e; cases e), h.ob, h.oc, s, r, heap_setChan _ _ _ _ _ _ _ _ (lt_of_get hc)⟩
theorem IsBox.alloc {w : World} {o : Nat → Nat × Nat} {b c room : Nat} {l : List F} (h : IsBox w o b c room l) (ob : Obj) : IsBox (w.alloc ob) o b c room l := h.fr (Fr.alloc (fun _ => False) o w ob) id id

theorem put_yes {o : Nat → Nat × Nat} {b c room : Nat} {l : List F} (f : F) (w : World) (h : IsBox w o b c room l) (hr : l.length < room) :
    Calls Try.prog 8 #[.pointer (some ⟨b, 0, none⟩), f.v] w fun e w' => e = .returned (.bool true) ∧ IsBox w' o b c room (l ++ [f]) ∧ Fr (· = (1, c)) o o w w' := by
  obtain ⟨s, r, hc⟩ := h.hc
  refine (put_room f w h.hb hc (by simpa using hr)).mono ?_
  rintro e w' ⟨rfl, ob, rfl⟩
  refine ⟨rfl, ?_, (Fr.alloc _ o w ob).trans (Fr.setChan h.oc)⟩
  have := (h.alloc ob).turn (l' := l ++ [f]) (s + 1) r
  simpa using this
theorem put_no {o : Nat → Nat × Nat} {b c room : Nat} {l : List F} (f : F) (w : World) (h : IsBox w o b c room l) (hr : room ≤ l.length) :
    Calls Try.prog 8 #[.pointer (some ⟨b, 0, none⟩), f.v] w fun e w' => e = .returned (.bool false) ∧ IsBox w' o b c room l ∧ Fr (fun _ => False) o o w w' := by
  obtain ⟨s, r, hc⟩ := h.hc
  refine (put_full f w h.hb hc (by simpa using hr)).mono ?_
  rintro e w' ⟨rfl, ob, rfl⟩
  exact ⟨rfl, h.alloc ob, Fr.alloc _ o w ob⟩
theorem take_yes {o : Nat → Nat × Nat} {b c room : Nat} {l : List F} (f : F) (w : World) (h : IsBox w o b c room (f :: l)) :
    Calls Try.prog 10 #[.pointer (some ⟨b, 0, none⟩)] w fun e w' => e = .returned (.tuple #[f.v, .bool true]) ∧ IsBox w' o b c room l ∧ Fr (· = (1, c)) o o w w' := by
  obtain ⟨s, r, hc⟩ := h.hc
  refine (take_full f w h.hb hc (by simp) (by simp)).mono ?_
  rintro e w' ⟨rfl, o1, o2, rfl⟩
  refine ⟨rfl, ?_, ((Fr.setChan h.oc).trans (Fr.alloc _ o _ o1)).trans (Fr.alloc _ o _ o2)⟩
  have := ((h.turn (l' := l) s (r + 1)).alloc o1).alloc o2
  rw [show (((f :: l).map F.v).toArray.extract 1 ((f :: l).map F.v).toArray.size) = (l.map F.v).toArray by simp [-List.length_map]]
  exact this
theorem take_no {o : Nat → Nat × Nat} {b c room : Nat} (w : World) (h : IsBox w o b c room []) :
    Calls Try.prog 10 #[.pointer (some ⟨b, 0, none⟩)] w fun e w' => e = .returned (.tuple #[Z.v, .bool false]) ∧ Fr (fun _ => False) o o w w' := by
  obtain ⟨s, r, hc⟩ := h.hc
  refine (take_none w h.hb hc).mono ?_
  rintro e w' ⟨rfl, ob, rfl⟩
  exact ⟨rfl, Fr.alloc _ o w ob⟩
theorem under52 : Try.prog.underlying 52 = some (.chan .both 26) := by kernel_rfl
theorem info26 : (Try.prog.info? 26).map (fun i => (i.zero, i.size, i.bytes)) = some (some Z.v, 9, 88) := by kernel_rfl
set_option maxRecDepth 100000 in
theorem len_any {o : Nat → Nat × Nat} {b c room : Nat} {l : List F} (w : World) (h : IsBox w o b c room l) :
    Calls Try.prog 13 #[.pointer (some ⟨b, 0, none⟩)] w fun e w' => e = .returned (.int .i64 (l.length : Int)) ∧ w' = w := by
  obtain ⟨s, r, hc⟩ := h.hc
  have hb := h.hb
  have hlen := fun ty => run_len_chan (P := Try.prog) 52 ty under52 hc
  rw [show (l.map F.v).toArray.size = l.length by simp] at hlen
  clear hc h
  go_enter Try.func13, Try.ntmps13
  go_wp2_with fail
  go_ret
  exact ⟨rfl, rfl⟩
theorem mk_chan (w : World) (n : Nat) (hn : n ≤ 256) : (Instr.makeChan 52 (.int .i64 (n : Int))).run Try.prog w = .ok (.chan (some w.heap.size)) (w.alloc (.chan n #[] false 0 0 false)) := by
  obtain ⟨i0, hi, hz0, hz1, hz2⟩ := info_parts info26
  simpa using run_makeChan (P := Try.prog) (w := w) under52 hi .i64 n (by omega) (by rw [hz2]; omega)
set_option maxRecDepth 100000 in
theorem new_yes (n : Nat) (h1 : 1 ≤ n) (h2 : n ≤ 256) (w : World) (o : Nat → Nat × Nat) :
    Calls Try.prog 16 #[.int .i64 (n : Int)] w fun e w' => ∃ b c o', e = .returned (.tuple #[.pointer (some ⟨b, 0, none⟩), .int .i64 0]) ∧ IsBox w' o' b c n [] ∧ Fr (fun _ => False) o o' w w' ∧ w.heap.size ≤ c := by
  have hmc := mk_chan w n h2
  go_enter Try.func16, Try.ntmps16
  go_wp2_with fail
  go_ret2
  refine ⟨w.heap.size + 1, w.heap.size, lab (lab o w.heap.size (1, w.heap.size)) (w.heap.size + 1) (2, 0), rfl, ⟨?_, lab_same _ _ _, (lab_other _ _ _ (by omega)).trans (lab_same _ _ _), 0, 0, ?_⟩, ?_, Nat.le_refl _⟩
  · have := World.cell?_alloc_new (w.alloc (Obj.chan n #[] false 0 0 false)) #[.chan (some w.heap.size)] 54 0
    rw [World.size_alloc] at this
    exact this
  · rw [Below.heap_alloc _ _ _ (by simp)]
    exact heap_alloc_new w _
  · have := (Fr.new (fun _ => False) o w (.chan n #[] false 0 0 false) (1, w.heap.size) (fun _ => rfl)).trans (Fr.new (fun _ => False) _ (w.alloc (.chan n #[] false 0 0 false)) (.cells #[.chan (some w.heap.size)] 54) (2, 0) (fun x => absurd x (by decide)))
    simpa using this
set_option maxRecDepth 100000 in
theorem new_no (n : Int) (h : n < 1 ∨ 256 < n) (w : World) :
    Calls Try.prog 16 #[.int .i64 n] w fun e w' => e = .returned (.tuple #[.pointer none, .int .i64 1]) ∧ w' = w := by
  by_cases h1 : n < 1
  · go_enter Try.func16, Try.ntmps16
    go_wp2_with fail
    go_ret2
    exact ⟨rfl, rfl⟩
  · have h2 : 256 < n := by omega
    go_enter Try.func16, Try.ntmps16
    go_wp2_with fail
    go_ret2
    exact ⟨rfl, rfl⟩
set_option maxRecDepth 100000 in
theorem of_any (n : Int) (w : World) : Calls Try.prog 9 #[.int .i64 n] w fun e w' => e = .returned (fo n).v ∧ ∃ ob, w' = w.alloc ob := by
  simp only [fo, F.v, F.cs]
  go_enter Try.func9, Try.ntmps9
  go_wp2_with fail
  refine bodyPost_ret (v := .agg #[.int .i64 0, .int .i64 0, .int .i64 0, .int .i64 n, .int .i64 0, .int .i64 0, .string ⟨#[]⟩, .int .i64 0, .string ⟨#[]⟩]) (by simp [results, Try.results9]; go_simp) rfl ?_
  exact ⟨rfl, _, rfl⟩
set_option maxRecDepth 100000 in
theorem takeOf_nil (o : Nat → Nat × Nat) (w : World) : Calls Try.prog 18 #[.pointer none] w fun e w' => e = .returned (.tuple #[Z.v, .bool false]) ∧ Fr (fun _ => False) o o w w' := by
  simp only [Z, F.v, F.cs]
  go_enter Try.func18, Try.ntmps18
  go_wp2_with fail
  refine bodyPost_ret (v := .tuple #[.agg #[.int .i64 0, .int .i64 0, .int .i64 0, .int .i64 0, .int .i64 0, .int .i64 0, .string ⟨#[]⟩, .int .i64 0, .string ⟨#[]⟩], .bool false]) (by simp [results, Try.results18]; go_simp) rfl ?_
  exact ⟨rfl, Fr.alloc _ o w _⟩
set_option maxRecDepth 100000 in
theorem takeOf_no {o : Nat → Nat × Nat} {b c room : Nat} (w : World) (h : IsBox w o b c room []) :
    Calls Try.prog 18 #[.pointer (some ⟨b, 0, none⟩)] w fun e w' => e = .returned (.tuple #[Z.v, .bool false]) ∧ Fr (fun _ => False) o o w w' := by
  obtain ⟨s, r, hc⟩ := h.hc
  have h1 := fun ob => cell_alloc ob h.hb
  have h2 := fun ob => (Below.heap_alloc w ob _ (lt_of_get hc)).trans hc
  have H1 : Hid (∀ ob, (w.alloc ob).cell? ⟨b, 0, none⟩ = some (.chan (some c))) := h1
  have H2 : Hid (∀ ob, (w.alloc ob).heap[c]? = some (.chan room (List.map F.v []).toArray false s r false)) := h2
  clear h h1 h2 hc
  go_enter Try.func18, Try.ntmps18
  go_wp2_with fail
  refine (take_none _ (H1.out _) (H2.out _)).mono ?_
  rintro e w1 ⟨rfl, ob, rfl⟩
  simp only [Z, F.v, F.cs]
  go_wp2_with fail
  refine bodyPost_ret (v := .tuple #[.agg #[.int .i64 0, .int .i64 0, .int .i64 0, .int .i64 0, .int .i64 0, .int .i64 0, .string ⟨#[]⟩, .int .i64 0, .string ⟨#[]⟩], .bool false]) (by simp [results, Try.results18]; go_simp) rfl ?_
  exact ⟨rfl, (Fr.alloc _ o w _).trans (Fr.alloc _ o _ _)⟩
set_option maxRecDepth 100000 in
theorem takeOf_yes {o : Nat → Nat × Nat} {b c room : Nat} {l : List F} (f : F) (w : World) (h : IsBox w o b c room (f :: l)) :
    Calls Try.prog 18 #[.pointer (some ⟨b, 0, none⟩)] w fun e w' => e = .returned (.tuple #[f.v, .bool true]) ∧ IsBox w' o b c room l ∧ Fr (· = (1, c)) o o w w' := by
  obtain ⟨s, r, hc⟩ := h.hc
  have H1 : Hid (∀ ob, (w.alloc ob).cell? ⟨b, 0, none⟩ = some (.chan (some c))) := fun ob => cell_alloc ob h.hb
  have H2 : Hid (∀ ob, (w.alloc ob).heap[c]? = some (.chan room ((f :: l).map F.v).toArray false s r false)) := fun ob => (Below.heap_alloc w ob _ (lt_of_get hc)).trans hc
  have H3 : Hid (∀ ob, (w.alloc ob).setChan c room (((f :: l).map F.v).toArray.extract 1 ((f :: l).map F.v).toArray.size) false s (r + 1) false = (w.setChan c room (l.map F.v).toArray false s (r + 1) false).alloc ob) := fun ob => by
    rw [show (((f :: l).map F.v).toArray.extract 1 ((f :: l).map F.v).toArray.size) = (l.map F.v).toArray by simp [-List.length_map]]
    exact setChan_alloc w ob (lt_of_get hc)
  have H4 : Hid (IsBox (w.setChan c room (l.map F.v).toArray false s (r + 1) false) o b c room l ∧ Fr (· = (1, c)) o o w (w.setChan c room (l.map F.v).toArray false s (r + 1) false)) := ⟨h.turn s (r + 1), Fr.setChan h.oc⟩
  obtain ⟨W, hW⟩ : ∃ W, W = w.setChan c room (l.map F.v).toArray false s (r + 1) false := ⟨_, rfl⟩
  have hs : w.heap.size = W.heap.size := by rw [hW, size_setChan]
  rw [← hW] at H3 H4
  have HS : Hid (w.heap.size = W.heap.size) := hs
  obtain ⟨a0, a1, a2, a3, a4, a5, a6, a7, a8⟩ := f
  clear h hc hW hs
  go_enter Try.func18, Try.ntmps18
  go_wp2_with fail
  refine (take_full ⟨a0, a1, a2, a3, a4, a5, a6, a7, a8⟩ _ (H1.out _) (H2.out _) (by simp) (by simp)).mono ?_
  rintro e w1 ⟨rfl, o1, o2, rfl⟩
  rw [H3.out, HS.out]
  simp only [F.v, F.cs]
  go_wp2_with fail
  refine bodyPost_ret (v := .tuple #[.agg #[.int .i64 a0, .int .i64 a1, .int .i64 a2, .int .i64 a3, .int .i64 a4, .int .i64 a5, .string a6, .int .i64 a7, .string a8], .bool true]) (by simp [results, Try.results18]; go_simp) rfl ?_
  exact ⟨rfl, ((H4.out.1.alloc _).alloc _).alloc _, ((H4.out.2.trans (Fr.alloc _ o _ _)).trans (Fr.alloc _ o _ _)).trans (Fr.alloc _ o _ _)⟩
end Go.Proofs.Ytpepklgahljhbaa
