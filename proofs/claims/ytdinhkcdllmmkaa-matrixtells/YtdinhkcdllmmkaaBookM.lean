/-
  ROOMY, SAME, INTACT of the book: their contracts at bytes.
-/
import Derived.Test.YtdinhkcdllmmkaaUpM
namespace Go.Proofs.Ytdinhkcdllmmkaa
open Go.RowKit

theorem make_bytes_c (w : World) (n : Nat) (N : Int) (hN : N = (n : Int)) (h : n ≤ 281474976710656) : ∃ w' cur, (Instr.makeSlice 31 (.int .i64 N) (.int .i64 N)).run Try.prog w = .ok (.slice (some ⟨w.heap.size, 0, none⟩) n n) w' ∧
    w'.heap[w.heap.size]? = some (.cells cur 5 (0, 0)) ∧ cur.size = n ∧ Below w.heap.size w w' := by
  subst hN; exact make_bytes w n h
theorem size5info : (Try.prog.info? 5).map (·.size) = some 1 := by kernel_rfl
theorem under32 : Try.prog.underlying 31 = some (.slice 5) := by kernel_rfl

/-- The cells of the first n of f's numbers. -/
def cellsOf (f : Nat → Nat) (n : Nat) : List Value := (List.range n).map (fun i => Value.int .u8 ((f i : Nat) : Int))
theorem cellsOf_length (f : Nat → Nat) (n : Nat) : (cellsOf f n).length = n := by simp [cellsOf]
theorem cellsOf_at (f : Nat → Nat) (n i : Nat) (h : i < n) : (cellsOf f n)[i]? = some (.int .u8 ((f i : Nat) : Int)) := by simp [cellsOf, h]
theorem cellsOf_one (f : Nat → Nat) (n : Nat) : ∀ v ∈ cellsOf f n, v.oneCell' = true := by
  intro v hv; simp only [cellsOf, List.mem_map] at hv; obtain ⟨i, _, rfl⟩ := hv; rfl
theorem RowF.src {w : World} {a : Option Addr} {f : Nat → Nat} {n : Nat} (h : RowF w a f n) (hp : 0 < (cellsOf f n).length) :
    ∃ ad, a = some ad ∧ ∀ j v, (cellsOf f n)[j]? = some v → w.cell? (ad.add j) = some v := by
  rw [cellsOf_length] at hp
  rcases h with h | ⟨p, off, rfl, hc⟩
  · exfalso; omega
  · refine ⟨_, rfl, fun j v hv => ?_⟩
    have hj : j < n := by
      have := (List.getElem?_eq_some_iff.1 hv).1
      rwa [cellsOf_length] at this
    rw [cellsOf_at f n j hj] at hv
    have e : (⟨p, off, none⟩ : Addr).add j = ⟨p, off + j, none⟩ := by unfold Addr.add; split <;> simp_all
    rw [e, hc j hj]; exact hv

theorem fill_step {w Y : World} {G n j : Nat} {C : Array Value} {g : Nat → Nat} {M : Prop} {l : Nat} (hL : l ≤ j) (hlt : j < n) (hC : C.size = n) (hG : w.heap.size ≤ G) (yG : Y.heap[G]? = some (.cells C 5 (0, 0)))
    (hQ : ∀ q, q < j → C[q]? = some (.int .u8 ((g q : Nat) : Int))) (yB : Below w.heap.size w Y) (hM : M) :
    (∃ (j' : Nat) (C' : Array Value), l ≤ j' ∧ j' ≤ n ∧ Value.int .i64 ((j : Int) + 1) = .int .i64 (j' : Int) ∧ C'.size = n ∧ Hid ((Y.setCell ⟨G, j, none⟩ (.int .u8 ((g j : Nat) : Int))).heap[G]? = some (.cells C' 5 (0, 0))) ∧
      Hid (∀ q, q < j' → C'[q]? = some (.int .u8 ((g q : Nat) : Int))) ∧ Below w.heap.size w (Y.setCell ⟨G, j, none⟩ (.int .u8 ((g j : Nat) : Int)))) ∧ M := by
  refine ⟨⟨j + 1, C.setIfInBounds j (.int .u8 ((g j : Nat) : Int)), by omega, by omega, by go_num, by simp [hC], ?_, ?_, yB.setCell hG _⟩, hM⟩
  · show _ = _
    rw [setCell_eq_setRow Y G j C 5 (0, 0) _ yG]; exact setRow_heap Y G C _ 5 (0, 0) yG
  · intro q hq
    by_cases e : q = j
    · subst e; rw [Array.getElem?_setIfInBounds_self_of_lt (by omega)]
    · rw [Array.getElem?_setIfInBounds_ne (by omega)]; exact hQ q (by omega)

/-- 'copy' of a row of bytes to the head of a row of the call's own. -/
theorem copy_bytes {w w3 : World} {G l c d : Nat} {a : Option Addr} {f : Nat → Nat} {cur : Array Value} (ra : RowF w3 a f l) (hg : w3.heap[G]? = some (.cells cur 5 (0, 0))) (hcs : cur.size = d) (hld : l ≤ d) (hG : w.heap.size ≤ G) (hb : Below w.heap.size w w3) :
    ∃ w4 C, (Builtin.copy_ #[31, 31] 3 #[.slice (some ⟨G, 0, none⟩) d d, .slice a l c]).run Try.prog w3 = .ok (goInt l) w4 ∧ w4.heap[G]? = some (.cells C 5 (0, 0)) ∧ C.size = d ∧ (∀ q, q < l → C[q]? = some (.int .u8 ((f q : Nat) : Int))) ∧ Below w.heap.size w w4 := by
  by_cases h0 : l = 0
  · subst h0
    exact ⟨w3, cur, run_copy_none w3 31 31 3 5 _ _ d d 0 c under32 size5info (by simp), hg, hcs, fun q hq => by omega, hb⟩
  · obtain ⟨ad, rfl, hsrc⟩ := ra.src (by rw [cellsOf_length]; omega)
    have hr := run_copy_row (P := Try.prog) w3 31 31 3 5 G 0 d d ad l c cur 5 (cellsOf f l) under32 size5info hg (by rw [cellsOf_length]; exact (Nat.min_eq_left hld).symm) hsrc (by rw [cellsOf_length]; omega) (cellsOf_one f l)
    rw [cellsOf_length] at hr
    refine ⟨_, _, hr, setRow_heap w3 G cur _ 5 (0, 0) hg, ?_, fun q hq => ?_, below_setRow hb hG _⟩
    · simp [cellsOf_length, hcs]; omega
    · simp only [List.take_zero, List.nil_append, List.getElem?_toArray]
      rw [List.getElem?_append_left (by rw [cellsOf_length]; exact hq)]
      exact cellsOf_at f l q hq

/-- What Roomy's list holds. -/
def roomF (f : Nat → Nat) (l M : Nat) (q : Nat) : Nat := if q < l then f q else M

set_option maxHeartbeats 1000000 in
theorem roomy_any (a : Option Addr) (l c M : Nat) (X : Int) (f : Nat → Nat) (hX : X = (M : Int)) (hl : l ≤ 140737488351232) (w : World) (ra : RowF w a f l) :
    Calls Try.prog 16 #[.slice a l c, .int .u8 X] w fun e w' => e = .returned (.slice (some ⟨w.heap.size, 0, none⟩) (l + 80) (l + 80)) ∧ RowF w' (some ⟨w.heap.size, 0, none⟩) (roomF f l M) (l + 80) ∧ Below w.heap.size w w' := by
  subst hX
  go_enter Try.func16, Try.ntmps16
  go_wp2_with fail
  obtain ⟨w3, cur, hrun, hg, hcs, hb3⟩ := make_bytes_c w (l + 80) ((l : Int) + 80) (by omega) (by omega)
  rw [hrun]
  clear hrun
  obtain ⟨G, eG⟩ : ∃ G, G = w.heap.size := ⟨_, rfl⟩
  have hG : w.heap.size ≤ G := by omega
  have EG : Hid (G = w.heap.size) := eG
  rw [← eG]
  rw [← eG] at hg
  clear eG
  go_wp2_with fail
  obtain ⟨w4, C0, hrun, hg4, hC0, hQ0, hb4⟩ := copy_bytes (c := c) (ra.below hb3) hg hcs (by omega) hG hb3
  rw [hrun]
  clear hrun hg hcs hb3 ra
  have hQ1 : ∀ q, q < l → C0[q]? = some (.int .u8 ((roomF f l M q : Nat) : Int)) := fun q hq => by rw [hQ0 q hq]; unfold roomF; rw [if_pos hq]
  have HQ1 : Hid (∀ q, q < l → C0[q]? = some (.int .u8 ((roomF f l M q : Nat) : Int))) := hQ1
  have HG4 : Hid (w4.heap[G]? = some (.cells C0 5 (0, 0))) := hg4
  clear hQ0 hQ1 hg4
  unfold goInt
  go_wp2_with fail
  go_loopw [6] (fun i wr => ∃ (j : Nat) (C : Array Value), l ≤ j ∧ j ≤ l + 80 ∧ i = .int .i64 (j : Int) ∧ C.size = l + 80 ∧ Hid (wr.heap[G]? = some (.cells C 5 (0, 0))) ∧ Hid (∀ q, q < j → C[q]? = some (.int .u8 ((roomF f l M q : Nat) : Int))) ∧ Below w.heap.size w wr) (fun i _ => l + 80 - (intOf i).toNat)
  case atStart => exact ⟨l, C0, by omega, by omega, rfl, hC0, HG4, HQ1, hb4⟩
  case round =>
    obtain ⟨j, C, hj1, hj2, rfl, hC, HG, HQ, hB⟩ := hrel
    clear HQ1 HG4 hC0 hb4
    by_cases hlt : j < l + 80
    · have c3' : wr.cell? ⟨G, j, none⟩ = some (C[j]'(by omega)) := by rw [cell_of_row wr G j C 5 (0, 0) HG.out]; simp
      have fz : wr.frozen? ⟨G, j, none⟩ = false := by simp [World.frozen?, HG.out]
      have hi1 : (j : Int) < (l : Int) + 80 := by omega
      have HM : Hid (M = roomF f l M j) := by show _ = _; unfold roomF; rw [if_neg (by omega)]
      go_wp2_with fail
      have hs := fill_step (g := roomF f l M) (M := l + 80 - (intOf (Value.int IntKind.i64 ((j : Int) + 1))).toNat < l + 80 - (intOf (Value.int IntKind.i64 (j : Int))).toNat) hj1 hlt hC hG HG.out HQ.out hB (by simp [intOf]; omega)
      rw [← HM.out] at hs
      exact hs
    · go_wp2_with fail
      go_ret
      refine ⟨?_, ?_, hB⟩
      · rw [EG.out]; rfl
      · rw [← EG.out]
        have : j = l + 80 := by omega
        exact Or.inr ⟨G, 0, rfl, fun i hi => by rw [Nat.zero_add, cell_of_row wr G i C 5 (0, 0) HG.out]; exact HQ.out i (by omega)⟩

set_option maxHeartbeats 1000000 in
theorem same_any (a a' : Option Addr) (n c c' : Nat) (f g : Nat → Nat) (hn : n ≤ 140737488351232) (hfg : ∀ i, i < n → f i = g i) (w : World) (ra : RowF w a f n) (rb : RowF w a' g n) :
    Calls Try.prog 31 #[.slice a n c, .slice a' n c'] w fun e w' => e = .returned (.bool true) ∧ ∃ m, w' = w.drewN m := by
  have ne : ((n : Int) != (n : Int)) = false := by simp
  go_enter Try.func31, Try.ntmps31
  go_wp2_with fail
  go_loopw [5] (fun i wr => ∃ j m : Nat, j ≤ n ∧ i = .int .i64 (j : Int) ∧ Hid (wr = w.drewN m)) (fun i _ => n - (intOf i).toNat)
  case atStart => exact ⟨0, 0, by omega, rfl, rfl⟩
  case round =>
    obtain ⟨j, m, hj, rfl, HW⟩ := hrel
    by_cases hlt : j < n
    · obtain ⟨p, o, rfl, q1⟩ : ∃ p off, a = some ⟨p, off, none⟩ ∧ ∀ i, i < n → w.cell? ⟨p, off + i, none⟩ = some (.int .u8 ((f i : Nat) : Int)) := by
        rcases ra with r | r
        · exfalso; omega
        · exact r
      obtain ⟨p', o', rfl, q2⟩ : ∃ p off, a' = some ⟨p, off, none⟩ ∧ ∀ i, i < n → w.cell? ⟨p, off + i, none⟩ = some (.int .u8 ((g i : Nat) : Int)) := by
        rcases rb with r | r
        · exfalso; omega
        · exact r
      have c1 : wr.cell? ⟨p, o + j, none⟩ = some (.int .u8 ((f j : Nat) : Int)) := (by rw [HW.out]; exact q1 j hlt)
      have c2 : wr.cell? ⟨p', o' + j, none⟩ = some (.int .u8 ((f j : Nat) : Int)) := (by rw [HW.out, hfg j hlt]; exact q2 j hlt)
      clear q1 q2 ra rb
      have hi1 : (j : Int) < (n : Int) := by omega
      go_wp2
      go_quiet (fail)
      go_wp2
      go_roundw
      case rel => exact ⟨j + 1, m + nq, by omega, by go_num, by show _ = _; rw [HW.out, World.drewN_drewN]⟩
      case measure => simp [intOf]; omega
    · go_wp2
      go_ret
      exact ⟨rfl, m, HW.out⟩

set_option maxHeartbeats 1000000 in
theorem intact_any (G : Nat) (a : Option Addr) (l c M : Nat) (X : Int) (f : Nat → Nat) (hX : X = (M : Int)) (hl : l ≤ 140737488351232) (w : World) (rg : RowF w (some ⟨G, 0, none⟩) (roomF f l M) (l + 80)) (ra : RowF w a f l) :
    Calls Try.prog 20 #[.slice (some ⟨G, 0, none⟩) (l + 80) (l + 80), .slice a l c, .int .u8 X] w fun e w' => e = .returned (.bool true) ∧ ∃ m, w' = w.drewN m := by
  subst hX
  have ne : (((l : Int) + 80) != ((l : Int) + 80)) = false := by simp
  have hi2 : (l : Int) ≤ (l : Int) + 80 := by omega
  obtain ⟨q1⟩ : Nonempty (∀ i, i < l + 80 → w.cell? ⟨G, i, none⟩ = some (.int .u8 ((roomF f l M i : Nat) : Int))) := by
    rcases rg with r | ⟨p, off, e, hc⟩
    · exfalso; omega
    · injection e with e
      injection e with e1 e2 e3
      subst e1 e2
      exact ⟨fun i hi => by have := hc i hi; rwa [Nat.zero_add] at this⟩
  have Q1 : Hid (∀ i, i < l + 80 → w.cell? ⟨G, i, none⟩ = some (.int .u8 ((roomF f l M i : Nat) : Int))) := q1
  clear q1
  have rh : RowF w (some ⟨G, 0, none⟩) (roomF f l M) l := rg.short (by omega)
  clear rg
  go_enter Try.func20, Try.ntmps20
  go_wp2_with fail
  refine (same_any (some ⟨G, 0, none⟩) a l (l + 80) c (roomF f l M) f hl (fun i hi => by unfold roomF; rw [if_pos hi]) _ rh ra).mono ?_
  rintro e w2 ⟨rfl, m1, rfl⟩
  clear rh ra
  go_wp2_with fail
  go_loop [7] (fun i => ∃ j : Nat, l ≤ j ∧ j ≤ l + 80 ∧ i = .int .i64 (j : Int)) (fun i => l + 80 - (intOf i).toNat)
  case atStart => exact ⟨l, by omega, by omega, rfl⟩
  case round =>
    obtain ⟨j, hj1, hj2, rfl⟩ := hrel
    by_cases hlt : j < l + 80
    · have c1 := Q1.out j hlt
      rw [show roomF f l M j = M from by unfold roomF; rw [if_neg (by omega)]] at c1
      have hi1 : (j : Int) < (l : Int) + 80 := by omega
      go_wp2
      go_round
      case rel => exact ⟨j + 1, by omega, by omega, by go_num⟩
      case measure => simp [intOf]; omega
    · go_wp2
      go_ret
      exact ⟨rfl, m1, rfl⟩
end Go.Proofs.Ytdinhkcdllmmkaa
