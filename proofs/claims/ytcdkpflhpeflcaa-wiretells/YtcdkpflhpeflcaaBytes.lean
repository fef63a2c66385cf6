/-
  ROWS OF BYTES: read, cut, copied; ROOMY, SAME, INTACT and WITHIN of the book; strings as bytes.
-/
import Derived.Test.YtcdkpflhpeflcaaRows
import Derived.Test.YtcdkpflhpeflcaaCodes
import Derived.WalkKit
import Derived.WalkSpells
import Derived.WalkLawsBesides
import Derived.Deep.WholeRow
import Derived.Laws.CopyOwn
import Derived.Deep.QuietTactic
import Derived.BigQuiet
import Derived.OpenShut
import Derived.Laws.BytesArg
import Derived.Laws.BitsAllLaws
import Derived.Deep.Upon
namespace Go.Proofs.Ytcdkpflhpeflcaa
open Go.RowKit

theorem ret_int {k : IntKind} {a b : Int} (h : a = b) : Ending.returned (.int k a) = .returned (.int k b) := by rw [h]
/-- A row of bytes that is read: it is empty, or its places hold f's numbers. -/
def RowF (w : World) (a : Option Addr) (f : Nat → Nat) (n : Nat) : Prop :=
  n = 0 ∨ ∃ p off, a = some ⟨p, off, none⟩ ∧ ∀ i, i < n → w.cell? ⟨p, off + i, none⟩ = some (.int .u8 ((f i : Nat) : Int))


/-- What the walk is told of a slice of bytes that came in: it is nil; or it leads to a row of 'cap' cells. -/
def IsRow (k : IntKind) (w : World) (a : Option Addr) (len cap : Nat) (zs : List Int) : Prop :=
  (a = none ∧ len = 0 ∧ cap = 0 ∧ zs = []) ∨
  ∃ x, a = some x ∧ len ≤ cap ∧ cap ≤ maxLen ∧ zs.length = cap ∧ (∀ i, i < zs.length → w.cell? (x.add i) = some (.int k (zs.getD i 0))) ∧ ∀ n ∈ zs, (Lit.int k n).wf = true

/-- The numbers of such a row. -/
def num (zs : List Int) (i : Nat) : Nat := (zs.getD i 0).toNat

theorem IsRow.len_le {w : World} {a : Option Addr} {len cap : Nat} {zs : List Int} (h : IsRow .u8 w a len cap zs) : len ≤ cap := by
  rcases h with ⟨_, rfl, rfl, _⟩ | ⟨x, _, h, _⟩
  · exact Nat.le_refl _
  · exact h
theorem IsRow.bd {w : World} {a : Option Addr} {len cap : Nat} {zs : List Int} (h : IsRow .u8 w a len cap zs) (i : Nat) : 0 ≤ zs.getD i 0 ∧ zs.getD i 0 ≤ 255 := by
  have key : ∀ n ∈ zs, 0 ≤ n ∧ n ≤ 255 := by
    rcases h with ⟨_, _, _, rfl⟩ | ⟨x, _, _, _, _, _, h⟩
    · intro n hn; simp at hn
    · intro n hn; exact bounds_u8 (h n hn)
  by_cases hi : i < zs.length
  · have := key (zs.getD i 0) (by rw [List.getD_eq_getElem?_getD, List.getElem?_eq_getElem hi]; exact List.getElem_mem hi)
    exact this
  · rw [List.getD_eq_getElem?_getD, List.getElem?_eq_none (by omega)]; decide
theorem IsRow.num_lt {w : World} {a : Option Addr} {len cap : Nat} {zs : List Int} (h : IsRow .u8 w a len cap zs) (i : Nat) : num zs i < 256 := by
  have := h.bd i; unfold num; omega
theorem IsRow.rowF {w : World} {a : Option Addr} {len cap : Nat} {zs : List Int} (h : IsRow .u8 w a len cap zs) (n : Nat) (hn : n ≤ cap) : RowF w a (num zs) n := by
  by_cases n0 : n = 0
  · exact Or.inl n0
  have hb := h.bd
  rcases h with ⟨_, _, rfl, _⟩ | ⟨x, rfl, hl, hm, hz, hcell, _⟩
  · exfalso; omega
  · obtain ⟨p, off, spot⟩ := x
    have hc := hcell 0 (by omega)
    have hspot : spot = none := by simpa [Addr.add] using World.cell?_spot hc
    subst hspot
    refine Or.inr ⟨p, off, rfl, fun i hi => ?_⟩
    have h1 := hcell i (by omega)
    have h2 := hb i
    have e : (⟨p, off, none⟩ : Addr).add i = ⟨p, off + i, none⟩ := by unfold Addr.add; split <;> simp_all
    rw [e] at h1
    rw [h1]; unfold num
    rw [Int.toNat_of_nonneg h2.1]

/-- The address of a part. -/
def sl (a : Option Addr) (l m : Nat) : Option Addr := if m = l then a else a.map (·.add (l * 1))
theorem RowF.cut {w : World} {a : Option Addr} {f : Nat → Nat} {n : Nat} (h : RowF w a f n) (l m : Nat) (hnm : n ≤ m) : RowF w (sl a l m) (fun i => f (l + i)) (n - l) := by
  by_cases hl : n ≤ l
  · exact Or.inl (by omega)
  · rcases h with h | ⟨p, off, rfl, hc⟩
    · exfalso; omega
    · refine Or.inr ⟨p, off + l, ?_, fun i hi => ?_⟩
      · unfold sl
        rw [if_neg (by omega)]
        show some _ = some _
        have e : (⟨p, off, none⟩ : Addr).add (l * 1) = ⟨p, off + l, none⟩ := by unfold Addr.add; split <;> simp_all
        exact congrArg some e
      · have := hc (l + i) (by omega)
        rw [Nat.add_assoc]; exact this
theorem RowF.head {w : World} {a : Option Addr} {f : Nat → Nat} {n : Nat} (h : RowF w a f n) (k m : Nat) (hk : k ≤ n) (hnm : n ≤ m) : RowF w (sl a 0 m) f k := by
  have h2 := h.cut 0 m hnm
  simp only [Nat.zero_add, Nat.sub_zero] at h2
  rcases h2 with h2 | ⟨p, off, e, hc⟩
  · exact Or.inl (by omega)
  · exact Or.inr ⟨p, off, e, fun i hi => hc i (by omega)⟩
theorem RowF.below {w w' : World} {a : Option Addr} {f : Nat → Nat} {n : Nat} (h : RowF w a f n) (hb : Below w.heap.size w w') : RowF w' a f n := by
  rcases h with h | ⟨p, off, e, hc⟩
  · exact Or.inl h
  · exact Or.inr ⟨p, off, e, fun i hi => by rw [hb.cell (World.block_lt_of_cell? _ _ (hc i hi))]; exact hc i hi⟩

theorem elem32 : Try.prog.underlying 22 = some (.slice (Try.prog.elem 22)) := by kernel_rfl
theorem elem32' : Try.prog.elem 22 = 5 := by kernel_rfl
theorem size5' (w : World) : (sizeOf 5).run Try.prog w = .ok 1 w := by kernel_rfl
theorem slice_hi (a : Option Addr) (len cap h : Nat) (hh : h ≤ cap) (w : World) : (Instr.sliceAt 22 (.slice a len cap) none (some (.int .i64 (h : Int))) none).run Try.prog w = .ok (.slice (sl a 0 cap) h cap) w := by
  rw [run_sliceAt_slice _ _ _ _ _ _ elem32, run_slice_h _ _ _ _ _ elem32 _ _ (by omega) (by omega), elem32', size5']
  rfl
theorem slice_lo (a : Option Addr) (len cap l : Nat) (hl : l ≤ len) (w : World) : (Instr.sliceAt 22 (.slice a len cap) (some (.int .i64 (l : Int))) none none).run Try.prog w = .ok (.slice (sl a l cap) (len - l) (cap - l)) w := by
  rw [run_sliceAt_slice _ _ _ _ _ _ elem32, run_slice_l _ _ _ _ _ elem32 _ _ (by omega) (by omega), elem32', size5']
  rfl

theorem info5 : (Try.prog.info? 5).map (fun i => (i.zero, i.size, i.bytes)) = some (some (.int .u8 0), 1, 1) := by kernel_rfl

/-- 'make([]byte, n)'. -/
theorem make_bytes (w : World) (n : Nat) (h : n ≤ 281474976710656) : ∃ w' cur, (Instr.makeSlice 22 (.int .i64 (n : Int)) (.int .i64 (n : Int))).run Try.prog w = .ok (.slice (some ⟨w.heap.size, 0, none⟩) n n) w' ∧
    w'.heap[w.heap.size]? = some (.cells cur 5 (0, 0)) ∧ cur.size = n ∧ Below w.heap.size w w' := by
  obtain ⟨i0, hi, hz0, hz1, hz2⟩ := info_parts info5
  obtain ⟨w', hrun, own, gr⟩ := run_make_full (P := Try.prog) w w.heap.size 22 5 i0 (.int .u8 0) 1 (by kernel_rfl) hi hz0 hz1 .i64 .i64 n (by rw [hz2]; omega) (by unfold maxLen; omega) (Nat.le_refl _)
  have hb : Below w.heap.size w w' := (Below.refl _ _).grown gr (Nat.le_refl _) (fun k e => by cases e)
  rcases own.2 with ⟨h1, _⟩ | ⟨g, cap, cur, h1, _, h3, _, _, h6, _⟩
  · cases h1
  · injection h1 with e1 e2 e3
    injection e1 with e1
    injection e1 with e1 e4 e5
    subst e1 e3
    exact ⟨w', cur, hrun, h3, by omega, hb⟩

theorem RowF.short {w : World} {a : Option Addr} {f : Nat → Nat} {n k : Nat} (h : RowF w a f n) (hk : k ≤ n) : RowF w a f k := by
  rcases h with h | ⟨p, off, e, hc⟩
  · exact Or.inl (by omega)
  · exact Or.inr ⟨p, off, e, fun i hi => hc i (by omega)⟩

theorem make_bytes_c (w : World) (n : Nat) (N : Int) (hN : N = (n : Int)) (h : n ≤ 281474976710656) : ∃ w' cur, (Instr.makeSlice 22 (.int .i64 N) (.int .i64 N)).run Try.prog w = .ok (.slice (some ⟨w.heap.size, 0, none⟩) n n) w' ∧
    w'.heap[w.heap.size]? = some (.cells cur 5 (0, 0)) ∧ cur.size = n ∧ Below w.heap.size w w' := by
  subst hN; exact make_bytes w n h
theorem size5info : (Try.prog.info? 5).map (·.size) = some 1 := by kernel_rfl
theorem under32 : Try.prog.underlying 22 = some (.slice 5) := by kernel_rfl

/-- The cells of the first n of f's numbers. -/
def cellsOf (f : Nat → Nat) (n : Nat) : List Value := (List.range n).map (fun i => Value.int .u8 ((f i : Nat) : Int))
theorem cellsOf_length (f : Nat → Nat) (n : Nat) : (cellsOf f n).length = n := by simp [cellsOf]
theorem cellsOf_at (f : Nat → Nat) (n i : Nat) (h : i < n) : (cellsOf f n)[i]? = some (.int .u8 ((f i : Nat) : Int)) := by simp [cellsOf, h]
theorem cellsOf_one (f : Nat → Nat) (n : Nat) : ∀ v ∈ cellsOf f n, v.oneCell' = true := by
  intro v hv; simp only [cellsOf, List.mem_map] at hv; obtain ⟨i, _, rfl⟩ := hv; rfl
theorem RowF.src {w : World} {a : Option Addr} {f : Nat → Nat} {n : Nat} (h : RowF w a f n) (hp : 0 < (cellsOf f n).length) :
    ∃ ad, a = some ad ∧ ∀ j v, (cellsOf f n)[j]? = some v → w.cell? (ad.add j) = some v := by
  rw [cellsOf_length] at hp
  rcases h with h | ⟨p, off, rfl, hc⟩
  · exfalso; omega
  · refine ⟨_, rfl, fun j v hv => ?_⟩
    have hj : j < n := by
      have := (List.getElem?_eq_some_iff.1 hv).1
      rwa [cellsOf_length] at this
    rw [cellsOf_at f n j hj] at hv
    have e : (⟨p, off, none⟩ : Addr).add j = ⟨p, off + j, none⟩ := by unfold Addr.add; split <;> simp_all
    rw [e, hc j hj]; exact hv

theorem fill_step {w Y : World} {G n j : Nat} {C : Array Value} {g : Nat → Nat} {M : Prop} {l : Nat} (hL : l ≤ j) (hlt : j < n) (hC : C.size = n) (hG : w.heap.size ≤ G) (yG : Y.heap[G]? = some (.cells C 5 (0, 0)))
    (hQ : ∀ q, q < j → C[q]? = some (.int .u8 ((g q : Nat) : Int))) (yB : Below w.heap.size w Y) (hM : M) :
    (∃ (j' : Nat) (C' : Array Value), l ≤ j' ∧ j' ≤ n ∧ Value.int .i64 ((j : Int) + 1) = .int .i64 (j' : Int) ∧ C'.size = n ∧ Hid ((Y.setCell ⟨G, j, none⟩ (.int .u8 ((g j : Nat) : Int))).heap[G]? = some (.cells C' 5 (0, 0))) ∧
      Hid (∀ q, q < j' → C'[q]? = some (.int .u8 ((g q : Nat) : Int))) ∧ Below w.heap.size w (Y.setCell ⟨G, j, none⟩ (.int .u8 ((g j : Nat) : Int)))) ∧ M := by
  refine ⟨⟨j + 1, C.setIfInBounds j (.int .u8 ((g j : Nat) : Int)), by omega, by omega, by go_num, by simp [hC], ?_, ?_, yB.setCell hG _⟩, hM⟩
  · show _ = _
    rw [setCell_eq_setRow Y G j C 5 (0, 0) _ yG]; exact setRow_heap Y G C _ 5 (0, 0) yG
  · intro q hq
    by_cases e : q = j
    · subst e; rw [Array.getElem?_setIfInBounds_self_of_lt (by omega)]
    · rw [Array.getElem?_setIfInBounds_ne (by omega)]; exact hQ q (by omega)

/-- 'copy' of a row of bytes to the head of a row of the call's own. -/
theorem copy_bytes {w w3 : World} {G l c d : Nat} {a : Option Addr} {f : Nat → Nat} {cur : Array Value} (ra : RowF w3 a f l) (hg : w3.heap[G]? = some (.cells cur 5 (0, 0))) (hcs : cur.size = d) (hld : l ≤ d) (hG : w.heap.size ≤ G) (hb : Below w.heap.size w w3) :
    ∃ w4 C, (Builtin.copy_ #[22, 22] 3 #[.slice (some ⟨G, 0, none⟩) d d, .slice a l c]).run Try.prog w3 = .ok (goInt l) w4 ∧ w4.heap[G]? = some (.cells C 5 (0, 0)) ∧ C.size = d ∧ (∀ q, q < l → C[q]? = some (.int .u8 ((f q : Nat) : Int))) ∧ Below w.heap.size w w4 := by
  by_cases h0 : l = 0
  · subst h0
    exact ⟨w3, cur, run_copy_none w3 22 22 3 5 _ _ d d 0 c under32 size5info (by simp), hg, hcs, fun q hq => by omega, hb⟩
  · obtain ⟨ad, rfl, hsrc⟩ := ra.src (by rw [cellsOf_length]; omega)
    have hr := run_copy_row (P := Try.prog) w3 22 22 3 5 G 0 d d ad l c cur 5 (cellsOf f l) under32 size5info hg (by rw [cellsOf_length]; exact (Nat.min_eq_left hld).symm) hsrc (by rw [cellsOf_length]; omega) (cellsOf_one f l)
    rw [cellsOf_length] at hr
    refine ⟨_, _, hr, setRow_heap w3 G cur _ 5 (0, 0) hg, ?_, fun q hq => ?_, below_setRow hb hG _⟩
    · simp [cellsOf_length, hcs]; omega
    · simp only [List.take_zero, List.nil_append, List.getElem?_toArray]
      rw [List.getElem?_append_left (by rw [cellsOf_length]; exact hq)]
      exact cellsOf_at f l q hq

/-- What Roomy's list holds. -/
def roomF (f : Nat → Nat) (l M : Nat) (q : Nat) : Nat := if q < l then f q else M

set_option maxHeartbeats 1000000 in
theorem roomy_any (a : Option Addr) (l c M : Nat) (X : Int) (f : Nat → Nat) (hX : X = (M : Int)) (hl : l ≤ 140737488351232) (w : World) (ra : RowF w a f l) :
    Calls Try.prog 13 #[.slice a l c, .int .u8 X] w fun e w' => e = .returned (.slice (some ⟨w.heap.size, 0, none⟩) (l + 80) (l + 80)) ∧ RowF w' (some ⟨w.heap.size, 0, none⟩) (roomF f l M) (l + 80) ∧ Below w.heap.size w w' := by
  subst hX
  go_enter Try.func13, Try.ntmps13
  go_wp2_with fail
  obtain ⟨w3, cur, hrun, hg, hcs, hb3⟩ := make_bytes_c w (l + 80) ((l : Int) + 80) (by omega) (by omega)
  rw [hrun]
  clear hrun
  obtain ⟨G, eG⟩ : ∃ G, G = w.heap.size := ⟨_, rfl⟩
  have hG : w.heap.size ≤ G := by omega
  have EG : Hid (G = w.heap.size) := eG
  rw [← eG]
  rw [← eG] at hg
  clear eG
  go_wp2_with fail
  obtain ⟨w4, C0, hrun, hg4, hC0, hQ0, hb4⟩ := copy_bytes (c := c) (ra.below hb3) hg hcs (by omega) hG hb3
  rw [hrun]
  clear hrun hg hcs hb3 ra
  have hQ1 : ∀ q, q < l → C0[q]? = some (.int .u8 ((roomF f l M q : Nat) : Int)) := fun q hq => by rw [hQ0 q hq]; unfold roomF; rw [if_pos hq]
  have HQ1 : Hid (∀ q, q < l → C0[q]? = some (.int .u8 ((roomF f l M q : Nat) : Int))) := hQ1
  have HG4 : Hid (w4.heap[G]? = some (.cells C0 5 (0, 0))) := hg4
  clear hQ0 hQ1 hg4
  unfold goInt
  go_wp2_with fail
  go_loopw [6] (fun i wr => ∃ (j : Nat) (C : Array Value), l ≤ j ∧ j ≤ l + 80 ∧ i = .int .i64 (j : Int) ∧ C.size = l + 80 ∧ Hid (wr.heap[G]? = some (.cells C 5 (0, 0))) ∧ Hid (∀ q, q < j → C[q]? = some (.int .u8 ((roomF f l M q : Nat) : Int))) ∧ Below w.heap.size w wr) (fun i _ => l + 80 - (intOf i).toNat)
  case atStart => exact ⟨l, C0, by omega, by omega, rfl, hC0, HG4, HQ1, hb4⟩
  case round =>
    obtain ⟨j, C, hj1, hj2, rfl, hC, HG, HQ, hB⟩ := hrel
    clear HQ1 HG4 hC0 hb4
    by_cases hlt : j < l + 80
    · have c3' : wr.cell? ⟨G, j, none⟩ = some (C[j]'(by omega)) := by rw [cell_of_row wr G j C 5 (0, 0) HG.out]; simp
      have fz : wr.frozen? ⟨G, j, none⟩ = false := by simp [World.frozen?, HG.out]
      have hi1 : (j : Int) < (l : Int) + 80 := by omega
      have HM : Hid (M = roomF f l M j) := by show _ = _; unfold roomF; rw [if_neg (by omega)]
      go_wp2_with fail
      have hs := fill_step (g := roomF f l M) (M := l + 80 - (intOf (Value.int IntKind.i64 ((j : Int) + 1))).toNat < l + 80 - (intOf (Value.int IntKind.i64 (j : Int))).toNat) hj1 hlt hC hG HG.out HQ.out hB (by simp [intOf]; omega)
      rw [← HM.out] at hs
      exact hs
    · go_wp2_with fail
      go_ret
      refine ⟨?_, ?_, hB⟩
      · rw [EG.out]; rfl
      · rw [← EG.out]
        have : j = l + 80 := by omega
        exact Or.inr ⟨G, 0, rfl, fun i hi => by rw [Nat.zero_add, cell_of_row wr G i C 5 (0, 0) HG.out]; exact HQ.out i (by omega)⟩

set_option maxHeartbeats 1000000 in
theorem same_any (a a' : Option Addr) (n c c' : Nat) (f g : Nat → Nat) (hn : n ≤ 140737488351232) (hfg : ∀ i, i < n → f i = g i) (w : World) (ra : RowF w a f n) (rb : RowF w a' g n) :
    Calls Try.prog 7 #[.slice a n c, .slice a' n c'] w fun e w' => e = .returned (.bool true) ∧ ∃ m, w' = w.drewN m := by
  have ne : ((n : Int) != (n : Int)) = false := by simp
  go_enter Try.func7, Try.ntmps7
  go_wp2_with fail
  go_loopw [5] (fun i wr => ∃ j m : Nat, j ≤ n ∧ i = .int .i64 (j : Int) ∧ Hid (wr = w.drewN m)) (fun i _ => n - (intOf i).toNat)
  case atStart => exact ⟨0, 0, by omega, rfl, rfl⟩
  case round =>
    obtain ⟨j, m, hj, rfl, HW⟩ := hrel
    by_cases hlt : j < n
    · obtain ⟨p, o, rfl, q1⟩ : ∃ p off, a = some ⟨p, off, none⟩ ∧ ∀ i, i < n → w.cell? ⟨p, off + i, none⟩ = some (.int .u8 ((f i : Nat) : Int)) := by
        rcases ra with r | r
        · exfalso; omega
        · exact r
      obtain ⟨p', o', rfl, q2⟩ : ∃ p off, a' = some ⟨p, off, none⟩ ∧ ∀ i, i < n → w.cell? ⟨p, off + i, none⟩ = some (.int .u8 ((g i : Nat) : Int)) := by
        rcases rb with r | r
        · exfalso; omega
        · exact r
      have c1 : wr.cell? ⟨p, o + j, none⟩ = some (.int .u8 ((f j : Nat) : Int)) := (by rw [HW.out]; exact q1 j hlt)
      have c2 : wr.cell? ⟨p', o' + j, none⟩ = some (.int .u8 ((f j : Nat) : Int)) := (by rw [HW.out, hfg j hlt]; exact q2 j hlt)
      clear q1 q2 ra rb
      have hi1 : (j : Int) < (n : Int) := by omega
      go_wp2
      go_quiet (fail)
      go_wp2
      go_roundw
      case rel => exact ⟨j + 1, m + nq, by omega, by go_num, by show _ = _; rw [HW.out, World.drewN_drewN]⟩
      case measure => simp [intOf]; omega
    · go_wp2
      go_ret
      exact ⟨rfl, m, HW.out⟩

set_option maxHeartbeats 1000000 in
theorem intact_any (G : Nat) (a : Option Addr) (l c M : Nat) (X : Int) (f : Nat → Nat) (hX : X = (M : Int)) (hl : l ≤ 140737488351232) (w : World) (rg : RowF w (some ⟨G, 0, none⟩) (roomF f l M) (l + 80)) (ra : RowF w a f l) :
    Calls Try.prog 16 #[.slice (some ⟨G, 0, none⟩) (l + 80) (l + 80), .slice a l c, .int .u8 X] w fun e w' => e = .returned (.bool true) ∧ ∃ m, w' = w.drewN m := by
  subst hX
  have ne : (((l : Int) + 80) != ((l : Int) + 80)) = false := by simp
  have hi2 : (l : Int) ≤ (l : Int) + 80 := by omega
  obtain ⟨q1⟩ : Nonempty (∀ i, i < l + 80 → w.cell? ⟨G, i, none⟩ = some (.int .u8 ((roomF f l M i : Nat) : Int))) := by
    rcases rg with r | ⟨p, off, e, hc⟩
    · exfalso; omega
    · injection e with e
      injection e with e1 e2 e3
      subst e1 e2
      exact ⟨fun i hi => by have := hc i hi; rwa [Nat.zero_add] at this⟩
  have Q1 : Hid (∀ i, i < l + 80 → w.cell? ⟨G, i, none⟩ = some (.int .u8 ((roomF f l M i : Nat) : Int))) := q1
  clear q1
  have rh : RowF w (some ⟨G, 0, none⟩) (roomF f l M) l := rg.short (by omega)
  clear rg
  go_enter Try.func16, Try.ntmps16
  go_wp2_with fail
  refine (same_any (some ⟨G, 0, none⟩) a l (l + 80) c (roomF f l M) f hl (fun i hi => by unfold roomF; rw [if_pos hi]) _ rh ra).mono ?_
  rintro e w2 ⟨rfl, m1, rfl⟩
  clear rh ra
  go_wp2_with fail
  go_loop [7] (fun i => ∃ j : Nat, l ≤ j ∧ j ≤ l + 80 ∧ i = .int .i64 (j : Int)) (fun i => l + 80 - (intOf i).toNat)
  case atStart => exact ⟨l, by omega, by omega, rfl⟩
  case round =>
    obtain ⟨j, hj1, hj2, rfl⟩ := hrel
    by_cases hlt : j < l + 80
    · have c1 := Q1.out j hlt
      rw [show roomF f l M j = M from by unfold roomF; rw [if_neg (by omega)]] at c1
      have hi1 : (j : Int) < (l : Int) + 80 := by omega
      go_wp2
      go_round
      case rel => exact ⟨j + 1, by omega, by omega, by go_num⟩
      case measure => simp [intOf]; omega
    · go_wp2
      go_ret
      exact ⟨rfl, m1, rfl⟩
theorem tmod_bd (n : Int) (h : Nat) : -((h : Int) + 1) < n.tmod ((h : Int) + 1) ∧ n.tmod ((h : Int) + 1) < (h : Int) + 1 := by
  have h1 := Int.tmod_lt_of_pos n (show (0 : Int) < (h : Int) + 1 by omega)
  have h2 := Int.lt_tmod_of_pos n (show (0 : Int) < (h : Int) + 1 by omega)
  exact ⟨h2, h1⟩

set_option maxHeartbeats 400000 in
theorem within_any (n : Int) (h : Nat) (hh : h ≤ 4611686018427387000) (w : World) :
    Calls Try.prog 12 #[.int .i64 n, .int .i64 0, .int .i64 (h : Int)] w fun e w' => (∃ k : Nat, k ≤ h ∧ e = .returned (.int .i64 (k : Int))) ∧ w' = w := by
  obtain ⟨q1, q2⟩ := tmod_bd n h
  obtain ⟨q, hq⟩ : ∃ q, n.tmod ((h : Int) + 1) = q := ⟨_, rfl⟩
  rw [hq] at q1 q2
  have hne : ((h : Int) + 1 == 0) = false := by simp; omega
  have hne2 : ¬ ((h : Int) + 1 = -1) := by omega
  by_cases q0 : q < 0
  · go_enter Try.func12, Try.ntmps12
    go_wp2
    go_ret
    exact ⟨⟨(q + h + 1).toNat, by omega, ret_int (by omega)⟩, rfl⟩
  · go_enter Try.func12, Try.ntmps12
    go_wp2
    go_ret
    exact ⟨⟨q.toNat, by omega, ret_int (by omega)⟩, rfl⟩
theorem within_c (n L H : Int) (h : Nat) (hL : L = 0) (hH : H = (h : Int)) (hh : h ≤ 4611686018427387000) (w : World) :
    Calls Try.prog 12 #[.int .i64 n, .int .i64 L, .int .i64 H] w fun e w' => (∃ k : Nat, k ≤ h ∧ e = .returned (.int .i64 (k : Int))) ∧ w' = w := by
  subst hL hH; exact within_any n h hh w

theorem size_len (s : ByteArray) : s.data.toList.length = s.size := Array.length_toList
/-- The byte at a place; nought behind the end. -/
def bt (s : ByteArray) (i : Nat) : Nat := (s.data.toList.getD i 0).toNat
theorem bt_lt (s : ByteArray) (i : Nat) : bt s i < 256 := (s.data.toList.getD i 0).toNat_lt
theorem bt_out {s : ByteArray} {i : Nat} (h : s.size ≤ i) : bt s i = 0 := by
  unfold bt
  rw [List.getD_eq_getElem?_getD, List.getElem?_eq_none (by rw [size_len]; exact h)]; rfl
/-- A string out of numbers. -/
def mkS (f : Nat → Nat) (n : Nat) : ByteArray := ⟨((List.range n).map fun i => UInt8.ofNat (f i)).toArray⟩
theorem mkS_size (f : Nat → Nat) (n : Nat) : (mkS f n).size = n := by simp [mkS, ByteArray.size]
theorem bt_mkS {f : Nat → Nat} {n i : Nat} (hf : f i < 256) (hi : i < n) : bt (mkS f n) i = f i := by
  unfold bt mkS
  simp [List.getD_eq_getElem?_getD, hi]
  omega
theorem str_ext {s t : ByteArray} (h : s.size = t.size) (h2 : ∀ i, i < s.size → bt s i = bt t i) : s = t := by
  apply ByteArray.ext
  apply Array.toList_inj.1
  apply List.ext_getElem?
  intro i
  by_cases hi : i < s.size
  · have e := h2 i hi
    unfold bt at e
    have h1 : i < s.data.toList.length := by rw [size_len]; exact hi
    have h3 : i < t.data.toList.length := by rw [size_len]; omega
    rw [List.getD_eq_getElem?_getD, List.getD_eq_getElem?_getD, List.getElem?_eq_getElem h1, List.getElem?_eq_getElem h3] at e
    rw [List.getElem?_eq_getElem h1, List.getElem?_eq_getElem h3]
    exact congrArg some (UInt8.toNat_inj.1 e)
  · rw [List.getElem?_eq_none (by rw [size_len]; omega), List.getElem?_eq_none (by rw [size_len]; omega)]
theorem mkS_congr {f g : Nat → Nat} {n : Nat} (h : ∀ i, i < n → f i = g i) : mkS f n = mkS g n := by
  unfold mkS
  have : (List.range n).map (fun i => UInt8.ofNat (f i)) = (List.range n).map (fun i => UInt8.ofNat (g i)) := List.map_congr_left (fun i hi => by rw [h i (List.mem_range.1 hi)])
  rw [this]
theorem mkS_self (s : ByteArray) : mkS (bt s) s.size = s := str_ext (mkS_size _ _) (fun i hi => bt_mkS (bt_lt s i) (by rw [mkS_size] at hi; exact hi))
theorem mkS_nil (f : Nat → Nat) : mkS f 0 = ⟨#[]⟩ := rfl
theorem mkS_inj {f g : Nat → Nat} {n : Nat} (hf : ∀ i, f i < 256) (hg : ∀ i, g i < 256) (h : mkS f n = mkS g n) (i : Nat) (hi : i < n) : f i = g i := by
  rw [← bt_mkS (hf i) hi, h, bt_mkS (hg i) hi]

theorem under9 : Try.prog.underlying 9 = some .string := by kernel_rfl
theorem under5 : Try.prog.underlying 5 = some (.int .u8) := by kernel_rfl
/-- string(b). -/
theorem conv_str (w : World) (a : Option Addr) (n c : Nat) (f : Nat → Nat) (r : RowF w a f n) : (convert 22 9 (.slice a n c)).run Try.prog w = .ok (.string (mkS f n)) w := by
  rcases r with rfl | ⟨p, off, rfl, hc⟩
  · rw [run_convert_bytes_string w 22 9 5 _ 0 c under32 under5 under9]
    cases a <;> simp [Conv.bytesToString, loadCells]
    all_goals rfl
  · rw [run_convert_bytes_arg w 22 5 under32 under5 p off n c ((List.range n).map fun i => ((f i : Nat) : Int)) (by simp) (fun i hi => by
      rw [hc i hi]; simp [List.getD_eq_getElem?_getD, hi]) 9 under9]
    unfold strOfNums mkS
    simp
end Go.Proofs.Ytcdkpflhpeflcaa
