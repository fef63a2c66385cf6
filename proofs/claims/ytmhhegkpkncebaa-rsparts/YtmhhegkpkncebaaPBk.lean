/-
  THE BOOK'S FUNCTIONS AT FRAGMENTS: Same, Roomy, Intact.
-/
import Derived.Test.YtmhhegkpkncebaaRPick
import Derived.Laws.StructEq
import Derived.Laws.CopyOwn
import Derived.Test.YtmhhegkpkncebaaPick
namespace Go.Proofs.Ytmhhegkpkncebaa
open Go.RowKit

theorem fields31 : (Try.prog.fieldsOf 31).toList.map (fun f => (f.name, f.type, f.offset)) = [("At", 3, 0), ("Data", 9, 1)] := by kernel_rfl
theorem stood31 : Try.prog.stoodInHeld 31 = false := by kernel_rfl
theorem under31 : Try.prog.underlying 31 = some (.struct (Try.prog.fieldsOf 31)) := by kernel_rfl
theorem under3' : Try.prog.underlying 3 = some (.int .i64) := by kernel_rfl
theorem part_at (w : World) (x : Int) (s : ByteArray) : (part 3 #[.int .i64 x, .string s] 0).run Try.prog w = .ok (.int .i64 x) w := by
  simp [part, isAgg, run_underlying under3']
theorem part_dt (w : World) (x : Int) (s : ByteArray) : (part 9 #[.int .i64 x, .string s] 1).run Try.prog w = .ok (.string s) w := by
  simp [part, isAgg, run_underlying under9]
theorem eqp (w : World) (d : Nat) (T : Array Value) (f1 f2 : Field) (n1 : f1.name = "At") (t1 : f1.type = 3) (o1 : f1.offset = 0) (n2 : f2.name = "Data") (t2 : f2.type = 9) (o2 : f2.offset = 1) (A B : Value)
    (p1 : (part 3 T 0).run Try.prog w = .ok A w) (p2 : (part 9 T 1).run Try.prog w = .ok B w) (q1 : (Op.equalIn d 3 A A).run Try.prog w = .ok true w) (q2 : (Op.equalIn d 9 B B).run Try.prog w = .ok true w) :
    (Op.eqFields d T T [f1, f2]).run Try.prog w = .ok true w := by
  have m1 : f1.name ≠ "_" := by rw [n1]; decide
  have m2 : f2.name ≠ "_" := by rw [n2]; decide
  rw [Op.eqFields, if_pos m1, t1, o1]
  simp only [Sem.run_bind, p1, Result.andThen_ok, q1, Bool.not_true, Bool.false_eq_true, if_false]
  rw [Op.eqFields, if_pos m2, t2, o2]
  simp only [Sem.run_bind, p2, Result.andThen_ok, q2, Bool.not_true, Bool.false_eq_true, if_false, Op.eqFields, Sem.run_pure]
theorem fields31' : ∃ f1 f2, (Try.prog.fieldsOf 31).toList = [f1, f2] ∧ f1.name = "At" ∧ f1.type = 3 ∧ f1.offset = 0 ∧ f2.name = "Data" ∧ f2.type = 9 ∧ f2.offset = 1 := by
  have hf := fields31
  generalize (Try.prog.fieldsOf 31).toList = fs at hf
  rcases fs with _ | ⟨f1, fs⟩
  · simp at hf
  rcases fs with _ | ⟨f2, fs⟩
  · simp at hf
  rcases fs with _ | ⟨f3, fs⟩
  · simp only [List.map_cons, List.map_nil, List.cons.injEq, Prod.mk.injEq, and_true] at hf
    obtain ⟨⟨n1, t1, o1⟩, n2, t2, o2⟩ := hf
    exact ⟨f1, f2, rfl, n1, t1, o1, n2, t2, o2⟩
  · simp at hf
theorem eqi (w : World) (d : Nat) (x : Int) : (Op.equalIn (d + 1) 3 (.int .i64 x) (.int .i64 x)).run Try.prog w = .ok true w := by
  rw [run_equalIn_int w d 3 .i64 .i64 x x under3']; simp
theorem eqs (w : World) (d : Nat) (s : ByteArray) : (Op.equalIn (d + 1) 9 (.string s) (.string s)).run Try.prog w = .ok true w := by
  simp [Op.equalIn, run_underlying under9]
  first | exact beq_self_eq_true s.data | (rcases s with ⟨l⟩; exact beq_self_eq_true l) | (rcases s with ⟨l⟩; show (l == l) = true; simp)
theorem eql31 (w : World) (D d : Nat) (hD : D = d + 1 + 1) (x : Int) (s : ByteArray) : (Op.equalIn D 31 (.agg #[.int .i64 x, .string s]) (.agg #[.int .i64 x, .string s])).run Try.prog w = .ok true w := by
  obtain ⟨f1, f2, hl, n1, t1, o1, n2, t2, o2⟩ := fields31'
  have h := eqp w (d + 1) #[.int .i64 x, .string s] f1 f2 n1 t1 o1 n2 t2 o2 _ _ (part_at w x s) (part_dt w x s) (eqi w d x) (eqs w d s)
  have h2 := run_equalIn_struct w (d + 1) 31 #[.int .i64 x, .string s] #[.int .i64 x, .string s] under31 stood31
  rw [hl] at h2
  subst hD
  exact h2.trans h
theorem part_neq (w : World) (x : Int) (s : ByteArray) : (binOp .neq 31 (.agg #[.int .i64 x, .string s]) (.agg #[.int .i64 x, .string s])).run Try.prog w = .ok (.bool false) w := by
  have h := eql31 w Op.maxDepth (Op.maxDepth - 2) (by decide) x s
  simp only [binOp]
  simp [Op.equal, h]

set_option maxHeartbeats 1000000 in
set_option maxRecDepth 100000 in
theorem samep_any (a a' : Option Addr) (n c c' : Nat) (A : Nat → Int) (D : Nat → ByteArray) (hn : n ≤ 4096) (w : World) (ra : PartF w a A D n) (rb : PartF w a' A D n) :
    Calls Try.prog 40 #[.slice a n c, .slice a' n c'] w fun e w' => e = .returned (.bool true) ∧ Below w.heap.size w w' := by
  have ne : ((n : Int) != (n : Int)) = false := by simp
  have HA : Hid (PartF w a A D n) := ra
  have HA' : Hid (PartF w a' A D n) := rb
  clear ra rb
  go_enter Try.func40, Try.ntmps40
  go_wp2_with fail
  go_loopw [5] (fun i wr => ∃ j k : Nat, j ≤ n ∧ i = .int .i64 (j : Int) ∧ Hid (wr = w.drewN k)) (fun i _ => n - (intOf i).toNat)
  case atStart => exact ⟨0, 0, by omega, rfl, rfl⟩
  case round =>
    obtain ⟨j, k, hj, rfl, HW⟩ := hrel
    by_cases hlt : j < n
    · have hi1 : (j : Int) < (n : Int) := by omega
      obtain ⟨p, o, rfl, q1⟩ : ∃ p off, a = some ⟨p, off, none⟩ ∧ ∀ i, i < n → w.cell? ⟨p, off + i * 2, none⟩ = some (.int .i64 (A i)) ∧ w.cell? ⟨p, off + i * 2 + 1, none⟩ = some (.string (D i)) := by
        rcases HA.out with r | r
        · exfalso; omega
        · exact r
      obtain ⟨p', o', rfl, q2⟩ : ∃ p off, a' = some ⟨p, off, none⟩ ∧ ∀ i, i < n → w.cell? ⟨p, off + i * 2, none⟩ = some (.int .i64 (A i)) ∧ w.cell? ⟨p, off + i * 2 + 1, none⟩ = some (.string (D i)) := by
        rcases HA'.out with r | r
        · exfalso; omega
        · exact r
      have c1 : wr.cell? ⟨p, o + j * 2, none⟩ = some (.int .i64 (A j)) := (by rw [HW.out]; exact (q1 j hlt).1)
      have c2 : wr.cell? ⟨p, o + j * 2 + 1, none⟩ = some (.string (D j)) := (by rw [HW.out]; exact (q1 j hlt).2)
      have c3 : wr.cell? ⟨p', o' + j * 2, none⟩ = some (.int .i64 (A j)) := (by rw [HW.out]; exact (q2 j hlt).1)
      have c4 : wr.cell? ⟨p', o' + j * 2 + 1, none⟩ = some (.string (D j)) := (by rw [HW.out]; exact (q2 j hlt).2)
      have hq := fun w => part_neq w (A j) (D j)
      clear q1 q2
      go_wp2_with fail
      go_quiet (fail)
      go_wp2_with fail
      exact ⟨⟨j + 1, k + nq, by omega, by go_num, by show _ = _; rw [HW.out, World.drewN_drewN]⟩, by simp [intOf]; omega⟩
    · have i1 : decide ((j : Int) < (n : Int)) = false := by simp; omega
      go_wp2_with fail
      go_ret
      exact ⟨rfl, by rw [HW.out]; exact below_drewN (Below.refl _ _) k⟩
end Go.Proofs.Ytmhhegkpkncebaa

namespace Go.Proofs.Ytmhhegkpkncebaa
open Go.RowKit

/-- 'copy' of elements of two cells each. -/
theorem run_copy_two {P : Program} (w : World) (dT sT ty elem : TypeId) (g o dLen dCap : Nat) (a : Addr) (sLen sCap : Nat) (cur : Array Value) (t : TypeId) (cs : List Value) (n : Nat)
    (hu : P.underlying dT = some (.slice elem)) (hs : (P.info? elem).map (·.size) = some 2)
    (hg : w.heap[g]? = some (.cells cur t (0, 0))) (hn : n = Nat.min sLen dLen) (hc : cs.length = n * 2)
    (hsrc : ∀ j v, cs[j]? = some v → w.cell? (a.add j) = some v) (hfit : o + cs.length ≤ cur.size) (h1 : ∀ v ∈ cs, v.oneCell' = true) :
    (Builtin.copy_ #[dT, sT] ty #[.slice (some ⟨g, o, none⟩) dLen dCap, .slice (some a) sLen sCap]).run P w =
      .ok (goInt n) (w.setRow g (cur.toList.take o ++ cs ++ cur.toList.drop (o + cs.length)).toArray) := by
  have hl := run_loadCells_list (P := P) w a cs hsrc
  have hst := run_storeCells_at P g o t cs 0 cur w hg (by simpa using hfit) h1
  rw [hc] at hl
  cases hq : P.info? elem with
  | none => simp [hq] at hs
  | some i =>
    have hi : i.size = 2 := by simpa [hq] using hs
    simp [Builtin.copy_, run_underlying hu, Builtin.lenOf, Builtin.firstCells, sizeOf, typeInfo, hq, hi, ← hn, hl, hst]
theorem run_copy_zero {P : Program} (w : World) (dT sT ty elem : TypeId) (d a : Option Addr) (dLen dCap sLen sCap : Nat) (hu : P.underlying dT = some (.slice elem)) (hs : (P.info? elem).map (·.size) = some 2) (hn : Nat.min sLen dLen = 0) :
    (Builtin.copy_ #[dT, sT] ty #[.slice d dLen dCap, .slice a sLen sCap]).run P w = .ok (goInt 0) w := by
  cases hq : P.info? elem with
  | none => simp [hq] at hs
  | some i =>
    have hl : ∀ (x : Addr), (loadCells x 0).run P w = .ok #[] w := fun x => by simpa using run_loadCells_list (P := P) w x [] (by simp)
    cases d <;> cases a <;> simp [Builtin.copy_, run_underlying hu, Builtin.lenOf, Builtin.firstCells, sizeOf, typeInfo, hq, hn, storeCells, hl]

/-- The cells of fragments. -/
def pcs (A : Nat → Int) (D : Nat → ByteArray) : Nat → List Value
  | 0 => []
  | n + 1 => pcs A D n ++ [.int .i64 (A n), .string (D n)]
theorem pcs_length (A : Nat → Int) (D : Nat → ByteArray) : ∀ n, (pcs A D n).length = n * 2
  | 0 => rfl
  | n + 1 => by rw [pcs, List.length_append, pcs_length A D n]; simp; omega
theorem pcs_at (A : Nat → Int) (D : Nat → ByteArray) : ∀ n i, i < n → (pcs A D n)[i * 2]? = some (.int .i64 (A i)) ∧ (pcs A D n)[i * 2 + 1]? = some (.string (D i))
  | 0, i, h => by omega
  | n + 1, i, h => by
    have hl := pcs_length A D n
    by_cases e : i = n
    · subst e
      rw [pcs, List.getElem?_append_right (by omega), List.getElem?_append_right (by omega), hl, Nat.sub_self, show i * 2 + 1 - i * 2 = 1 by omega]
      exact ⟨rfl, rfl⟩
    · rw [pcs, List.getElem?_append_left (by omega), List.getElem?_append_left (by omega)]
      exact pcs_at A D n i (by omega)
theorem pcs_one (A : Nat → Int) (D : Nat → ByteArray) : ∀ n, ∀ v ∈ pcs A D n, v.oneCell' = true
  | 0, v, h => by simp [pcs] at h
  | n + 1, v, h => by
    simp only [pcs, List.mem_append, List.mem_cons, List.not_mem_nil, or_false] at h
    rcases h with h | rfl | rfl
    · exact pcs_one A D n v h
    · rfl
    · rfl
theorem PartF.src {w : World} {a : Option Addr} {A : Nat → Int} {D : Nat → ByteArray} {n : Nat} (h : PartF w a A D n) (hp : 0 < n) :
    ∃ ad, a = some ad ∧ ∀ j v, (pcs A D n)[j]? = some v → w.cell? (ad.add j) = some v := by
  rcases h with h | ⟨p, off, rfl, hc⟩
  · exfalso; omega
  · refine ⟨_, rfl, fun j v hv => ?_⟩
    have hj : j < n * 2 := by
      have := (List.getElem?_eq_some_iff.1 hv).1
      rwa [pcs_length] at this
    have e : (⟨p, off, none⟩ : Addr).add j = ⟨p, off + j, none⟩ := by unfold Addr.add; split <;> simp_all
    rw [e]
    obtain ⟨i, hi, h2⟩ : ∃ i, i < n ∧ (j = i * 2 ∨ j = i * 2 + 1) := ⟨j / 2, by omega, by omega⟩
    have h3 := pcs_at A D n i hi
    have h4 := hc i hi
    rcases h2 with rfl | rfl
    · rw [h3.1] at hv; rw [h4.1]; exact hv
    · rw [h3.2] at hv; rw [← Nat.add_assoc, h4.2]; exact hv
theorem size31 : (Try.prog.info? 31).map (·.size) = some 2 := by kernel_rfl
theorem infoP : (Try.prog.info? 31).map (fun i => (i.zero, i.size, i.bytes)) = some (some (.agg #[.int .i64 0, .string ⟨#[]⟩]), 2, 24) := by kernel_rfl
theorem make_parts (w : World) (n : Nat) (N : Int) (hN : N = (n : Int)) (h : n ≤ 1099511627776) : ∃ w' cur, (Instr.makeSlice 44 (.int .i64 N) (.int .i64 N)).run Try.prog w = .ok (.slice (some ⟨w.heap.size, 0, none⟩) n n) w' ∧
    w'.heap[w.heap.size]? = some (.cells cur 31 (0, 0)) ∧ cur.size = n * 2 ∧ Below w.heap.size w w' := by
  subst hN
  obtain ⟨i0, hi, hz0, hz1, hz2⟩ := info_parts infoP
  obtain ⟨w', hrun, own, gr⟩ := run_make_full (P := Try.prog) w w.heap.size 44 31 i0 _ 2 under44 hi hz0 hz1 .i64 .i64 n (by rw [hz2]; omega) (by unfold maxLen; omega) (Nat.le_refl _)
  have hb : Below w.heap.size w w' := (Below.refl _ _).grown gr (Nat.le_refl _) (fun k e => by cases e)
  rcases own.2 with ⟨h1, _⟩ | ⟨g, cap, cur, h1, _, h3, _, _, h6, h7⟩
  · cases h1
  · injection h1 with e1 e2 e3
    injection e1 with e1
    injection e1 with e1 e4 e5
    subst e1 e3
    exact ⟨w', cur, hrun, h3, by omega, hb⟩
theorem copy_parts {w w3 : World} {G l c d : Nat} {a : Option Addr} {A : Nat → Int} {D : Nat → ByteArray} {cur : Array Value} (ra : PartF w3 a A D l) (hg : w3.heap[G]? = some (.cells cur 31 (0, 0))) (hcs : cur.size = d * 2) (hld : l ≤ d) (hG : w.heap.size ≤ G) (hb : Below w.heap.size w w3) :
    ∃ w4 C, (Builtin.copy_ #[44, 44] 3 #[.slice (some ⟨G, 0, none⟩) d d, .slice a l c]).run Try.prog w3 = .ok (goInt l) w4 ∧ w4.heap[G]? = some (.cells C 31 (0, 0)) ∧ C.size = d * 2 ∧ (∀ q, q < l → C[q * 2]? = some (.int .i64 (A q)) ∧ C[q * 2 + 1]? = some (.string (D q))) ∧ Below w.heap.size w w4 := by
  by_cases h0 : l = 0
  · subst h0
    exact ⟨w3, cur, run_copy_zero w3 44 44 3 31 _ _ d d 0 c under44 size31 (by simp), hg, hcs, fun q hq => by omega, hb⟩
  · obtain ⟨ad, rfl, hsrc⟩ := ra.src (by omega)
    have hr := run_copy_two (P := Try.prog) w3 44 44 3 31 G 0 d d ad l c cur 31 (pcs A D l) l under44 size31 hg (Nat.min_eq_left hld).symm (pcs_length A D l) hsrc (by rw [pcs_length]; omega) (pcs_one A D l)
    refine ⟨_, _, hr, setRow_heap w3 G cur _ 31 (0, 0) hg, ?_, fun q hq => ?_, below_setRow hb hG _⟩
    · simp [pcs_length, hcs]; omega
    · simp only [List.take_zero, List.nil_append, List.getElem?_toArray]
      rw [List.getElem?_append_left (by rw [pcs_length]; omega), List.getElem?_append_left (by rw [pcs_length]; omega)]
      exact pcs_at A D l q hq
def roomA (A : Nat → Int) (l : Nat) (M : Int) (q : Nat) : Int := if q < l then A q else M
def roomD (D : Nat → ByteArray) (l : Nat) (M : ByteArray) (q : Nat) : ByteArray := if q < l then D q else M

set_option maxHeartbeats 1000000 in
set_option maxRecDepth 100000 in
theorem roomyp_any (a : Option Addr) (l c : Nat) (M : Int) (S : ByteArray) (A : Nat → Int) (D : Nat → ByteArray) (hl : l ≤ 4096) (w : World) (ra : PartF w a A D l) :
    Calls Try.prog 22 #[.slice a l c, .agg #[.int .i64 M, .string S]] w fun e w' => ∃ G, e = .returned (.slice (some ⟨G, 0, none⟩) (l + 80) (l + 80)) ∧ w.heap.size ≤ G ∧ PartF w' (some ⟨G, 0, none⟩) (roomA A l M) (roomD D l S) (l + 80) ∧ Below w.heap.size w w' := by
  go_enter Try.func22, Try.ntmps22
  go_wp2_with fail
  obtain ⟨W, eW⟩ : ∃ W, W = w.alloc (.cells #[.int .i64 M, .string S] 31) := ⟨_, rfl⟩
  rw [← eW]
  have hWs : W.heap.size = w.heap.size + 1 := by rw [eW, World.size_alloc]
  have HW1 : Hid (W.cell? ⟨w.heap.size, 0, none⟩ = some (.int .i64 M)) := by rw [eW]; exact World.cell?_alloc_mark w _ 31 (0, 0) 0
  have HW2 : Hid (W.cell? ⟨w.heap.size, 1, none⟩ = some (.string S)) := by rw [eW]; exact World.cell?_alloc_mark w _ 31 (0, 0) 1
  have HWB : Hid (Below w.heap.size w W) := by rw [eW]; exact (Below.refl _ _).alloc (Nat.le_refl _) _
  replace ra : PartF W a A D l := ra.up HWB.out
  clear eW
  obtain ⟨w3, cur, hrun, hg, hcs, hb3⟩ := make_parts W (l + 80) ((l : Int) + 80) (by omega) (by omega)
  rw [hrun]
  clear hrun
  obtain ⟨G, eG⟩ : ∃ G, G = W.heap.size := ⟨_, rfl⟩
  have hG : W.heap.size ≤ G := by omega
  rw [← eG]
  rw [← eG] at hg
  clear eG
  go_wp2_with fail
  obtain ⟨w4, C0, hrun, hg4, hC0, hQ0, hb4⟩ := copy_parts (c := c) (ra.up hb3) hg hcs (by omega) hG hb3
  rw [hrun]
  clear hrun hg hcs hb3 ra
  have HQ1 : Hid (∀ q, q < l → C0[q * 2]? = some (.int .i64 (roomA A l M q)) ∧ C0[q * 2 + 1]? = some (.string (roomD D l S q))) := fun q hq => by
    unfold roomA roomD; rw [if_pos hq, if_pos hq]; exact hQ0 q hq
  have HG4 : Hid (w4.heap[G]? = some (.cells C0 31 (0, 0))) := hg4
  clear hQ0 hg4
  unfold goInt
  go_wp2_with fail
  go_loopw [6] (fun i wr => ∃ (j : Nat) (C : Array Value), l ≤ j ∧ j ≤ l + 80 ∧ i = .int .i64 (j : Int) ∧ C.size = (l + 80) * 2 ∧ Hid (wr.heap[G]? = some (.cells C 31 (0, 0))) ∧ Hid (∀ q, q < j → C[q * 2]? = some (.int .i64 (roomA A l M q)) ∧ C[q * 2 + 1]? = some (.string (roomD D l S q))) ∧ Hid (Below W.heap.size W wr)) (fun i _ => l + 80 - (intOf i).toNat)
  case atStart => exact ⟨l, C0, by omega, by omega, rfl, hC0, HG4, HQ1, hb4⟩
  case round =>
    obtain ⟨j, C, hj1, hj2, rfl, hC, HG, HQ, hB⟩ := hrel
    clear HQ1 HG4 hC0 hb4
    by_cases hlt : j < l + 80
    · have hi1 : (j : Int) < (l : Int) + 80 := by omega
      have m1 := cell_later hB.out HW1.out
      have m2 := cell_later hB.out HW2.out
      obtain ⟨C1, eC1⟩ : ∃ C1, C1 = C.setIfInBounds (j * 2) (.int .i64 M) := ⟨_, rfl⟩
      have e1 : wr.setCell ⟨G, j * 2, none⟩ (.int .i64 M) = wr.setRow G C1 := by rw [eC1]; exact setCell_eq_setRow wr G (j * 2) C 31 (0, 0) _ HG.out
      have g1 : (wr.setRow G C1).heap[G]? = some (.cells C1 31 (0, 0)) := setRow_heap wr G C _ 31 (0, 0) HG.out
      have hC1 : C1.size = (l + 80) * 2 := by rw [eC1]; simp [hC]
      obtain ⟨v1, c1⟩ : ∃ v, wr.cell? ⟨G, j * 2, none⟩ = some v := ⟨C[j * 2]'(by omega), by rw [cell_of_row wr G _ C 31 (0, 0) HG.out]; simp⟩
      have f1 : wr.frozen? ⟨G, j * 2, none⟩ = false := by simp [World.frozen?, HG.out]
      obtain ⟨v2, c2⟩ : ∃ v, (wr.setCell ⟨G, j * 2, none⟩ (.int .i64 M)).cell? ⟨G, j * 2 + 1, none⟩ = some v := ⟨C1[j * 2 + 1]'(by omega), by rw [e1, cell_of_row _ G _ C1 31 (0, 0) g1]; simp⟩
      have f2 : (wr.setCell ⟨G, j * 2, none⟩ (.int .i64 M)).frozen? ⟨G, j * 2 + 1, none⟩ = false := by rw [e1]; simp [World.frozen?, g1]
      obtain ⟨w6, e6⟩ : ∃ w6, w6 = (wr.setCell ⟨G, j * 2, none⟩ (.int .i64 M)).setCell ⟨G, j * 2 + 1, none⟩ (.string S) := ⟨_, rfl⟩
      have HG6 : Hid (w6.heap[G]? = some (.cells (C1.setIfInBounds (j * 2 + 1) (.string S)) 31 (0, 0))) := by
        show _ = _
        rw [e6, e1, setCell_eq_setRow _ G (j * 2 + 1) C1 31 (0, 0) _ g1]; exact setRow_heap _ G C1 _ 31 (0, 0) g1
      have HB6 : Hid (Below W.heap.size W w6) := by rw [e6]; exact (hB.out.setCell hG _).setCell hG _
      have HQ6 : Hid (∀ q, q < j + 1 → (C1.setIfInBounds (j * 2 + 1) (.string S))[q * 2]? = some (.int .i64 (roomA A l M q)) ∧ (C1.setIfInBounds (j * 2 + 1) (.string S))[q * 2 + 1]? = some (.string (roomD D l S q))) := fun q hq => by
        by_cases e : q = j
        · subst e
          rw [Array.getElem?_setIfInBounds_self_of_lt (by omega), Array.getElem?_setIfInBounds_ne (by omega), eC1, Array.getElem?_setIfInBounds_self_of_lt (by omega)]
          unfold roomA roomD
          rw [if_neg (by omega), if_neg (by omega)]
          exact ⟨rfl, rfl⟩
        · rw [Array.getElem?_setIfInBounds_ne (by omega), Array.getElem?_setIfInBounds_ne (by omega), eC1, Array.getElem?_setIfInBounds_ne (by omega), Array.getElem?_setIfInBounds_ne (by omega)]
          exact HQ.out q (by omega)
      have E6 : Hid (w6 = (wr.setCell ⟨G, j * 2, none⟩ (.int .i64 M)).setCell ⟨G, j * 2 + 1, none⟩ (.string S)) := e6
      have hC6 : (C1.setIfInBounds (j * 2 + 1) (.string S)).size = (l + 80) * 2 := by simp [hC1]
      obtain ⟨C6, eC6⟩ : ∃ C6, C6 = C1.setIfInBounds (j * 2 + 1) (.string S) := ⟨_, rfl⟩
      rw [← eC6] at HG6 HQ6 hC6
      clear eC1 e1 g1 e6 HG HQ hB eC6
      go_wp2_with fail
      rw [← E6.out]
      exact ⟨⟨j + 1, C6, by omega, by omega, by go_num, hC6, HG6, HQ6, HB6⟩, by simp [intOf]; omega⟩
    · go_wp2_with fail
      go_ret
      refine ⟨G, rfl, by omega, ?_, HWB.out.trans (hB.out.mono HWB.out.size)⟩
      have : j = l + 80 := by omega
      exact Or.inr ⟨G, 0, rfl, fun i hi => by
        rw [Nat.zero_add, cell_of_row wr G _ C 31 (0, 0) HG.out, cell_of_row wr G _ C 31 (0, 0) HG.out]; exact HQ.out i (by omega)⟩
end Go.Proofs.Ytmhhegkpkncebaa

namespace Go.Proofs.Ytmhhegkpkncebaa
open Go.RowKit

theorem PartF.congr {w : World} {a : Option Addr} {A A' : Nat → Int} {D D' : Nat → ByteArray} {n : Nat} (h : PartF w a A D n) (e : ∀ i, i < n → A i = A' i ∧ D i = D' i) : PartF w a A' D' n := by
  rcases h with h | ⟨p, o, h, hr⟩
  · exact Or.inl h
  · exact Or.inr ⟨p, o, h, fun i hi => by rw [← (e i hi).1, ← (e i hi).2]; exact hr i hi⟩

set_option maxHeartbeats 1000000 in
set_option maxRecDepth 100000 in
theorem intactp_any (G : Nat) (a : Option Addr) (l c : Nat) (M : Int) (S : ByteArray) (A : Nat → Int) (D : Nat → ByteArray) (hl : l ≤ 4000) (w : World) (rg : PartF w (some ⟨G, 0, none⟩) (roomA A l M) (roomD D l S) (l + 80)) (ra : PartF w a A D l) :
    Calls Try.prog 25 #[.slice (some ⟨G, 0, none⟩) (l + 80) (l + 80), .slice a l c, .agg #[.int .i64 M, .string S]] w fun e w' => e = .returned (.bool true) ∧ Below w.heap.size w w' := by
  have ne : (((l : Int) + 80) != ((l : Int) + 80)) = false := by simp
  have hi2 : (l : Int) ≤ (l : Int) + 80 := by omega
  obtain ⟨q1⟩ : Nonempty (∀ i, i < l + 80 → w.cell? ⟨G, i * 2, none⟩ = some (.int .i64 (roomA A l M i)) ∧ w.cell? ⟨G, i * 2 + 1, none⟩ = some (.string (roomD D l S i))) := by
    rcases rg with r | ⟨p, off, e, hc⟩
    · exfalso; omega
    · injection e with e
      injection e with e1 e2 e3
      subst e1 e2
      exact ⟨fun i hi => by have := hc i hi; rwa [Nat.zero_add] at this⟩
  have Q1 : Hid (∀ i, i < l + 80 → w.cell? ⟨G, i * 2, none⟩ = some (.int .i64 (roomA A l M i)) ∧ w.cell? ⟨G, i * 2 + 1, none⟩ = some (.string (roomD D l S i))) := q1
  clear q1
  have HH : Hid (PartF w (some ⟨G, 0, none⟩) A D l) := (rg.head (by omega)).congr (fun i hi => by unfold roomA roomD; rw [if_pos hi, if_pos hi]; exact ⟨rfl, rfl⟩)
  have HA : Hid (PartF w a A D l) := ra
  clear rg ra
  go_enter Try.func25, Try.ntmps25
  go_wp2_with fail
  obtain ⟨W, eW⟩ : ∃ W, W = w.alloc (.cells #[.int .i64 M, .string S] 31) := ⟨_, rfl⟩
  rw [← eW]
  have hWs : W.heap.size = w.heap.size + 1 := by rw [eW, World.size_alloc]
  have HW1 : Hid (W.cell? ⟨w.heap.size, 0, none⟩ = some (.int .i64 M)) := by rw [eW]; exact World.cell?_alloc_mark w _ 31 (0, 0) 0
  have HW2 : Hid (W.cell? ⟨w.heap.size, 1, none⟩ = some (.string S)) := by rw [eW]; exact World.cell?_alloc_mark w _ 31 (0, 0) 1
  have HWB : Hid (Below w.heap.size w W) := by rw [eW]; exact (Below.refl _ _).alloc (Nat.le_refl _) _
  clear eW
  refine (samep_any (some ⟨G, 0, none⟩) a l (l + 80) c A D (by omega) _ (HH.out.up HWB.out) (HA.out.up HWB.out)).mono ?_
  rintro e w2 ⟨rfl, hb2⟩
  have M1 : Hid (w2.cell? ⟨w.heap.size, 0, none⟩ = some (.int .i64 M)) := cell_later hb2 HW1.out
  have M2 : Hid (w2.cell? ⟨w.heap.size, 1, none⟩ = some (.string S)) := cell_later hb2 HW2.out
  have HB2 : Hid (Below w.heap.size w w2) := HWB.out.trans (hb2.mono HWB.out.size)
  clear hb2 HH HA HW1 HW2 HWB hWs
  go_wp2_with fail
  go_loopw [7] (fun i wr => ∃ j k : Nat, l ≤ j ∧ j ≤ l + 80 ∧ i = .int .i64 (j : Int) ∧ Hid (wr = w2.drewN k)) (fun i _ => l + 80 - (intOf i).toNat)
  case atStart => exact ⟨l, 0, by omega, by omega, rfl, rfl⟩
  case round =>
    obtain ⟨j, k, hj1, hj2, rfl, HW⟩ := hrel
    by_cases hlt : j < l + 80
    · have hi1 : (j : Int) < (l : Int) + 80 := by omega
      have c0 := Q1.out j hlt
      have c1 : wr.cell? ⟨G, j * 2, none⟩ = some (.int .i64 M) := by
        have := cell_later HB2.out c0.1
        rw [HW.out]; unfold roomA at this; rw [if_neg (by omega)] at this; exact this
      have c2 : wr.cell? ⟨G, j * 2 + 1, none⟩ = some (.string S) := by
        have := cell_later HB2.out c0.2
        rw [HW.out]; unfold roomD at this; rw [if_neg (by omega)] at this; exact this
      have c3 : wr.cell? ⟨w.heap.size, 0, none⟩ = some (.int .i64 M) := by rw [HW.out]; exact M1.out
      have c4 : wr.cell? ⟨w.heap.size, 1, none⟩ = some (.string S) := by rw [HW.out]; exact M2.out
      have hq := fun w => part_neq w M S
      clear c0
      go_wp2_with fail
      go_quiet (fail)
      go_wp2_with fail
      exact ⟨⟨j + 1, k + nq, by omega, by omega, by go_num, by show _ = _; rw [HW.out, World.drewN_drewN]⟩, by simp [intOf]; omega⟩
    · have i1 : decide ((j : Int) < (l : Int) + 80) = false := by simp; omega
      go_wp2_with fail
      go_ret
      exact ⟨rfl, by rw [HW.out]; exact below_drewN HB2.out k⟩
end Go.Proofs.Ytmhhegkpkncebaa
