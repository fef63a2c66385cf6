/-
  OPENING of answers, and of rows of values, that came in.
-/
import Derived.Test.YtjlcnfafjblmkaaDoorLight
import Derived.Deep.SlicePairs
import Derived.ChangeArms
import Derived.SizedLaws
import Derived.OpenShut
namespace Go.Proofs.YtjlcnfafjblmkaaDoor
open Go.RowKit Go.ChangeShapes Go.WideShapes Go.Deep

theorem under24o : Tryd.prog.underlying 24 = some (.slice 23) := by kernel_rfl
theorem under26o : Tryd.prog.underlying 26 = some (.array 4 3) := by kernel_rfl
theorem wf_i64 {n : Int} (h : (Lit.int .i64 n).wf = true) : -9223372036854775808 ≤ n ∧ n ≤ 9223372036854775807 := by
  have h3 : IntKind.i64.min ≤ n ∧ n ≤ IntKind.i64.max := by simpa [Lit.wf] using h
  have m1 : IntKind.i64.min = -9223372036854775808 := by decide
  have m2 : IntKind.i64.max = 9223372036854775807 := by decide
  omega
theorem wf_u64 {n : Int} (h : (Lit.int .u64 n).wf = true) : 0 ≤ n ∧ n < 18446744073709551616 := by
  have h3 : IntKind.u64.min ≤ n ∧ n ≤ IntKind.u64.max := by simpa [Lit.wf] using h
  have m1 : IntKind.u64.min = 0 := by decide
  have m2 : IntKind.u64.max = 18446744073709551615 := by decide
  omega
theorem names23 : ((Tryd.prog.fieldsOf 23).toList.map fun f => (f.type, f.offset)) = [(9, 0), (3, 1), (9, 2), (3, 3)] := by kernel_rfl
theorem under23s : Tryd.prog.underlying 23 = some (.struct (Tryd.prog.fieldsOf 23)) := by kernel_rfl
theorem fields23 : ∃ f0 f1 f2 f3, Tryd.prog.underlying 23 = some (.struct #[f0, f1, f2, f3]) ∧ (f0.type = 9 ∧ f0.offset = 0) ∧ (f1.type = 3 ∧ f1.offset = 1) ∧ (f2.type = 9 ∧ f2.offset = 2) ∧ (f3.type = 3 ∧ f3.offset = 3) := by
  have h := names23
  have h2 := under23s
  generalize Tryd.prog.fieldsOf 23 = F at h h2
  obtain ⟨l⟩ := F
  rcases l with _ | ⟨f0, _ | ⟨f1, _ | ⟨f2, _ | ⟨f3, _ | ⟨f4, l⟩⟩⟩⟩⟩ <;> simp at h
  exact ⟨f0, f1, f2, f3, h2, h.1, h.2.1, h.2.2.1, h.2.2.2⟩
theorem names28 : ((Tryd.prog.fieldsOf 28).toList.map fun f => (f.type, f.offset)) = [(3, 0), (24, 1), (4, 2), (25, 3), (9, 4), (26, 5)] := by kernel_rfl
theorem under28s : Tryd.prog.underlying 28 = some (.struct (Tryd.prog.fieldsOf 28)) := by kernel_rfl
theorem fields28 : ∃ f0 f1 f2 f3 f4 f5, Tryd.prog.underlying 28 = some (.struct #[f0, f1, f2, f3, f4, f5]) ∧ (f0.type = 3 ∧ f0.offset = 0) ∧ (f1.type = 24 ∧ f1.offset = 1) ∧ (f2.type = 4 ∧ f2.offset = 2) ∧ (f3.type = 25 ∧ f3.offset = 3) ∧ (f4.type = 9 ∧ f4.offset = 4) ∧ (f5.type = 26 ∧ f5.offset = 5) := by
  have h := names28
  have h2 := under28s
  generalize Tryd.prog.fieldsOf 28 = F at h h2
  obtain ⟨l⟩ := F
  rcases l with _ | ⟨f0, _ | ⟨f1, _ | ⟨f2, _ | ⟨f3, _ | ⟨f4, _ | ⟨f5, _ | ⟨f6, l⟩⟩⟩⟩⟩⟩⟩ <;> simp at h
  exact ⟨f0, f1, f2, f3, f4, f5, h2, h.1, h.2.1, h.2.2.1, h.2.2.2.1, h.2.2.2.2.1, h.2.2.2.2.2⟩
theorem open_found {H : Type} {enc : TypeId × Value → H} {W : World} {base fuel : Nat} {spare : Nat → Bool} {held : Bool} {cs : List Value} {x : DataW H × List MemPlace}
    (h : DataW.trod enc Tryd.prog W base spare held fuel 23 cs = some x) : ∃ f : Fd, cs = f.cs ∧ f.key.size ∈ x.1.weights Tryd.prog 23 ∧ f.val.size ∈ x.1.weights Tryd.prog 23 ∧ f.fl ≤ 9223372036854775807 ∧ f.cas ≤ 9223372036854775807 ∧ -9223372036854775808 ≤ f.fl ∧ -9223372036854775808 ≤ f.cas := by
  obtain ⟨f0, f1, f2, f3, he, ⟨t0, o0⟩, ⟨t1, o1⟩, ⟨t2, o2⟩, t3, o3⟩ := fields23
  obtain ⟨xs, k, hk, hxy, hlen, hxl, hf⟩ := DataW.trod_struct he h
  rw [show Tryd.prog.cellsOf 23 = 4 by kernel_rfl] at hlen
  rcases cs with _ | ⟨c0, _ | ⟨c1, _ | ⟨c2, _ | ⟨c3, _ | ⟨c4, cs⟩⟩⟩⟩⟩ <;> simp at hlen
  rcases xs with _ | ⟨y0, _ | ⟨y1, _ | ⟨y2, _ | ⟨y3, _ | ⟨y4, ys⟩⟩⟩⟩⟩ <;> simp at hxl
  have g0 := hf 0 f0 rfl
  have g1 := hf 1 f1 rfl
  have g2 := hf 2 f2 rfl
  have g3 := hf 3 f3 rfl
  have s3 : Tryd.prog.cellsOf 3 = 1 := by kernel_rfl
  have s9 : Tryd.prog.cellsOf 9 = 1 := by kernel_rfl
  rw [t0, o0, s9] at g0
  rw [t1, o1, s3] at g1
  rw [t2, o2, s9] at g2
  rw [t3, o3, s3] at g3
  simp at g0 g1 g2 g3
  obtain ⟨z0, q0, v0, _⟩ := DataW.trod_string Tryd.underlying9 g0
  obtain ⟨z1, q1, _, w1⟩ := DataW.trod_int Tryd.underlying3 g1
  obtain ⟨z2, q2, v2, _⟩ := DataW.trod_string Tryd.underlying9 g2
  obtain ⟨z3, q3, _, w3⟩ := DataW.trod_int Tryd.underlying3 g3
  injection q0 with q0
  injection q1 with q1
  injection q2 with q2
  injection q3 with q3
  have b1 := wf_i64 w1
  have b3 := wf_i64 w3
  have hw : x.1.weights Tryd.prog 23 = DataW.weightsEach Tryd.prog [f0.type, f1.type, f2.type, f3.type] [y0.1, y1.1, y2.1, y3.1] := by
    rw [hxy]
    simp only [DataW.weights, he, List.map_cons, List.map_nil]
  refine ⟨⟨z0, z1, z2, z3⟩, by rw [q0, q1, q2, q3]; rfl, ?_, ?_, b1.2, b3.2, b1.1, b3.1⟩
  · rw [hw]
    refine DataW.weights_mem_each (j := 0) (t := 9) (d := .lit (.string z0.data.toList)) (by simp [t0]) (by simp [v0]) _ ?_
    simp only [DataW.weights, List.mem_singleton]; exact (size_len _).symm
  · rw [hw]
    refine DataW.weights_mem_each (j := 2) (t := 9) (d := .lit (.string z2.data.toList)) (by simp [t2]) (by simp [v2]) _ ?_
    simp only [DataW.weights, List.mem_singleton]; exact (size_len _).symm
theorem mem_weightsAll {H : Type} {P : Program} {e : TypeId} : ∀ {l : List (DataW H)} {d : DataW H} {n : Nat}, d ∈ l → n ∈ d.weights P e → n ∈ DataW.weightsAll P e l
  | x :: l, d, n, hd, hn => by
    rw [DataW.weightsAll]
    rcases List.mem_cons.1 hd with rfl | hd
    · exact List.mem_append_left _ hn
    · exact List.mem_append_right _ (mem_weightsAll hd hn)
/-- What is known of values that came in, sizes by their weights. -/
def FdsW (ws : List Nat) (fs : List Fd) : Prop := ∀ f ∈ fs, f.key.size ∈ ws ∧ f.val.size ∈ ws ∧ f.fl ≤ 9223372036854775807 ∧ f.cas ≤ 9223372036854775807 ∧ -9223372036854775808 ≤ f.fl ∧ -9223372036854775808 ≤ f.cas
theorem open_fds {H : Type} {enc : TypeId × Value → H} {W : World} {base fuel : Nat} {spare : Nat → Bool} {held : Bool} {cs : List Value} {x : DataW H × List MemPlace}
    (h : DataW.trod enc Tryd.prog W base spare held fuel 24 cs = some x) : ∃ (a : Option Addr) (cap : Nat) (fs : List Fd), cs = [.slice a fs.length cap] ∧ FdF W a fs ∧ fs.length ≤ 9223372036854775807 ∧ FdsW (x.1.weights Tryd.prog 24) fs := by
  have ce : Tryd.prog.cellsOf 23 = 4 := by kernel_rfl
  rcases Go.Deep.open_slice under24o h with ⟨hcs, _⟩ | ⟨ad, len, cap, m, n, D, Pl, hcs, hb, hl, hm, hmm, rfl, hx⟩
  · exact ⟨none, 0, [], hcs, .inl rfl, by simp, fun f hf => by simp at hf⟩
  · have hlm : len ≤ m := by rw [hmm]; split <;> omega
    have hmax : len ≤ 9223372036854775807 := by unfold maxLen at hm; omega
    have each : ∀ i, i < len → ∃ f : Fd, (∀ j u, f.cs[j]? = some u → W.cell? (ad.add (i * 4 + j)) = some u) ∧ f.key.size ∈ (D i).weights Tryd.prog 23 ∧ f.val.size ∈ (D i).weights Tryd.prog 23 ∧ f.fl ≤ 9223372036854775807 ∧ f.cas ≤ 9223372036854775807 ∧ -9223372036854775808 ≤ f.fl ∧ -9223372036854775808 ≤ f.cas := fun i hi => by
      obtain ⟨cs', h1, h2⟩ := hx i (by omega)
      rw [ce] at h1
      obtain ⟨_, hlen, hcell⟩ := World.cells?_some h1
      obtain ⟨f, rfl, k1, k2, k3, k4, k5, k6⟩ := open_found h2
      refine ⟨f, fun j u hu => ?_, k1, k2, k3, k4, k5, k6⟩
      have hj : j < f.cs.length := (List.getElem?_eq_some_iff.1 hu).1
      have e := hcell j hj
      rw [Go.Deep.add_add] at e
      rw [e]
      exact hu
    have inh : Inhabited Fd := ⟨⟨⟨#[]⟩, 0, ⟨#[]⟩, 0⟩⟩
    obtain ⟨q, hq⟩ := Go.Deep.choose_lt each
    have hqi : ∀ i f, ((List.range len).map q)[i]? = some f → i < len ∧ f = q i := fun i f hf => by
      rw [List.getElem?_map] at hf
      obtain ⟨j, hj, rfl⟩ := Option.map_eq_some_iff.1 hf
      obtain ⟨h1, h2⟩ := List.getElem?_eq_some_iff.1 hj
      have : j = i := by simpa using h2.symm
      subst this
      exact ⟨by simpa using h1, rfl⟩
    refine ⟨some ad, cap, (List.range len).map q, by rw [hcs]; simp, ?_, by simpa using hmax, fun f hf => ?_⟩
    · by_cases n0 : len = 0
      · subst n0; exact .inl rfl
      · obtain ⟨p, off, spot⟩ := ad
        have c00 := (hq 0 (by omega)).1 0 _ rfl
        have hspot : spot = none := by simpa [Addr.add] using World.cell?_spot c00
        subst hspot
        have e : ∀ j, (⟨p, off, none⟩ : Addr).add j = ⟨p, off + j, none⟩ := fun j => by unfold Addr.add; split <;> simp_all
        have hp : p < W.heap.size := World.block_lt_of_cell? _ _ c00
        refine .inr ⟨p, off, rfl, hp, fun i f hf => ?_⟩
        obtain ⟨hi, rfl⟩ := hqi i f hf
        have hc := (hq i hi).1
        have a0 := hc 0 _ rfl
        have a1 := hc 1 _ rfl
        have a2 := hc 2 _ rfl
        have a3 := hc 3 _ rfl
        rw [e] at a0 a1 a2 a3
        exact ⟨a0, by rw [Nat.add_assoc]; exact a1, by rw [Nat.add_assoc]; exact a2, by rw [Nat.add_assoc]; exact a3⟩
    · obtain ⟨i, hi, rfl⟩ := List.mem_map.1 hf
      have hi' : i < len := by simpa using hi
      obtain ⟨_, k1, k2, k3, k4, k5, k6⟩ := hq i hi'
      have up : ∀ z, z ∈ (D i).weights Tryd.prog 23 → z ∈ (DataW.slice ((List.range len).map D) ((List.range (m - len)).map fun j => D (len + j)) : DataW H).weights Tryd.prog 24 := fun z hz => by
        simp only [DataW.weights, under24o]
        exact List.mem_cons_of_mem _ (List.mem_append_left _ (mem_weightsAll (d := D i) (List.mem_map.2 ⟨i, List.mem_range.2 hi', rfl⟩) hz))
      exact ⟨up _ k1, up _ k2, k3, k4, k5, k6⟩
theorem open_four {H : Type} {enc : TypeId × Value → H} {W : World} {base fuel : Nat} {spare : Nat → Bool} {held : Bool} {cs : List Value} {x : DataW H × List MemPlace}
    (h : DataW.trod enc Tryd.prog W base spare held fuel 26 cs = some x) : ∃ a b c d : Int, cs = [.int .i64 a, .int .i64 b, .int .i64 c, .int .i64 d] ∧ a ≤ 9223372036854775807 ∧ b ≤ 9223372036854775807 ∧ c ≤ 9223372036854775807 ∧ d ≤ 9223372036854775807 := by
  obtain ⟨xs, k, hk, hxy, hlen, hxl, hf⟩ := DataW.trod_array under26o h
  rw [show Tryd.prog.cellsOf 26 = 4 by kernel_rfl] at hlen
  rcases cs with _ | ⟨c0, _ | ⟨c1, _ | ⟨c2, _ | ⟨c3, _ | ⟨c4, cs⟩⟩⟩⟩⟩ <;> simp at hlen
  rcases xs with _ | ⟨y0, _ | ⟨y1, _ | ⟨y2, _ | ⟨y3, _ | ⟨y4, ys⟩⟩⟩⟩⟩ <;> simp at hxl
  have g0 := hf 0 (by omega)
  have g1 := hf 1 (by omega)
  have g2 := hf 2 (by omega)
  have g3 := hf 3 (by omega)
  rw [show Tryd.prog.cellsOf 3 = 1 by kernel_rfl] at g0 g1 g2 g3
  simp at g0 g1 g2 g3
  obtain ⟨z0, q0, _, w0⟩ := DataW.trod_int Tryd.underlying3 g0
  obtain ⟨z1, q1, _, w1⟩ := DataW.trod_int Tryd.underlying3 g1
  obtain ⟨z2, q2, _, w2⟩ := DataW.trod_int Tryd.underlying3 g2
  obtain ⟨z3, q3, _, w3⟩ := DataW.trod_int Tryd.underlying3 g3
  injection q0 with q0
  injection q1 with q1
  injection q2 with q2
  injection q3 with q3
  exact ⟨z0, z1, z2, z3, by rw [q0, q1, q2, q3], (wf_i64 w0).2, (wf_i64 w1).2, (wf_i64 w2).2, (wf_i64 w3).2⟩
theorem open_answer {H : Type} {enc : TypeId × Value → H} {W : World} {base fuel : Nat} {spare : Nat → Bool} {held : Bool} {cs : List Value} {x : DataW H × List MemPlace}
    (h : DataW.trod enc Tryd.prog W base spare held fuel 28 cs = some x) : ∃ (z : An) (a : Option Addr) (cap : Nat), Value.agg cs.toArray = z.v a cap ∧ FdF W a z.fs ∧ z.fs.length ≤ 9223372036854775807 ∧ FdsW (x.1.weights Tryd.prog 28) z.fs ∧ z.text.size ∈ x.1.weights Tryd.prog 28 ∧ z.num < 18446744073709551616 ∧ z.s0 ≤ 9223372036854775807 ∧ z.s1 ≤ 9223372036854775807 ∧ z.s2 ≤ 9223372036854775807 ∧ z.s3 ≤ 9223372036854775807 := by
  obtain ⟨f0, f1, f2, f3, f4, f5, he, ⟨t0, o0⟩, ⟨t1, o1⟩, ⟨t2, o2⟩, ⟨t3, o3⟩, ⟨t4, o4⟩, t5, o5⟩ := fields28
  obtain ⟨xs, k, hk, hxy, hlen, hxl, hf⟩ := DataW.trod_struct he h
  rw [show Tryd.prog.cellsOf 28 = 9 by kernel_rfl] at hlen
  rcases cs with _ | ⟨c0, _ | ⟨c1, _ | ⟨c2, _ | ⟨c3, _ | ⟨c4, _ | ⟨c5, _ | ⟨c6, _ | ⟨c7, _ | ⟨c8, _ | ⟨c9, cs⟩⟩⟩⟩⟩⟩⟩⟩⟩⟩ <;> simp at hlen
  rcases xs with _ | ⟨y0, _ | ⟨y1, _ | ⟨y2, _ | ⟨y3, _ | ⟨y4, _ | ⟨y5, _ | ⟨y6, ys⟩⟩⟩⟩⟩⟩⟩ <;> simp at hxl
  have g0 := hf 0 f0 rfl
  have g1 := hf 1 f1 rfl
  have g2 := hf 2 f2 rfl
  have g3 := hf 3 f3 rfl
  have g4 := hf 4 f4 rfl
  have g5 := hf 5 f5 rfl
  rw [t0, o0, show Tryd.prog.cellsOf 3 = 1 by kernel_rfl] at g0
  rw [t1, o1, show Tryd.prog.cellsOf 24 = 1 by kernel_rfl] at g1
  rw [t2, o2, show Tryd.prog.cellsOf 4 = 1 by kernel_rfl] at g2
  rw [t3, o3, show Tryd.prog.cellsOf 25 = 1 by kernel_rfl] at g3
  rw [t4, o4, show Tryd.prog.cellsOf 9 = 1 by kernel_rfl] at g4
  rw [t5, o5, show Tryd.prog.cellsOf 26 = 4 by kernel_rfl] at g5
  simp at g0 g1 g2 g3 g4 g5
  obtain ⟨z0, q0, _, _⟩ := DataW.trod_int Tryd.underlying3 g0
  obtain ⟨a, cap, fs, q1, hF, hn, hW⟩ := open_fds g1
  obtain ⟨z2, q2, _⟩ := DataW.trod_bool Tryd.underlying4 g2
  obtain ⟨z3, q3, _, w3⟩ := DataW.trod_int Tryd.underlying25 g3
  obtain ⟨z4, q4, v4, _⟩ := DataW.trod_string Tryd.underlying9 g4
  obtain ⟨u0, u1, u2, u3, q5, b0, b1, b2, b3⟩ := open_four g5
  injection q0 with q0
  injection q1 with q1
  injection q2 with q2
  injection q3 with q3
  injection q4 with q4
  simp only [List.cons.injEq, and_true] at q5
  obtain ⟨e5, e6, e7, e8⟩ := q5
  have hw3 := wf_u64 w3
  have hw : x.1.weights Tryd.prog 28 = DataW.weightsEach Tryd.prog [f0.type, f1.type, f2.type, f3.type, f4.type, f5.type] [y0.1, y1.1, y2.1, y3.1, y4.1, y5.1] := by
    rw [hxy]
    simp only [DataW.weights, he, List.map_cons, List.map_nil]
  have up : ∀ z, z ∈ y1.1.weights Tryd.prog 24 → z ∈ x.1.weights Tryd.prog 28 := fun z hz => by
    rw [hw]
    exact DataW.weights_mem_each (j := 1) (t := 24) (d := y1.1) (by simp [t1]) (by simp) _ hz
  refine ⟨⟨z0, fs, z2, z3.toNat, z4, u0, u1, u2, u3⟩, a, cap, ?_, hF, hn, fun f hf => ?_, ?_, by show z3.toNat < _; omega, b0, b1, b2, b3⟩
  · unfold An.v
    simp only
    rw [q0, q1, q2, q3, q4, e5, e6, e7, e8, Int.toNat_of_nonneg hw3.1]
  · obtain ⟨k1, k2, k3, k4, k5, k6⟩ := hW f hf
    exact ⟨up _ k1, up _ k2, k3, k4, k5, k6⟩
  · rw [hw]
    refine DataW.weights_mem_each (j := 4) (t := 9) (d := .lit (.string z4.data.toList)) (by simp [t4]) (by simp [v4]) _ ?_
    simp only [DataW.weights, List.mem_singleton]; exact (size_len _).symm
end Go.Proofs.YtjlcnfafjblmkaaDoor
