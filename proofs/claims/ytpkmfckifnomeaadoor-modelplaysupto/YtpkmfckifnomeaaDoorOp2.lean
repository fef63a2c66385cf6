/-
  OPENING of what came in: entries, requests, lists of asks; their bulk.
-/
import Derived.Test.YtpkmfckifnomeaaDoorOp1
import Derived.Test.YtpkmfckifnomeaaDoorRows
import Derived.ChangeArms
import Derived.SizedLaws
namespace Go.Proofs.YtpkmfckifnomeaaDoor
open Go.RowKit Go.ChangeShapes Go.WideShapes

theorem names49 : ((Tryd.prog.fieldsOf 49).toList.map fun f => (f.type, f.offset)) = [(9, 0), (3, 1), (3, 2), (9, 3), (3, 4)] := by kernel_rfl
theorem under49o : Tryd.prog.underlying 49 = some (.struct (Tryd.prog.fieldsOf 49)) := by kernel_rfl
theorem flds49 : ∃ f0 f1 f2 f3 f4, Tryd.prog.underlying 49 = some (.struct #[f0, f1, f2, f3, f4]) ∧ (f0.type = 9 ∧ f0.offset = 0) ∧ (f1.type = 3 ∧ f1.offset = 1) ∧ (f2.type = 3 ∧ f2.offset = 2) ∧ (f3.type = 9 ∧ f3.offset = 3) ∧ (f4.type = 3 ∧ f4.offset = 4) := by
  have h := names49
  have h2 := under49o
  generalize Tryd.prog.fieldsOf 49 = F at h h2
  obtain ⟨l⟩ := F
  rcases l with _ | ⟨f0, _ | ⟨f1, _ | ⟨f2, _ | ⟨f3, _ | ⟨f4, _ | ⟨f5, l⟩⟩⟩⟩⟩⟩ <;> simp at h
  exact ⟨f0, f1, f2, f3, f4, h2, h.1, h.2.1, h.2.2.1, h.2.2.2.1, h.2.2.2.2⟩
theorem names27 : ((Tryd.prog.fieldsOf 27).toList.map fun f => (f.type, f.offset)) = [(3, 0), (24, 1), (3, 2), (3, 3), (3, 4), (3, 5), (25, 6), (4, 7), (9, 8)] := by kernel_rfl
theorem under27o : Tryd.prog.underlying 27 = some (.struct (Tryd.prog.fieldsOf 27)) := by kernel_rfl
theorem flds27 : ∃ f0 f1 f2 f3 f4 f5 f6 f7 f8, Tryd.prog.underlying 27 = some (.struct #[f0, f1, f2, f3, f4, f5, f6, f7, f8]) ∧ (f0.type = 3 ∧ f0.offset = 0) ∧ (f1.type = 24 ∧ f1.offset = 1) ∧ (f2.type = 3 ∧ f2.offset = 2) ∧ (f3.type = 3 ∧ f3.offset = 3) ∧ (f4.type = 3 ∧ f4.offset = 4) ∧ (f5.type = 3 ∧ f5.offset = 5) ∧ (f6.type = 25 ∧ f6.offset = 6) ∧ (f7.type = 4 ∧ f7.offset = 7) ∧ (f8.type = 9 ∧ f8.offset = 8) := by
  have h := names27
  have h2 := under27o
  generalize Tryd.prog.fieldsOf 27 = F at h h2
  obtain ⟨l⟩ := F
  rcases l with _ | ⟨f0, _ | ⟨f1, _ | ⟨f2, _ | ⟨f3, _ | ⟨f4, _ | ⟨f5, _ | ⟨f6, _ | ⟨f7, _ | ⟨f8, _ | ⟨f9, l⟩⟩⟩⟩⟩⟩⟩⟩⟩⟩ <;> simp at h
  exact ⟨f0, f1, f2, f3, f4, f5, f6, f7, f8, h2, h.1, h.2.1, h.2.2.1, h.2.2.2.1, h.2.2.2.2.1, h.2.2.2.2.2.1, h.2.2.2.2.2.2.1, h.2.2.2.2.2.2.2.1, h.2.2.2.2.2.2.2.2⟩
theorem names43 : ((Tryd.prog.fieldsOf 43).toList.map fun f => (f.type, f.offset)) = [(4, 0), (9, 1), (27, 2), (3, 11), (3, 12)] := by kernel_rfl
theorem under43o : Tryd.prog.underlying 43 = some (.struct (Tryd.prog.fieldsOf 43)) := by kernel_rfl
theorem flds43 : ∃ f0 f1 f2 f3 f4, Tryd.prog.underlying 43 = some (.struct #[f0, f1, f2, f3, f4]) ∧ (f0.type = 4 ∧ f0.offset = 0) ∧ (f1.type = 9 ∧ f1.offset = 1) ∧ (f2.type = 27 ∧ f2.offset = 2) ∧ (f3.type = 3 ∧ f3.offset = 11) ∧ (f4.type = 3 ∧ f4.offset = 12) := by
  have h := names43
  have h2 := under43o
  generalize Tryd.prog.fieldsOf 43 = F at h h2
  obtain ⟨l⟩ := F
  rcases l with _ | ⟨f0, _ | ⟨f1, _ | ⟨f2, _ | ⟨f3, _ | ⟨f4, _ | ⟨f5, l⟩⟩⟩⟩⟩⟩ <;> simp at h
  exact ⟨f0, f1, f2, f3, f4, h2, h.1, h.2.1, h.2.2.1, h.2.2.2.1, h.2.2.2.2⟩
/-- Texts, and a place each. -/
def ksum (ks : List ByteArray) : Nat := (ks.map fun k => k.size + 1).sum
theorem bulk_one {H : Type} (d : DataW H) : 1 ≤ Rows.uptoBulk d := by
  cases d with
  | lit l => cases l <;> simp [Rows.uptoBulk]
  | nil => simp [Rows.uptoBulk]
  | ptr d => simp [Rows.uptoBulk]
  | slice elems spare => simp [Rows.uptoBulk]
  | agg parts => simp [Rows.uptoBulk]
  | iface t d => simp [Rows.uptoBulk]
  | map entries => simp [Rows.uptoBulk]
  | held h => simp [Rows.uptoBulk]
theorem bulk_part {H : Type} {d : DataW H} {l : List (DataW H)} (h : d ∈ l) : Rows.uptoBulk d ≤ Rows.uptoBulkAll l := by
  induction l with
  | nil => cases h
  | cons x r ih =>
    simp only [Rows.uptoBulkAll]
    cases List.mem_cons.1 h with
    | inl e => subst e; omega
    | inr e => have := ih e; omega
theorem bulk_len {H : Type} (l : List (DataW H)) : l.length ≤ Rows.uptoBulkAll l := by
  induction l with
  | nil => simp [Rows.uptoBulkAll]
  | cons x r ih => have := bulk_one x; simp only [Rows.uptoBulkAll, List.length_cons]; omega
theorem bulk_str {H : Type} (s : ByteArray) : Rows.uptoBulk (DataW.lit (H := H) (.string s.data.toList)) = s.size + 1 := by
  simp only [Rows.uptoBulk]; rw [size_len]
theorem bulk_sum {H : Type} (n : Nat) (D : Nat → DataW H) (T : Nat → ByteArray) (h : ∀ i, i < n → D i = .lit (.string (T i).data.toList)) : Rows.uptoBulkAll ((List.range n).map D) = ksum ((List.range n).map T) := by
  have : ∀ l : List Nat, (∀ i ∈ l, i < n) → Rows.uptoBulkAll (l.map D) = ksum (l.map T) := by
    intro l
    induction l with
    | nil => intro _; simp [Rows.uptoBulkAll, ksum]
    | cons i l ih =>
      intro hl
      simp only [List.map_cons, Rows.uptoBulkAll, ksum, List.sum_cons]
      rw [ih (fun j hj => hl j (List.mem_cons_of_mem _ hj)), h i (hl i (by simp)), bulk_str]
      rfl
  exact this _ (fun i hi => List.mem_range.1 hi)
/-- Texts that came in. -/
theorem open_keys {H : Type} {enc : TypeId × Value → H} {W : World} {base fuel : Nat} {spare : Nat → Bool} {held : Bool} {cs : List Value} {x : DataW H × List MemPlace} (h : DataW.trod enc Tryd.prog W base spare held fuel 24 cs = some x) : ∃ (a : Option Addr) (cap : Nat) (ks : List ByteArray), cs = [.slice a ks.length cap] ∧ Ks W a ks ∧ ksum ks ≤ Rows.uptoBulk x.1 ∧ (ks ≠ [] → ∀ p off, a = some ⟨p, off, none⟩ → p < W.heap.size) := by
  have ce : Tryd.prog.cellsOf 9 = 1 := by kernel_rfl
  rcases Go.Deep.open_slice under24 h with ⟨hcs, _⟩ | ⟨ad, len, cap, m, n, D, Pl, hcs, hb, hl, hm, hmm, rfl, hx⟩
  · exact ⟨none, 0, [], hcs, .inl rfl, by simp [ksum], fun h => absurd rfl h⟩
  · have hlm : len ≤ m := by rw [hmm]; split <;> omega
    have each : ∀ i, i < len → ∃ s : ByteArray, W.cell? (ad.add i) = some (.string s) ∧ D i = .lit (.string s.data.toList) := fun i hi => by
      obtain ⟨cs', h1, h2⟩ := hx i (by omega)
      rw [ce] at h1
      obtain ⟨_, hlen, hcell⟩ := World.cells?_some h1
      obtain ⟨s, rfl, h3, _⟩ := DataW.trod_string Tryd.underlying9 h2
      have e0 := hcell 0 (by simp)
      rw [Go.Deep.add_add] at e0
      injection h3 with h3 _
      exact ⟨s, by simpa using e0, h3⟩
    have inh : Inhabited ByteArray := ⟨⟨#[]⟩⟩
    obtain ⟨q, hq⟩ := Go.Deep.choose_lt each
    have hqi : ∀ i k, ((List.range len).map q)[i]? = some k → i < len ∧ k = q i := fun i k hk => by
      rw [List.getElem?_map] at hk
      obtain ⟨j, hj, rfl⟩ := Option.map_eq_some_iff.1 hk
      obtain ⟨h1, h2⟩ := List.getElem?_eq_some_iff.1 hj
      have : j = i := by simpa using h2.symm
      subst this
      exact ⟨by simpa using h1, rfl⟩
    have hbk : ksum ((List.range len).map q) ≤ Rows.uptoBulk (DataW.slice ((List.range len).map D) ((List.range (m - len)).map fun j => D (len + j)) : DataW H) := by
      simp only [Rows.uptoBulk]
      rw [bulk_sum len D q (fun i hi => (hq i hi).2)]
      omega
    by_cases n0 : len = 0
    · subst n0
      exact ⟨some ad, cap, [], by rw [hcs]; simp, .inl rfl, by simp [ksum], fun h => absurd rfl h⟩
    · obtain ⟨p, off, spot⟩ := ad
      have c00 := (hq 0 (by omega)).1
      have hspot : spot = none := by simpa [Addr.add] using World.cell?_spot c00
      subst hspot
      have e : ∀ j, (⟨p, off, none⟩ : Addr).add j = ⟨p, off + j, none⟩ := fun j => by unfold Addr.add; split <;> simp_all
      have hp : p < W.heap.size := World.block_lt_of_cell? _ _ c00
      refine ⟨some ⟨p, off, none⟩, cap, (List.range len).map q, by rw [hcs]; simp, .inr ⟨p, off, rfl, fun i k hk => ?_⟩, hbk, fun _ p' off' he => by injection he with he; injection he with he; omega⟩
      obtain ⟨hi, rfl⟩ := hqi i k hk
      have := (hq i hi).1
      rw [e] at this
      exact this
/-- An entry that came in. -/
theorem open_entry {H : Type} {enc : TypeId × Value → H} {W : World} {base fuel : Nat} {spare : Nat → Bool} {held : Bool} {cs : List Value} {x : DataW H × List MemPlace} (h : DataW.trod enc Tryd.prog W base spare held fuel 49 cs = some x) : ∃ e : En, cs = e.cs ∧ e.key.size ∈ x.1.weights Tryd.prog 49 ∧ e.val.size ∈ x.1.weights Tryd.prog 49 := by
  obtain ⟨f0, f1, f2, f3, f4, he, ⟨t0, o0⟩, ⟨t1, o1⟩, ⟨t2, o2⟩, ⟨t3, o3⟩, t4, o4⟩ := flds49
  obtain ⟨xs, k, hk, hxy, hlen, hxl, hf⟩ := DataW.trod_struct he h
  rw [show Tryd.prog.cellsOf 49 = 5 by kernel_rfl] at hlen
  rcases cs with _ | ⟨c0, _ | ⟨c1, _ | ⟨c2, _ | ⟨c3, _ | ⟨c4, _ | ⟨c5, cs⟩⟩⟩⟩⟩⟩ <;> simp at hlen
  rcases xs with _ | ⟨y0, _ | ⟨y1, _ | ⟨y2, _ | ⟨y3, _ | ⟨y4, _ | ⟨y5, ys⟩⟩⟩⟩⟩⟩ <;> simp at hxl
  have g0 := hf 0 f0 rfl
  rw [t0, o0, show Tryd.prog.cellsOf 9 = 1 by kernel_rfl] at g0
  have g1 := hf 1 f1 rfl
  rw [t1, o1, show Tryd.prog.cellsOf 3 = 1 by kernel_rfl] at g1
  have g2 := hf 2 f2 rfl
  rw [t2, o2, show Tryd.prog.cellsOf 3 = 1 by kernel_rfl] at g2
  have g3 := hf 3 f3 rfl
  rw [t3, o3, show Tryd.prog.cellsOf 9 = 1 by kernel_rfl] at g3
  have g4 := hf 4 f4 rfl
  rw [t4, o4, show Tryd.prog.cellsOf 3 = 1 by kernel_rfl] at g4
  simp at g0 g1 g2 g3 g4
  obtain ⟨z0, q0, v0, _⟩ := DataW.trod_string Tryd.underlying9 g0
  injection q0 with q0
  obtain ⟨z1, q1, _, w1⟩ := DataW.trod_int Tryd.underlying3 g1
  injection q1 with q1
  obtain ⟨z2, q2, _, w2⟩ := DataW.trod_int Tryd.underlying3 g2
  injection q2 with q2
  obtain ⟨z3, q3, v3, _⟩ := DataW.trod_string Tryd.underlying9 g3
  injection q3 with q3
  obtain ⟨z4, q4, _, w4⟩ := DataW.trod_int Tryd.underlying3 g4
  injection q4 with q4
  have hw : x.1.weights Tryd.prog 49 = DataW.weightsEach Tryd.prog [f0.type, f1.type, f2.type, f3.type, f4.type] [y0.1, y1.1, y2.1, y3.1, y4.1] := by
    rw [hxy]
    simp only [DataW.weights, he, List.map_cons, List.map_nil]
  refine ⟨⟨z0, z1, z2, z3, z4⟩, by rw [q0, q1, q2, q3, q4]; rfl, ?_, ?_⟩
  · rw [hw]
    refine DataW.weights_mem_each (j := 0) (t := 9) (d := .lit (.string z0.data.toList)) (by simp [t0]) (by simp [v0]) _ ?_
    simp only [DataW.weights, List.mem_singleton]; exact (size_len _).symm
  · rw [hw]
    refine DataW.weights_mem_each (j := 3) (t := 9) (d := .lit (.string z3.data.toList)) (by simp [t3]) (by simp [v3]) _ ?_
    simp only [DataW.weights, List.mem_singleton]; exact (size_len _).symm
/-- A request that came in. -/
theorem open_request {H : Type} {enc : TypeId × Value → H} {W : World} {base fuel : Nat} {spare : Nat → Bool} {held : Bool} {cs : List Value} {x : DataW H × List MemPlace} (h : DataW.trod enc Tryd.prog W base spare held fuel 27 cs = some x) : ∃ (r : Rq) (a : Option Addr) (cap : Nat) (ks : List ByteArray), cs = r.cs (.slice a ks.length cap) ∧ Ks W a ks ∧ (r.data.size ∈ x.1.weights Tryd.prog 27 ∧ ksum ks + r.data.size ≤ Rows.uptoBulk x.1) ∧ (ks ≠ [] → ∀ p off, a = some ⟨p, off, none⟩ → p < W.heap.size) := by
  obtain ⟨f0, f1, f2, f3, f4, f5, f6, f7, f8, he, ⟨t0, o0⟩, ⟨t1, o1⟩, ⟨t2, o2⟩, ⟨t3, o3⟩, ⟨t4, o4⟩, ⟨t5, o5⟩, ⟨t6, o6⟩, ⟨t7, o7⟩, t8, o8⟩ := flds27
  obtain ⟨xs, k, hk, hxy, hlen, hxl, hf⟩ := DataW.trod_struct he h
  rw [show Tryd.prog.cellsOf 27 = 9 by kernel_rfl] at hlen
  rcases cs with _ | ⟨c0, _ | ⟨c1, _ | ⟨c2, _ | ⟨c3, _ | ⟨c4, _ | ⟨c5, _ | ⟨c6, _ | ⟨c7, _ | ⟨c8, _ | ⟨c9, cs⟩⟩⟩⟩⟩⟩⟩⟩⟩⟩ <;> simp at hlen
  rcases xs with _ | ⟨y0, _ | ⟨y1, _ | ⟨y2, _ | ⟨y3, _ | ⟨y4, _ | ⟨y5, _ | ⟨y6, _ | ⟨y7, _ | ⟨y8, _ | ⟨y9, ys⟩⟩⟩⟩⟩⟩⟩⟩⟩⟩ <;> simp at hxl
  have g0 := hf 0 f0 rfl
  rw [t0, o0, show Tryd.prog.cellsOf 3 = 1 by kernel_rfl] at g0
  have g1 := hf 1 f1 rfl
  rw [t1, o1, show Tryd.prog.cellsOf 24 = 1 by kernel_rfl] at g1
  have g2 := hf 2 f2 rfl
  rw [t2, o2, show Tryd.prog.cellsOf 3 = 1 by kernel_rfl] at g2
  have g3 := hf 3 f3 rfl
  rw [t3, o3, show Tryd.prog.cellsOf 3 = 1 by kernel_rfl] at g3
  have g4 := hf 4 f4 rfl
  rw [t4, o4, show Tryd.prog.cellsOf 3 = 1 by kernel_rfl] at g4
  have g5 := hf 5 f5 rfl
  rw [t5, o5, show Tryd.prog.cellsOf 3 = 1 by kernel_rfl] at g5
  have g6 := hf 6 f6 rfl
  rw [t6, o6, show Tryd.prog.cellsOf 25 = 1 by kernel_rfl] at g6
  have g7 := hf 7 f7 rfl
  rw [t7, o7, show Tryd.prog.cellsOf 4 = 1 by kernel_rfl] at g7
  have g8 := hf 8 f8 rfl
  rw [t8, o8, show Tryd.prog.cellsOf 9 = 1 by kernel_rfl] at g8
  simp at g0 g1 g2 g3 g4 g5 g6 g7 g8
  obtain ⟨z0, q0, _, w0⟩ := DataW.trod_int Tryd.underlying3 g0
  injection q0 with q0
  obtain ⟨a1, p1, z1, q1, K1, B1, L1⟩ := open_keys g1
  injection q1 with q1
  obtain ⟨z2, q2, _, w2⟩ := DataW.trod_int Tryd.underlying3 g2
  injection q2 with q2
  obtain ⟨z3, q3, _, w3⟩ := DataW.trod_int Tryd.underlying3 g3
  injection q3 with q3
  obtain ⟨z4, q4, _, w4⟩ := DataW.trod_int Tryd.underlying3 g4
  injection q4 with q4
  obtain ⟨z5, q5, _, w5⟩ := DataW.trod_int Tryd.underlying3 g5
  injection q5 with q5
  obtain ⟨z6, q6, _, w6⟩ := DataW.trod_int Tryd.underlying25 g6
  injection q6 with q6
  obtain ⟨z7, q7, _⟩ := DataW.trod_bool Tryd.underlying4 g7
  injection q7 with q7
  obtain ⟨z8, q8, v8, _⟩ := DataW.trod_string Tryd.underlying9 g8
  injection q8 with q8
  have hw : x.1.weights Tryd.prog 27 = DataW.weightsEach Tryd.prog [f0.type, f1.type, f2.type, f3.type, f4.type, f5.type, f6.type, f7.type, f8.type] [y0.1, y1.1, y2.1, y3.1, y4.1, y5.1, y6.1, y7.1, y8.1] := by
    rw [hxy]
    simp only [DataW.weights, he, List.map_cons, List.map_nil]
  have hw6 := wf_u64 w6
  refine ⟨⟨z0, z2, z3, z4, z5, z6.toNat, z7, z8⟩, a1, p1, z1, ?_, K1, ⟨?_, ?_⟩, L1⟩
  · unfold Rq.cs
    simp only
    rw [q0, q1, q2, q3, q4, q5, q6, q7, q8, Int.toNat_of_nonneg hw6.1]
  · rw [hw]
    refine DataW.weights_mem_each (j := 8) (t := 9) (d := .lit (.string z8.data.toList)) (by simp [t8]) (by simp [v8]) _ ?_
    simp only [DataW.weights, List.mem_singleton]; exact (size_len _).symm
  · have b1 : Rows.uptoBulk x.1 = Rows.uptoBulkAll [y0.1, y1.1, y2.1, y3.1, y4.1, y5.1, y6.1, y7.1, y8.1] + 1 := by rw [hxy]; simp only [List.map_cons, List.map_nil, Rows.uptoBulk]
    have b8 : Rows.uptoBulk y8.1 = z8.size + 1 := by rw [v8]; exact bulk_str _
    rw [b1]
    simp only [Rows.uptoBulkAll]
    show _ + z8.size ≤ _
    omega
/-- An ask: Forget of a key, or Apply. -/
structure Ak where
  lost : Bool
  key : ByteArray
  r : Rq
  a : Option Addr
  cap : Nat
  ks : List ByteArray
  now : Int
  ver : Int
def Ak.cs (k : Ak) : List Value := [.bool k.lost, .string k.key] ++ k.r.cs (.slice k.a k.ks.length k.cap) ++ [.int .i64 k.now, .int .i64 k.ver]
/-- What is known of an ask that came in. -/
structure AkF (W : World) (k : Ak) : Prop where
  keys : Ks W k.a k.ks
  lt : k.ks ≠ [] → ∀ p off, k.a = some ⟨p, off, none⟩ → p < W.heap.size
theorem open_ask {H : Type} {enc : TypeId × Value → H} {W : World} {base fuel : Nat} {spare : Nat → Bool} {held : Bool} {cs : List Value} {x : DataW H × List MemPlace} (h : DataW.trod enc Tryd.prog W base spare held fuel 43 cs = some x) : ∃ k : Ak, cs = k.cs ∧ AkF W k ∧ ksum k.ks + k.r.data.size + k.key.size ≤ Rows.uptoBulk x.1 := by
  obtain ⟨f0, f1, f2, f3, f4, he, ⟨t0, o0⟩, ⟨t1, o1⟩, ⟨t2, o2⟩, ⟨t3, o3⟩, t4, o4⟩ := flds43
  obtain ⟨xs, k, hk, hxy, hlen, hxl, hf⟩ := DataW.trod_struct he h
  rw [show Tryd.prog.cellsOf 43 = 13 by kernel_rfl] at hlen
  rcases cs with _ | ⟨c0, _ | ⟨c1, _ | ⟨c2, _ | ⟨c3, _ | ⟨c4, _ | ⟨c5, _ | ⟨c6, _ | ⟨c7, _ | ⟨c8, _ | ⟨c9, _ | ⟨c10, _ | ⟨c11, _ | ⟨c12, _ | ⟨c13, cs⟩⟩⟩⟩⟩⟩⟩⟩⟩⟩⟩⟩⟩⟩ <;> simp at hlen
  rcases xs with _ | ⟨y0, _ | ⟨y1, _ | ⟨y2, _ | ⟨y3, _ | ⟨y4, _ | ⟨y5, ys⟩⟩⟩⟩⟩⟩ <;> simp at hxl
  have g0 := hf 0 f0 rfl
  rw [t0, o0, show Tryd.prog.cellsOf 4 = 1 by kernel_rfl] at g0
  have g1 := hf 1 f1 rfl
  rw [t1, o1, show Tryd.prog.cellsOf 9 = 1 by kernel_rfl] at g1
  have g2 := hf 2 f2 rfl
  rw [t2, o2, show Tryd.prog.cellsOf 27 = 9 by kernel_rfl] at g2
  have g3 := hf 3 f3 rfl
  rw [t3, o3, show Tryd.prog.cellsOf 3 = 1 by kernel_rfl] at g3
  have g4 := hf 4 f4 rfl
  rw [t4, o4, show Tryd.prog.cellsOf 3 = 1 by kernel_rfl] at g4
  simp at g0 g1 g2 g3 g4
  obtain ⟨z0, q0, _⟩ := DataW.trod_bool Tryd.underlying4 g0
  injection q0 with q0
  obtain ⟨z1, q1, v1, _⟩ := DataW.trod_string Tryd.underlying9 g1
  injection q1 with q1
  obtain ⟨r, a, p, ks, q2, K, B, Lt⟩ := open_request g2
  obtain ⟨z3, q3, _, w3⟩ := DataW.trod_int Tryd.underlying3 g3
  injection q3 with q3
  obtain ⟨z4, q4, _, w4⟩ := DataW.trod_int Tryd.underlying3 g4
  injection q4 with q4
  refine ⟨⟨z0, z1, r, a, p, ks, z3, z4⟩, ?_, ⟨K, Lt⟩, ?_⟩
  · unfold Ak.cs
    simp only
    rw [← q2, q0, q1, q3, q4]
    rfl
  · have b1 : Rows.uptoBulk x.1 = Rows.uptoBulkAll [y0.1, y1.1, y2.1, y3.1, y4.1] + 1 := by rw [hxy]; simp only [List.map_cons, List.map_nil, Rows.uptoBulk]
    have b8 : Rows.uptoBulk y1.1 = z1.size + 1 := by rw [v1]; exact bulk_str _
    have b2 := B.2
    rw [b1]
    simp only [Rows.uptoBulkAll]
    show _ + z1.size ≤ _
    omega
theorem under37 : Tryd.prog.underlying 37 = some (.slice 43) := by kernel_rfl
/-- Asks that lie at a place. -/
def AksF (W : World) (a : Option Addr) (l : List Ak) : Prop := (l = [] ∨ ∃ p off, a = some ⟨p, off, none⟩ ∧ p < W.heap.size ∧ ∀ i k, l[i]? = some k → ∀ j u, k.cs[j]? = some u → W.cell? ⟨p, off + (i * 13 + j), none⟩ = some u) ∧ ∀ k ∈ l, AkF W k
theorem open_asks {H : Type} {enc : TypeId × Value → H} {W : World} {base fuel : Nat} {spare : Nat → Bool} {held : Bool} {cs : List Value} {x : DataW H × List MemPlace} (h : DataW.trod enc Tryd.prog W base spare held fuel 37 cs = some x) : ∃ (a : Option Addr) (cap : Nat) (l : List Ak), cs = [.slice a l.length cap] ∧ AksF W a l ∧ l.length ≤ 9223372036854775807 ∧ ∀ k ∈ l, ksum k.ks + k.r.data.size + k.key.size ≤ Rows.uptoBulk x.1 := by
  have ce : Tryd.prog.cellsOf 43 = 13 := by kernel_rfl
  rcases Go.Deep.open_slice under37 h with ⟨hcs, _⟩ | ⟨ad, len, cap, m, n, D, Pl, hcs, hb, hl, hm, hmm, rfl, hx⟩
  · exact ⟨none, 0, [], hcs, ⟨.inl rfl, fun k hk => by simp at hk⟩, by simp, fun k hk => by simp at hk⟩
  · have hlm : len ≤ m := by rw [hmm]; split <;> omega
    have hmax : len ≤ 9223372036854775807 := by unfold maxLen at hm; omega
    have each : ∀ i, i < len → ∃ k : Ak, (∀ j u, k.cs[j]? = some u → W.cell? (ad.add (i * 13 + j)) = some u) ∧ AkF W k ∧ ksum k.ks + k.r.data.size + k.key.size ≤ Rows.uptoBulk (D i) := fun i hi => by
      obtain ⟨cs', h1, h2⟩ := hx i (by omega)
      rw [ce] at h1
      obtain ⟨_, hlen, hcell⟩ := World.cells?_some h1
      obtain ⟨k, rfl, k1, k2⟩ := open_ask h2
      refine ⟨k, fun j u hu => ?_, k1, k2⟩
      have hj : j < k.cs.length := (List.getElem?_eq_some_iff.1 hu).1
      have e := hcell j hj
      rw [Go.Deep.add_add] at e
      rw [e]
      exact hu
    have inh : Inhabited Ak := ⟨⟨false, ⟨#[]⟩, ⟨0, 0, 0, 0, 0, 0, false, ⟨#[]⟩⟩, none, 0, [], 0, 0⟩⟩
    obtain ⟨q, hq⟩ := Go.Deep.choose_lt each
    have hqi : ∀ i f, ((List.range len).map q)[i]? = some f → i < len ∧ f = q i := fun i f hf => by
      rw [List.getElem?_map] at hf
      obtain ⟨j, hj, rfl⟩ := Option.map_eq_some_iff.1 hf
      obtain ⟨h1, h2⟩ := List.getElem?_eq_some_iff.1 hj
      have : j = i := by simpa using h2.symm
      subst this
      exact ⟨by simpa using h1, rfl⟩
    refine ⟨some ad, cap, (List.range len).map q, by rw [hcs]; simp, ⟨?_, fun k hk => ?_⟩, by simpa using hmax, fun k hk => ?_⟩
    · by_cases n0 : len = 0
      · subst n0; exact .inl rfl
      · obtain ⟨p, off, spot⟩ := ad
        have c00 := (hq 0 (by omega)).1 0 _ rfl
        have hspot : spot = none := by simpa [Addr.add] using World.cell?_spot c00
        subst hspot
        have e : ∀ j, (⟨p, off, none⟩ : Addr).add j = ⟨p, off + j, none⟩ := fun j => by unfold Addr.add; split <;> simp_all
        have hp : p < W.heap.size := World.block_lt_of_cell? _ _ c00
        refine .inr ⟨p, off, rfl, hp, fun i f hf j u hu => ?_⟩
        obtain ⟨hi, rfl⟩ := hqi i f hf
        have := (hq i hi).1 j u hu
        rw [e] at this
        exact this
    · obtain ⟨i, hi, rfl⟩ := List.mem_map.1 hk
      exact (hq i (by simpa using hi)).2.1
    · obtain ⟨i, hi, rfl⟩ := List.mem_map.1 hk
      have hi' : i < len := by simpa using hi
      have := (hq i hi').2.2
      have b : Rows.uptoBulk (D i) ≤ Rows.uptoBulkAll ((List.range len).map D) := bulk_part (List.mem_map.2 ⟨i, List.mem_range.2 hi', rfl⟩)
      simp only [Rows.uptoBulk]
      omega
end Go.Proofs.YtpkmfckifnomeaaDoor
