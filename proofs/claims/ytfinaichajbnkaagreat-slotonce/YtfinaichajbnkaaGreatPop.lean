/-
  OPENING of what came in: a list of calls of a slot.
-/
import Derived.Test.YtfinaichajbnkaaGreatSnw
import Derived.Test.YtfinaichajbnkaaGreatPla
import Derived.Deep.SlicePairs
import Derived.ChangeArms
namespace Go.Proofs.YtfinaichajbnkaaGreat
open Go.RowKit Go.ChangeShapes Go.WideShapes Go.Deep
open Wi (F)

/-- Calls that came in: is it a wipe, its frame. -/
def AskF (w : World) (a : Option Addr) (q : Nat → Bool × F) (n : Nat) : Prop := n = 0 ∨ ∃ p off, a = some ⟨p, off, none⟩ ∧ ∀ i, i < n → w.cell? ⟨p, off + i * 10, none⟩ = some (.bool (q i).1) ∧ ∀ j u, (q i).2.cs[j]? = some u → w.cell? ⟨p, off + i * 10 + 1 + j, none⟩ = some u
def IntsF (w : World) (a : Option Addr) (q : Nat → Int) (n : Nat) : Prop := n = 0 ∨ ∃ p off, a = some ⟨p, off, none⟩ ∧ ∀ i, i < n → w.cell? ⟨p, off + i, none⟩ = some (.int .i64 (q i))
def StrF (w : World) (a : Option Addr) (T : Nat → ByteArray) (len : Nat) : Prop := len = 0 ∨ ∃ p off, a = some ⟨p, off, none⟩ ∧ ∀ i, i < len → w.cell? ⟨p, off + i, none⟩ = some (.string (T i))
theorem under_l : Tryz.prog.underlying 33 = some (.slice 38) := by kernel_rfl
theorem under_a : Tryz.prog.underlying 38 = some (.struct (Tryz.prog.fieldsOf 38)) := by kernel_rfl
theorem underF : Tryz.prog.underlying 27 = some (.struct (Tryz.prog.fieldsOf 27)) := by kernel_rfl
theorem namesA : ((Tryz.prog.fieldsOf 38).toList.map fun f => (f.type, f.offset)) = [(4, 0), (27, 1)] := by kernel_rfl
theorem fieldsA : ∃ f0 f1, Tryz.prog.underlying 38 = some (.struct #[f0, f1]) ∧ f0.type = 4 ∧ f0.offset = 0 ∧ f1.type = 27 ∧ f1.offset = 1 := by
  have h := namesA
  have h2 := under_a
  generalize Tryz.prog.fieldsOf 38 = F at h h2
  obtain ⟨l⟩ := F
  rcases l with _ | ⟨f0, _ | ⟨f1, _ | ⟨f2, l⟩⟩⟩
  · simp at h
  · simp at h
  · simp at h
    exact ⟨f0, f1, h2, h.1.1, h.1.2, h.2.1, h.2.2⟩
  · simp at h
theorem add_lit' (g off k : Nat) : (⟨g, off, none⟩ : Addr).add k = ⟨g, off + k, none⟩ := by unfold Addr.add; split <;> simp_all
theorem namesF : ((Tryz.prog.fieldsOf 27).toList.map fun f => (f.type, f.offset)) = [(3, 0), (3, 1), (3, 2), (3, 3), (3, 4), (3, 5), (9, 6), (3, 7), (9, 8)] := by kernel_rfl
theorem fieldsF : ∃ f0 f1 f2 f3 f4 f5 f6 f7 f8, Tryz.prog.underlying 27 = some (.struct #[f0, f1, f2, f3, f4, f5, f6, f7, f8]) ∧ (f0.type = 3 ∧ f0.offset = 0) ∧ (f1.type = 3 ∧ f1.offset = 1) ∧ (f2.type = 3 ∧ f2.offset = 2) ∧ (f3.type = 3 ∧ f3.offset = 3) ∧ (f4.type = 3 ∧ f4.offset = 4) ∧ (f5.type = 3 ∧ f5.offset = 5) ∧ (f6.type = 9 ∧ f6.offset = 6) ∧ (f7.type = 3 ∧ f7.offset = 7) ∧ f8.type = 9 ∧ f8.offset = 8 := by
  have h := namesF
  have h2 := underF
  generalize Tryz.prog.fieldsOf 27 = F at h h2
  obtain ⟨l⟩ := F
  rcases l with _ | ⟨f0, _ | ⟨f1, _ | ⟨f2, _ | ⟨f3, _ | ⟨f4, _ | ⟨f5, _ | ⟨f6, _ | ⟨f7, _ | ⟨f8, _ | ⟨f9, l⟩⟩⟩⟩⟩⟩⟩⟩⟩⟩ <;> simp at h
  exact ⟨f0, f1, f2, f3, f4, f5, f6, f7, f8, h2, h.1, h.2.1, h.2.2.1, h.2.2.2.1, h.2.2.2.2.1, h.2.2.2.2.2.1, h.2.2.2.2.2.2.1, h.2.2.2.2.2.2.2.1, h.2.2.2.2.2.2.2.2⟩
theorem open_frame {H : Type} {enc : TypeId × Value → H} {W : World} {base fuel : Nat} {spare : Nat → Bool} {held : Bool} {cs : List Value} {x : DataW H × List MemPlace}
    (h : DataW.trod enc Tryz.prog W base spare held fuel 27 cs = some x) : ∃ f : F, cs = f.cs := by
  obtain ⟨f0, f1, f2, f3, f4, f5, f6, f7, f8, he, ⟨t0, o0⟩, ⟨t1, o1⟩, ⟨t2, o2⟩, ⟨t3, o3⟩, ⟨t4, o4⟩, ⟨t5, o5⟩, ⟨t6, o6⟩, ⟨t7, o7⟩, t8, o8⟩ := fieldsF
  obtain ⟨xs, k, hk, hxy, hlen, hxl, hf⟩ := DataW.trod_struct he h
  rw [show Tryz.prog.cellsOf 27 = 9 by kernel_rfl] at hlen
  rcases cs with _ | ⟨c0, _ | ⟨c1, _ | ⟨c2, _ | ⟨c3, _ | ⟨c4, _ | ⟨c5, _ | ⟨c6, _ | ⟨c7, _ | ⟨c8, _ | ⟨c9, cs⟩⟩⟩⟩⟩⟩⟩⟩⟩⟩ <;> simp at hlen
  rcases xs with _ | ⟨y0, _ | ⟨y1, _ | ⟨y2, _ | ⟨y3, _ | ⟨y4, _ | ⟨y5, _ | ⟨y6, _ | ⟨y7, _ | ⟨y8, _ | ⟨y9, xs⟩⟩⟩⟩⟩⟩⟩⟩⟩⟩ <;> simp at hxl
  have g0 := hf 0 f0 rfl
  have g1 := hf 1 f1 rfl
  have g2 := hf 2 f2 rfl
  have g3 := hf 3 f3 rfl
  have g4 := hf 4 f4 rfl
  have g5 := hf 5 f5 rfl
  have g6 := hf 6 f6 rfl
  have g7 := hf 7 f7 rfl
  have g8 := hf 8 f8 rfl
  have s3 : Tryz.prog.cellsOf 3 = 1 := by kernel_rfl
  have s9 : Tryz.prog.cellsOf 9 = 1 := by kernel_rfl
  rw [t0, o0, s3] at g0
  rw [t1, o1, s3] at g1
  rw [t2, o2, s3] at g2
  rw [t3, o3, s3] at g3
  rw [t4, o4, s3] at g4
  rw [t5, o5, s3] at g5
  rw [t6, o6, s9] at g6
  rw [t7, o7, s3] at g7
  rw [t8, o8, s9] at g8
  simp at g0 g1 g2 g3 g4 g5 g6 g7 g8
  obtain ⟨z0, q0, _⟩ := DataW.trod_int Tryz.underlying3 g0
  obtain ⟨z1, q1, _⟩ := DataW.trod_int Tryz.underlying3 g1
  obtain ⟨z2, q2, _⟩ := DataW.trod_int Tryz.underlying3 g2
  obtain ⟨z3, q3, _⟩ := DataW.trod_int Tryz.underlying3 g3
  obtain ⟨z4, q4, _⟩ := DataW.trod_int Tryz.underlying3 g4
  obtain ⟨z5, q5, _⟩ := DataW.trod_int Tryz.underlying3 g5
  obtain ⟨z6, q6, _⟩ := DataW.trod_string Tryz.underlying9 g6
  obtain ⟨z7, q7, _⟩ := DataW.trod_int Tryz.underlying3 g7
  obtain ⟨z8, q8, _⟩ := DataW.trod_string Tryz.underlying9 g8
  injection q0 with q0
  injection q1 with q1
  injection q2 with q2
  injection q3 with q3
  injection q4 with q4
  injection q5 with q5
  injection q6 with q6
  injection q7 with q7
  injection q8 with q8
  exact ⟨⟨z0, z1, z2, z3, z4, z5, z6, z7, z8⟩, by rw [q0, q1, q2, q3, q4, q5, q6, q7, q8]; rfl⟩
theorem open_asks {H : Type} {enc : TypeId × Value → H} {W : World} {base fuel : Nat} {spare : Nat → Bool} {held : Bool} {a : Option Addr} {len cap : Nat} {x : DataW H × List MemPlace}
    (h : DataW.trod enc Tryz.prog W base spare held fuel 33 (Value.slice a len cap).cells.toList = some x) : ∃ q, AskF W a q len ∧ len ≤ 9223372036854775807 := by
  obtain ⟨f0, f1, he, t0, o0, t1, o1⟩ := fieldsA
  have ce : Tryz.prog.cellsOf 38 = 10 := by kernel_rfl
  rcases open_slice under_l h with ⟨hcs, _⟩ | ⟨ad, l, c, m, n, D, Pl, hcs, hb, hl, hm, hmm, rfl, hx⟩
  · simp [Value.cells] at hcs
    obtain ⟨rfl, rfl, rfl⟩ := hcs
    exact ⟨fun _ => (false, Wi.Z), Or.inl rfl, by omega⟩
  · simp [Value.cells] at hcs
    obtain ⟨rfl, rfl, rfl⟩ := hcs
    have hlm : len ≤ m := by rw [hmm]; split <;> omega
    have hmax : len ≤ 9223372036854775807 := by unfold maxLen at hm; omega
    have each : ∀ i, i < len → ∃ q : Bool × F, W.cell? (ad.add (i * 10)) = some (.bool q.1) ∧ ∀ j u, q.2.cs[j]? = some u → W.cell? (ad.add (i * 10 + (1 + j))) = some u := fun i hi => by
      obtain ⟨cs', h1, h2⟩ := hx i (by omega)
      rw [ce] at h1
      obtain ⟨_, hlen, hcell⟩ := World.cells?_some h1
      obtain ⟨xs, k, hk, hxy, _, hxl, hf⟩ := DataW.trod_struct he h2
      rcases xs with _ | ⟨y0, _ | ⟨y1, _ | ⟨y2, xs⟩⟩⟩ <;> simp at hxl
      have g0 := hf 0 f0 rfl
      have g1 := hf 1 f1 rfl
      rw [t0, o0, show Tryz.prog.cellsOf 4 = 1 by kernel_rfl] at g0
      rw [t1, o1, show Tryz.prog.cellsOf 27 = 9 by kernel_rfl] at g1
      simp only [List.getElem?_cons_zero, List.getElem?_cons_succ] at g0 g1
      obtain ⟨f, hfc⟩ := open_frame g1
      rcases cs' with _ | ⟨c0, cs⟩
      · simp at hlen
      · simp only [List.drop_zero, List.take_succ_cons, List.take_zero, List.drop_succ_cons] at g0 hfc
        simp only [List.length_cons] at hlen
        rw [List.take_of_length_le (by omega)] at hfc
        subst hfc
        obtain ⟨z0, q0, _⟩ := DataW.trod_bool Tryz.underlying4 g0
        injection q0 with q0
        subst q0
        refine ⟨(z0, f), ?_, fun j u hu => ?_⟩
        · have e0 := hcell 0 (by simp)
          rw [add_add] at e0
          simpa using e0
        · have hj := (List.getElem?_eq_some_iff.1 hu).1
          have e0 := hcell (j + 1) (by have h9 : f.cs.length = 9 := rfl; rw [h9] at hj; omega)
          rw [add_add, show i * 10 + (j + 1) = i * 10 + (1 + j) by omega] at e0
          rw [e0]
          simpa using hu
    have inh : Inhabited (Bool × F) := ⟨(false, Wi.Z)⟩
    obtain ⟨q, hq⟩ := Go.Deep.choose_lt each
    refine ⟨q, ?_, hmax⟩
    by_cases n0 : len = 0
    · exact Or.inl n0
    · obtain ⟨p, off, spot⟩ := ad
      have hspot : spot = none := by simpa [Addr.add] using World.cell?_spot (hq 0 (by omega)).1
      subst hspot
      refine Or.inr ⟨p, off, rfl, fun i hi => ?_⟩
      obtain ⟨h1, h3⟩ := hq i hi
      rw [add_lit'] at h1
      refine ⟨h1, fun j u hu => ?_⟩
      have := h3 j u hu
      rw [add_lit'] at this
      rw [show off + i * 10 + 1 + j = off + (i * 10 + (1 + j)) by omega]
      exact this
theorem under_n : Tryz.prog.underlying 43 = some (.slice 3) := by kernel_rfl
theorem under_s : Tryz.prog.underlying 55 = some (.slice 9) := by kernel_rfl
theorem open_strs {H : Type} {enc : TypeId × Value → H} {W : World} {base fuel : Nat} {spare : Nat → Bool} {held : Bool} {a : Option Addr} {len cap : Nat} {x : DataW H × List MemPlace}
    (h : DataW.trod enc Tryz.prog W base spare held fuel 55 (Value.slice a len cap).cells.toList = some x) : ∃ T, StrF W a T len ∧ len ≤ 9223372036854775807 := by
  have ce : Tryz.prog.cellsOf 9 = 1 := by kernel_rfl
  rcases Go.Deep.open_slice under_s h with ⟨hcs, _⟩ | ⟨ad, l, c, m, n, D, Pl, hcs, hb, hl, hm, hmm, rfl, hx⟩
  · simp [Value.cells] at hcs
    obtain ⟨rfl, rfl, rfl⟩ := hcs
    exact ⟨fun _ => ⟨#[]⟩, Or.inl rfl, by omega⟩
  · simp [Value.cells] at hcs
    obtain ⟨rfl, rfl, rfl⟩ := hcs
    have hlm : len ≤ m := by rw [hmm]; split <;> omega
    have hmax : len ≤ 9223372036854775807 := by unfold maxLen at hm; omega
    have each : ∀ i, i < len → ∃ q : ByteArray, W.cell? (ad.add i) = some (.string q) := fun i hi => by
      obtain ⟨cs', h1, h2⟩ := hx i (by omega)
      rw [ce] at h1
      obtain ⟨_, hlen, hcell⟩ := World.cells?_some h1
      obtain ⟨s2, q2, _⟩ := DataW.trod_string Tryz.underlying9 h2
      subst q2
      have e0 := hcell 0 (by simp)
      rw [Go.Deep.add_add] at e0
      exact ⟨s2, by simpa using e0⟩
    obtain ⟨q, hq⟩ := Go.Deep.choose_lt each
    refine ⟨q, ?_, hmax⟩
    by_cases n0 : len = 0
    · exact Or.inl n0
    · obtain ⟨p, off, spot⟩ := ad
      have hspot : spot = none := by simpa [Addr.add] using World.cell?_spot (hq 0 (by omega))
      subst hspot
      refine Or.inr ⟨p, off, rfl, fun i hi => ?_⟩
      have h1 := hq i hi
      have e : ∀ j, (⟨p, off, none⟩ : Addr).add j = ⟨p, off + j, none⟩ := fun j => by unfold Addr.add; split <;> simp_all
      rw [e] at h1
      exact h1
theorem open_nums {H : Type} {enc : TypeId × Value → H} {W : World} {base fuel : Nat} {spare : Nat → Bool} {held : Bool} {a : Option Addr} {len cap : Nat} {x : DataW H × List MemPlace}
    (h : DataW.trod enc Tryz.prog W base spare held fuel 43 (Value.slice a len cap).cells.toList = some x) : ∃ z, IntsF W a z len ∧ len ≤ 9223372036854775807 := by
  have ce : Tryz.prog.cellsOf 3 = 1 := by kernel_rfl
  rcases Go.Deep.open_slice under_n h with ⟨hcs, _⟩ | ⟨ad, l, c, m, n, D, Pl, hcs, hb, hl, hm, hmm, rfl, hx⟩
  · simp [Value.cells] at hcs
    obtain ⟨rfl, rfl, rfl⟩ := hcs
    exact ⟨fun _ => 0, Or.inl rfl, by omega⟩
  · simp [Value.cells] at hcs
    obtain ⟨rfl, rfl, rfl⟩ := hcs
    have hlm : len ≤ m := by rw [hmm]; split <;> omega
    have hmax : len ≤ 9223372036854775807 := by unfold maxLen at hm; omega
    have each : ∀ i, i < len → ∃ q : Int, W.cell? (ad.add i) = some (.int .i64 q) := fun i hi => by
      obtain ⟨cs', h1, h2⟩ := hx i (by omega)
      rw [ce] at h1
      obtain ⟨_, hlen, hcell⟩ := World.cells?_some h1
      obtain ⟨s2, q2, _⟩ := DataW.trod_int Tryz.underlying3 h2
      subst q2
      have e0 := hcell 0 (by simp)
      rw [Go.Deep.add_add] at e0
      exact ⟨s2, by simpa using e0⟩
    obtain ⟨q, hq⟩ := Go.Deep.choose_lt each
    refine ⟨q, ?_, hmax⟩
    by_cases n0 : len = 0
    · exact Or.inl n0
    · obtain ⟨p, off, spot⟩ := ad
      have hspot : spot = none := by simpa [Addr.add] using World.cell?_spot (hq 0 (by omega))
      subst hspot
      refine Or.inr ⟨p, off, rfl, fun i hi => ?_⟩
      have h1 := hq i hi
      have e : ∀ j, (⟨p, off, none⟩ : Addr).add j = ⟨p, off + j, none⟩ := fun j => by unfold Addr.add; split <;> simp_all
      rw [e] at h1
      exact h1
end Go.Proofs.YtfinaichajbnkaaGreat
