/-
  THE REFERENCE'S S(Nat → Nat × Nat) in memory: Class, there, Read, NewSlab.
-/
import Derived.Test.YtbflcnghpkmcoaaAlloc
import Derived.Test.YtbflcnghpkmcoaaFree
import Derived.Test.YtbflcnghpkmcoaaNew
namespace Go.Proofs.Ytbflcnghpkmcoaa
open Go.RowKit

/-- Texts, marks of chunks as cells. -/
def dac (l : List (Bool × ByteArray)) : List Value := l.map fun p => .string p.2
def lvc (l : List (Bool × ByteArray)) : List Value := l.map fun p => .bool p.1
/-- The classes of the reference's slab. -/
structure RCls (w : World) (o : (Nat → Nat × Nat)) (x C : Nat) (s : St) (fv dv lv : Nat → Value) : Prop where
  oC : o C = (x, 1)
  c0 : ∀ i, i < s.n → w.cell? ⟨C, i * 5, none⟩ = some (.int .i64 ((sz i : Nat) : Int))
  c1 : ∀ i, i < s.n → w.cell? ⟨C, i * 5 + 1, none⟩ = some (.int .i64 (((s.ch i).length : Nat) : Int))
  c2 : ∀ i, i < s.n → w.cell? ⟨C, i * 5 + 2, none⟩ = some (fv i)
  c3 : ∀ i, i < s.n → w.cell? ⟨C, i * 5 + 3, none⟩ = some (dv i)
  c4 : ∀ i, i < s.n → w.cell? ⟨C, i * 5 + 4, none⟩ = some (lv i)
  fz : ∀ i, i < s.n → ∀ j, j < 5 → w.frozen? ⟨C, i * 5 + j, none⟩ = false
  ff : ∀ i, i < s.n → OwnK w o (x, 3 * i + 2) 1 (fv i) (s.fr i).length (frc (s.fr i))
  dd : ∀ i, i < s.n → OwnK w o (x, 3 * i + 3) 1 (dv i) (s.ch i).length (dac (s.ch i))
  ll : ∀ i, i < s.n → OwnK w o (x, 3 * i + 4) 1 (lv i) (s.ch i).length (lvc (s.ch i))
/-- The reference's slab lies in block S. -/
structure RSlab (w : World) (o : (Nat → Nat × Nat)) (x S : Nat) (s : St) : Prop where
  ok : Ok s
  oS : o S = (x, 0)
  c0 : w.cell? ⟨S, 0, none⟩ = some (.int .i64 ((s.page : Nat) : Int))
  c1 : w.cell? ⟨S, 1, none⟩ = some (.int .i64 ((s.left : Nat) : Int))
  f1 : w.frozen? ⟨S, 1, none⟩ = false
  cl : ∃ C cap fv dv lv, s.n ≤ cap ∧ w.cell? ⟨S, 2, none⟩ = some (.slice (some ⟨C, 0, none⟩) s.n cap) ∧ RCls w o x C s fv dv lv
theorem RCls.fr {T : Nat × Nat → Prop} {w w' : World} {o o' : (Nat → Nat × Nat)} {x C : Nat} {s : St} {fv dv lv : Nat → Value} (h : RCls w o x C s fv dv lv) (hn : 0 < s.n) (f : Fr T o o' w w') (hT : ∀ a, a ≠ 0 → ¬ T (x, a)) : RCls w' o' x C s fv dv lv := by
  have hlt := World.block_lt_of_cell? _ _ (h.c0 0 hn)
  have hC : ¬ T (o C) := by rw [h.oC]; exact hT 1 (by decide)
  exact ⟨(f.lab C hlt).trans h.oC, fun i hi => f.cell (h.c0 i hi) hC, fun i hi => f.cell (h.c1 i hi) hC, fun i hi => f.cell (h.c2 i hi) hC, fun i hi => f.cell (h.c3 i hi) hC, fun i hi => f.cell (h.c4 i hi) hC, fun i hi j hj => (f.frozen hlt hC).trans (h.fz i hi j hj), fun i hi => (h.ff i hi).fr f (hT _ (by omega)), fun i hi => (h.dd i hi).fr f (hT _ (by omega)), fun i hi => (h.ll i hi).fr f (hT _ (by omega))⟩
theorem RSlab.fr {T : Nat × Nat → Prop} {w w' : World} {o o' : (Nat → Nat × Nat)} {x S : Nat} {s : St} (h : RSlab w o x S s) (f : Fr T o o' w w') (hT : ∀ a, ¬ T (x, a)) : RSlab w' o' x S s := by
  have hS : ¬ T (o S) := by rw [h.oS]; exact hT 0
  have hlt := World.block_lt_of_cell? _ _ h.c0
  obtain ⟨C, cap, fv, dv, lv, hc, c3, cf⟩ := h.cl
  exact ⟨h.ok, (f.lab S hlt).trans h.oS, f.cell h.c0 hS, f.cell h.c1 hS, (f.frozen hlt hS).trans h.f1, C, cap, fv, dv, lv, hc, f.cell c3 hS, cf.fr h.ok.n0 f (fun a _ => hT a)⟩
theorem RSlab.below {w w' : World} {o : (Nat → Nat × Nat)} {x S : Nat} {s : St} (h : RSlab w o x S s) (hb : Below w.heap.size w w') : RSlab w' o x S s := h.fr (Fr.ofBelow (fun _ => False) o hb) (fun _ x => x)
set_option maxRecDepth 100000 in
set_option maxHeartbeats 1000000 in
theorem rclass_any (x S : Nat) (s : St) (len : Int) (w : World) (o : (Nat → Nat × Nat)) (h : RSlab w o x S s) :
    Calls Try.prog 45 #[.pointer (some ⟨S, 0, none⟩), .int .i64 len] w fun e w' => ∃ r, e = .returned (.int .i64 r) ∧ ClsIs s len r ∧ Below w.heap.size w w' := by
  obtain ⟨C, cap, fv, dv, lv, hcap, c3, cf⟩ := h.cl
  have HC : Hid (∀ i, i < s.n → w.cell? ⟨C, i * 5, none⟩ = some (.int .i64 ((sz i : Nat) : Int))) := cf.c0
  have hn := h.ok.n2
  clear cf h
  go_enter Try.func45, Try.ntmps45
  go_wp2_with fail
  go_loop [5] (fun i => ∃ j : Nat, j ≤ s.n ∧ i = .int .i64 (j : Int) ∧ Hid (∀ q, q < j → len < 0 ∨ (sz q : Int) < len)) (fun i => s.n - (intOf i).toNat)
  case atStart => exact ⟨0, by omega, rfl, fun q hq => by omega⟩
  case round =>
    obtain ⟨j, hj, rfl, HQ⟩ := hrel
    by_cases hlt : j < s.n
    · have d0 := HC.out j hlt
      have hi1 : (j : Int) < (s.n : Int) := by omega
      by_cases hneg : len < 0
      · have k1 : decide (0 ≤ len) = false := by simp; omega
        go_wp2
        go_round
        case rel => exact ⟨j + 1, by omega, by go_num, fun q _ => .inl hneg⟩
        case measure => simp [intOf]; omega
      · have k1 : decide (0 ≤ len) = true := by simp; omega
        by_cases hle : len ≤ (sz j : Int)
        · go_wp2
          go_ret
          exact ⟨j, rfl, .inr ⟨j, rfl, hlt, by omega, hle, fun q hq => by rcases HQ.out q hq with h | h; omega; exact h⟩, Below.refl _ _⟩
        · have j1 : decide (len ≤ (sz j : Int)) = false := by simp; omega
          go_wp2
          go_round
          case rel =>
            refine ⟨j + 1, by omega, by go_num, fun q hq => .inr ?_⟩
            by_cases e : q = j
            · subst e; omega
            · rcases HQ.out q (by omega) with h | h
              · omega
              · exact h
          case measure => simp [intOf]; omega
    · go_wp2
      go_ret
      refine ⟨-1, rfl, .inl ⟨rfl, ?_⟩, Below.refl _ _⟩
      by_cases hneg : len < 0
      · exact .inl hneg
      · exact .inr (fun q hq => by rcases HQ.out q (by omega) with h | h; omega; exact h)
/-- A class's chunk, its cells. -/
theorem RCls.chunk {w : World} {o : (Nat → Nat × Nat)} {x C : Nat} {s : St} {fv dv lv : Nat → Value} (h : RCls w o x C s fv dv lv) {i j : Nat} (hi : i < s.n) {p : Bool × ByteArray} (hp : (s.ch i)[j]? = some p) :
    ∃ g cap g' cap', dv i = .slice (some ⟨g, 0, none⟩) (s.ch i).length cap ∧ lv i = .slice (some ⟨g', 0, none⟩) (s.ch i).length cap' ∧ o g = (x, 3 * i + 3) ∧ o g' = (x, 3 * i + 4) ∧ (s.ch i).length ≤ cap ∧ (s.ch i).length ≤ cap' ∧ w.cell? ⟨g, j, none⟩ = some (.string p.2) ∧ w.cell? ⟨g', j, none⟩ = some (.bool p.1) ∧ w.frozen? ⟨g, j, none⟩ = false ∧ w.frozen? ⟨g', j, none⟩ = false := by
  have hlt := (List.getElem?_eq_some_iff.1 hp).1
  obtain ⟨g, cap, e, h2, h3, h4, h5, h6, h7⟩ := (h.dd i hi).there (by omega)
  obtain ⟨g', cap', e', h2', h3', h4', h5', h6', h7'⟩ := (h.ll i hi).there (by omega)
  exact ⟨g, cap, g', cap', e, e', h2, h2', h4, h4', h6 j _ (by simp [dac, hp]), h6' j _ (by simp [lvc, hp]), (h7 _ (by omega)).2, (h7' _ (by omega)).2⟩
set_option maxRecDepth 100000 in
set_option maxHeartbeats 1000000 in
theorem there_any (x S : Nat) (s : St) (c k : Int) (w : World) (o : (Nat → Nat × Nat)) (h : RSlab w o x S s) :
    Calls Try.prog 47 #[.pointer (some ⟨S, 0, none⟩), .agg #[.int .i64 c, .int .i64 k]] w fun e w' => e = .returned (.bool (s.has c k)) ∧ Below w.heap.size w w' := by
  obtain ⟨C, cap, fv, dv, lv, hcap, c3, cf⟩ := h.cl
  have HC : Hid (RCls w o x C s fv dv lv) := cf
  have hn := h.ok.n2
  have hS := World.block_lt_of_cell? _ _ c3
  have hSn : S ≠ w.heap.size := by simp at hS; omega
  have HO : Hid (Ok s) := h.ok
  have DONE : Hid (∀ ob d, Below w.heap.size w ((w.alloc ob).drewN d)) := fun ob d => below_drewN ((Below.refl _ _).alloc (Nat.le_refl _) _) _
  clear cf h
  by_cases hc0 : c < 0
  · have HR : Hid (s.has c k = false) := by show _ = _; unfold St.has; rw [decide_eq_false (by omega), Bool.false_and]
    have j0 : decide (0 ≤ c) = false := by simp; omega
    go_enter Try.func47, Try.ntmps47
    go_wp2_with fail
    go_quiet (fail)
    go_wp2_with fail
    go_ret
    exact ⟨by rw [HR.out]; rfl, DONE.out _ _⟩
  · have j0 : decide (0 ≤ c) = true := by simp; omega
    by_cases hcn : (s.n : Int) ≤ c
    · have HR : Hid (s.has c k = false) := by show _ = _; unfold St.has; rw [decide_eq_false (by omega), Bool.false_and]
      have j1 : decide (c < (s.n : Int)) = false := by simp; omega
      go_enter Try.func47, Try.ntmps47
      go_wp2_with fail
      go_quiet (fail)
      go_wp2_with fail
      go_ret
      exact ⟨by rw [HR.out]; rfl, DONE.out _ _⟩
    · have j1 : decide (c < (s.n : Int)) = true := by simp; omega
      obtain ⟨i, rfl⟩ : ∃ i : Nat, c = i := ⟨c.toNat, by omega⟩
      have hi : i < s.n := by omega
      have hi1 : (i : Int) < (s.n : Int) := by omega
      have d1 := HC.out.c1 i hi
      have hC := World.block_lt_of_cell? _ _ d1
      have hCn : C ≠ w.heap.size := by simp at hC; omega
      have q2 := HO.out.ch2 hi
      by_cases hk0 : k < 0
      · have HR : Hid (s.has i k = false) := by show _ = _; unfold St.has; rw [decide_eq_false (by omega), Bool.false_and]
        have j2 : decide (0 ≤ k) = false := by simp; omega
        go_enter Try.func47, Try.ntmps47
        go_wp2_with fail
        go_quiet (fail)
        go_wp2_with fail
        go_ret
        exact ⟨by rw [HR.out]; rfl, DONE.out _ _⟩
      · have j2 : decide (0 ≤ k) = true := by simp; omega
        obtain ⟨m, rfl⟩ : ∃ m : Nat, k = m := ⟨k.toNat, by omega⟩
        by_cases hm : m < (s.ch i).length
        · obtain ⟨p, hp⟩ : ∃ p, (s.ch i)[m]? = some p := ⟨_, List.getElem?_eq_getElem hm⟩
          have HR : Hid (s.has i m = p.1) := by
            show _ = _; unfold St.has
            rw [decide_eq_true (by simp; omega), Bool.true_and, List.getD_eq_getElem?_getD]
            simp only [Int.toNat_natCast]
            rw [hp]; rfl
          obtain ⟨g, cp, g', cp', _, e2, _, _, _, hcp, _, k0, _⟩ := HC.out.chunk hi hp
          have d4 := HC.out.c4 i hi
          rw [e2] at d4
          have hg := World.block_lt_of_cell? _ _ k0
          have hgn : g' ≠ w.heap.size := by simp at hg; omega
          have j3 : (m : Int) < ((s.ch i).length : Int) := by omega
          have j3' : decide ((m : Int) < ((s.ch i).length : Int)) = true := by simp; omega
          obtain ⟨b, hb⟩ : ∃ b, b = p.1 := ⟨_, rfl⟩
          rw [← hb] at k0
          have HB : Hid (b = p.1) := hb
          clear hb hp e2
          go_enter Try.func47, Try.ntmps47
          go_wp2_with fail
          go_quiet (fail)
          go_wp2_with fail
          go_ret
          exact ⟨by rw [HR.out, ← HB.out]; rfl, DONE.out _ _⟩
        · have HR : Hid (s.has i m = false) := by show _ = _; unfold St.has; rw [decide_eq_false (by simp; omega), Bool.false_and]
          have j3 : decide ((m : Int) < ((s.ch i).length : Int)) = false := by simp; omega
          go_enter Try.func47, Try.ntmps47
          go_wp2_with fail
          go_quiet (fail)
          go_wp2_with fail
          go_ret
          exact ⟨by rw [HR.out]; rfl, DONE.out _ _⟩
set_option maxRecDepth 100000 in
set_option maxHeartbeats 1000000 in
theorem rread_any (x S : Nat) (s : St) (c k : Int) (w : World) (o : (Nat → Nat × Nat)) (h : RSlab w o x S s) :
    Calls Try.prog 20 #[.pointer (some ⟨S, 0, none⟩), .agg #[.int .i64 c, .int .i64 k]] w fun e w' => e = .returned (.tuple #[.string (s.rd c k), .bool (s.has c k)]) ∧ Below w.heap.size w w' := by
  have HI : Hid (RSlab w o x S s) := h
  have B1 : Hid (Below w.heap.size w (w.alloc (.cells #[.int .i64 c, .int .i64 k] 51))) := (Below.refl _ _).alloc (Nat.le_refl _) _
  clear h
  by_cases hh : s.has c k = true
  · obtain ⟨i, m, d, rfl, rfl, hi, hm, hp, hd⟩ := St.has_of hh
    have HR : Hid (s.rd i m = d ∧ s.has i m = true) := ⟨by unfold St.rd; rw [if_pos hh]; exact hd, hh⟩
    go_enter Try.func20, Try.ntmps20
    go_wp2_with fail
    refine (there_any x S s i m _ o (HI.out.below B1.out)).mono ?_
    rintro e w2 ⟨rfl, B2⟩
    rw [hh]
    have I2 := (HI.out.below B1.out).below B2
    have BB : Hid (Below w.heap.size w w2) := B1.out.trans (B2.mono B1.out.size)
    obtain ⟨C, cap, fv, dv, lv, hcap, c3, cf⟩ := I2.cl
    have d1 := cf.c3 i hi
    obtain ⟨g, cp, g', cp', e2, _, _, _, hcp, _, k1, _⟩ := cf.chunk hi hp
    rw [e2] at d1
    have z0 : w2.cell? ⟨w.heap.size, 0, none⟩ = some (.int .i64 (i : Int)) := cell_up B2 (by rw [World.cell?_alloc_new]; rfl)
    have z1 : w2.cell? ⟨w.heap.size, 1, none⟩ = some (.int .i64 (m : Int)) := cell_up B2 (by rw [World.cell?_alloc_new]; rfl)
    have hn := I2.ok.n2
    have hm2 := I2.ok.ch2 hi
    have hi1 : (i : Int) < (s.n : Int) := by omega
    have hm1 : (m : Int) < ((s.ch i).length : Int) := by omega
    clear I2 B2 cf e2 hh hp hd
    go_wp2_with fail
    go_quiet (fail)
    go_wp2_with fail
    go_ret2
    exact ⟨by rw [HR.out.1, HR.out.2]; rfl, below_drewN BB.out _⟩
  · have HR : Hid (s.rd c k = ⟨#[]⟩ ∧ s.has c k = false) := ⟨by unfold St.rd; rw [if_neg hh], by simpa using hh⟩
    clear hh
    go_enter Try.func20, Try.ntmps20
    go_wp2_with fail
    refine (there_any x S s c k _ o (HI.out.below B1.out)).mono ?_
    rintro e w2 ⟨rfl, B2⟩
    rw [HR.out.2]
    have BB : Hid (Below w.heap.size w w2) := B1.out.trans (B2.mono B1.out.size)
    clear B2
    go_wp2_with fail
    go_ret2
    exact ⟨by rw [HR.out.1, HR.out.2]; rfl, BB.out⟩
end Go.Proofs.Ytbflcnghpkmcoaa
