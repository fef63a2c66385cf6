/-
  ROWS OF BYTES THAT ARE READ, cut at a place: what a part of a row holds; the dot of parts, of sums.
-/
import Derived.Test.YtmhhegkpkncebaaBase
import Derived.OpenShut
namespace Go.Proofs.Ytmhhegkpkncebaa
open Go.RowKit

/-- What the walk is told of a slice of bytes that came in: it is nil; or it leads to a row of 'cap' cells. -/
def IsRow (k : IntKind) (w : World) (a : Option Addr) (len cap : Nat) (zs : List Int) : Prop :=
  (a = none ∧ len = 0 ∧ cap = 0 ∧ zs = []) ∨
  ∃ x, a = some x ∧ len ≤ cap ∧ cap ≤ maxLen ∧ zs.length = cap ∧ (∀ i, i < zs.length → w.cell? (x.add i) = some (.int k (zs.getD i 0))) ∧ ∀ n ∈ zs, (Lit.int k n).wf = true

/-- The numbers of such a row. -/
def num (zs : List Int) (i : Nat) : Nat := (zs.getD i 0).toNat

theorem IsRow.len_le {w : World} {a : Option Addr} {len cap : Nat} {zs : List Int} (h : IsRow .u8 w a len cap zs) : len ≤ cap := by
  rcases h with ⟨_, rfl, rfl, _⟩ | ⟨x, _, h, _⟩
  · exact Nat.le_refl _
  · exact h
theorem IsRow.bd {w : World} {a : Option Addr} {len cap : Nat} {zs : List Int} (h : IsRow .u8 w a len cap zs) (i : Nat) : 0 ≤ zs.getD i 0 ∧ zs.getD i 0 ≤ 255 := by
  have key : ∀ n ∈ zs, 0 ≤ n ∧ n ≤ 255 := by
    rcases h with ⟨_, _, _, rfl⟩ | ⟨x, _, _, _, _, _, h⟩
    · intro n hn; simp at hn
    · intro n hn; exact bounds_u8 (h n hn)
  by_cases hi : i < zs.length
  · have := key (zs.getD i 0) (by rw [List.getD_eq_getElem?_getD, List.getElem?_eq_getElem hi]; exact List.getElem_mem hi)
    exact this
  · rw [List.getD_eq_getElem?_getD, List.getElem?_eq_none (by omega)]; decide
theorem IsRow.num_lt {w : World} {a : Option Addr} {len cap : Nat} {zs : List Int} (h : IsRow .u8 w a len cap zs) (i : Nat) : num zs i < 256 := by
  have := h.bd i; unfold num; omega
theorem IsRow.rowF {w : World} {a : Option Addr} {len cap : Nat} {zs : List Int} (h : IsRow .u8 w a len cap zs) (n : Nat) (hn : n ≤ cap) : RowF w a (num zs) n := by
  by_cases n0 : n = 0
  · exact Or.inl n0
  have hb := h.bd
  rcases h with ⟨_, _, rfl, _⟩ | ⟨x, rfl, hl, hm, hz, hcell, _⟩
  · exfalso; omega
  · obtain ⟨p, off, spot⟩ := x
    have hc := hcell 0 (by omega)
    have hspot : spot = none := by simpa [Addr.add] using World.cell?_spot hc
    subst hspot
    refine Or.inr ⟨p, off, rfl, fun i hi => ?_⟩
    have h1 := hcell i (by omega)
    have h2 := hb i
    have e : (⟨p, off, none⟩ : Addr).add i = ⟨p, off + i, none⟩ := by unfold Addr.add; split <;> simp_all
    rw [e] at h1
    rw [h1]; unfold num
    rw [Int.toNat_of_nonneg h2.1]

/-- The address of a part. -/
def sl (a : Option Addr) (l m : Nat) : Option Addr := if m = l then a else a.map (·.add (l * 1))
theorem RowF.cut {w : World} {a : Option Addr} {f : Nat → Nat} {n : Nat} (h : RowF w a f n) (l m : Nat) (hnm : n ≤ m) : RowF w (sl a l m) (fun i => f (l + i)) (n - l) := by
  by_cases hl : n ≤ l
  · exact Or.inl (by omega)
  · rcases h with h | ⟨p, off, rfl, hc⟩
    · exfalso; omega
    · refine Or.inr ⟨p, off + l, ?_, fun i hi => ?_⟩
      · unfold sl
        rw [if_neg (by omega)]
        show some _ = some _
        have e : (⟨p, off, none⟩ : Addr).add (l * 1) = ⟨p, off + l, none⟩ := by unfold Addr.add; split <;> simp_all
        exact congrArg some e
      · have := hc (l + i) (by omega)
        rw [Nat.add_assoc]; exact this
theorem RowF.head {w : World} {a : Option Addr} {f : Nat → Nat} {n : Nat} (h : RowF w a f n) (k m : Nat) (hk : k ≤ n) (hnm : n ≤ m) : RowF w (sl a 0 m) f k := by
  have h2 := h.cut 0 m hnm
  simp only [Nat.zero_add, Nat.sub_zero] at h2
  rcases h2 with h2 | ⟨p, off, e, hc⟩
  · exact Or.inl (by omega)
  · exact Or.inr ⟨p, off, e, fun i hi => hc i (by omega)⟩
theorem RowF.below {w w' : World} {a : Option Addr} {f : Nat → Nat} {n : Nat} (h : RowF w a f n) (hb : Below w.heap.size w w') : RowF w' a f n := by
  rcases h with h | ⟨p, off, e, hc⟩
  · exact Or.inl h
  · exact Or.inr ⟨p, off, e, fun i hi => by rw [hb.cell (World.block_lt_of_cell? _ _ (hc i hi))]; exact hc i hi⟩
theorem HasTab.up {w w' : World} {b : Nat} (h : HasTab w b) (hb : Below w.heap.size w w') : HasTab w' b :=
  h.below hb h.lt

theorem elem32 : Try.prog.underlying 54 = some (.slice (Try.prog.elem 54)) := by kernel_rfl
theorem elem32' : Try.prog.elem 54 = 5 := by kernel_rfl
theorem size5' (w : World) : (sizeOf 5).run Try.prog w = .ok 1 w := by kernel_rfl
theorem slice_hi (a : Option Addr) (len cap h : Nat) (hh : h ≤ cap) (w : World) : (Instr.sliceAt 54 (.slice a len cap) none (some (.int .i64 (h : Int))) none).run Try.prog w = .ok (.slice (sl a 0 cap) h cap) w := by
  rw [run_sliceAt_slice _ _ _ _ _ _ elem32, run_slice_h _ _ _ _ _ elem32 _ _ (by omega) (by omega), elem32', size5']
  rfl
theorem slice_lo (a : Option Addr) (len cap l : Nat) (hl : l ≤ len) (w : World) : (Instr.sliceAt 54 (.slice a len cap) (some (.int .i64 (l : Int))) none none).run Try.prog w = .ok (.slice (sl a l cap) (len - l) (cap - l)) w := by
  rw [run_sliceAt_slice _ _ _ _ _ _ elem32, run_slice_l _ _ _ _ _ elem32 _ _ (by omega) (by omega), elem32', size5']
  rfl

namespace Gf
theorem dotN_comm (f g : Nat → Nat) (n : Nat) : dotN f g n = dotN g f n := by
  induction n with
  | zero => rfl
  | succ n ih => show dotN f g n ^^^ _ = dotN g f n ^^^ _; rw [ih, mul_comm]
theorem dotN_add (f g : Nat → Nat) (k m : Nat) : dotN f g (k + m) = dotN f g k ^^^ dotN (fun i => f (k + i)) (fun i => g (k + i)) m := by
  induction m with
  | zero => show _ = dotN f g k ^^^ 0; rw [Nat.xor_zero]; rfl
  | succ m ih => show dotN f g (k + m) ^^^ _ = _ ^^^ (dotN _ _ m ^^^ _); rw [ih, Nat.xor_assoc]; rfl
theorem dotN_parts (f g : Nat → Nat) (k n : Nat) (hk : k ≤ n) : dotN f g k ^^^ dotN (fun i => f (k + i)) (fun i => g (k + i)) (n - k) = dotN f g n := by
  rw [← dotN_add, Nat.add_sub_cancel' hk]
theorem dotN_xor (f g h : Nat → Nat) (hf : ∀ i, f i < 256) (hg : ∀ i, g i < 256) (hh : ∀ i, h i < 256) (n : Nat) : dotN f (fun i => g i ^^^ h i) n = dotN f g n ^^^ dotN f h n := by
  induction n with
  | zero => show 0 = 0 ^^^ 0; decide
  | succ n ih =>
    show dotN f _ n ^^^ mul (f n) (g n ^^^ h n) = (dotN f g n ^^^ mul (f n) (g n)) ^^^ (dotN f h n ^^^ mul (f n) (h n))
    rw [ih, mul_xor (hf n) (hg n) (hh n)]
    simp only [Nat.xor_assoc]
    congr 1
    rw [← Nat.xor_assoc, Nat.xor_comm (dotN f h n), Nat.xor_assoc]
end Gf
end Go.Proofs.Ytmhhegkpkncebaa
