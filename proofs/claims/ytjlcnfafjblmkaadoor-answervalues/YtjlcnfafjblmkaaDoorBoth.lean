/-
  TWO ROWS OF VALUES in one.
-/
import Derived.Test.YtjlcnfafjblmkaaDoorLight
namespace Go.Proofs.YtjlcnfafjblmkaaDoor
open Go.RowKit
open Go.Lib (TabIs pow10Tab OthersKept)

def fc : List Fd → List Value
  | [] => []
  | f :: fs => f.cs ++ fc fs
theorem fc_len : ∀ fs : List Fd, (fc fs).length = fs.length * 4
  | [] => rfl
  | f :: fs => by rw [fc, List.length_append, fc_len fs, List.length_cons]; show 4 + _ = _; omega
theorem fc_app : ∀ a b : List Fd, fc (a ++ b) = fc a ++ fc b
  | [], b => rfl
  | f :: a, b => by rw [List.cons_append, fc, fc, fc_app a b, List.append_assoc]
theorem fc_one : ∀ fs : List Fd, ∀ u ∈ fc fs, u.oneCell' = true
  | [], u, h => by cases h
  | f :: fs, u, h => by
    rcases List.mem_append.1 h with h | h
    · simp only [Fd.cs, List.mem_cons, List.not_mem_nil, or_false] at h
      rcases h with rfl | rfl | rfl | rfl <;> rfl
    · exact fc_one fs u h
theorem fc_at : ∀ (fs : List Fd) (i : Nat) (f : Fd), fs[i]? = some f → ∀ r, r < 4 → (fc fs)[i * 4 + r]? = f.cs[r]?
  | [], i, f, h, _, _ => by simp at h
  | g :: fs, 0, f, h, r, hr => by
    obtain rfl : g = f := by simpa using h
    rw [fc, Nat.zero_mul, Nat.zero_add, List.getElem?_append_left (by show r < 4; exact hr)]
  | g :: fs, i + 1, f, h, r, hr => by
    have h' : fs[i]? = some f := by simpa using h
    rw [fc, List.getElem?_append_right (by show 4 ≤ _; omega), show (i + 1) * 4 + r - g.cs.length = i * 4 + r by show (i + 1) * 4 + r - 4 = _; omega]
    exact fc_at fs i f h' r hr
theorem fc_in : ∀ (fs : List Fd) (j : Nat) (u : Value), (fc fs)[j]? = some u → ∃ i f r, fs[i]? = some f ∧ f.cs[r]? = some u ∧ r < 4 ∧ j = i * 4 + r := fun fs j u h => by
  have hj : j < fs.length * 4 := by rw [← fc_len]; exact (List.getElem?_eq_some_iff.1 h).1
  have hi : j / 4 < fs.length := by omega
  refine ⟨j / 4, fs[j / 4], j % 4, List.getElem?_eq_getElem hi, ?_, by omega, by omega⟩
  rw [← fc_at fs (j / 4) _ (List.getElem?_eq_getElem hi) (j % 4) (by omega), show j / 4 * 4 + j % 4 = j by omega]
  exact h
theorem FdF.at_ {w : World} {a : Option Addr} {fs : List Fd} (h : FdF w a fs) : fs = [] ∨ ∃ p off, a = some ⟨p, off, none⟩ ∧ ∀ j u, (fc fs)[j]? = some u → w.cell? ⟨p, off + j, none⟩ = some u := by
  rcases h with h | ⟨p, off, h1, _, h3⟩
  · exact .inl h
  · refine .inr ⟨p, off, h1, fun j u hj => ?_⟩
    obtain ⟨i, f, r, hf, hr, hr4, rfl⟩ := fc_in fs j u hj
    obtain ⟨c0, c1, c2, c3⟩ := h3 i f hf
    rcases r with _ | _ | _ | _ | r
    · rw [Nat.add_zero, c0]; exact hr
    · rw [← Nat.add_assoc, c1]; exact hr
    · rw [← Nat.add_assoc, c2]; exact hr
    · rw [← Nat.add_assoc, c3]; exact hr
    · omega
theorem FdF.of_cells {w : World} {g : Nat} {fs : List Fd} (hg : g < w.heap.size) (h : ∀ j u, (fc fs)[j]? = some u → w.cell? ⟨g, j, none⟩ = some u) : FdF w (some ⟨g, 0, none⟩) fs := by
  refine .inr ⟨g, 0, rfl, hg, fun i f hf => ?_⟩
  have e := fc_at fs i f hf
  exact ⟨h _ _ (by rw [Nat.zero_add]; exact e 0 (by omega)), h _ _ (by rw [Nat.zero_add]; exact e 1 (by omega)), h _ _ (by rw [Nat.zero_add]; exact e 2 (by omega)), h _ _ (by rw [Nat.zero_add]; exact e 3 (by omega))⟩
theorem under24 : Tryd.prog.underlying 24 = some (.slice 23) := by kernel_rfl
theorem info23 : (Tryd.prog.info? 23).map (fun i => (i.zero, i.size, i.bytes)) = some (some (.agg #[.string ⟨#[]⟩, .int .i64 0, .string ⟨#[]⟩, .int .i64 0]), 4, 48) := by kernel_rfl
theorem FdF.src {w : World} {a : Option Addr} {fs : List Fd} (h : FdF w a fs) (cap : Nat) : Src Tryd.prog 4 24 (.slice a fs.length cap) fs.length (fc fs) w := by
  rcases h.at_ with rfl | ⟨p, off, rfl, h3⟩
  · cases a with
    | none => exact Src.ofNil _ under24 cap
    | some ad => exact Src.ofSlice _ under24 ad 0 cap [] rfl (fun j u hu => by simp at hu) (fun u hu => by simp at hu)
  · refine Src.ofSlice _ under24 _ fs.length cap _ (fc_len fs) (fun j u hu => ?_) (fc_one fs)
    have e : (⟨p, off, none⟩ : Addr).add j = ⟨p, off + j, none⟩ := by unfold Addr.add; split <;> simp_all
    rw [e]
    exact h3 j u hu
theorem both_any {w : World} {a1 a2 : Option Addr} {fs1 fs2 : List Fd} (cap1 cap2 : Nat) (h1 : FdF w a1 fs1) (h2 : FdF w a2 fs2) (hn1 : fs1.length ≤ 3000) (hn2 : fs2.length ≤ 3000) :
    ∃ v1 w1 a c w2, (Builtin.append_ #[24, 24] 24 #[.slice (some ⟨w.heap.size, 0, none⟩) 0 0, .slice a1 fs1.length cap1]).run Tryd.prog (w.alloc (.cells #[] 23)) = .ok v1 w1 ∧
      (Builtin.append_ #[24, 24] 24 #[v1, .slice a2 fs2.length cap2]).run Tryd.prog w1 = .ok (.slice a (fs1 ++ fs2).length c) w2 ∧ FdF w2 a (fs1 ++ fs2) ∧ Below w.heap.size w w2 := by
  have o0 := own_new (w := w) (o := fun _ => (0, 0)) (t := (1, 1)) (k := 4) (n := 0) (cap := 0) (e := 23) [] #[] rfl (fun u hu => by cases hu) (Nat.le_refl _) (by unfold maxLen; omega) rfl
  rw [show ([] : List Value).toArray ++ #[] = #[] from rfl] at o0
  have f0 : Fr (fun _ => False) (fun _ => (0, 0)) (lab (fun _ => (0, 0)) w.heap.size (1, 1)) w (w.alloc (.cells #[] 23)) := Fr.new _ _ _ _ _
  obtain ⟨v1, w1, o1, hr1, h3, f1⟩ := app_own 24 24 23 (.agg #[.string ⟨#[]⟩, .int .i64 0, .string ⟨#[]⟩, .int .i64 0]) 48 under24 info23 rfl o0 ((h1.up (below_alloc _ _)).src cap1) (by omega) (by omega)
  have B1 : Below w.heap.size w w1 := (f0.mono (fun _ h => h.elim)).trans f1 |>.below (Nat.le_refl _) (fun b _ h => absurd h (by decide))
  obtain ⟨v2, w2, o2, hr2, h4, f2⟩ := app_own 24 24 23 (.agg #[.string ⟨#[]⟩, .int .i64 0, .string ⟨#[]⟩, .int .i64 0]) 48 under24 info23 rfl h3 ((h2.up B1).src cap2) (by omega) (by omega)
  have B2 : Below w.heap.size w w2 := ((f0.mono (fun _ h => h.elim)).trans f1).trans f2 |>.below (Nat.le_refl _) (fun b _ h => absurd h (by decide))
  have hlen : (fs1 ++ fs2).length = 0 + fs1.length + fs2.length := by rw [List.length_append]; omega
  have hcs : [] ++ fc fs1 ++ fc fs2 = fc (fs1 ++ fs2) := by rw [fc_app]; rfl
  rw [hcs] at h4
  by_cases hz : 0 + fs1.length + fs2.length = 0
  · obtain ⟨a, c, rfl, _⟩ := h4.form
    refine ⟨v1, w1, a, c, w2, hr1, by rw [hlen]; exact hr2, .inl (List.eq_nil_of_length_eq_zero (by omega)), B2⟩
  · obtain ⟨g, cap, rfl, _, hg, _, _, h8, _⟩ := h4.there (by omega)
    exact ⟨v1, w1, _, cap, w2, hr1, by rw [hlen]; exact hr2, FdF.of_cells hg h8, B2⟩
end Go.Proofs.YtjlcnfafjblmkaaDoor
