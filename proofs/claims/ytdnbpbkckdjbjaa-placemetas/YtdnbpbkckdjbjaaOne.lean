/-
  NO SLOT STANDS TWICE.
-/
import Derived.Test.YtdnbpbkckdjbjaaRuns
namespace Go.Proofs.Ytdnbpbkckdjbjaa
open Go.RowKit

theorem ixf_no (x : Int) : ∀ (l : List Int) (i : Nat), x ∉ l → ixf x l i = -1
  | [], _, _ => rfl
  | y :: l, i, h => by
    show (if x = y then _ else _) = _
    rw [if_neg (fun e => h (by rw [e]; exact List.mem_cons_self)), ixf_no x l (i + 1) (fun e => h (List.mem_cons_of_mem _ e))]
theorem ixf_yes (x : Int) (m : List Int) : ∀ (l : List Int) (i : Nat), x ∉ l → ixf x (l ++ x :: m) i = ((i + l.length : Nat) : Int)
  | [], i, _ => by show (if x = x then _ else _) = _; rw [if_pos rfl]; simp
  | y :: l, i, h => by
    show (if x = y then _ else _) = _
    rw [if_neg (fun e => h (by rw [e]; exact List.mem_cons_self))]
    show ixf x (l ++ x :: m) (i + 1) = _
    rw [ixf_yes x m l (i + 1) (fun e => h (List.mem_cons_of_mem _ e))]
    simp; omega
theorem ixf_snoc (x u : Int) (h : x ≠ u) : ∀ (l : List Int) (i : Nat), ixf x (l ++ [u]) i = ixf x l i
  | [], i => by show (if x = u then _ else _) = _; rw [if_neg h]; rfl
  | y :: l, i => by
    show (if x = y then _ else _) = (if x = y then _ else _)
    split
    · rfl
    · exact ixf_snoc x u h l (i + 1)
theorem mod_in {q s i : Nat} (hq : q < s) (hi : i < s) : (q + i) % s = if q + i < s then q + i else q + i - s := by
  split
  · exact Nat.mod_eq_of_lt (by omega)
  · rw [Nat.mod_eq_sub_mod (by omega), Nat.mod_eq_of_lt (by omega)]
theorem mod_inj {q s i j : Nat} (hq : q < s) (hi : i < s) (hj : j < s) (h : (q + i) % s = (q + j) % s) : i = j := by
  rw [mod_in hq hi, mod_in hq hj] at h
  split at h <;> split at h <;> omega
/-- No slot stands twice. -/
theorem stl_once (k : ByteArray) {n s i : Nat} (hn : n ≤ s) (hi : i < n) : (((fst k s + i) % s : Nat) : Int) ∉ (stl k n s).take i := by
  intro h
  rw [stl_take k (by omega)] at h
  unfold stl at h
  obtain ⟨j, hj, e⟩ := List.mem_map.1 h
  have hj := List.mem_range.1 hj
  have hq : fst k s < s := Nat.mod_lt _ (by omega)
  have := mod_inj hq (by omega) (by omega) (Int.ofNat.inj e)
  omega
theorem str_once (k : ByteArray) (n s : Int) (j : Nat) (u : Int) (h : (str k n s)[j]? = some u) : u ∉ (str k n s).take j := by
  by_cases g : good n s
  · obtain ⟨N, S, rfl, rfl, h1, h2, h3⟩ := good_nat g
    rw [str_yes k h1 h2 h3] at h ⊢
    have hj := (List.getElem?_eq_some_iff.1 h).1
    rw [stl_length] at hj
    rw [stl_at k hj] at h
    injection h with h
    rw [← h]
    exact stl_once k h3 hj
  · rw [str_no k g] at h
    cases h
/-- A step of the law's own search. -/
theorem ixf_step {l : List Int} {j : Nat} {u x : Int} (h : l[j]? = some u) (ho : u ∉ l.take j) : ixf x (l.take (j + 1)) 0 = if u = x then (j : Int) else ixf x (l.take j) 0 := by
  have e : l.take (j + 1) = l.take j ++ [u] := by rw [List.take_add_one, h]; rfl
  have hj := (List.getElem?_eq_some_iff.1 h).1
  rw [e]
  split
  · rename_i hx
    subst hx
    rw [ixf_yes u [] _ 0 ho, List.length_take]
    congr 1; omega
  · rename_i hx
    exact ixf_snoc x u (fun e => hx e.symm) _ _
theorem pos_at (k : ByteArray) {s i : Nat} (h1 : 1 ≤ s) (h2 : s ≤ 12) (hi : i < s) : ixf (((fst k s + i) % s : Nat) : Int) (str k (s : Int) (s : Int)) 0 = (i : Int) := by
  rw [str_yes k h1 h2 (Nat.le_refl _)]
  have ho := stl_once k (Nat.le_refl s) hi
  have h := stl_at k (s := s) hi
  have hl : i < (stl k s s).length := by rw [stl_length]; exact hi
  have e : stl k s s = (stl k s s).take i ++ (((fst k s + i) % s : Nat) : Int) :: (stl k s s).drop (i + 1) := by
    have := List.take_append_drop i (stl k s s)
    rw [List.drop_eq_getElem_cons hl] at this
    rw [List.getElem?_eq_getElem hl] at h
    injection h with h
    rw [h] at this
    exact this.symm
  rw [e, ixf_yes _ _ _ 0 ho, List.length_take, stl_length]
  congr 1; omega
theorem elem22 : Try.prog.underlying 22 = some (.slice (Try.prog.elem 22)) := by kernel_rfl
theorem elem22' : Try.prog.elem 22 = 3 := by kernel_rfl
theorem size3' (w : World) : (sizeOf 3).run Try.prog w = .ok 1 w := by kernel_rfl
theorem slice_hiT (g len cap h : Nat) (hh : h ≤ cap) (w : World) :
    (Instr.sliceAt 22 (.slice (some ⟨g, 0, none⟩) len cap) none (some (.int .i64 (h : Int))) none).run Try.prog w = .ok (.slice (some ⟨g, 0, none⟩) h cap) w := by
  rw [run_sliceAt_slice _ _ _ _ _ _ elem22, run_slice_h _ _ _ _ _ elem22 _ _ (by omega) (by omega), elem22', size3']
  have ea : (⟨g, 0, none⟩ : Addr).add 0 = ⟨g, 0, none⟩ := by unfold Addr.add; split <;> simp_all
  simp [sliced, ea]
end Go.Proofs.Ytdnbpbkckdjbjaa
