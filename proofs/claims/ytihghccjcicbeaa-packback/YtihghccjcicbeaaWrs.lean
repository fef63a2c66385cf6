/-
  NUMBERS AND TEXTS, one behind the other, as bytes; what stands at a place of such bytes, whole or cut off.
-/
import Derived.Test.YtihghccjcicbeaaReads
namespace Go.Proofs.Ytihghccjcicbeaa
open Go.RowKit

/-- A number and a text behind it. -/
def wr1 (x : Int) (s : ByteArray) : List Nat := enc (fold x) ++ (enc (s.size * 2) ++ sb s)
def wrs (N : Nat → Int) (T : Nat → ByteArray) : Nat → List Nat
  | 0 => []
  | k + 1 => wrs N T k ++ wr1 (N k) (T k)
theorem wrs_split (N : Nat → Int) (T : Nat → ByteArray) : ∀ n k, k < n → ∃ r, wrs N T n = wrs N T k ++ (wr1 (N k) (T k) ++ r) := by
  intro n
  induction n with
  | zero => intro k h; omega
  | succ n ih =>
    intro k h
    by_cases e : k = n
    · subst e; exact ⟨[], by rw [List.append_nil]; rfl⟩
    · obtain ⟨r, hr⟩ := ih k (by omega)
      exact ⟨r ++ wr1 (N n) (T n), by show wrs N T n ++ _ = _; rw [hr]; simp⟩
/-- Bytes that agree with a list as far as both go. -/
def Agree (g : Nat → Nat) (L : Nat) (l : List Nat) : Prop := ∀ q, q < L → q < l.length → g q = lf l q
theorem pk_of {g : Nat → Nat} {L A t : Nat} {l r : List Nat} (hl : Agree g L (l ++ (enc t ++ r))) (hA : A = l.length) (ht : t < 18446744073709551616) (hin : A + (enc t).length ≤ L) : pk g L A 0 = (t, (enc t).length, 0) := by
  rw [pk_0, scan_of (fun i => g (A + i)) t (L - A) 0 0 (by omega) (by simpa using ht) (fun h => by omega) (fun j hj => ?_) (by omega)]
  · simp
  · show g (A + (0 + j)) = lf (enc t) j
    rw [Nat.zero_add, hl (A + j) (by omega) (by rw [List.length_append, List.length_append]; omega), hA, lf_right, lf_left hj]
theorem pk_cut {g : Nat → Nat} {L A t : Nat} {l r : List Nat} (hl : Agree g L (l ++ (enc t ++ r))) (hA : A = l.length) (ht : t < 18446744073709551616) (hAL : A ≤ L) (hin : L < A + (enc t).length) : pk g L A 0 = (0, 0, 3) := by
  rw [pk_0, scan_cut (fun i => g (A + i)) t (L - A) 0 0 (by omega) (by simpa using ht) (fun h => by omega) (fun j hj => ?_) (by omega)]
  show g (A + (0 + j)) = lf (enc t) j
  rw [Nat.zero_add, hl (A + j) (by omega) (by rw [List.length_append, List.length_append]; omega), hA, lf_right, lf_left (by omega)]
theorem unf_two (n : Nat) : unf (n * 2) = (n : Int) := by rw [← fold_nat, unf_fold]
theorem lf_sb (s : ByteArray) (i : Nat) (h : i < s.size) : lf (sb s) i = bt s i := lf_tab h

/-- What Num and Text tell at item k's place. -/
theorem num_here {g : Nat → Nat} {L k n : Nat} {N : Nat → Int} {T : Nat → ByteArray} (hN : ∀ i, i < n → -9223372036854775808 ≤ N i ∧ N i ≤ 9223372036854775807) (hk : k < n) (hag : Agree g L (wrs N T n)) (hL : (wrs N T k).length ≤ L) :
    (pk g L (wrs N T k).length 0 = (fold (N k), (enc (fold (N k))).length, 0) ∧ (wrs N T k).length + (enc (fold (N k))).length ≤ L) ∨ (pk g L (wrs N T k).length 0 = (0, 0, 3) ∧ L < (wrs N T n).length) := by
  obtain ⟨r, hr⟩ := wrs_split N T n k hk
  have hf := fold_lt (hN k hk).1 (hN k hk).2
  rw [hr] at hag ⊢
  unfold wr1 at hag ⊢
  rw [List.append_assoc] at hag ⊢
  by_cases h : (wrs N T k).length + (enc (fold (N k))).length ≤ L
  · exact .inl ⟨pk_of hag rfl hf h, h⟩
  · refine .inr ⟨pk_cut hag rfl hf hL (by omega), ?_⟩
    rw [List.length_append, List.length_append]; omega
theorem text_here {g : Nat → Nat} {L k n : Nat} {N : Nat → Int} {T : Nat → ByteArray} (hT : ∀ i, i < n → (T i).size ≤ 100) (hk : k < n) (hag : Agree g L (wrs N T n)) (hL : (wrs N T k).length + (enc (fold (N k))).length ≤ L) :
    (txt g L ((wrs N T k).length + (enc (fold (N k))).length) 0 100 = (T k, (wrs N T (k + 1)).length, 0) ∧ (wrs N T (k + 1)).length ≤ L) ∨ (txt g L ((wrs N T k).length + (enc (fold (N k))).length) 0 100 = (⟨#[]⟩, (wrs N T k).length + (enc (fold (N k))).length, 3) ∧ L < (wrs N T n).length) := by
  obtain ⟨r, hr⟩ := wrs_split N T n k hk
  have hs := hT k hk
  have hu : (T k).size * 2 < 18446744073709551616 := by omega
  have e1 : wrs N T n = (wrs N T k ++ enc (fold (N k))) ++ (enc ((T k).size * 2) ++ (sb (T k) ++ r)) := by
    rw [hr]; unfold wr1; simp
  have e2 : (wrs N T (k + 1)).length = (wrs N T k).length + (enc (fold (N k))).length + (enc ((T k).size * 2)).length + (T k).size := by
    show (wrs N T k ++ wr1 (N k) (T k)).length = _
    unfold wr1
    rw [List.length_append, List.length_append, List.length_append, sb_length]; omega
  have e3 : (wrs N T n).length = (wrs N T k).length + (enc (fold (N k))).length + (enc ((T k).size * 2)).length + (T k).size + r.length := by
    rw [e1]; simp only [List.length_append, sb_length]; omega
  have hag1 := hag
  rw [e1] at hag1
  have hA : (wrs N T k).length + (enc (fold (N k))).length = (wrs N T k ++ enc (fold (N k))).length := by rw [List.length_append]
  by_cases h : (wrs N T k).length + (enc (fold (N k))).length + (enc ((T k).size * 2)).length ≤ L
  · have hp := pk_of hag1 hA hu h
    by_cases h2 : (wrs N T k).length + (enc (fold (N k))).length + (enc ((T k).size * 2)).length + (T k).size ≤ L
    · refine .inl ⟨?_, by omega⟩
      rw [txt_ok hp (unf_two _) (by rw [unf_two]; omega) h2, e2]
      congr 1
      refine str_ext (mkS_size _ _) (fun i hi => ?_)
      rw [mkS_size] at hi
      have e4 : g ((wrs N T k).length + (enc (fold (N k))).length + (enc ((T k).size * 2)).length + i) = bt (T k) i := by
        rw [hag1 _ (by omega) (by rw [← e1, e3]; omega), hA, Nat.add_assoc, lf_right, lf_right, lf_left (by rw [sb_length]; exact hi), lf_sb _ _ hi]
      rw [bt_mkS (by rw [e4]; exact bt_lt _ _) hi, e4]
    · refine .inr ⟨txt_short hp (by rw [unf_two]; omega) (by rw [unf_two]; omega), by omega⟩
  · refine .inr ⟨txt_err (pk_cut hag1 hA hu hL (by omega)) (by decide), by omega⟩
/-- A text of at most a hundred bytes. -/
def cut100 (s : ByteArray) : ByteArray := if 100 < s.size then s.extract 0 100 else s
theorem cut100_le (s : ByteArray) : (cut100 s).size ≤ 100 := by
  unfold cut100; split
  · rw [ByteArray.size_extract]; omega
  · omega
end Go.Proofs.Ytihghccjcicbeaa
