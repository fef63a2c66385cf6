/-
  PIECES of the program: the value, filled up with noughts, as k rows.
-/
import Derived.Test.YtmhhegkpkncebaaMixed
import Derived.Test.YtmhhegkpkncebaaShelf
namespace Go.Proofs.Ytmhhegkpkncebaa
open Go.RowKit

theorem str_cut (s : ByteArray) (a d : Nat) (h : a + d ≤ s.size) : s.extract a (a + d) = mkS (fun x => bt s (a + x)) d := by
  apply str_ext
  · rw [mkS_size, ByteArray.size_extract]; omega
  · intro i hi
    rw [ByteArray.size_extract] at hi
    rw [bt_mkS (f := fun x => bt s (a + x)) (bt_lt _ _) (by omega)]
    unfold bt
    rw [ByteArray.data_extract, Array.toList_extract]
    simp only [List.getD_eq_getElem?_getD, List.extract_eq_take_drop]
    rw [List.getElem?_take_of_lt (by omega), List.getElem?_drop]
theorem bt_append (s t : ByteArray) (i : Nat) : bt (s ++ t) i = if i < s.size then bt s i else bt t (i - s.size) := by
  unfold bt
  rw [ByteArray.data_append, Array.toList_append]
  simp only [List.getD_eq_getElem?_getD]
  by_cases h : i < s.size
  · rw [if_pos h, List.getElem?_append_left (by rw [size_len]; exact h)]
  · rw [if_neg h, List.getElem?_append_right (by rw [size_len]; omega), size_len]
theorem bt_noughts (d i : Nat) : bt ⟨(Lib.repeatL [0] d).toArray⟩ i = 0 := by
  unfold bt
  have : ∀ d, ∀ i, (Lib.repeatL [0] d).getD i 0 = 0 := by
    intro d
    induction d with
    | zero => intro i; rfl
    | succ d ih =>
      intro i
      rcases i with _ | i
      · rfl
      · show (0 :: Lib.repeatL [0] d).getD (i + 1) 0 = 0
        rw [List.getD_cons_succ]; exact ih i
  show ((Lib.repeatL [0] d).getD i 0).toNat = 0
  rw [this]; rfl
theorem size_noughts (d : Nat) : (⟨(Lib.repeatL [0] d).toArray⟩ : ByteArray).size = d := by
  show (Lib.repeatL [0] d).length = d
  rw [Lib.repeatL_length]; simp

/-- The piece j of a value. -/
def pieceS (k : Nat) (v : ByteArray) (j : Nat) : ByteArray := mkS (fun x => bt v (j * szk k v.size + x)) (szk k v.size)
theorem szk_le (k n : Nat) (hk : 1 ≤ k) : n ≤ k * szk k n ∧ k * szk k n ≤ n + k - 1 := by
  unfold szk
  have h1 := Nat.div_add_mod (n + k - 1) k
  have h2 := Nat.mod_lt (n + k - 1) (show k > 0 by omega)
  omega

theorem info9 : (Try.prog.info? 9).map (fun i => (i.zero, i.size, i.bytes)) = some (some (.string ⟨#[]⟩), 1, 16) := by kernel_rfl
/-- 'make([]string, n)'. -/
theorem make_strs (w : World) (n : Nat) (h : n ≤ 4096) : ∃ w' cur, (Instr.makeSlice 26 (.int .i64 (n : Int)) (.int .i64 (n : Int))).run Try.prog w = .ok (.slice (some ⟨w.heap.size, 0, none⟩) n n) w' ∧
    w'.heap[w.heap.size]? = some (.cells cur 9 (0, 0)) ∧ cur.size = n ∧ Below w.heap.size w w' := by
  obtain ⟨i0, hi, hz0, hz1, hz2⟩ := info_parts info9
  obtain ⟨w', hrun, own, gr⟩ := run_make_full (P := Try.prog) w w.heap.size 26 9 i0 (.string ⟨#[]⟩) 1 (by kernel_rfl) hi hz0 hz1 .i64 .i64 n (by rw [hz2]; omega) (by unfold maxLen; omega) (Nat.le_refl _)
  have hb : Below w.heap.size w w' := (Below.refl _ _).grown gr (Nat.le_refl _) (fun k e => by cases e)
  rcases own.2 with ⟨h1, _⟩ | ⟨g, cap, cur, h1, _, h3, _, _, h6, _⟩
  · cases h1
  · injection h1 with e1 e2 e3
    injection e1 with e1
    injection e1 with e1 e4 e5
    subst e1 e3
    exact ⟨w', cur, hrun, h3, by omega, hb⟩
/-- A list of n strings of the call's own; the first k are told. -/
def OwnS (w : World) (G n : Nat) (R : Nat → ByteArray) (k : Nat) : Prop := ∃ C, w.heap[G]? = some (.cells C 9 (0, 0)) ∧ C.size = n ∧ ∀ i, i < k → C[i]? = some (.string (R i))
theorem OwnS.strF {w : World} {G n k : Nat} {R : Nat → ByteArray} (h : OwnS w G n R k) : StrF w (some ⟨G, 0, none⟩) R k := by
  obtain ⟨C, h1, _, h2⟩ := h
  exact Or.inr ⟨G, 0, rfl, fun i hi => by rw [Nat.zero_add, cell_of_row w G i C 9 (0, 0) h1]; exact h2 i hi⟩
theorem OwnS.some {w : World} {G n k : Nat} {R : Nat → ByteArray} (h : OwnS w G n R k) {i : Nat} (hi : i < n) : ∃ u, w.cell? ⟨G, i, none⟩ = some u := by
  obtain ⟨C, h1, h2, _⟩ := h
  exact ⟨C[i]'(by omega), by rw [cell_of_row w G i C 9 (0, 0) h1]; simp⟩
theorem OwnS.fz {w : World} {G n k : Nat} {R : Nat → ByteArray} (h : OwnS w G n R k) (i : Nat) : w.frozen? ⟨G, i, none⟩ = false := by
  obtain ⟨C, h1, _⟩ := h
  simp [World.frozen?, h1]
theorem OwnS.up {w w' : World} {G n k : Nat} {R : Nat → ByteArray} (h : OwnS w G n R k) (hb : Below w.heap.size w w') : OwnS w' G n R k := by
  obtain ⟨C, h1, h2⟩ := h
  exact ⟨C, (hb.block G (Array.getElem?_eq_some_iff.1 h1).1).trans h1, h2⟩
theorem OwnS.set {w : World} {G n k : Nat} {R : Nat → ByteArray} (h : OwnS w G n R k) (hk : k < n) : OwnS (w.setCell ⟨G, k, none⟩ (.string (R k))) G n R (k + 1) := by
  obtain ⟨C, h1, h2, h3⟩ := h
  refine ⟨C.setIfInBounds k (.string (R k)), by rw [setCell_eq_setRow w G k C 9 (0, 0) _ h1]; exact setRow_heap w G C _ 9 (0, 0) h1, by simp [h2], fun i hi => ?_⟩
  by_cases e : i = k
  · subst e; rw [Array.getElem?_setIfInBounds_self_of_lt (by omega)]
  · rw [Array.getElem?_setIfInBounds_ne (by omega)]; exact h3 i (by omega)

set_option maxHeartbeats 1000000 in
set_option maxRecDepth 100000 in
theorem pieces_any (b k N : Nat) (v : ByteArray) (hk1 : 1 ≤ k) (hk : k ≤ 8) (hv : v.size ≤ 1048576) (w : World) (hC : IsCode w b k N) :
    Calls Try.prog 29 #[.pointer (some ⟨b, 0, none⟩), .string v] w fun e w' => ∃ G, e = .returned (.slice (some ⟨G, 0, none⟩) k k) ∧ w.heap.size ≤ G ∧ OwnS w' G k (pieceS k v) k ∧ Below w.heap.size w w' := by
  obtain ⟨S, eS⟩ : ∃ S, S = szk k v.size := ⟨_, rfl⟩
  obtain ⟨n, en⟩ : ∃ n, n = v.size := ⟨_, rfl⟩
  obtain ⟨M, eM⟩ : ∃ M, M = k * S := ⟨_, rfl⟩
  have hM1 := szk_le k v.size hk1
  rw [← eS, ← eM, ← en] at hM1
  rw [← en] at hv
  obtain ⟨d, ed⟩ : ∃ d, M = n + d := ⟨M - n, by omega⟩
  have hd : (M : Int) - (n : Int) = (d : Int) := by rw [ed]; omega
  have hd7 : d ≤ 7 := by omega
  have hnM : n ≤ M := by omega
  have hM8 : M ≤ 1048583 := by omega
  have ED : Hid (M = n + d) := ed
  clear hM1 ed
  have hS1 : S ≤ M := by rw [eM]; exact Nat.le_mul_of_pos_left S (by omega)
  have hw : wrap64 ((k : Int) * (S : Int)) = (M : Int) := by
    rw [show (k : Int) * (S : Int) = (M : Int) by rw [eM]; simp]
    unfold wrap64; omega
  have ES : Hid (S = szk k v.size) := eS
  have EN : Hid (n = v.size) := en
  have EM : Hid (M = k * S) := eM
  have HC : Hid (IsCode w b k N) := hC
  have c0 := hC.kcell
  have en' : v.size = n := en.symm
  clear eS en eM hC
  go_enter Try.func29, Try.ntmps29
  go_wp2_with fail
  refine (size_any b k N n _ rfl hk1 hk (by omega) _ HC.out).mono ?_
  rintro e w1 ⟨rfl, rfl⟩
  rw [← en', ← ES.out]
  go_wp2_with fail
  clear hw hd
  refine (Try.strings_Repeat ⟨#[0]⟩ d _ (by omega) (by show 1 * d ≤ _; omega)).mono ?_
  rintro e w1 ⟨rfl, hb1⟩
  obtain ⟨Z, eZ⟩ : ∃ Z : ByteArray, Z = ⟨(Lib.repeatL [0] d).toArray⟩ := ⟨_, rfl⟩
  have hZ1 : Z.size = d := by rw [eZ]; exact size_noughts d
  have hZ2 : ∀ i, bt Z i = 0 := fun i => by rw [eZ]; exact bt_noughts d i
  obtain ⟨F, eF⟩ : ∃ F, F = v ++ Z := ⟨_, rfl⟩
  have hadd : ∀ w, (Op.stringOp .add v Z).run Try.prog w = .ok (.string F) w := fun w => by rw [eF]; exact run_string_add_sum w v Z (by omega)
  have HF1 : Hid (F.size = M) := by show F.size = M; rw [eF, ByteArray.size_append, ED.out]; omega
  have HF2 : Hid (∀ i, bt F i = bt v i) := fun i => by
    rw [eF, bt_append]
    by_cases h : i < v.size
    · rw [if_pos h]
    · rw [if_neg h, hZ2, bt_out (by omega)]
  rw [show (.returned (.string ⟨(Lib.repeatL [0] d).toArray⟩) : Ending) = .returned (.string Z) by rw [eZ]]
  have c1 := (HC.out.up hb1).kcell
  have HB1 : Hid (Below w.heap.size w w1) := hb1
  clear eZ eF hZ1 hZ2 hb1 c0
  go_wp2_with fail
  obtain ⟨w2, cur, hrun, hg, hcs, hb2⟩ := make_strs w1 k (by omega)
  rw [hrun]
  clear hrun
  obtain ⟨G, eG⟩ : ∃ G, G = w1.heap.size := ⟨_, rfl⟩
  have O1 : Hid (OwnS w2 G k (pieceS k v) 0) := ⟨cur, by rw [eG]; exact hg, hcs, fun i hi => by omega⟩
  have HB2 : Hid (Below w.heap.size w w2) := HB1.out.trans (hb2.mono HB1.out.size)
  have hGB : w.heap.size ≤ G := by rw [eG]; exact HB1.out.size
  rw [← eG]
  clear hg hcs hb2 c1 HB1 eG hadd
  go_wp2_with fail
  go_loopw [32] (fun i wr => ∃ t : Nat, t ≤ k ∧ i = .int .i64 (t : Int) ∧ Hid (OwnS wr G k (pieceS k v) t) ∧ Hid (Below w.heap.size w wr)) (fun i _ => k - (intOf i).toNat)
  case atStart => exact ⟨0, by omega, rfl, O1, HB2⟩
  case round =>
    obtain ⟨t, ht, rfl, HO, HB⟩ := hrel
    clear O1 HB2
    by_cases hlt : t < k
    · have hi1 : (t : Int) < (k : Int) := by omega
      obtain ⟨x, ex⟩ : ∃ x, x = t * S := ⟨_, rfl⟩
      have hxs : x + S ≤ M := by
        rw [ex, EM.out, ← Nat.succ_mul]; exact Nat.mul_le_mul_right S hlt
      have M1 : Hid (wrap64 ((t : Int) * (S : Int)) = (x : Int)) := by
        rw [show (t : Int) * (S : Int) = (x : Int) by rw [ex]; simp]
        show wrap64 _ = _
        clear ex
        unfold wrap64; omega
      have M2 : Hid (wrap64 (((t : Int) + 1) * (S : Int)) = ((x + S : Nat) : Int)) := by
        rw [show ((t : Int) + 1) * (S : Int) = ((x + S : Nat) : Int) by rw [ex, ← Nat.succ_mul]; simp]
        show wrap64 _ = _
        clear ex
        unfold wrap64; omega
      have C1 : Hid (0 ≤ wrap64 (((t : Int) + 1) * (S : Int)) ∧ wrap64 (((t : Int) + 1) * (S : Int)) ≤ (F.size : Int)) := by
        show _ ∧ _
        rw [M2.out, HF1.out]; clear ex; omega
      have C2 : Hid (0 ≤ wrap64 ((t : Int) * (S : Int)) ∧ wrap64 ((t : Int) * (S : Int)) ≤ wrap64 (((t : Int) + 1) * (S : Int))) := by
        show _ ∧ _
        rw [M2.out, M1.out]; clear ex; omega
      have hcut : Hid (F.extract (wrap64 ((t : Int) * (S : Int))).toNat (wrap64 (((t : Int) + 1) * (S : Int))).toNat = pieceS k v t) := by
        show _ = _
        rw [M1.out, M2.out, show ((x : Int)).toNat = x by omega, show (((x + S : Nat) : Int)).toNat = x + S by omega, str_cut F x S (by rw [HF1.out]; exact hxs)]
        unfold pieceS
        rw [← ES.out, ← ex]
        rw [mkS_congr (fun i _ => HF2.out (x + i))]
      obtain ⟨u, d1⟩ := HO.out.some hlt
      have d2 := HO.out.fz t
      have O3 : Hid (OwnS (wr.setCell ⟨G, t, none⟩ (.string (pieceS k v t))) G k (pieceS k v) (t + 1)) := HO.out.set hlt
      have B3 : Hid (Below w.heap.size w (wr.setCell ⟨G, t, none⟩ (.string (pieceS k v t)))) := HB.out.setCell hGB _
      clear HO HB ex
      go_wp2_with fail
      rename_i a1 a2
      clear a1 a2
      rw [hcut.out]
      exact ⟨⟨t + 1, by omega, by go_num, O3, B3⟩, by simp [intOf]; omega⟩
    · have htk : t = k := by omega
      subst htk
      have i1 : decide ((t : Int) < (t : Int)) = false := by simp
      go_wp2_with fail
      go_ret
      exact ⟨G, rfl, hGB, HO.out, HB.out⟩
end Go.Proofs.Ytmhhegkpkncebaa
