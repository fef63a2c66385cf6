/-
  CHAINGROWS walked.
-/
import Derived.Test.YtaflabjeddckeaaHashes
namespace Go.Proofs.Ytaflabjeddckeaa
open Go.RowKit

theorem tmod_bd (n : Int) (h : Nat) : -((h : Int) + 1) < n.tmod ((h : Int) + 1) ∧ n.tmod ((h : Int) + 1) < (h : Int) + 1 := by
  have h1 := Int.tmod_lt_of_pos n (show (0 : Int) < (h : Int) + 1 by omega)
  have h2 := Int.lt_tmod_of_pos n (show (0 : Int) < (h : Int) + 1 by omega)
  exact ⟨h2, h1⟩
set_option maxHeartbeats 400000 in
/-- Within: a number of the bounds. -/
theorem within_any (n L H : Int) (hL : -1000 ≤ L) (hLH : L ≤ H) (hH : H ≤ 100000000) (w : World) :
    Calls Try.prog 23 #[.int .i64 n, .int .i64 L, .int .i64 H] w fun e w' => (∃ r : Int, e = .returned (.int .i64 r) ∧ L ≤ r ∧ r ≤ H) ∧ w = w' := by
  obtain ⟨d, hd⟩ : ∃ d : Nat, H - L = (d : Int) := ⟨(H - L).toNat, by omega⟩
  have hHL : H = L + (d : Int) := by omega
  subst hHL
  clear hd
  obtain ⟨q1, q2⟩ := tmod_bd n d
  obtain ⟨q, hq⟩ : ∃ q, n.tmod ((d : Int) + 1) = q := ⟨_, rfl⟩
  rw [hq] at q1 q2
  have e1 : L + (d : Int) - L + 1 = (d : Int) + 1 := by omega
  have hne : ((d : Int) + 1 == 0) = false := by simp; omega
  have hne2 : ¬ ((d : Int) + 1 = -1) := by omega
  have hne3 : ¬ ((d : Int) + 1 = 0) := by omega
  by_cases q0 : q < 0
  · go_enter Try.func23, Try.ntmps23
    go_wp2
    go_ret
    exact ⟨⟨L + (q + d + 1), ret_int (by omega), by omega, by omega⟩, rfl⟩
  · go_enter Try.func23, Try.ntmps23
    go_wp2
    go_ret
    exact ⟨⟨L + q, ret_int (by omega), by omega, by omega⟩, rfl⟩
/-- Two bytes as a key's end. -/
def g2 (i : Nat) : ByteArray := mkS (fun j => if j = 0 then i % 256 else i / 256) 2
def gk (i : Nat) : ByteArray := ⟨#[107]⟩ ++ g2 i
theorem gk_size (i : Nat) : (gk i).size = 3 := by
  unfold gk g2; rw [ByteArray.size_append, mkS_size]; rfl
theorem gk_inj {i j : Nat} (hi : i < 65536) (hj : j < 65536) (h : gk i = gk j) : i = j := by
  have b1 : ∀ i, i < 65536 → bt (gk i) 1 = i % 256 := fun i hi => by
    unfold gk; rw [bt_app]; show bt (g2 i) 0 = _
    unfold g2; rw [bt_mkS (by simp; omega) (by omega)]; rfl
  have b2 : ∀ i, i < 65536 → bt (gk i) 2 = i / 256 := fun i hi => by
    unfold gk; rw [bt_app]; show bt (g2 i) 1 = _
    unfold g2; rw [bt_mkS (by simp; omega) (by omega)]; rfl
  have h1 := b1 i hi
  have h2 := b2 i hi
  rw [h, b1 j hj] at h1
  rw [h, b2 j hj] at h2
  omega
def gF : Nat → ByteArray → Option Int
  | 0 => fun _ => none
  | i + 1 => setF (gF i) (gk i) (some (i : Int))
theorem gF_new : ∀ (i : Nat) {j : Nat}, i ≤ j → j < 1000 → gF i (gk j) = none
  | 0, _, _, _ => rfl
  | i + 1, j, h, hj => by
    show setF (gF i) (gk i) _ _ = _
    rw [setF_other _ _ _ (fun e => by have := gk_inj (by omega) (by omega) e; omega)]
    exact gF_new i (by omega) hj
theorem gF_old : ∀ (i : Nat) {j : Nat}, j < i → i < 1000 → gF i (gk j) = some (j : Int)
  | i + 1, j, h, hi => by
    show setF (gF i) (gk i) _ _ = _
    by_cases e : j = i
    · subst e; rw [setF_same]
    · rw [setF_other _ _ _ (fun e' => e (gk_inj (by omega) (by omega) e'))]
      exact gF_old i (by omega) (by omega)
def gA (i : Nat) : A := { nA i with F := gF i }
theorem gA_put (i : Nat) (hi : i < 1000) : (gA i).put (gk i) (i : Int) = gA (i + 1) := by
  unfold gA
  rw [A.put_new (gF_new i (Nat.le_refl _) hi), A.nxt_F]; rfl
theorem gA_new (i : Nat) (hi : i < 1000) : (!((gA i).F (gk i)).isSome) = true := by
  have h : (gA i).F (gk i) = none := gF_new i (Nat.le_refl _) hi
  rw [h]; rfl
theorem gA_keys (i : Nat) : (gA i).keys = (i : Int) := nA_keys i
/-- The numbers behind one new key more. -/
def InvN (i n m mv : Nat) : Prop := 0 < n ∧ n ≤ i + 4 ∧ (m = 0 ∧ i ≤ 2 * n ∨ 2 * m = n ∧ mv < m ∧ i ≤ n + 1 + mv)
theorem InvN.grow {i n m mv : Nat} {F : ByteArray → Option Int} (hi : i ≤ 1000) (h : 0 < n ∧ n ≤ i + 4 ∧ (m = 0 ∧ i ≤ 2 * n + 1 ∨ 2 * m = n ∧ mv < m ∧ i ≤ n + 1 + mv)) : InvN i (A.grow ⟨n, m, mv, (i : Int), F⟩).n (A.grow ⟨n, m, mv, (i : Int), F⟩).m (A.grow ⟨n, m, mv, (i : Int), F⟩).mv := by
  unfold A.grow InvN
  by_cases hg : m = 0 ∧ 2 * (n : Int) < (i : Int) ∧ n < 4096
  · rw [if_pos hg]
    obtain ⟨g1, g2, g3⟩ := hg
    show 0 < 2 * n ∧ 2 * n ≤ i + 4 ∧ (n = 0 ∧ i ≤ 2 * (2 * n) ∨ 2 * n = 2 * n ∧ 0 < n ∧ i ≤ 2 * n + 1 + 0)
    omega
  · rw [if_neg hg]
    show 0 < n ∧ n ≤ i + 4 ∧ (m = 0 ∧ i ≤ 2 * n ∨ 2 * m = n ∧ mv < m ∧ i ≤ n + 1 + mv)
    have : ¬ (m = 0) ∨ ¬ (2 * (n : Int) < (i : Int)) ∨ ¬ (n < 4096) := by
      by_cases g1 : m = 0
      · by_cases g2 : 2 * (n : Int) < (i : Int)
        · exact .inr (.inr (fun g3 => hg ⟨g1, g2, g3⟩))
        · exact .inr (.inl g2)
      · exact .inl g1
    omega
theorem nA_inv : ∀ i, i ≤ 1000 → InvN i (nA i).n (nA i).m (nA i).mv
  | 0, _ => ⟨by decide, by decide, .inl ⟨rfl, by omega⟩⟩
  | i + 1, hi => by
    obtain ⟨h1, h2, h3⟩ := nA_inv i (by omega)
    have hk := nA_keys i
    show InvN _ ((nA i).nxt).n ((nA i).nxt).m ((nA i).nxt).mv
    obtain ⟨a, ha⟩ : ∃ a, a = nA i := ⟨_, rfl⟩
    rw [← ha] at h1 h2 h3 hk ⊢
    obtain ⟨n, m, mv, keys, F⟩ := a
    have hk : keys = (i : Int) := hk
    have h1 : 0 < n := h1
    have h2 : n ≤ i + 4 := h2
    have h3 : m = 0 ∧ i ≤ 2 * n ∨ 2 * m = n ∧ mv < m ∧ i ≤ n + 1 + mv := h3
    subst hk
    have hc : (i : Int) + 1 = ((i + 1 : Nat) : Int) := by omega
    unfold A.nxt A.step
    by_cases hm : m = 0
    · rw [if_pos hm]
      show InvN _ (A.grow ⟨n, m, mv, (i : Int) + 1, F⟩).n (A.grow ⟨n, m, mv, (i : Int) + 1, F⟩).m (A.grow ⟨n, m, mv, (i : Int) + 1, F⟩).mv
      rw [hc]; exact InvN.grow hi (by omega)
    · rw [if_neg hm]
      by_cases hl : mv + 1 = m
      · rw [if_pos hl]
        show InvN _ (A.grow ⟨n, 0, 0, (i : Int) + 1, F⟩).n (A.grow ⟨n, 0, 0, (i : Int) + 1, F⟩).m (A.grow ⟨n, 0, 0, (i : Int) + 1, F⟩).mv
        rw [hc]; exact InvN.grow hi (by omega)
      · rw [if_neg hl]
        show InvN _ (A.grow ⟨n, m, mv + 1, (i : Int) + 1, F⟩).n (A.grow ⟨n, m, mv + 1, (i : Int) + 1, F⟩).m (A.grow ⟨n, m, mv + 1, (i : Int) + 1, F⟩).mv
        rw [hc]; exact InvN.grow hi (by omega)
theorem g2_cells (w : World) (i : Nat) : ∀ j, j < 2 → (w.alloc (.cells #[.int .u8 ((i : Int) % 256), .int .u8 ((i : Int) / 256)] 5)).cell? ⟨w.heap.size, j, none⟩ = some (.int .u8 (((if j = 0 then i % 256 else i / 256) : Nat) : Int)) := by
  intro j hj
  rw [World.cell?_alloc_new]
  have : j = 0 ∨ j = 1 := by omega
  rcases this with rfl | rfl
  · show some (Value.int .u8 ((i : Int) % 256)) = _
    congr 2
  · show some (Value.int .u8 ((i : Int) / 256)) = _
    congr 2
theorem gA_n (i : Nat) : (gA i).n = (nA i).n := rfl
theorem gA_m (i : Nat) : (gA i).m = (nA i).m := rfl
theorem gA_mv (i : Nat) : (gA i).mv = (nA i).mv := rfl
set_option maxHeartbeats 1000000 in
theorem grows_any (n : Int) (w : World) : Calls Try.prog 6 #[.int .i64 n] w fun e w' => e = .returned (.bool true) ∧ Below w.heap.size w w' := by
  go_enter Try.func6, Try.ntmps6
  go_wp2_with fail
  refine (new_any 1 _ o0).mono ?_
  rintro e w1 ⟨C, o1, rfl, I1, F1⟩
  have HI1 : Hid (IsChain w1 o1 1 C (gA 0)) := I1
  have HF1 : Hid (Fr (fun t => t.1 = 1) o0 o1 w w1) := F1.mono (fun _ h => h.elim)
  clear I1 F1
  go_wp2_with fail
  refine (within_any n 0 300 (by omega) (by omega) (by omega) _).mono ?_
  rintro e w2 ⟨⟨r, rfl, hr0, hr1⟩, rfl⟩
  obtain ⟨k, rfl⟩ : ∃ k : Nat, r = (k : Int) := ⟨r.toNat, by omega⟩
  go_wp2_with fail
  go_loopw [5] (fun y wr => ∃ (i : Nat) (o2 : Nat → Nat × Nat), i ≤ k ∧ y = .int .i64 (i : Int) ∧ Hid (IsChain wr o2 1 C (gA i)) ∧ Hid (Fr (fun t => t.1 = 1) o0 o2 w wr)) (fun y _ => k - (intOf y).toNat)
  case atStart => exact ⟨0, o1, by omega, rfl, HI1, HF1⟩
  case round =>
    clear HI1 HF1
    obtain ⟨i, o2, hi, rfl, HI, HF⟩ := hrel
    by_cases hlt : i < k
    · have hi1 : (i : Int) < (k : Int) := by omega
      have hcv := conv_n (wr.alloc (.cells #[.int .u8 ((i : Int) % 256), .int .u8 ((i : Int) / 256)] 5)) wr.heap.size 2 2 (fun j => if j = 0 then i % 256 else i / 256) (g2_cells wr i)
      have B1 : Below wr.heap.size wr (wr.alloc (.cells #[.int .u8 ((i : Int) % 256), .int .u8 ((i : Int) / 256)] 5)) := (Below.refl _ _).alloc (Nat.le_refl _) _
      obtain ⟨W1, hW1⟩ : ∃ W1, W1 = wr.alloc (.cells #[.int .u8 ((i : Int) % 256), .int .u8 ((i : Int) / 256)] 5) := ⟨_, rfl⟩
      have HI1 : Hid (IsChain W1 o2 1 C (gA i)) := by rw [hW1]; exact HI.out.below B1
      have HF1 : Hid (Fr (fun t => t.1 = 1) o0 o2 w W1) := by rw [hW1]; exact HF.out.trans (Fr.ofBelow _ o2 B1)
      have hs2 : (g2 i).size = 2 := mkS_size _ _
      rw [show mkS (fun j => if j = 0 then i % 256 else i / 256) 2 = g2 i from rfl] at hcv
      have hlim : ¬ (9223372036854775807 < ByteArray.size ⟨#[107]⟩ + (g2 i).size) := by rw [hs2]; decide
      clear B1 HI HF
      have HW1 : Hid (W1 = wr.alloc (.cells #[.int .u8 ((i : Int) % 256), .int .u8 ((i : Int) / 256)] 5)) := hW1
      clear hW1
      go_wp2_with fail
      rw [← HW1.out]
      have hkk : (gA i).keys = (i : Int) := gA_keys i
      refine (put_any 1 C (gA i) (gk i) (i : Int) (by rw [gk_size]; omega) (by rw [hkk]; omega) (by rw [hkk]; omega) _ o2 HI1.out).mono ?_
      rintro e w2 ⟨rfl, o3, I3, F3⟩
      rw [gA_put i (by omega)] at I3
      rw [gA_new i (by omega)]
      have HI3 : Hid (IsChain w2 o3 1 C (gA (i + 1))) := I3
      have HF3 : Hid (Fr (fun t => t.1 = 1) o0 o3 w w2) := HF1.out.trans F3
      clear I3 F3 HI1 HF1 hcv hkk HW1 hlim hs2
      go_wp2_with fail
      refine (shape_any 1 C (gA (i + 1)) _ o3 HI3.out).mono ?_
      rintro e w3 ⟨rfl, B3⟩
      have HI4 : Hid (IsChain w3 o3 1 C (gA (i + 1))) := HI3.out.below B3
      have HF4 : Hid (Fr (fun t => t.1 = 1) o0 o3 w w3) := HF3.out.trans (Fr.ofBelow _ o3 B3)
      clear B3 HI3 HF3
      obtain ⟨i1, i2, i3⟩ := nA_inv (i + 1) (by omega)
      rw [gA_n, gA_m, gA_mv]
      obtain ⟨N, hN⟩ : ∃ N, N = (nA (i + 1)).n := ⟨_, rfl⟩
      obtain ⟨M, hM⟩ : ∃ M, M = (nA (i + 1)).m := ⟨_, rfl⟩
      obtain ⟨V, hV⟩ : ∃ V, V = (nA (i + 1)).mv := ⟨_, rfl⟩
      rw [← hN, ← hM, ← hV]
      rw [← hN] at i1 i2 i3
      rw [← hM, ← hV] at i3
      clear hN hM hV
      have k5 : (i : Int) ≤ 3 * (N : Int) := by omega
      have k6 : M ≤ 1000 := by omega
      have hlen := gA_keys (i + 1)
      by_cases hM0 : M = 0
      · subst hM0
        clear i3
        go_wp2_with fail
        refine (len_any 1 C (gA (i + 1)) _ o3 HI4.out).mono ?_
        rintro e w4 ⟨rfl, rfl⟩
        rw [hlen, show ((i + 1 : Nat) : Int) = (i : Int) + 1 by omega]
        clear hlen
        go_wp2_with fail
        exact ⟨⟨i + 1, o3, by omega, by go_num, HI4, HF4⟩, by simp [intOf]; omega⟩
      · have k1 : ((M : Int) != 0) = true := by simp; omega
        have k2 : (2 * (M : Int) != (N : Int)) = false := by simp; omega
        have k3 : decide ((V : Int) < 0) = false := by simp
        have k4 : decide (M ≤ V) = false := by simp; omega
        clear i3
        go_wp2_with fail
        refine (len_any 1 C (gA (i + 1)) _ o3 HI4.out).mono ?_
        rintro e w4 ⟨rfl, rfl⟩
        rw [hlen, show ((i + 1 : Nat) : Int) = (i : Int) + 1 by omega]
        clear hlen
        go_wp2_with fail
        exact ⟨⟨i + 1, o3, by omega, by go_num, HI4, HF4⟩, by simp [intOf]; omega⟩
    · have hi9 : decide ((i : Int) < (k : Int)) = false := by simp; omega
      have hik : i = k := by omega
      subst hik
      clear hlt hi
      go_wp2_with fail
      go_loopw [9] (fun y wr => ∃ (j : Nat), j ≤ i ∧ y = .int .i64 (j : Int) ∧ Hid (IsChain wr o2 1 C (gA i)) ∧ Hid (Fr (fun t => t.1 = 1) o0 o2 w wr)) (fun y _ => i - (intOf y).toNat)
      case atStart => exact ⟨0, by omega, rfl, HI, HF⟩
      case round =>
        clear HI HF
        obtain ⟨j, hj, rfl, HI, HF⟩ := hrel
        by_cases hlt : j < i
        · have hi1 : (j : Int) < (i : Int) := by omega
          have hcv := conv_n (wr.alloc (.cells #[.int .u8 ((j : Int) % 256), .int .u8 ((j : Int) / 256)] 5)) wr.heap.size 2 2 (fun q => if q = 0 then j % 256 else j / 256) (g2_cells wr j)
          have B1 : Below wr.heap.size wr (wr.alloc (.cells #[.int .u8 ((j : Int) % 256), .int .u8 ((j : Int) / 256)] 5)) := (Below.refl _ _).alloc (Nat.le_refl _) _
          obtain ⟨W1, hW1⟩ : ∃ W1, W1 = wr.alloc (.cells #[.int .u8 ((j : Int) % 256), .int .u8 ((j : Int) / 256)] 5) := ⟨_, rfl⟩
          have HI1 : Hid (IsChain W1 o2 1 C (gA i)) := by rw [hW1]; exact HI.out.below B1
          have HF1 : Hid (Fr (fun t => t.1 = 1) o0 o2 w W1) := by rw [hW1]; exact HF.out.trans (Fr.ofBelow _ o2 B1)
          have hs2 : (g2 j).size = 2 := mkS_size _ _
          rw [show mkS (fun q => if q = 0 then j % 256 else j / 256) 2 = g2 j from rfl] at hcv
          have hlim : ¬ (9223372036854775807 < ByteArray.size ⟨#[107]⟩ + (g2 j).size) := by rw [hs2]; decide
          have HW1 : Hid (W1 = wr.alloc (.cells #[.int .u8 ((j : Int) % 256), .int .u8 ((j : Int) / 256)] 5)) := hW1
          clear hW1 B1 HI HF
          go_wp2_with fail
          rw [← HW1.out]
          refine (get_any 1 C (gA i) (gk j) (by rw [gk_size]; omega) _ o2 HI1.out).mono ?_
          rintro e w2 ⟨rfl, B2⟩
          rw [show (gA i).F (gk j) = some (j : Int) from gF_old i hlt (by omega)]
          have HI3 : Hid (IsChain w2 o2 1 C (gA i)) := HI1.out.below B2
          have HF3 : Hid (Fr (fun t => t.1 = 1) o0 o2 w w2) := HF1.out.trans (Fr.ofBelow _ o2 B2)
          have hq : ((j : Int) != (j : Int)) = false := by simp
          clear B2 HI1 HF1 hcv HW1 hlim hs2
          go_wp2_with fail
          exact ⟨⟨j + 1, by omega, by go_num, HI3, HF3⟩, by simp [intOf]; omega⟩
        · have hj9 : decide ((j : Int) < (i : Int)) = false := by simp; omega
          have hq : ((i : Int) == (i : Int)) = true := by simp
          go_wp2_with fail
          refine (len_any 1 C (gA i) _ o2 HI.out).mono ?_
          rintro e w4 ⟨rfl, rfl⟩
          rw [gA_keys]
          go_wp2_with fail
          refine (runs_any _).mono ?_
          rintro e w5 ⟨rfl, B5⟩
          go_wp2_with fail
          go_ret
          have B := HF.out.below (N := w.heap.size) (Nat.le_refl _) (fun b _ e => by cases e)
          exact ⟨rfl, B.trans (B5.mono B.size)⟩
end Go.Proofs.Ytaflabjeddckeaa
