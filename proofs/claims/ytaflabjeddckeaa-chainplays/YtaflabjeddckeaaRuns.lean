/-
  CHAINRUNS walked.
-/
import Derived.Test.YtaflabjeddckeaaPut
namespace Go.Proofs.Ytaflabjeddckeaa
open Go.RowKit

/-- string(b), of bytes that lie in a block. -/
theorem conv_n (w : World) (p n c : Nat) (f : Nat → Nat) (h : ∀ i, i < n → w.cell? ⟨p, i, none⟩ = some (.int .u8 ((f i : Nat) : Int))) : (convert 25 9 (.slice (some ⟨p, 0, none⟩) n c)).run Try.prog w = .ok (.string (mkS f n)) w := by
  rw [run_convert_bytes_arg w 25 5 under25 under5 p 0 n c ((List.range n).map fun i => ((f i : Nat) : Int)) (by simp) (fun i hi => by
      rw [Nat.zero_add, h i hi]; simp [List.getD_eq_getElem?_getD, hi]) 9 under9]
  unfold strOfNums mkS
  simp
/-- A key that is new: the buckets' numbers behind its Put. -/
def A.nxt (a : A) : A := ({ a.step with keys := a.keys + 1 } : A).grow
theorem A.put_new {a : A} {k : ByteArray} {v : Int} (h : a.F k = none) : a.put k v = { a.nxt with F := setF a.F k (some v) } := by
  unfold A.put A.nxt A.set
  rw [h]
  simp only [Option.isSome_none, Bool.false_eq_true, if_false, A.step_F]
  unfold A.grow
  simp only
  split <;> rfl
theorem A.put_old {a : A} {k : ByteArray} {v : Int} (h : (a.F k).isSome = true) : a.put k v = { a.step with F := setF a.F k (some v) } := by
  unfold A.put A.set
  rw [h, A.step_F, ← A.step_keys a]; simp
theorem A.nxt_F (a : A) (F : ByteArray → Option Int) : ({ a with F := F } : A).nxt = { a.nxt with F := F } := by
  have h1 : ({ a with F := F } : A).step = { a.step with F := F } := by
    unfold A.step
    by_cases h : a.m = 0
    · rw [if_pos h, if_pos h]
    · rw [if_neg h, if_neg h]
      by_cases h' : a.mv + 1 = a.m
      · rw [if_pos h', if_pos h']
      · rw [if_neg h', if_neg h']
  have h2 : ∀ b : A, ({ b with F := F } : A).grow = { b.grow with F := F } := by
    intro b
    unfold A.grow
    by_cases h : b.m = 0 ∧ 2 * (b.n : Int) < b.keys ∧ b.n < 4096
    · rw [if_pos h, if_pos h]
    · rw [if_neg h, if_neg h]
  unfold A.nxt
  rw [h1]
  exact h2 { a.step with keys := a.keys + 1 }
/-- The numbers behind so many new keys. -/
def nA : Nat → A
  | 0 => A0
  | i + 1 => (nA i).nxt
/-- The key of one byte. -/
def ky (i : Nat) : ByteArray := mkS (fun _ => 97 + i) 1
theorem ky_inj {i j : Nat} (hi : i < 100) (hj : j < 100) (h : ky i = ky j) : i = j := by
  have h1 : bt (ky i) 0 = 97 + i := bt_mkS (by omega) (by omega)
  have h2 : bt (ky j) 0 = 97 + j := bt_mkS (by omega) (by omega)
  rw [h] at h1
  omega
/-- The map behind so many keys. -/
def fA : Nat → ByteArray → Option Int
  | 0 => fun _ => none
  | i + 1 => setF (fA i) (ky i) (some (i : Int))
theorem fA_new : ∀ (i : Nat) {j : Nat}, i ≤ j → j < 100 → fA i (ky j) = none
  | 0, _, _, _ => rfl
  | i + 1, j, h, hj => by
    show setF (fA i) (ky i) _ _ = _
    rw [setF_other _ _ _ (fun e => by have := ky_inj hj (by omega) e; omega)]
    exact fA_new i (by omega) hj
/-- The chain behind so many keys. -/
def sA (i : Nat) : A := { nA i with F := fA i }
theorem sA_put (i : Nat) (hi : i < 100) : (sA i).put (ky i) (i : Int) = sA (i + 1) := by
  unfold sA
  rw [A.put_new (fA_new i (Nat.le_refl _) hi), A.nxt_F]; rfl
theorem sA_put' (i j : Nat) (v : Int) (hi : i < 100) (hv : v = (i : Int)) (hj : j = i + 1) : (sA i).put (ky i) v = sA j := by
  subst hv hj; exact sA_put i hi
theorem nA_keys : ∀ i, (nA i).keys = (i : Int)
  | 0 => rfl
  | i + 1 => by
    show (A.grow _).keys = _
    rw [A.grow_keys]
    show (nA i).keys + 1 = _
    rw [nA_keys i]; omega
theorem sA_n (i : Nat) : (sA i).n = (nA i).n := rfl
theorem sA_m (i : Nat) : (sA i).m = (nA i).m := rfl
theorem sA_mv (i : Nat) : (sA i).mv = (nA i).mv := rfl
theorem sA_keys (i : Nat) : (sA i).keys = (i : Int) := nA_keys i
theorem sA_new (i : Nat) (hi : i < 100) : (!((sA i).F (ky i)).isSome) = true := by
  have h : (sA i).F (ky i) = none := fA_new i (Nat.le_refl _) hi
  rw [h]; rfl
theorem sA_in (i : Nat) (hi : i < 100) : ((sA (i + 1)).F (ky 0)).isSome = true := by
  show (fA (i + 1) (ky 0)).isSome = true
  induction i with
  | zero => show (setF (fA 0) (ky 0) _ (ky 0)).isSome = true; rw [setF_same]; rfl
  | succ i ih =>
    show (setF (fA (i + 1)) (ky (i + 1)) _ (ky 0)).isSome = true
    rw [setF_other _ _ _ (fun e => by have := ky_inj (by omega) hi e; omega)]
    exact ih (by omega)
theorem nA9 : (nA 9).n = 8 ∧ (nA 9).m = 4 ∧ (nA 9).mv = 0 := ⟨by kernel_rfl, by kernel_rfl, by kernel_rfl⟩
theorem nA10 : (nA 10).n = 8 ∧ (nA 10).m = 4 ∧ (nA 10).mv = 1 := ⟨by kernel_rfl, by kernel_rfl, by kernel_rfl⟩
theorem hs_nil : hs ⟨#[]⟩ = 2166136261 := rfl
theorem hs_a : hs ⟨#[97]⟩ = hx 2166136261 97 := rfl
theorem ky9 : ky 9 = ⟨#[106]⟩ := by kernel_rfl
theorem ky0 : ky 0 = ⟨#[97]⟩ := by kernel_rfl
def o0 : Nat → Nat × Nat := fun _ => (0, 0)
set_option maxHeartbeats 400000 in
theorem runs_any (w : World) : Calls Try.prog 3 #[] w fun e w' => e = .returned (.bool true) ∧ Below w.heap.size w w' := by
  go_enter Try.func3, Try.ntmps3
  go_wp2_with fail
  refine (new_any 1 _ o0).mono ?_
  rintro e w1 ⟨C, o1, rfl, I1, F1⟩
  have HI1 : Hid (IsChain w1 o1 1 C (sA 0)) := I1
  have HF1 : Hid (Fr (fun t => t.1 = 1) o0 o1 w w1) := F1.mono (fun _ h => h.elim)
  clear I1 F1
  go_wp2_with fail
  go_loopw [2] (fun y wr => ∃ (i : Nat) (o2 : Nat → Nat × Nat), i ≤ 9 ∧ y = .int .i64 (i : Int) ∧ Hid (IsChain wr o2 1 C (sA i)) ∧ Hid (Fr (fun t => t.1 = 1) o0 o2 w wr)) (fun y _ => 9 - (intOf y).toNat)
  case atStart => exact ⟨0, o1, by omega, rfl, HI1, HF1⟩
  case round =>
    clear HI1 HF1
    obtain ⟨i, o2, hi, rfl, HI, HF⟩ := hrel
    by_cases hlt : i < 9
    · have hi1 : (i : Int) < 9 := by omega
      have hcv := conv_n (wr.alloc (.cells #[.int .u8 (97 + (i : Int))] 5)) wr.heap.size 1 1 (fun _ => 97 + i) (fun j hj => by
        have : j = 0 := by omega
        subst this
        rw [World.cell?_alloc_new]
        show some (Value.int .u8 (97 + (i : Int))) = _
        congr 2)
      have B1 : Below wr.heap.size wr (wr.alloc (.cells #[.int .u8 (97 + (i : Int))] 5)) := (Below.refl _ _).alloc (Nat.le_refl _) _
      have HI1 : Hid (IsChain (wr.alloc (.cells #[.int .u8 (97 + (i : Int))] 5)) o2 1 C (sA i)) := HI.out.below B1
      have HF1 : Hid (Fr (fun t => t.1 = 1) o0 o2 w (wr.alloc (.cells #[.int .u8 (97 + (i : Int))] 5))) := HF.out.trans (Fr.ofBelow _ o2 B1)
      clear B1 HI HF
      go_wp2_with fail
      have hkk : (sA i).keys = (i : Int) := sA_keys i
      refine (put_any 1 C (sA i) (ky i) (i : Int) (by unfold ky; rw [mkS_size]; omega) (by rw [hkk]; omega) (by rw [hkk]; omega) _ o2 HI1.out).mono ?_
      rintro e w2 ⟨rfl, o3, I3, F3⟩
      rw [sA_put i (by omega)] at I3
      rw [sA_new i (by omega)]
      have HI3 : Hid (IsChain w2 o3 1 C (sA (i + 1))) := I3
      have HF3 : Hid (Fr (fun t => t.1 = 1) o0 o3 w w2) := HF1.out.trans F3
      clear I3 F3 HI1 HF1 hcv hkk
      go_wp2_with fail
      exact ⟨⟨i + 1, o3, by omega, by go_num, HI3, HF3⟩, by simp [intOf]; omega⟩
    · have hi9 : i = 9 := by omega
      subst hi9
      go_wp2_with fail
      refine (shape_any 1 C (sA 9) _ o2 HI.out).mono ?_
      rintro e w2 ⟨rfl, B2⟩
      rw [sA_n, sA_m, sA_mv, nA9.1, nA9.2.1, nA9.2.2]
      have HI2 : Hid (IsChain w2 o2 1 C (sA 9)) := HI.out.below B2
      have HF2 : Hid (Fr (fun t => t.1 = 1) o0 o2 w w2) := HF.out.trans (Fr.ofBelow _ o2 B2)
      clear B2 HI HF
      go_wp2_with fail
      have hkk : (sA 9).keys = 9 := by rw [sA_keys]; rfl
      rw [← ky9]
      refine (put_any 1 C (sA 9) (ky 9) 9 (by unfold ky; rw [mkS_size]; omega) (by rw [hkk]; omega) (by rw [hkk]; omega) _ o2 HI2.out).mono ?_
      rintro e w3 ⟨rfl, o3, I3, F3⟩
      rw [sA_put' 9 10 9 (by omega) rfl rfl] at I3
      rw [sA_new 9 (by omega)]
      have HI3 : Hid (IsChain w3 o3 1 C (sA 10)) := I3
      have HF3 : Hid (Fr (fun t => t.1 = 1) o0 o3 w w3) := HF2.out.trans F3
      clear I3 F3 HI2 HF2 hkk
      go_wp2_with fail
      refine (shape_any 1 C (sA 10) _ o3 HI3.out).mono ?_
      rintro e w4 ⟨rfl, B4⟩
      rw [sA_n, sA_m, sA_mv, nA10.1, nA10.2.1, nA10.2.2]
      have HI4 : Hid (IsChain w4 o3 1 C (sA 10)) := HI3.out.below B4
      have HF4 : Hid (Fr (fun t => t.1 = 1) o0 o3 w w4) := HF3.out.trans (Fr.ofBelow _ o3 B4)
      clear B4 HI3 HF3
      go_wp2_with fail
      have hkk : (sA 10).keys = 10 := by rw [sA_keys]; rfl
      rw [← ky0]
      refine (put_any 1 C (sA 10) (ky 0) 5 (by unfold ky; rw [mkS_size]; omega) (by rw [hkk]; omega) (by rw [hkk]; omega) _ o3 HI4.out).mono ?_
      rintro e w5 ⟨rfl, o5, I5, F5⟩
      have hin : ((sA 10).F (ky 0)).isSome = true := sA_in 9 (by omega)
      have hk5 : ((sA 10).put (ky 0) 5).keys = 10 := by rw [A.put_keys, hin]; exact hkk
      rw [hin]
      have HI5 : Hid (IsChain w5 o5 1 C ((sA 10).put (ky 0) 5)) := I5
      have HF5 : Hid (Fr (fun t => t.1 = 1) o0 o5 w w5) := HF4.out.trans F5
      have HK5 : Hid (((sA 10).put (ky 0) 5).keys = 10) := hk5
      clear I5 F5 HI4 HF4 hkk hin hk5
      go_wp2_with fail
      refine (hash_any ⟨#[]⟩ (by decide) _).mono ?_
      rintro e w6 ⟨rfl, rfl⟩
      rw [hs_nil]
      go_wp2_with fail
      refine (hash_any ⟨#[97]⟩ (by decide) _).mono ?_
      rintro e w6 ⟨rfl, rfl⟩
      go_wp2_with fail
      refine (hash_any ⟨#[]⟩ (by decide) _).mono ?_
      rintro e w6 ⟨rfl, rfl⟩
      rw [hs_nil]
      have he : (hs ⟨#[97]⟩ == bits .xor .u32 2166136261 97 * 16777619 % 4294967296) = true := by rw [hs_a]; unfold hx; simp
      obtain ⟨z, hz⟩ : ∃ z, z = hs ⟨#[97]⟩ := ⟨_, rfl⟩
      rw [← hz] at he ⊢
      clear hz
      go_wp2_with fail
      refine (len_any 1 C _ _ o5 HI5.out).mono ?_
      rintro e w6 ⟨rfl, rfl⟩
      rw [HK5.out]
      go_wp2_with fail
      go_ret
      exact ⟨rfl, HF5.out.below (N := w.heap.size) (Nat.le_refl _) (fun b _ e => by cases e)⟩
end Go.Proofs.Ytaflabjeddckeaa
