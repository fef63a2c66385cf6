/-
  CHAINHASHES walked.
-/
import Derived.Test.YtaflabjeddckeaaRuns
namespace Go.Proofs.Ytaflabjeddckeaa
open Go.RowKit

theorem bt_app (k s : ByteArray) (i : Nat) : bt (k ++ s) i = if i < k.size then bt k i else bt s (i - k.size) := by
  have e : (k ++ s).data.toList = k.data.toList ++ s.data.toList := by simp
  unfold bt
  rw [e, List.getD_eq_getElem?_getD, List.getD_eq_getElem?_getD, List.getD_eq_getElem?_getD]
  by_cases h : i < k.size
  · rw [if_pos h, List.getElem?_append_left (by rw [size_len]; exact h)]
  · rw [if_neg h, List.getElem?_append_right (by rw [size_len]; omega), size_len]
theorem hs_snoc (k : ByteArray) (c : Nat) (hc : c < 256) : hs (k ++ mkS (fun _ => c) 1) = hx (hs k) (c : Int) := by
  have hsz : (k ++ mkS (fun _ => c) 1).size = k.size + 1 := by rw [ByteArray.size_append, mkS_size]
  unfold hs
  rw [hsz]
  show hx (hsN _ k.size) _ = _
  rw [hsN_congr (t := k) (fun i hi => by rw [bt_app, if_pos hi]), bt_app, if_neg (by omega), bt_mkS hc (by omega)]
set_option maxHeartbeats 400000 in
theorem hashes_any (key : ByteArray) (c : Nat) (hc : c < 256) (w : World) : Calls Try.prog 7 #[.string key, .int .u8 (c : Int)] w fun e w' => e = .returned (.bool true) ∧ Below w.heap.size w w' := by
  have hsz := shr_size key
  go_enter Try.func7, Try.ntmps7
  go_wp2_with fail
  refine (short_any key _).mono ?_
  rintro e w1 ⟨rfl, rfl⟩
  obtain ⟨k, hk⟩ : ∃ k, k = shr key := ⟨_, rfl⟩
  rw [← hk] at hsz ⊢
  clear hk
  go_wp2_with fail
  refine (hash_any k (by omega) _).mono ?_
  rintro e w1 ⟨rfl, rfl⟩
  have hcv := conv_n (w.alloc (.cells #[.int .u8 (c : Int)] 5)) w.heap.size 1 1 (fun _ => c) (fun j hj => by
    have : j = 0 := by omega
    subst this
    rw [World.cell?_alloc_new]; rfl)
  have hs1 : (mkS (fun _ => c) 1).size = 1 := mkS_size _ _
  have hsn := hs_snoc k c hc
  obtain ⟨s, hs'⟩ : ∃ s, s = mkS (fun _ => c) 1 := ⟨_, rfl⟩
  rw [← hs'] at hcv hs1 hsn
  have hlim : ¬ (9223372036854775807 < k.size + s.size) := by omega
  have HSN : Hid (hs (k ++ s) = hx (hs k) (c : Int)) := hsn
  clear hs' hsn
  have B1 : Below w.heap.size w (w.alloc (.cells #[.int .u8 (c : Int)] 5)) := (Below.refl _ _).alloc (Nat.le_refl _) _
  go_wp2_with fail
  refine (hash_any (k ++ s) (by rw [ByteArray.size_append]; omega) _).mono ?_
  rintro e w1 ⟨rfl, rfl⟩
  rw [HSN.out]
  unfold hx
  have hq : ∀ z : Int, (z == z) = true := fun z => by simp
  obtain ⟨z, hz⟩ : ∃ z, z = bits BinOp.xor IntKind.u32 (hs k) (c : Int) * 16777619 % 4294967296 := ⟨_, rfl⟩
  rw [← hz]
  clear hz
  have hqz := hq z
  clear hq
  go_wp2_with fail
  refine (runs_any _).mono ?_
  rintro e w2 ⟨rfl, B2⟩
  go_wp2_with fail
  go_ret
  exact ⟨rfl, B1.trans (B2.mono B1.size)⟩
end Go.Proofs.Ytaflabjeddckeaa
