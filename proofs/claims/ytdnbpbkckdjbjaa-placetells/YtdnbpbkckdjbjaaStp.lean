/-
  STRIPES: what Stripe, Metas, Position of the program and Stripe of the reference answer.
-/
import Derived.Test.YtdnbpbkckdjbjaaNum
namespace Go.Proofs.Ytdnbpbkckdjbjaa
open Go.RowKit

/-- The first slot. -/
def fst (k : ByteArray) (s : Nat) : Nat := (hs k).toNat % s
/-- A stripe. -/
def stl (k : ByteArray) (n s : Nat) : List Int := (List.range n).map fun i => (((fst k s + i) % s : Nat) : Int)
theorem stl_length (k : ByteArray) (n s : Nat) : (stl k n s).length = n := by simp [stl]
theorem stl_at (k : ByteArray) {n s i : Nat} (h : i < n) : (stl k n s)[i]? = some (((fst k s + i) % s : Nat) : Int) := by simp [stl, h]
theorem stl_succ (k : ByteArray) (n s : Nat) : stl k (n + 1) s = stl k n s ++ [(((fst k s + n) % s : Nat) : Int)] := by simp [stl, List.range_succ]
theorem stl_take (k : ByteArray) {m n s : Nat} (h : m ≤ n) : (stl k n s).take m = stl k m s := by
  unfold stl
  rw [← List.map_take]
  congr 1
  rw [List.take_range]; congr 1; omega
def good (n s : Int) : Prop := 1 ≤ s ∧ s ≤ 12 ∧ 0 ≤ n ∧ n ≤ s
instance (n s : Int) : Decidable (good n s) := by unfold good; infer_instance
/-- What Stripe tells. -/
def str (k : ByteArray) (n s : Int) : List Int := if good n s then stl k n.toNat s.toNat else []
theorem str_yes (k : ByteArray) {N S : Nat} (h1 : 1 ≤ S) (h2 : S ≤ 12) (h3 : N ≤ S) : str k (N : Int) (S : Int) = stl k N S := by
  unfold str
  rw [if_pos (by unfold good; omega), Int.toNat_natCast, Int.toNat_natCast]
theorem str_no (k : ByteArray) {n s : Int} (h : ¬ good n s) : str k n s = [] := if_neg h
set_option maxRecDepth 100000 in
set_option maxHeartbeats 1000000 in
theorem stripe_no (k : ByteArray) (n s : Int) (h : ¬ good n s) (w : World) : Calls Try.prog 7 #[.string k, .int .i64 n, .int .i64 s] w fun e w' => e = .returned (.slice none 0 0) ∧ w = w' := by
  unfold good at h
  by_cases c1 : s < 1
  · have d1 : decide (s < 1) = true := by simp [c1]
    clear c1 h
    go_enter Try.func7, Try.ntmps7
    go_wp2_with fail
    go_ret
    exact ⟨rfl, rfl⟩
  have d1 : decide (s < 1) = false := by simp; omega
  by_cases c2 : 12 < s
  · have d2 : decide (12 < s) = true := by simp [c2]
    clear c1 c2 h
    go_enter Try.func7, Try.ntmps7
    go_wp2_with fail
    go_ret
    exact ⟨rfl, rfl⟩
  have d2 : decide (12 < s) = false := by simp; omega
  by_cases c3 : n < 0
  · have d3 : decide (n < 0) = true := by simp [c3]
    clear c1 c2 c3 h
    go_enter Try.func7, Try.ntmps7
    go_wp2_with fail
    go_ret
    exact ⟨rfl, rfl⟩
  have d3 : decide (n < 0) = false := by simp; omega
  have d4 : decide (s < n) = true := by simp; omega
  clear c1 c2 c3 h
  go_enter Try.func7, Try.ntmps7
  go_wp2_with fail
  go_ret
  exact ⟨rfl, rfl⟩
theorem make_ints (w : World) (o : Nat → Nat × Nat) (t : Nat × Nat) (n : Nat) (hn : n ≤ 1000000) : ∃ w' o', (Instr.makeSlice 22 (.int .i64 (n : Int)) (.int .i64 (n : Int))).run Try.prog w = .ok (.slice (some ⟨w.heap.size, 0, none⟩) n n) w' ∧
    OwnK w' o' t 1 (.slice (some ⟨w.heap.size, 0, none⟩) n n) n (ic (List.replicate n 0)) ∧ Fr (fun _ => False) o o' w w' := by
  obtain ⟨i0, hi, hz0, hz1, hz2⟩ := info_parts info3
  have hr := run_make (P := Try.prog) w 22 3 i0 (.int .i64 0) under22 hi hz0 .i64 .i64 (n : Int) (n : Int) (by omega) (by omega) (by rw [hz2]; omega) (by omega)
  simp only [Int.toNat_natCast] at hr
  refine ⟨_, lab o w.heap.size t, hr, ?_, Fr.new _ o w _ _⟩
  have := own_new (w := w) (o := o) (t := t) (k := 1) (n := n) (cap := n) (e := 3) (ic (List.replicate n 0)) #[] (by rw [ic_length, Nat.mul_one, List.length_replicate]) (ic_one _) (Nat.le_refl _) (by unfold maxLen; omega) (by simp)
  rw [Array.append_empty] at this
  have e : madeCells (Value.int .i64 0).cells n = (ic (List.replicate n 0)).toArray := by
    apply Array.ext'
    simp [madeCells, ic, Value.cells, Nat.mod_one]
    apply List.ext_getElem <;> simp
  rw [hz1, Nat.mul_one, e]
  exact this
theorem hash_nat (k : ByteArray) : ∃ H : Nat, hs k = (H : Int) ∧ H < 4294967296 ∧ ∀ s, fst k s = H % s := by
  have := hs_bd k
  refine ⟨(hs k).toNat, by omega, by omega, fun s => rfl⟩
set_option maxRecDepth 100000 in
set_option maxHeartbeats 1000000 in
theorem stripe_yes (k : ByteArray) (hk : k.size ≤ 140737488355328) (N S : Nat) (h1 : 1 ≤ S) (h2 : S ≤ 12) (h3 : N ≤ S) (w : World) : Calls Try.prog 7 #[.string k, .int .i64 (N : Int), .int .i64 (S : Int)] w fun e w' => ∃ V, e = .returned V ∧ IR w' V (stl k N S) ∧ Below w.heap.size w w' := by
  obtain ⟨H, hH, hH2, hf⟩ := hash_nat k
  have d1 : decide ((S : Int) < 1) = false := by simp; omega
  have d2 : decide (12 < (S : Int)) = false := by simp; omega
  have d3 : decide ((N : Int) < 0) = false := by simp
  have d4 : decide ((S : Int) < (N : Int)) = false := by simp; omega
  have hne : ((S : Int) == 0) = false := by simp; omega
  have hne3 : ¬ ((S : Int) = 0) := by omega
  have hne1 : ¬ ((S : Int) = -1) := by omega
  obtain ⟨q, hq⟩ : ∃ q, fst k S = q := ⟨_, rfl⟩
  have hqs : q < S := by rw [← hq]; exact Nat.mod_lt _ (by omega)
  have hm : ((H : Nat) : Int).tmod (S : Int) = (q : Int) := by
    rw [← hq, hf, Int.natCast_emod, Int.tmod_eq_emod_of_nonneg (by omega)]
  have HQ := hid hq
  have HH := hid hH
  clear hq hH hf
  go_enter Try.func7, Try.ntmps7
  go_wp2_with fail
  refine (hash_any k hk _).mono ?_
  rintro e w1 ⟨rfl, rfl⟩
  rw [HH.out]
  obtain ⟨w2, o2, hmk, O2, F2⟩ := make_ints w (fun _ => (0, 0)) (9, 9) N (by omega)
  obtain ⟨g, hg⟩ : ∃ g, g = w.heap.size := ⟨_, rfl⟩
  rw [← hg] at hmk O2
  have HO2 : Hid (OwnK w2 o2 (9, 9) 1 (.slice (some ⟨g, 0, none⟩) N N) N (ic (List.replicate N 0))) := O2
  have HF2 : Hid (Fr (fun _ => False) (fun _ => (0, 0)) o2 w w2) := F2
  have HG : Hid (w.heap.size ≤ g) := by show _ ≤ _; omega
  clear O2 F2 hg
  go_wp2_with fail
  go_loopw [35] (fun i wr => ∃ j : Nat, j ≤ N ∧ i = .int .i64 (j : Int) ∧ Hid (OwnK wr o2 (9, 9) 1 (.slice (some ⟨g, 0, none⟩) N N) N (ic (stl k j S ++ List.replicate (N - j) 0))) ∧ Hid (Fr (fun t => t = (9, 9)) (fun _ => (0, 0)) o2 w wr)) (fun i _ => N - (intOf i).toNat)
  case atStart => exact ⟨0, by omega, rfl, HO2, HF2.out.mono (fun _ h => h.elim)⟩
  case round =>
    clear HO2 HF2 hmk
    obtain ⟨j, hj, rfl, HO, HF⟩ := hrel
    by_cases hlt : j < N
    · obtain ⟨g', cap, e1, _, _, _, _, _, h7⟩ := HO.out.there (by omega)
      injection e1 with e1 e2 e3
      injection e1 with e1
      injection e1 with e1
      subst e1 e3
      obtain ⟨c0, hc0⟩ := Option.isSome_iff_exists.1 (h7 j (by omega)).1
      have z0 := (h7 j (by omega)).2
      have hi1 : (j : Int) < (N : Int) := by omega
      have hm2 : ((q : Int) + (j : Int)).tmod (S : Int) = (((q + j) % S : Nat) : Int) := by
        rw [Int.natCast_emod, Int.tmod_eq_emod_of_nonneg (by omega), Int.natCast_add]
      have HO2 : Hid (OwnK (wr.setCell ⟨g, j, none⟩ (.int .i64 (((q + j) % S : Nat) : Int))) o2 (9, 9) 1 (.slice (some ⟨g, 0, none⟩) N N) N (ic (stl k (j + 1) S ++ List.replicate (N - (j + 1)) 0))) := by
        show OwnK _ _ _ _ _ _ _
        have := HO.out.set j (.int .i64 (((q + j) % S : Nat) : Int)) rfl (by omega)
        rw [show (ic (stl k j S ++ List.replicate (N - j) 0)).set j (.int .i64 (((q + j) % S : Nat) : Int)) = ic (stl k (j + 1) S ++ List.replicate (N - (j + 1)) 0) from ?_] at this
        · exact this
        · rw [stl_succ, HQ.out, show N - j = (N - (j + 1)) + 1 by omega, List.replicate_succ]
          unfold ic
          rw [List.map_append, List.set_append_right _ _ (by simp [stl_length]), List.length_map, stl_length, Nat.sub_self]
          simp
      have HF2 : Hid (Fr (fun t => t = (9, 9)) (fun _ => (0, 0)) o2 w (wr.setCell ⟨g, j, none⟩ (.int .i64 (((q + j) % S : Nat) : Int)))) := by
        exact HF.out.setNew HG.out _
      clear h7 HO HF
      go_wp2_with fail
      exact ⟨⟨j + 1, by omega, by go_num, HO2, HF2⟩, by simp [intOf]; omega⟩
    · have hjn : j = N := by omega
      subst hjn
      have HO2 : Hid (IR wr (.slice (some ⟨g, 0, none⟩) j j) (stl k j S)) := by
        show IR _ _ _
        have := HO.out
        rw [Nat.sub_self, List.replicate_zero, List.append_nil] at this
        exact this.row
      go_wp2_with fail
      go_ret
      exact ⟨_, rfl, HO2.out, HF.out.below (Nat.le_refl _) (fun b _ e => by simp at e)⟩
set_option maxRecDepth 100000 in
set_option maxHeartbeats 1000000 in
theorem rstripe_no (k : ByteArray) (n s : Int) (h : ¬ good n s) (w : World) : Calls Try.prog 10 #[.string k, .int .i64 n, .int .i64 s] w fun e w' => e = .returned (.slice none 0 0) ∧ w = w' := by
  unfold good at h
  by_cases c1 : s < 1
  · have d1 : decide (s < 1) = true := by simp [c1]
    clear c1 h
    go_enter Try.func10, Try.ntmps10
    go_wp2_with fail
    go_ret
    exact ⟨rfl, rfl⟩
  have d1 : decide (s < 1) = false := by simp; omega
  by_cases c2 : 12 < s
  · have d2 : decide (12 < s) = true := by simp [c2]
    clear c1 c2 h
    go_enter Try.func10, Try.ntmps10
    go_wp2_with fail
    go_ret
    exact ⟨rfl, rfl⟩
  have d2 : decide (12 < s) = false := by simp; omega
  by_cases c3 : n < 0
  · have d3 : decide (n < 0) = true := by simp [c3]
    clear c1 c2 c3 h
    go_enter Try.func10, Try.ntmps10
    go_wp2_with fail
    go_ret
    exact ⟨rfl, rfl⟩
  have d3 : decide (n < 0) = false := by simp; omega
  have d4 : decide (s < n) = true := by simp; omega
  clear c1 c2 c3 h
  go_enter Try.func10, Try.ntmps10
  go_wp2_with fail
  go_ret
  exact ⟨rfl, rfl⟩
set_option maxRecDepth 100000 in
set_option maxHeartbeats 1000000 in
theorem rstripe_yes (k : ByteArray) (hk : k.size ≤ 140737488355328) (N S : Nat) (h1 : 1 ≤ S) (h2 : S ≤ 12) (h3 : N ≤ S) (w : World) : Calls Try.prog 10 #[.string k, .int .i64 (N : Int), .int .i64 (S : Int)] w fun e w' => ∃ V, e = .returned V ∧ IR w' V (stl k N S) ∧ Below w.heap.size w w' := by
  obtain ⟨H, hH, hH2, hf⟩ := hash_nat k
  have d1 : decide ((S : Int) < 1) = false := by simp; omega
  have d2 : decide (12 < (S : Int)) = false := by simp; omega
  have d3 : decide ((N : Int) < 0) = false := by simp
  have d4 : decide ((S : Int) < (N : Int)) = false := by simp; omega
  have hne : ((S : Int) == 0) = false := by simp; omega
  have hne3 : ¬ ((S : Int) = 0) := by omega
  have hne1 : ¬ ((S : Int) = -1) := by omega
  obtain ⟨q, hq⟩ : ∃ q, fst k S = q := ⟨_, rfl⟩
  have hqs : q < S := by rw [← hq]; exact Nat.mod_lt _ (by omega)
  have hm : ((H : Nat) : Int).tmod (S : Int) = (q : Int) := by
    rw [← hq, hf, Int.natCast_emod, Int.tmod_eq_emod_of_nonneg (by omega)]
  have HQ := hid hq
  have HH := hid hH
  clear hq hH hf
  go_enter Try.func10, Try.ntmps10
  go_wp2_with fail
  refine (rhash_any k hk _).mono ?_
  rintro e w1 ⟨rfl, rfl⟩
  rw [HH.out]
  go_wp2_with fail
  go_loopw [7, 9] (fun V i wr => ∃ (j : Nat) (o1 : Nat → Nat × Nat) (va : Option Addr) (vc : Nat), j ≤ N ∧ V = .slice va j vc ∧ i = .int .i64 (j : Int) ∧ Hid (OwnK wr o1 (9, 9) 1 (.slice va j vc) j (ic (stl k j S))) ∧ Hid (Fr (fun t => t = (9, 9)) (fun _ => (0, 0)) o1 w wr)) (fun _ i _ => N - (intOf i).toNat)
  case atStart => exact ⟨0, (fun _ => (0, 0)), _, _, by omega, rfl, rfl, OwnK.nil w _ (9, 9) 1, Fr.refl _ _ _⟩
  case round =>
    obtain ⟨j, o1, va, vc, hj, rfl, rfl, HO, HF⟩ := hrel
    by_cases hlt : j < N
    · have hi1 : (j : Int) < (N : Int) := by omega
      have hm2 : ((q : Int) + (j : Int)).tmod (S : Int) = (((q + j) % S : Nat) : Int) := by
        rw [Int.natCast_emod, Int.tmod_eq_emod_of_nonneg (by omega), Int.natCast_add]
      obtain ⟨v3, w3, o3, hrun, O3, F3⟩ := app_one 22 3 (.int .i64 0) 8 under22 info3 (by kernel_rfl) HO.out [.int .i64 (((q + j) % S : Nat) : Int)] rfl (fun u hu => by simp at hu; rw [hu]; rfl) (by omega) (by omega)
      obtain ⟨a3, b3, rfl, _⟩ := O3.form
      have HO3 : Hid (OwnK w3 o3 (9, 9) 1 (.slice a3 (j + 1) b3) (j + 1) (ic (stl k (j + 1) S))) := by
        show OwnK _ _ _ _ _ _ _
        rw [stl_succ, HQ.out]; unfold ic; rw [List.map_append]; exact O3
      have HF3 : Hid (Fr (fun t => t = (9, 9)) (fun _ => (0, 0)) o3 w w3) := HF.out.trans F3
      clear O3 F3 HO HF
      go_wp2_with (at_builtin; refine wpList_append_run rfl (.tmp 35) (.tmp 41) 22 22 rfl _ _ _ rfl rfl hrun ?_)
      exact ⟨⟨j + 1, o3, a3, b3, by omega, rfl, by go_num, HO3, HF3⟩, by simp [intOf]; omega⟩
    · have hjn : j = N := by omega
      subst hjn
      have HO2 : Hid (IR wr (.slice va j vc) (stl k j S)) := HO.out.row
      go_wp2_with fail
      go_ret
      exact ⟨_, rfl, HO2.out, HF.out.below (Nat.le_refl _) (fun b _ e => by simp at e)⟩
theorem good_nat {n s : Int} (h : good n s) : ∃ N S : Nat, n = (N : Int) ∧ s = (S : Int) ∧ 1 ≤ S ∧ S ≤ 12 ∧ N ≤ S := by
  unfold good at h
  exact ⟨n.toNat, s.toNat, by omega, by omega, by omega, by omega, by omega⟩
/-- Stripe, of anything. -/
theorem stripe_any (k : ByteArray) (hk : k.size ≤ 140737488355328) (n s : Int) (w : World) : Calls Try.prog 7 #[.string k, .int .i64 n, .int .i64 s] w fun e w' => ∃ V, e = .returned V ∧ IR w' V (str k n s) ∧ Below w.heap.size w w' := by
  by_cases h : good n s
  · obtain ⟨N, S, rfl, rfl, h1, h2, h3⟩ := good_nat h
    rw [str_yes k h1 h2 h3]
    exact stripe_yes k hk N S h1 h2 h3 w
  · refine (stripe_no k n s h w).mono ?_
    rintro e w1 ⟨rfl, rfl⟩
    exact ⟨_, rfl, .inl ⟨str_no k h, _, _, rfl⟩, Below.refl _ _⟩
/-- The reference's. -/
theorem rstripe_any (k : ByteArray) (hk : k.size ≤ 140737488355328) (n s : Int) (w : World) : Calls Try.prog 10 #[.string k, .int .i64 n, .int .i64 s] w fun e w' => ∃ V, e = .returned V ∧ IR w' V (str k n s) ∧ Below w.heap.size w w' := by
  by_cases h : good n s
  · obtain ⟨N, S, rfl, rfl, h1, h2, h3⟩ := good_nat h
    rw [str_yes k h1 h2 h3]
    exact rstripe_yes k hk N S h1 h2 h3 w
  · refine (rstripe_no k n s h w).mono ?_
    rintro e w1 ⟨rfl, rfl⟩
    exact ⟨_, rfl, .inl ⟨str_no k h, _, _, rfl⟩, Below.refl _ _⟩
theorem str_len (k : ByteArray) (n s : Int) : (str k n s).length ≤ 12 := by
  by_cases h : good n s
  · obtain ⟨N, S, rfl, rfl, h1, h2, h3⟩ := good_nat h
    rw [str_yes k h1 h2 h3, stl_length]; omega
  · rw [str_no k h]; simp
/-- Position. -/
theorem pos_any (k : ByteArray) (hk : k.size ≤ 140737488355328) (n s x : Int) (w : World) : Calls Try.prog 9 #[.string k, .int .i64 n, .int .i64 s, .int .i64 x] w fun e w' => e = .returned (.int .i64 (ixf x (str k n s) 0)) ∧ Below w.heap.size w w' := by
  go_enter Try.func9, Try.ntmps9
  go_wp2_with fail
  refine (stripe_any k hk n s _).mono ?_
  rintro e w1 ⟨V, rfl, i1, b1⟩
  have hl := str_len k n s
  have HI := hid i1
  have HB := hid b1
  obtain ⟨a, c, rfl, _⟩ := i1.form
  clear i1 b1
  go_wp2_with fail
  refine (index_any _ x (by omega) _ HI.out).mono ?_
  rintro e w2 ⟨rfl, rfl⟩
  go_wp2_with fail
  go_ret
  exact ⟨rfl, HB.out⟩
/-- What Metas tells. -/
def met (k : ByteArray) (m s : Int) : List Int := if m < 0 then [] else str k (m + 1) s
theorem metas_any (k : ByteArray) (hk : k.size ≤ 140737488355328) (m s : Int) (hs : s ≤ 9223372036854775807) (w : World) : Calls Try.prog 8 #[.string k, .int .i64 m, .int .i64 s] w fun e w' => ∃ V, e = .returned V ∧ IR w' V (met k m s) ∧ Below w.heap.size w w' := by
  by_cases c1 : m < 0
  · have e1 : met k m s = [] := if_pos c1
    have H1 := hid e1
    clear e1
    go_enter Try.func8, Try.ntmps8
    go_wp2_with fail
    go_ret
    exact ⟨_, rfl, .inl ⟨H1.out, _, _, rfl⟩, Below.refl _ _⟩
  have e1 : met k m s = str k (m + 1) s := if_neg c1
  have d1 : decide (m < 0) = false := by simp; omega
  by_cases c2 : s ≤ m
  · have e2 : met k m s = [] := e1.trans (str_no k (by unfold good; omega))
    have H1 := hid e2
    have d2 : decide (s ≤ m) = true := by simp [c2]
    clear e1 e2 c1
    go_enter Try.func8, Try.ntmps8
    go_wp2_with fail
    go_ret
    exact ⟨_, rfl, .inl ⟨H1.out, _, _, rfl⟩, Below.refl _ _⟩
  have d2 : decide (s ≤ m) = false := by simp; omega
  have H1 := hid e1
  clear e1
  go_enter Try.func8, Try.ntmps8
  go_wp2_with fail
  refine (stripe_any k hk (m + 1) s _).mono ?_
  rintro e w1 ⟨V, rfl, i1, b1⟩
  have HI := hid i1
  have HB := hid b1
  obtain ⟨a, c, rfl, _⟩ := i1.form
  clear i1 b1
  go_wp2_with fail
  go_ret
  exact ⟨_, rfl, by rw [H1.out]; exact HI.out, HB.out⟩
end Go.Proofs.Ytdnbpbkckdjbjaa
