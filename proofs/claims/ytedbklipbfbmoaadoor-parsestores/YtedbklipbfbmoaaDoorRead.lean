/-
  read, walked.
-/
import Derived.Test.YtedbklipbfbmoaaDoorRead0
namespace Go.Proofs.YtedbklipbfbmoaaDoor
open Go.RowKit

theorem kd_at {ks : List Nat} {K j m : Nat} (hK : ks.length = K + 1) (hm : m = if K < j then K else j) : ks[m]? = some (kd ks j) := by
  have hlt : m < ks.length := by rw [hm]; split <;> omega
  have e : min j (ks.length - 1) = m := by rw [hK, hm]; simp only [Nat.add_sub_cancel]; split <;> omega
  unfold kd
  rw [e, List.getD_eq_getElem?_getD, List.getElem?_eq_getElem hlt]; rfl
set_option maxRecDepth 100000 in
set_option maxHeartbeats 4000000 in
theorem read_any (f : Fm) (kv : Value) (l : List B) (a : Option Addr) (n c : Nat) (hl : l.length ≤ 100000) (w : World) (h : Strs w (.slice a n c) l) (hk : Knd w kv f.kinds) (hne : l ≠ [] → f.kinds ≠ []) (h8 : ∀ k ∈ f.kinds, k < 8) (h9 : f.kinds.length ≤ 100) :
    Calls Tryd.prog 33 #[f.v kv, .slice a n c] w fun e w' => ∃ a' n' c', e = .returned (.tuple #[((rd f.kinds 0 l Rq.none).getD Rq.none).v (.slice a' n' c'), .bool (rd f.kinds 0 l Rq.none).isSome]) ∧ Strs w' (.slice a' n' c') ((rd f.kinds 0 l Rq.none).getD Rq.none).keys ∧ Below w.heap.size w w' ∧ ∀ A, a' = some A → w.heap.size ≤ A.block := by
  obtain ⟨hn, hc⟩ := h.len
  obtain ⟨ka, rfl, hka⟩ := hk
  obtain ⟨ks, lo, hi, hu⟩ := f
  obtain ⟨W, hW⟩ : ∃ W, W = w2 w ⟨ks, lo, hi, hu⟩ (.slice ka ks.length ks.length) := ⟨_, rfl⟩
  have HW := Lib.hid hW
  have HS := Lib.hid (h.below (w2_up w ⟨ks, lo, hi, hu⟩ (.slice ka ks.length ks.length)))
  rw [← hW] at HS
  have HSZ : Hid (W.heap.size = w.heap.size + 3) := Lib.hid (by rw [hW]; exact w2_size _ _ _)
  have HR0 : Hid (Rd W (o2 (w.heap.size + 1 + 1)) W (o2 (w.heap.size + 1 + 1)) (w.heap.size + 1 + 1) Rq.none none 0 0) := Lib.hid (by rw [hW]; exact w2_rd w ⟨ks, lo, hi, hu⟩ (.slice ka ks.length ks.length))
  have HF := Lib.hid (w2_form w ⟨ks, lo, hi, hu⟩ (.slice ka ks.length ks.length))
  rw [← hW] at HF
  have HE := Lib.hid (fun (wr : World) (o : Nat → Nat × Nat) (r : Rq) (a : Option Addr) (n c : Nat) (h : Rd W (o2 (w.heap.size + 1 + 1)) wr o (w.heap.size + 1 + 1) r a n c) => by rw [hW] at h; exact h.ends)
  have HFN := Lib.hid (fun (wr : World) (o : Nat → Nat × Nat) (r : Rq) (a : Option Addr) (n c : Nat) (h : Rd W (o2 (w.heap.size + 1 + 1)) wr o (w.heap.size + 1 + 1) r a n c) => by rw [hW] at h; exact h.fin)
  have HK : Hid (ks ≠ [] → ∃ g, ka = some ⟨g, 0, none⟩ ∧ g < w.heap.size ∧ ∀ i k, ks[i]? = some k → W.cell? ⟨g, i, none⟩ = some (.int .i64 ((k : Nat) : Int))) := Lib.hid (fun hne => by
    obtain ⟨g, h1, h2⟩ := hka hne
    obtain ⟨k0, hk0⟩ : ∃ k0, ks[0]? = some k0 := ⟨_, List.getElem?_eq_getElem (List.length_pos_iff.2 hne)⟩
    refine ⟨g, h1, World.block_lt_of_cell? _ _ (h2 0 k0 hk0), fun i k hk => ?_⟩
    rw [hW]; exact cell_up (w2_up _ _ _) (h2 i k hk))
  have HA : Hid (∀ i x, l[i]? = some x → ∃ g q, a = some ⟨g, q, none⟩ ∧ g < w.heap.size ∧ W.cell? ⟨g, q + i, none⟩ = some (.string (S x))) := Lib.hid (fun i x hx => by
    obtain ⟨g, q, h1, h2⟩ := h.at_ hx
    exact ⟨g, q, h1, World.block_lt_of_cell? _ _ h2, by rw [hW]; exact cell_up (w2_up _ _ _) h2⟩)
  have HN := Lib.hid hn
  have HH := Lib.hid hne
  have H8 := Lib.hid h8
  have nbd : n ≤ 100000 := by omega
  have H9 := Lib.hid h9
  clear hW h hka hn hne h8 h9 hl
  simp only [Fm.v]
  simp only at HK HH H8 H9
  obtain ⟨N, hN⟩ : ∃ N, N = w.heap.size := ⟨_, rfl⟩
  go_enter Tryd.func33, Tryd.ntmps33
  go_wp2_with fail
  go_step3
  go_wp2_with fail
  go_step3
  go_wp2_with fail
  go_loopw [12] (fun i wr => ∃ (j : Nat) (r : Rq) (a' : Option Addr) (n' c' : Nat) (o : Nat → Nat × Nat), j ≤ n ∧ i = .int .i64 (j : Int) ∧ Hid (n' ≤ j) ∧ Hid (Rd W (o2 (w.heap.size + 1 + 1)) wr o (w.heap.size + 1 + 1) r a' n' c') ∧ Hid (r.verb = 0 ∧ r.quiet = false) ∧ Hid (rd ks 0 l Rq.none = rd ks j (l.drop j) r)) (fun i _ => n - (intOf i).toNat)
  case atStart => exact ⟨0, Rq.none, none, 0, 0, _, by omega, rfl, Lib.hid (Nat.le_refl _), by have := HR0.out; rw [HW.out] at this ⊢; exact Lib.hid this, Lib.hid ⟨rfl, rfl⟩, Lib.hid rfl⟩
  case round =>
    obtain ⟨j, r, a', n', c', o, hj, rfl, HNJ, HR, HV, HQ⟩ := hrel
    by_cases hlt : j < n
    · have hi1 : (j : Int) < (n : Int) := by omega
      obtain ⟨x, hx⟩ : ∃ x, l[j]? = some x := ⟨_, List.getElem?_eq_getElem (by rw [← HN.out]; exact hlt)⟩
      have hks : ks ≠ [] := HH.out (fun e => by rw [e] at hx; simp at hx)
      obtain ⟨ag, aq, ha, hag, hac⟩ := HA.out j x hx
      subst ha
      obtain ⟨kg, hkg, hkl, hkc⟩ := HK.out hks
      subst hkg
      obtain ⟨K, hK⟩ : ∃ K, ks.length = K + 1 := ⟨ks.length - 1, by have := List.length_pos_iff.2 hks; omega⟩
      obtain ⟨m, hm⟩ : ∃ m, m = if K < j then K else j := ⟨_, rfl⟩
      have hkm := kd_at hK hm
      have k8 : kd ks j < 8 := H8.out _ (List.mem_of_getElem? hkm)
      have c1 := HR.out.cell hac (by omega)
      have c2 := HR.out.cell HF.out (by omega)
      have c3 := HR.out.cell (hkc m _ hkm) (by omega)
      have K9 : K ≤ 100 := by have := H9.out; omega
      have hm1 : min (j : Int) (K : Int) = (m : Int) := by rw [hm]; split <;> omega
      have hmK : m < K + 1 := by rw [hm]; split <;> omega
      rw [hK] at c2
      have HX := Lib.hid hx
      have HKK := Lib.hid hK
      clear hx hks hac hkc hkm hag hkl hm hK
      obtain ⟨k, hk⟩ : ∃ k, k = kd ks j := ⟨_, rfl⟩
      rw [← hk] at c3 k8
      have HKD := Lib.hid hk
      clear hk
      obtain rfl | rfl | rfl | rfl | rfl | rfl | rfl | rfl : k = 0 ∨ k = 1 ∨ k = 2 ∨ k = 3 ∨ k = 4 ∨ k = 5 ∨ k = 6 ∨ k = 7 := by omega
      · replace c3 : wr.cell? ⟨kg, m, none⟩ = some (.int .i64 0) := c3
        have HC : ∀ w : World, Calls Tryd.prog 49 #[.string (S x)] w fun e w' => e = .returned (.bool (key x)) ∧ w = w' := key_any (S x)
        have q1 := HR.out.cells 1 _ rfl
        rw [Nat.zero_add] at q1
        obtain ⟨a5, c5, w5, o5, hr5, q5, f5, R5⟩ := HR.out.key (by have := HNJ.out; omega) x
        have HR2 : Hid (Rd W (o2 (w.heap.size + 1 + 1)) (w5.setCell ⟨w.heap.size + 1 + 1, 1, none⟩ (.slice a5 (n' + 1) c5)) o5 (w.heap.size + 1 + 1) { r with keys := r.keys ++ [x] } a5 (n' + 1) c5) := Lib.hid R5
        clear R5
        cases hb : key x with
        | true =>
          simp only [hb] at HC
          have HB := Lib.hid hb
          clear hb
          go_wp2_with (first | (go_at_call 49; refine (HC _).mono ?_; rintro e w' ⟨rfl, rfl⟩) | (at_builtin; refine wpList_append_run rfl (.tmp 30) (.tmp 32) 27 27 rfl _ _ _ rfl rfl hr5 ?_))
          refine ⟨⟨j + 1, { r with keys := r.keys ++ [x] }, a5, n' + 1, c5, o5, by omega, by go_num, Lib.hid (by have := HNJ.out; omega), HR2, HV, Lib.hid (HQ.out.trans ((rd_yes HX.out (by rw [← HKD.out]; exact HB.out)).trans ?_))⟩, by simp [intOf]; omega⟩
          rw [← HKD.out]; rfl
        | false =>
          simp only [hb] at HC
          have HB := Lib.hid hb
          clear hb
          obtain ⟨th, _, _, rg, _⟩ := HE.out _ _ _ _ _ _ HR2.out Rq.none none 0 0
          have FN := Lib.hid (HFN.out _ _ _ _ _ _ HR2.out Rq.none none 0 0 (.inl ⟨rfl, rfl, rfl, rfl⟩))
          have HQ2 : Hid (rd ks 0 l Rq.none = none) := Lib.hid (HQ.out.trans (rd_no HX.out (by rw [← HKD.out]; exact HB.out)))
          obtain ⟨W9, hW9⟩ : ∃ W9, W9 = (w5.setCell ⟨w.heap.size + 1 + 1, 1, none⟩ (.slice a5 (n' + 1) c5)).setCells (w.heap.size + 1) 0 (Rq.none.cs (.slice none 0 0)) := ⟨_, rfl⟩
          rw [← hW9] at rg FN
          have z0 : W9.cell? ⟨w.heap.size + 1, 0, none⟩ = some (.int .i64 0) := rg 0 _ rfl
          have z1 : W9.cell? ⟨w.heap.size + 1, 1, none⟩ = some (.slice none 0 0) := rg 1 _ rfl
          have z2 : W9.cell? ⟨w.heap.size + 1, 2, none⟩ = some (.int .i64 0) := rg 2 _ rfl
          have z3 : W9.cell? ⟨w.heap.size + 1, 3, none⟩ = some (.int .i64 0) := rg 3 _ rfl
          have z4 : W9.cell? ⟨w.heap.size + 1, 4, none⟩ = some (.int .i64 0) := rg 4 _ rfl
          have z5 : W9.cell? ⟨w.heap.size + 1, 5, none⟩ = some (.int .i64 0) := rg 5 _ rfl
          have z6 : W9.cell? ⟨w.heap.size + 1, 6, none⟩ = some (.int .u64 0) := rg 6 _ rfl
          have z7 : W9.cell? ⟨w.heap.size + 1, 7, none⟩ = some (.bool false) := rg 7 _ rfl
          have z8 : W9.cell? ⟨w.heap.size + 1, 8, none⟩ = some (.string ⟨#[]⟩) := rg 8 _ rfl
          have TH := Lib.hid th
          have HW9 := Lib.hid hW9
          clear rg th hW9
          go_wp2_with (first | (go_at_call 49; refine (HC _).mono ?_; rintro e w' ⟨rfl, rfl⟩) | (at_builtin; refine wpList_append_run rfl (.tmp 30) (.tmp 32) 27 27 rfl _ _ _ rfl rfl hr5 ?_) | ((with_reducible show wpList _ _ _ (Oper.mk none (Op.store 30 _ _) _ _ _ _ :: _) _ _); refine wpList_store_mid (by rfl) 30 (.tmp 4) (.tmp 89) (by rfl) (w.heap.size + 1) 0 #[.int .i64 0, .slice none 0 0, .int .i64 0, .int .i64 0, .int .i64 0, .int .i64 0, .int .u64 0, .bool false, .string ⟨#[]⟩] (by rfl) (by rfl) TH.out (by kernel_rfl) (all_oneCell_toArray zv_one) ?_; rw [show (#[Value.int .i64 0, .slice none 0 0, .int .i64 0, .int .i64 0, .int .i64 0, .int .i64 0, .int .u64 0, .bool false, .string ⟨#[]⟩] : Array Value).toList = Rq.none.cs (.slice none 0 0) from rfl, ← HW9.out]))
          simp only [Exit.noGoto_ret]
          refine bodyPost_ret (v := .tuple #[.agg #[.int .i64 0, .slice none 0 0, .int .i64 0, .int .i64 0, .int .i64 0, .int .i64 0, .int .u64 0, .bool false, .string ⟨#[]⟩], .bool false]) (by simp [results, Tryd.results33]; go_simp) rfl ?_
          exact ⟨none, 0, 0, by rw [HQ2.out]; rfl, by rw [HQ2.out]; exact FN.out.1, FN.out.2⟩
      · replace c3 : wr.cell? ⟨kg, m, none⟩ = some (.int .i64 1) := c3
        have HC : ∀ w : World, Calls Tryd.prog 50 #[.string (S x), .int .u64 4294967295] w fun e w' => e = .returned (.tuple #[.int .i64 (((nv 4294967295 x : Nat) : Int)), .bool (nb 4294967295 x)]) ∧ w = w' := whole_any (S x) 4294967295 (by omega)
        obtain ⟨V, hV⟩ : ∃ V : Int, V = ((nv 4294967295 x : Nat) : Int) := ⟨_, rfl⟩
        simp only [← hV] at HC
        have q1 := HR.out.cells 2 _ rfl
        rw [Nat.zero_add] at q1
        have q2 := HR.out.fz 2
        have HR2 : Hid (Rd W (o2 (w.heap.size + 1 + 1)) (wr.setCell ⟨w.heap.size + 1 + 1, 2, none⟩ (.int .i64 V)) o (w.heap.size + 1 + 1) { r with flags := V } a' n' c') := Lib.hid (HR.out.set (r' := { r with flags := V }) 2 (.int .i64 V) (by omega) rfl (by rfl))
        have HVV := Lib.hid hV
        clear hV
        cases hb : nb 4294967295 x with
        | true =>
          simp only [hb] at HC
          have HB := Lib.hid hb
          clear hb
          go_wp2_with (go_at_call 50; refine (HC _).mono ?_; rintro e w' ⟨rfl, rfl⟩)
          refine ⟨⟨j + 1, { r with flags := V }, a', n', c', o, by omega, by go_num, Lib.hid (by have := HNJ.out; omega), HR2, HV, Lib.hid (HQ.out.trans ((rd_yes HX.out (by rw [← HKD.out]; exact HB.out)).trans ?_))⟩, by simp [intOf]; omega⟩
          rw [← HKD.out]; congr 1; rw [HVV.out]; rfl
        | false =>
          simp only [hb] at HC
          have HB := Lib.hid hb
          clear hb
          obtain ⟨th, _, _, rg, _⟩ := HE.out _ _ _ _ _ _ HR2.out Rq.none none 0 0
          have FN := Lib.hid (HFN.out _ _ _ _ _ _ HR2.out Rq.none none 0 0 (.inl ⟨rfl, rfl, rfl, rfl⟩))
          have HQ2 : Hid (rd ks 0 l Rq.none = none) := Lib.hid (HQ.out.trans (rd_no HX.out (by rw [← HKD.out]; exact HB.out)))
          obtain ⟨W9, hW9⟩ : ∃ W9, W9 = (wr.setCell ⟨w.heap.size + 1 + 1, 2, none⟩ (.int .i64 V)).setCells (w.heap.size + 1) 0 (Rq.none.cs (.slice none 0 0)) := ⟨_, rfl⟩
          rw [← hW9] at rg FN
          have z0 : W9.cell? ⟨w.heap.size + 1, 0, none⟩ = some (.int .i64 0) := rg 0 _ rfl
          have z1 : W9.cell? ⟨w.heap.size + 1, 1, none⟩ = some (.slice none 0 0) := rg 1 _ rfl
          have z2 : W9.cell? ⟨w.heap.size + 1, 2, none⟩ = some (.int .i64 0) := rg 2 _ rfl
          have z3 : W9.cell? ⟨w.heap.size + 1, 3, none⟩ = some (.int .i64 0) := rg 3 _ rfl
          have z4 : W9.cell? ⟨w.heap.size + 1, 4, none⟩ = some (.int .i64 0) := rg 4 _ rfl
          have z5 : W9.cell? ⟨w.heap.size + 1, 5, none⟩ = some (.int .i64 0) := rg 5 _ rfl
          have z6 : W9.cell? ⟨w.heap.size + 1, 6, none⟩ = some (.int .u64 0) := rg 6 _ rfl
          have z7 : W9.cell? ⟨w.heap.size + 1, 7, none⟩ = some (.bool false) := rg 7 _ rfl
          have z8 : W9.cell? ⟨w.heap.size + 1, 8, none⟩ = some (.string ⟨#[]⟩) := rg 8 _ rfl
          have TH := Lib.hid th
          have HW9 := Lib.hid hW9
          clear rg th hW9
          go_wp2_with (first | (go_at_call 50; refine (HC _).mono ?_; rintro e w' ⟨rfl, rfl⟩) | ((with_reducible show wpList _ _ _ (Oper.mk none (Op.store 30 _ _) _ _ _ _ :: _) _ _); refine wpList_store_mid (by rfl) 30 (.tmp 4) (.tmp 89) (by rfl) (w.heap.size + 1) 0 #[.int .i64 0, .slice none 0 0, .int .i64 0, .int .i64 0, .int .i64 0, .int .i64 0, .int .u64 0, .bool false, .string ⟨#[]⟩] (by rfl) (by rfl) TH.out (by kernel_rfl) (all_oneCell_toArray zv_one) ?_; rw [show (#[Value.int .i64 0, .slice none 0 0, .int .i64 0, .int .i64 0, .int .i64 0, .int .i64 0, .int .u64 0, .bool false, .string ⟨#[]⟩] : Array Value).toList = Rq.none.cs (.slice none 0 0) from rfl, ← HW9.out]))
          simp only [Exit.noGoto_ret]
          refine bodyPost_ret (v := .tuple #[.agg #[.int .i64 0, .slice none 0 0, .int .i64 0, .int .i64 0, .int .i64 0, .int .i64 0, .int .u64 0, .bool false, .string ⟨#[]⟩], .bool false]) (by simp [results, Tryd.results33]; go_simp) rfl ?_
          exact ⟨none, 0, 0, by rw [HQ2.out]; rfl, by rw [HQ2.out]; exact FN.out.1, FN.out.2⟩
      · replace c3 : wr.cell? ⟨kg, m, none⟩ = some (.int .i64 2) := c3
        have HC : ∀ w : World, Calls Tryd.prog 51 #[.string (S x), .int .u64 1099511627776] w fun e w' => e = .returned (.tuple #[.int .i64 (gv 1099511627776 x), .bool (gb 1099511627776 x)]) ∧ w = w' := signed_any (S x) 1099511627776 (by omega)
        obtain ⟨V, hV⟩ : ∃ V : Int, V = gv 1099511627776 x := ⟨_, rfl⟩
        simp only [← hV] at HC
        have q1 := HR.out.cells 3 _ rfl
        rw [Nat.zero_add] at q1
        have q2 := HR.out.fz 3
        have HR2 : Hid (Rd W (o2 (w.heap.size + 1 + 1)) (wr.setCell ⟨w.heap.size + 1 + 1, 3, none⟩ (.int .i64 V)) o (w.heap.size + 1 + 1) { r with exp := V } a' n' c') := Lib.hid (HR.out.set (r' := { r with exp := V }) 3 (.int .i64 V) (by omega) rfl (by rfl))
        have HVV := Lib.hid hV
        clear hV
        cases hb : gb 1099511627776 x with
        | true =>
          simp only [hb] at HC
          have HB := Lib.hid hb
          clear hb
          go_wp2_with (go_at_call 51; refine (HC _).mono ?_; rintro e w' ⟨rfl, rfl⟩)
          refine ⟨⟨j + 1, { r with exp := V }, a', n', c', o, by omega, by go_num, Lib.hid (by have := HNJ.out; omega), HR2, HV, Lib.hid (HQ.out.trans ((rd_yes HX.out (by rw [← HKD.out]; exact HB.out)).trans ?_))⟩, by simp [intOf]; omega⟩
          rw [← HKD.out]; congr 1; rw [HVV.out]; rfl
        | false =>
          simp only [hb] at HC
          have HB := Lib.hid hb
          clear hb
          obtain ⟨th, _, _, rg, _⟩ := HE.out _ _ _ _ _ _ HR2.out Rq.none none 0 0
          have FN := Lib.hid (HFN.out _ _ _ _ _ _ HR2.out Rq.none none 0 0 (.inl ⟨rfl, rfl, rfl, rfl⟩))
          have HQ2 : Hid (rd ks 0 l Rq.none = none) := Lib.hid (HQ.out.trans (rd_no HX.out (by rw [← HKD.out]; exact HB.out)))
          obtain ⟨W9, hW9⟩ : ∃ W9, W9 = (wr.setCell ⟨w.heap.size + 1 + 1, 3, none⟩ (.int .i64 V)).setCells (w.heap.size + 1) 0 (Rq.none.cs (.slice none 0 0)) := ⟨_, rfl⟩
          rw [← hW9] at rg FN
          have z0 : W9.cell? ⟨w.heap.size + 1, 0, none⟩ = some (.int .i64 0) := rg 0 _ rfl
          have z1 : W9.cell? ⟨w.heap.size + 1, 1, none⟩ = some (.slice none 0 0) := rg 1 _ rfl
          have z2 : W9.cell? ⟨w.heap.size + 1, 2, none⟩ = some (.int .i64 0) := rg 2 _ rfl
          have z3 : W9.cell? ⟨w.heap.size + 1, 3, none⟩ = some (.int .i64 0) := rg 3 _ rfl
          have z4 : W9.cell? ⟨w.heap.size + 1, 4, none⟩ = some (.int .i64 0) := rg 4 _ rfl
          have z5 : W9.cell? ⟨w.heap.size + 1, 5, none⟩ = some (.int .i64 0) := rg 5 _ rfl
          have z6 : W9.cell? ⟨w.heap.size + 1, 6, none⟩ = some (.int .u64 0) := rg 6 _ rfl
          have z7 : W9.cell? ⟨w.heap.size + 1, 7, none⟩ = some (.bool false) := rg 7 _ rfl
          have z8 : W9.cell? ⟨w.heap.size + 1, 8, none⟩ = some (.string ⟨#[]⟩) := rg 8 _ rfl
          have TH := Lib.hid th
          have HW9 := Lib.hid hW9
          clear rg th hW9
          go_wp2_with (first | (go_at_call 51; refine (HC _).mono ?_; rintro e w' ⟨rfl, rfl⟩) | ((with_reducible show wpList _ _ _ (Oper.mk none (Op.store 30 _ _) _ _ _ _ :: _) _ _); refine wpList_store_mid (by rfl) 30 (.tmp 4) (.tmp 89) (by rfl) (w.heap.size + 1) 0 #[.int .i64 0, .slice none 0 0, .int .i64 0, .int .i64 0, .int .i64 0, .int .i64 0, .int .u64 0, .bool false, .string ⟨#[]⟩] (by rfl) (by rfl) TH.out (by kernel_rfl) (all_oneCell_toArray zv_one) ?_; rw [show (#[Value.int .i64 0, .slice none 0 0, .int .i64 0, .int .i64 0, .int .i64 0, .int .i64 0, .int .u64 0, .bool false, .string ⟨#[]⟩] : Array Value).toList = Rq.none.cs (.slice none 0 0) from rfl, ← HW9.out]))
          simp only [Exit.noGoto_ret]
          refine bodyPost_ret (v := .tuple #[.agg #[.int .i64 0, .slice none 0 0, .int .i64 0, .int .i64 0, .int .i64 0, .int .i64 0, .int .u64 0, .bool false, .string ⟨#[]⟩], .bool false]) (by simp [results, Tryd.results33]; go_simp) rfl ?_
          exact ⟨none, 0, 0, by rw [HQ2.out]; rfl, by rw [HQ2.out]; exact FN.out.1, FN.out.2⟩
      · replace c3 : wr.cell? ⟨kg, m, none⟩ = some (.int .i64 3) := c3
        have HC : ∀ w : World, Calls Tryd.prog 50 #[.string (S x), .int .u64 2147483647] w fun e w' => e = .returned (.tuple #[.int .i64 (((nv 2147483647 x : Nat) : Int)), .bool (nb 2147483647 x)]) ∧ w = w' := whole_any (S x) 2147483647 (by omega)
        obtain ⟨V, hV⟩ : ∃ V : Int, V = ((nv 2147483647 x : Nat) : Int) := ⟨_, rfl⟩
        simp only [← hV] at HC
        have q1 := HR.out.cells 4 _ rfl
        rw [Nat.zero_add] at q1
        have q2 := HR.out.fz 4
        have HR2 : Hid (Rd W (o2 (w.heap.size + 1 + 1)) (wr.setCell ⟨w.heap.size + 1 + 1, 4, none⟩ (.int .i64 V)) o (w.heap.size + 1 + 1) { r with bytes := V } a' n' c') := Lib.hid (HR.out.set (r' := { r with bytes := V }) 4 (.int .i64 V) (by omega) rfl (by rfl))
        have HVV := Lib.hid hV
        clear hV
        cases hb : nb 2147483647 x with
        | true =>
          simp only [hb] at HC
          have HB := Lib.hid hb
          clear hb
          go_wp2_with (go_at_call 50; refine (HC _).mono ?_; rintro e w' ⟨rfl, rfl⟩)
          refine ⟨⟨j + 1, { r with bytes := V }, a', n', c', o, by omega, by go_num, Lib.hid (by have := HNJ.out; omega), HR2, HV, Lib.hid (HQ.out.trans ((rd_yes HX.out (by rw [← HKD.out]; exact HB.out)).trans ?_))⟩, by simp [intOf]; omega⟩
          rw [← HKD.out]; congr 1; rw [HVV.out]; rfl
        | false =>
          simp only [hb] at HC
          have HB := Lib.hid hb
          clear hb
          obtain ⟨th, _, _, rg, _⟩ := HE.out _ _ _ _ _ _ HR2.out Rq.none none 0 0
          have FN := Lib.hid (HFN.out _ _ _ _ _ _ HR2.out Rq.none none 0 0 (.inl ⟨rfl, rfl, rfl, rfl⟩))
          have HQ2 : Hid (rd ks 0 l Rq.none = none) := Lib.hid (HQ.out.trans (rd_no HX.out (by rw [← HKD.out]; exact HB.out)))
          obtain ⟨W9, hW9⟩ : ∃ W9, W9 = (wr.setCell ⟨w.heap.size + 1 + 1, 4, none⟩ (.int .i64 V)).setCells (w.heap.size + 1) 0 (Rq.none.cs (.slice none 0 0)) := ⟨_, rfl⟩
          rw [← hW9] at rg FN
          have z0 : W9.cell? ⟨w.heap.size + 1, 0, none⟩ = some (.int .i64 0) := rg 0 _ rfl
          have z1 : W9.cell? ⟨w.heap.size + 1, 1, none⟩ = some (.slice none 0 0) := rg 1 _ rfl
          have z2 : W9.cell? ⟨w.heap.size + 1, 2, none⟩ = some (.int .i64 0) := rg 2 _ rfl
          have z3 : W9.cell? ⟨w.heap.size + 1, 3, none⟩ = some (.int .i64 0) := rg 3 _ rfl
          have z4 : W9.cell? ⟨w.heap.size + 1, 4, none⟩ = some (.int .i64 0) := rg 4 _ rfl
          have z5 : W9.cell? ⟨w.heap.size + 1, 5, none⟩ = some (.int .i64 0) := rg 5 _ rfl
          have z6 : W9.cell? ⟨w.heap.size + 1, 6, none⟩ = some (.int .u64 0) := rg 6 _ rfl
          have z7 : W9.cell? ⟨w.heap.size + 1, 7, none⟩ = some (.bool false) := rg 7 _ rfl
          have z8 : W9.cell? ⟨w.heap.size + 1, 8, none⟩ = some (.string ⟨#[]⟩) := rg 8 _ rfl
          have TH := Lib.hid th
          have HW9 := Lib.hid hW9
          clear rg th hW9
          go_wp2_with (first | (go_at_call 50; refine (HC _).mono ?_; rintro e w' ⟨rfl, rfl⟩) | ((with_reducible show wpList _ _ _ (Oper.mk none (Op.store 30 _ _) _ _ _ _ :: _) _ _); refine wpList_store_mid (by rfl) 30 (.tmp 4) (.tmp 89) (by rfl) (w.heap.size + 1) 0 #[.int .i64 0, .slice none 0 0, .int .i64 0, .int .i64 0, .int .i64 0, .int .i64 0, .int .u64 0, .bool false, .string ⟨#[]⟩] (by rfl) (by rfl) TH.out (by kernel_rfl) (all_oneCell_toArray zv_one) ?_; rw [show (#[Value.int .i64 0, .slice none 0 0, .int .i64 0, .int .i64 0, .int .i64 0, .int .i64 0, .int .u64 0, .bool false, .string ⟨#[]⟩] : Array Value).toList = Rq.none.cs (.slice none 0 0) from rfl, ← HW9.out]))
          simp only [Exit.noGoto_ret]
          refine bodyPost_ret (v := .tuple #[.agg #[.int .i64 0, .slice none 0 0, .int .i64 0, .int .i64 0, .int .i64 0, .int .i64 0, .int .u64 0, .bool false, .string ⟨#[]⟩], .bool false]) (by simp [results, Tryd.results33]; go_simp) rfl ?_
          exact ⟨none, 0, 0, by rw [HQ2.out]; rfl, by rw [HQ2.out]; exact FN.out.1, FN.out.2⟩
      · replace c3 : wr.cell? ⟨kg, m, none⟩ = some (.int .i64 4) := c3
        have HC : ∀ w : World, Calls Tryd.prog 50 #[.string (S x), .int .u64 1099511627776] w fun e w' => e = .returned (.tuple #[.int .i64 (((nv 1099511627776 x : Nat) : Int)), .bool (nb 1099511627776 x)]) ∧ w = w' := whole_any (S x) 1099511627776 (by omega)
        obtain ⟨V, hV⟩ : ∃ V : Int, V = ((nv 1099511627776 x : Nat) : Int) := ⟨_, rfl⟩
        simp only [← hV] at HC
        have q1 := HR.out.cells 5 _ rfl
        rw [Nat.zero_add] at q1
        have q2 := HR.out.fz 5
        have HR2 : Hid (Rd W (o2 (w.heap.size + 1 + 1)) (wr.setCell ⟨w.heap.size + 1 + 1, 5, none⟩ (.int .i64 V)) o (w.heap.size + 1 + 1) { r with cas := V } a' n' c') := Lib.hid (HR.out.set (r' := { r with cas := V }) 5 (.int .i64 V) (by omega) rfl (by rfl))
        have HVV := Lib.hid hV
        clear hV
        cases hb : nb 1099511627776 x with
        | true =>
          simp only [hb] at HC
          have HB := Lib.hid hb
          clear hb
          go_wp2_with (go_at_call 50; refine (HC _).mono ?_; rintro e w' ⟨rfl, rfl⟩)
          refine ⟨⟨j + 1, { r with cas := V }, a', n', c', o, by omega, by go_num, Lib.hid (by have := HNJ.out; omega), HR2, HV, Lib.hid (HQ.out.trans ((rd_yes HX.out (by rw [← HKD.out]; exact HB.out)).trans ?_))⟩, by simp [intOf]; omega⟩
          rw [← HKD.out]; congr 1; rw [HVV.out]; rfl
        | false =>
          simp only [hb] at HC
          have HB := Lib.hid hb
          clear hb
          obtain ⟨th, _, _, rg, _⟩ := HE.out _ _ _ _ _ _ HR2.out Rq.none none 0 0
          have FN := Lib.hid (HFN.out _ _ _ _ _ _ HR2.out Rq.none none 0 0 (.inl ⟨rfl, rfl, rfl, rfl⟩))
          have HQ2 : Hid (rd ks 0 l Rq.none = none) := Lib.hid (HQ.out.trans (rd_no HX.out (by rw [← HKD.out]; exact HB.out)))
          obtain ⟨W9, hW9⟩ : ∃ W9, W9 = (wr.setCell ⟨w.heap.size + 1 + 1, 5, none⟩ (.int .i64 V)).setCells (w.heap.size + 1) 0 (Rq.none.cs (.slice none 0 0)) := ⟨_, rfl⟩
          rw [← hW9] at rg FN
          have z0 : W9.cell? ⟨w.heap.size + 1, 0, none⟩ = some (.int .i64 0) := rg 0 _ rfl
          have z1 : W9.cell? ⟨w.heap.size + 1, 1, none⟩ = some (.slice none 0 0) := rg 1 _ rfl
          have z2 : W9.cell? ⟨w.heap.size + 1, 2, none⟩ = some (.int .i64 0) := rg 2 _ rfl
          have z3 : W9.cell? ⟨w.heap.size + 1, 3, none⟩ = some (.int .i64 0) := rg 3 _ rfl
          have z4 : W9.cell? ⟨w.heap.size + 1, 4, none⟩ = some (.int .i64 0) := rg 4 _ rfl
          have z5 : W9.cell? ⟨w.heap.size + 1, 5, none⟩ = some (.int .i64 0) := rg 5 _ rfl
          have z6 : W9.cell? ⟨w.heap.size + 1, 6, none⟩ = some (.int .u64 0) := rg 6 _ rfl
          have z7 : W9.cell? ⟨w.heap.size + 1, 7, none⟩ = some (.bool false) := rg 7 _ rfl
          have z8 : W9.cell? ⟨w.heap.size + 1, 8, none⟩ = some (.string ⟨#[]⟩) := rg 8 _ rfl
          have TH := Lib.hid th
          have HW9 := Lib.hid hW9
          clear rg th hW9
          go_wp2_with (first | (go_at_call 50; refine (HC _).mono ?_; rintro e w' ⟨rfl, rfl⟩) | ((with_reducible show wpList _ _ _ (Oper.mk none (Op.store 30 _ _) _ _ _ _ :: _) _ _); refine wpList_store_mid (by rfl) 30 (.tmp 4) (.tmp 89) (by rfl) (w.heap.size + 1) 0 #[.int .i64 0, .slice none 0 0, .int .i64 0, .int .i64 0, .int .i64 0, .int .i64 0, .int .u64 0, .bool false, .string ⟨#[]⟩] (by rfl) (by rfl) TH.out (by kernel_rfl) (all_oneCell_toArray zv_one) ?_; rw [show (#[Value.int .i64 0, .slice none 0 0, .int .i64 0, .int .i64 0, .int .i64 0, .int .i64 0, .int .u64 0, .bool false, .string ⟨#[]⟩] : Array Value).toList = Rq.none.cs (.slice none 0 0) from rfl, ← HW9.out]))
          simp only [Exit.noGoto_ret]
          refine bodyPost_ret (v := .tuple #[.agg #[.int .i64 0, .slice none 0 0, .int .i64 0, .int .i64 0, .int .i64 0, .int .i64 0, .int .u64 0, .bool false, .string ⟨#[]⟩], .bool false]) (by simp [results, Tryd.results33]; go_simp) rfl ?_
          exact ⟨none, 0, 0, by rw [HQ2.out]; rfl, by rw [HQ2.out]; exact FN.out.1, FN.out.2⟩
      · replace c3 : wr.cell? ⟨kg, m, none⟩ = some (.int .i64 5) := c3
        have HC : ∀ w : World, Calls Tryd.prog 52 #[.string (S x), .int .u64 18446744073709551615] w fun e w' => e = .returned (.tuple #[.int .u64 (((nv 18446744073709551615 x : Nat) : Int)), .bool (nb 18446744073709551615 x)]) ∧ w = w' := number_any (S x) 18446744073709551615 (by omega)
        obtain ⟨V, hV⟩ : ∃ V : Int, V = ((nv 18446744073709551615 x : Nat) : Int) := ⟨_, rfl⟩
        obtain ⟨V0, hV0⟩ : ∃ V0 : Nat, V0 = nv 18446744073709551615 x := ⟨_, rfl⟩
        simp only [← hV] at HC
        have q1 := HR.out.cells 6 _ rfl
        rw [Nat.zero_add] at q1
        have q2 := HR.out.fz 6
        have HR2 : Hid (Rd W (o2 (w.heap.size + 1 + 1)) (wr.setCell ⟨w.heap.size + 1 + 1, 6, none⟩ (.int .u64 V)) o (w.heap.size + 1 + 1) { r with delta := V0 } a' n' c') := Lib.hid (HR.out.set (r' := { r with delta := V0 }) 6 (.int .u64 V) (by omega) rfl (by rw [hV, hV0]; rfl))
        have HVV := Lib.hid hV
        clear hV
        have HV0 := Lib.hid hV0
        clear hV0
        cases hb : nb 18446744073709551615 x with
        | true =>
          simp only [hb] at HC
          have HB := Lib.hid hb
          clear hb
          go_wp2_with (go_at_call 52; refine (HC _).mono ?_; rintro e w' ⟨rfl, rfl⟩)
          refine ⟨⟨j + 1, { r with delta := V0 }, a', n', c', o, by omega, by go_num, Lib.hid (by have := HNJ.out; omega), HR2, HV, Lib.hid (HQ.out.trans ((rd_yes HX.out (by rw [← HKD.out]; exact HB.out)).trans ?_))⟩, by simp [intOf]; omega⟩
          rw [← HKD.out]; congr 1; rw [HV0.out]; rfl
        | false =>
          simp only [hb] at HC
          have HB := Lib.hid hb
          clear hb
          obtain ⟨th, _, _, rg, _⟩ := HE.out _ _ _ _ _ _ HR2.out Rq.none none 0 0
          have FN := Lib.hid (HFN.out _ _ _ _ _ _ HR2.out Rq.none none 0 0 (.inl ⟨rfl, rfl, rfl, rfl⟩))
          have HQ2 : Hid (rd ks 0 l Rq.none = none) := Lib.hid (HQ.out.trans (rd_no HX.out (by rw [← HKD.out]; exact HB.out)))
          obtain ⟨W9, hW9⟩ : ∃ W9, W9 = (wr.setCell ⟨w.heap.size + 1 + 1, 6, none⟩ (.int .u64 V)).setCells (w.heap.size + 1) 0 (Rq.none.cs (.slice none 0 0)) := ⟨_, rfl⟩
          rw [← hW9] at rg FN
          have z0 : W9.cell? ⟨w.heap.size + 1, 0, none⟩ = some (.int .i64 0) := rg 0 _ rfl
          have z1 : W9.cell? ⟨w.heap.size + 1, 1, none⟩ = some (.slice none 0 0) := rg 1 _ rfl
          have z2 : W9.cell? ⟨w.heap.size + 1, 2, none⟩ = some (.int .i64 0) := rg 2 _ rfl
          have z3 : W9.cell? ⟨w.heap.size + 1, 3, none⟩ = some (.int .i64 0) := rg 3 _ rfl
          have z4 : W9.cell? ⟨w.heap.size + 1, 4, none⟩ = some (.int .i64 0) := rg 4 _ rfl
          have z5 : W9.cell? ⟨w.heap.size + 1, 5, none⟩ = some (.int .i64 0) := rg 5 _ rfl
          have z6 : W9.cell? ⟨w.heap.size + 1, 6, none⟩ = some (.int .u64 0) := rg 6 _ rfl
          have z7 : W9.cell? ⟨w.heap.size + 1, 7, none⟩ = some (.bool false) := rg 7 _ rfl
          have z8 : W9.cell? ⟨w.heap.size + 1, 8, none⟩ = some (.string ⟨#[]⟩) := rg 8 _ rfl
          have TH := Lib.hid th
          have HW9 := Lib.hid hW9
          clear rg th hW9
          go_wp2_with (first | (go_at_call 52; refine (HC _).mono ?_; rintro e w' ⟨rfl, rfl⟩) | ((with_reducible show wpList _ _ _ (Oper.mk none (Op.store 30 _ _) _ _ _ _ :: _) _ _); refine wpList_store_mid (by rfl) 30 (.tmp 4) (.tmp 89) (by rfl) (w.heap.size + 1) 0 #[.int .i64 0, .slice none 0 0, .int .i64 0, .int .i64 0, .int .i64 0, .int .i64 0, .int .u64 0, .bool false, .string ⟨#[]⟩] (by rfl) (by rfl) TH.out (by kernel_rfl) (all_oneCell_toArray zv_one) ?_; rw [show (#[Value.int .i64 0, .slice none 0 0, .int .i64 0, .int .i64 0, .int .i64 0, .int .i64 0, .int .u64 0, .bool false, .string ⟨#[]⟩] : Array Value).toList = Rq.none.cs (.slice none 0 0) from rfl, ← HW9.out]))
          simp only [Exit.noGoto_ret]
          refine bodyPost_ret (v := .tuple #[.agg #[.int .i64 0, .slice none 0 0, .int .i64 0, .int .i64 0, .int .i64 0, .int .i64 0, .int .u64 0, .bool false, .string ⟨#[]⟩], .bool false]) (by simp [results, Tryd.results33]; go_simp) rfl ?_
          exact ⟨none, 0, 0, by rw [HQ2.out]; rfl, by rw [HQ2.out]; exact FN.out.1, FN.out.2⟩
      · replace c3 : wr.cell? ⟨kg, m, none⟩ = some (.int .i64 6) := c3
        have HC : ∀ w : World, Calls Tryd.prog 52 #[.string (S x), .int .u64 4294967295] w fun e w' => e = .returned (.tuple #[.int .u64 (((nv 4294967295 x : Nat) : Int)), .bool (nb 4294967295 x)]) ∧ w = w' := number_any (S x) 4294967295 (by omega)
        obtain ⟨V, hV⟩ : ∃ V : Int, V = ((nv 4294967295 x : Nat) : Int) := ⟨_, rfl⟩
        simp only [← hV] at HC
        have HR2 := HR
        have HVV := Lib.hid hV
        clear hV
        cases hb : nb 4294967295 x with
        | true =>
          simp only [hb] at HC
          have HB := Lib.hid hb
          clear hb
          go_wp2_with (go_at_call 52; refine (HC _).mono ?_; rintro e w' ⟨rfl, rfl⟩)
          refine ⟨⟨j + 1, r, a', n', c', o, by omega, by go_num, Lib.hid (by have := HNJ.out; omega), HR2, HV, Lib.hid (HQ.out.trans ((rd_yes HX.out (by rw [← HKD.out]; exact HB.out)).trans ?_))⟩, by simp [intOf]; omega⟩
          rw [← HKD.out]; rfl
        | false =>
          simp only [hb] at HC
          have HB := Lib.hid hb
          clear hb
          obtain ⟨th, _, _, rg, _⟩ := HE.out _ _ _ _ _ _ HR2.out Rq.none none 0 0
          have FN := Lib.hid (HFN.out _ _ _ _ _ _ HR2.out Rq.none none 0 0 (.inl ⟨rfl, rfl, rfl, rfl⟩))
          have HQ2 : Hid (rd ks 0 l Rq.none = none) := Lib.hid (HQ.out.trans (rd_no HX.out (by rw [← HKD.out]; exact HB.out)))
          obtain ⟨W9, hW9⟩ : ∃ W9, W9 = (wr).setCells (w.heap.size + 1) 0 (Rq.none.cs (.slice none 0 0)) := ⟨_, rfl⟩
          rw [← hW9] at rg FN
          have z0 : W9.cell? ⟨w.heap.size + 1, 0, none⟩ = some (.int .i64 0) := rg 0 _ rfl
          have z1 : W9.cell? ⟨w.heap.size + 1, 1, none⟩ = some (.slice none 0 0) := rg 1 _ rfl
          have z2 : W9.cell? ⟨w.heap.size + 1, 2, none⟩ = some (.int .i64 0) := rg 2 _ rfl
          have z3 : W9.cell? ⟨w.heap.size + 1, 3, none⟩ = some (.int .i64 0) := rg 3 _ rfl
          have z4 : W9.cell? ⟨w.heap.size + 1, 4, none⟩ = some (.int .i64 0) := rg 4 _ rfl
          have z5 : W9.cell? ⟨w.heap.size + 1, 5, none⟩ = some (.int .i64 0) := rg 5 _ rfl
          have z6 : W9.cell? ⟨w.heap.size + 1, 6, none⟩ = some (.int .u64 0) := rg 6 _ rfl
          have z7 : W9.cell? ⟨w.heap.size + 1, 7, none⟩ = some (.bool false) := rg 7 _ rfl
          have z8 : W9.cell? ⟨w.heap.size + 1, 8, none⟩ = some (.string ⟨#[]⟩) := rg 8 _ rfl
          have TH := Lib.hid th
          have HW9 := Lib.hid hW9
          clear rg th hW9
          go_wp2_with (first | (go_at_call 52; refine (HC _).mono ?_; rintro e w' ⟨rfl, rfl⟩) | ((with_reducible show wpList _ _ _ (Oper.mk none (Op.store 30 _ _) _ _ _ _ :: _) _ _); refine wpList_store_mid (by rfl) 30 (.tmp 4) (.tmp 89) (by rfl) (w.heap.size + 1) 0 #[.int .i64 0, .slice none 0 0, .int .i64 0, .int .i64 0, .int .i64 0, .int .i64 0, .int .u64 0, .bool false, .string ⟨#[]⟩] (by rfl) (by rfl) TH.out (by kernel_rfl) (all_oneCell_toArray zv_one) ?_; rw [show (#[Value.int .i64 0, .slice none 0 0, .int .i64 0, .int .i64 0, .int .i64 0, .int .i64 0, .int .u64 0, .bool false, .string ⟨#[]⟩] : Array Value).toList = Rq.none.cs (.slice none 0 0) from rfl, ← HW9.out]))
          simp only [Exit.noGoto_ret]
          refine bodyPost_ret (v := .tuple #[.agg #[.int .i64 0, .slice none 0 0, .int .i64 0, .int .i64 0, .int .i64 0, .int .i64 0, .int .u64 0, .bool false, .string ⟨#[]⟩], .bool false]) (by simp [results, Tryd.results33]; go_simp) rfl ?_
          exact ⟨none, 0, 0, by rw [HQ2.out]; rfl, by rw [HQ2.out]; exact FN.out.1, FN.out.2⟩
      · replace c3 : wr.cell? ⟨kg, m, none⟩ = some (.int .i64 7) := c3
        by_cases hb : x = [48]
        · have eq : ((S x).toList == [48]) = true := by rw [beq_lit, hb]; rfl
          have HB := Lib.hid hb
          clear hb
          go_wp2_with fail
          refine ⟨⟨j + 1, r, a', n', c', o, by omega, by go_num, Lib.hid (by have := HNJ.out; omega), HR, HV, Lib.hid (HQ.out.trans ((rd_yes HX.out (by rw [← HKD.out]; exact decide_eq_true HB.out)).trans ?_))⟩, by simp [intOf]; omega⟩
          rw [← HKD.out]; rfl
        · have eq : ((S x).toList == [48]) = false := by rw [beq_lit]; exact decide_eq_false hb
          have HB := Lib.hid hb
          clear hb
          obtain ⟨th, _, _, rg, _⟩ := HE.out _ _ _ _ _ _ HR.out Rq.none none 0 0
          have FN := Lib.hid (HFN.out _ _ _ _ _ _ HR.out Rq.none none 0 0 (.inl ⟨rfl, rfl, rfl, rfl⟩))
          have HQ2 : Hid (rd ks 0 l Rq.none = none) := Lib.hid (HQ.out.trans (rd_no HX.out (by rw [← HKD.out]; exact (decide_eq_false HB.out))))
          obtain ⟨W9, hW9⟩ : ∃ W9, W9 = (wr).setCells (w.heap.size + 1) 0 (Rq.none.cs (.slice none 0 0)) := ⟨_, rfl⟩
          rw [← hW9] at rg FN
          have z0 : W9.cell? ⟨w.heap.size + 1, 0, none⟩ = some (.int .i64 0) := rg 0 _ rfl
          have z1 : W9.cell? ⟨w.heap.size + 1, 1, none⟩ = some (.slice none 0 0) := rg 1 _ rfl
          have z2 : W9.cell? ⟨w.heap.size + 1, 2, none⟩ = some (.int .i64 0) := rg 2 _ rfl
          have z3 : W9.cell? ⟨w.heap.size + 1, 3, none⟩ = some (.int .i64 0) := rg 3 _ rfl
          have z4 : W9.cell? ⟨w.heap.size + 1, 4, none⟩ = some (.int .i64 0) := rg 4 _ rfl
          have z5 : W9.cell? ⟨w.heap.size + 1, 5, none⟩ = some (.int .i64 0) := rg 5 _ rfl
          have z6 : W9.cell? ⟨w.heap.size + 1, 6, none⟩ = some (.int .u64 0) := rg 6 _ rfl
          have z7 : W9.cell? ⟨w.heap.size + 1, 7, none⟩ = some (.bool false) := rg 7 _ rfl
          have z8 : W9.cell? ⟨w.heap.size + 1, 8, none⟩ = some (.string ⟨#[]⟩) := rg 8 _ rfl
          have TH := Lib.hid th
          have HW9 := Lib.hid hW9
          clear rg th hW9
          go_wp2_with ((with_reducible show wpList _ _ _ (Oper.mk none (Op.store 30 _ _) _ _ _ _ :: _) _ _); refine wpList_store_mid (by rfl) 30 (.tmp 4) (.tmp 89) (by rfl) (w.heap.size + 1) 0 #[.int .i64 0, .slice none 0 0, .int .i64 0, .int .i64 0, .int .i64 0, .int .i64 0, .int .u64 0, .bool false, .string ⟨#[]⟩] (by rfl) (by rfl) TH.out (by kernel_rfl) (all_oneCell_toArray zv_one) ?_; rw [show (#[Value.int .i64 0, .slice none 0 0, .int .i64 0, .int .i64 0, .int .i64 0, .int .i64 0, .int .u64 0, .bool false, .string ⟨#[]⟩] : Array Value).toList = Rq.none.cs (.slice none 0 0) from rfl, ← HW9.out])
          simp only [Exit.noGoto_ret]
          refine bodyPost_ret (v := .tuple #[.agg #[.int .i64 0, .slice none 0 0, .int .i64 0, .int .i64 0, .int .i64 0, .int .i64 0, .int .u64 0, .bool false, .string ⟨#[]⟩], .bool false]) (by simp [results, Tryd.results33]; go_simp) rfl ?_
          exact ⟨none, 0, 0, by rw [HQ2.out]; rfl, by rw [HQ2.out]; exact FN.out.1, FN.out.2⟩
    · have hi1 : decide ((j : Int) < (n : Int)) = false := decide_eq_false (by omega)
      obtain ⟨rv, rks, rf, re, rb, rc, rdl, rq⟩ := r
      obtain ⟨hv1, hv2⟩ := HV.out
      simp only at hv1 hv2
      subst hv1 hv2
      obtain ⟨th, _, _, rg, _⟩ := HE.out _ _ _ _ _ _ HR.out ⟨0, rks, rf, re, rb, rc, rdl, false⟩ a' n' c'
      have FN := Lib.hid (HFN.out _ _ _ _ _ _ HR.out ⟨0, rks, rf, re, rb, rc, rdl, false⟩ a' n' c' (.inr ⟨rfl, rfl, rfl, rfl⟩))
      have HQ2 : Hid (rd ks 0 l Rq.none = some ⟨0, rks, rf, re, rb, rc, rdl, false⟩) := Lib.hid (by rw [HQ.out, List.drop_eq_nil_of_le (by rw [← HN.out]; omega)]; rfl)
      obtain ⟨W9, hW9⟩ : ∃ W9, W9 = wr.setCells (w.heap.size + 1) 0 (Rq.cs ⟨0, rks, rf, re, rb, rc, rdl, false⟩ (.slice a' n' c')) := ⟨_, rfl⟩
      rw [← hW9] at rg FN
      obtain ⟨vd, hvd⟩ : ∃ vd : Int, vd = ((rdl : Nat) : Int) := ⟨_, rfl⟩
      have z0 : W9.cell? ⟨w.heap.size + 1, 0, none⟩ = some (.int .i64 0) := rg 0 _ rfl
      have y0 : wr.cell? ⟨w.heap.size + 1 + 1, 0, none⟩ = some (.int .i64 0) := by have := HR.out.cells 0 _ rfl; rw [Nat.zero_add] at this; exact this
      have z1 : W9.cell? ⟨w.heap.size + 1, 1, none⟩ = some (.slice a' n' c') := rg 1 _ rfl
      have y1 : wr.cell? ⟨w.heap.size + 1 + 1, 1, none⟩ = some (.slice a' n' c') := by have := HR.out.cells 1 _ rfl; rw [Nat.zero_add] at this; exact this
      have z2 : W9.cell? ⟨w.heap.size + 1, 2, none⟩ = some (.int .i64 rf) := rg 2 _ rfl
      have y2 : wr.cell? ⟨w.heap.size + 1 + 1, 2, none⟩ = some (.int .i64 rf) := by have := HR.out.cells 2 _ rfl; rw [Nat.zero_add] at this; exact this
      have z3 : W9.cell? ⟨w.heap.size + 1, 3, none⟩ = some (.int .i64 re) := rg 3 _ rfl
      have y3 : wr.cell? ⟨w.heap.size + 1 + 1, 3, none⟩ = some (.int .i64 re) := by have := HR.out.cells 3 _ rfl; rw [Nat.zero_add] at this; exact this
      have z4 : W9.cell? ⟨w.heap.size + 1, 4, none⟩ = some (.int .i64 rb) := rg 4 _ rfl
      have y4 : wr.cell? ⟨w.heap.size + 1 + 1, 4, none⟩ = some (.int .i64 rb) := by have := HR.out.cells 4 _ rfl; rw [Nat.zero_add] at this; exact this
      have z5 : W9.cell? ⟨w.heap.size + 1, 5, none⟩ = some (.int .i64 rc) := rg 5 _ rfl
      have y5 : wr.cell? ⟨w.heap.size + 1 + 1, 5, none⟩ = some (.int .i64 rc) := by have := HR.out.cells 5 _ rfl; rw [Nat.zero_add] at this; exact this
      have z6 : W9.cell? ⟨w.heap.size + 1, 6, none⟩ = some (.int .u64 ((rdl : Nat) : Int)) := rg 6 _ rfl
      have y6 : wr.cell? ⟨w.heap.size + 1 + 1, 6, none⟩ = some (.int .u64 ((rdl : Nat) : Int)) := by have := HR.out.cells 6 _ rfl; rw [Nat.zero_add] at this; exact this
      have z7 : W9.cell? ⟨w.heap.size + 1, 7, none⟩ = some (.bool false) := rg 7 _ rfl
      have y7 : wr.cell? ⟨w.heap.size + 1 + 1, 7, none⟩ = some (.bool false) := by have := HR.out.cells 7 _ rfl; rw [Nat.zero_add] at this; exact this
      have z8 : W9.cell? ⟨w.heap.size + 1, 8, none⟩ = some (.string ⟨#[]⟩) := rg 8 _ rfl
      have y8 : wr.cell? ⟨w.heap.size + 1 + 1, 8, none⟩ = some (.string ⟨#[]⟩) := by have := HR.out.cells 8 _ rfl; rw [Nat.zero_add] at this; exact this
      have TH := Lib.hid th
      have HW9 := Lib.hid hW9
      clear rg th hW9
      go_wp2_with ((with_reducible show wpList _ _ _ (Oper.mk none (Op.store 30 _ _) _ _ _ _ :: _) _ _); refine wpList_store_mid (by rfl) 30 (.tmp 4) (.tmp 91) (by rfl) (w.heap.size + 1) 0 #[.int .i64 0, .slice a' n' c', .int .i64 rf, .int .i64 re, .int .i64 rb, .int .i64 rc, .int .u64 ((rdl : Nat) : Int), .bool false, .string ⟨#[]⟩] (by rfl) (by rfl) TH.out (by kernel_rfl) (all_oneCell_toArray (cs_one ⟨0, rks, rf, re, rb, rc, rdl, false⟩ _ _ _)) ?_; rw [show (#[Value.int .i64 0, .slice a' n' c', .int .i64 rf, .int .i64 re, .int .i64 rb, .int .i64 rc, .int .u64 ((rdl : Nat) : Int), .bool false, .string ⟨#[]⟩] : Array Value).toList = Rq.cs ⟨0, rks, rf, re, rb, rc, rdl, false⟩ (.slice a' n' c') from rfl, ← HW9.out])
      try simp only [Exit.noGoto_ret]
      refine bodyPost_ret (v := .tuple #[.agg #[.int .i64 0, .slice a' n' c', .int .i64 rf, .int .i64 re, .int .i64 rb, .int .i64 rc, .int .u64 ((rdl : Nat) : Int), .bool false, .string ⟨#[]⟩], .bool true]) (by simp [results, Tryd.results33]; go_simp) rfl ?_
      exact ⟨a', n', c', by rw [HQ2.out]; rfl, by rw [HQ2.out]; exact FN.out.1, FN.out.2⟩
end Go.Proofs.YtedbklipbfbmoaaDoor
