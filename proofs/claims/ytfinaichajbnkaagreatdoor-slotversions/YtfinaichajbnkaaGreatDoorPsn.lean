/-
  scan.
-/
import Derived.Test.YtfinaichajbnkaaGreatDoorPso
import Derived.Test.YtfinaichajbnkaaGreatDoorPkc
namespace Go.Proofs.YtfinaichajbnkaaGreatDoor
open Go.RowKit
open Wi (F enc fold unf lf sb OwnC RowF tab)

theorem und55 : Tryz.prog.underlying 99 = some (.slice 9) := by kernel_rfl
theorem inf9 : (Tryz.prog.info? 9).map (fun i => (i.zero, i.size, i.bytes)) = some (some (.string ⟨#[]⟩), 1, 16) := by kernel_rfl
theorem elem55 : Tryz.prog.underlying 99 = some (.slice (Tryz.prog.elem 99)) := by kernel_rfl
theorem elem55' : Tryz.prog.elem 99 = 9 := by kernel_rfl
theorem size9' (w : World) : (sizeOf 9).run Tryz.prog w = .ok 1 w := by kernel_rfl
theorem sl55 (a : Option Addr) (len cap h : Nat) (hh : h ≤ cap) (w : World) : (Instr.sliceAt 99 (.slice a len cap) none (some (.int .i64 (h : Int))) none).run Tryz.prog w = .ok (.slice a h cap) w := by
  rw [run_sliceAt_slice _ _ _ _ _ _ elem55, run_slice_h _ _ _ _ _ elem55 _ _ (by omega) (by omega), elem55', size9']
  cases a with
  | none => simp [sliced]
  | some p =>
    have ea : p.add 0 = p := by unfold Addr.add; split <;> simp_all
    simp [sliced, ea]
/-- Another mark. -/
theorem OwnK.mark2 {w : World} {o o' : Nat → Nat × Nat} {t t' : Nat × Nat} {k n : Nat} {v : Value} {cs : List Value} (h : OwnK w o t k v n cs) (hl : ∀ b, b < w.heap.size → o' b = t') : OwnK w o' t' k v n cs := by
  refine ⟨h.1, h.2.1, ?_⟩
  rcases h.2.2 with h | ⟨g, cap, h1, h2, h3, h4⟩
  · exact .inl h
  · exact .inr ⟨g, cap, h1, hl g h3, h3, h4⟩
/-- The keys above, of the first ones. -/
def abv (x : ByteArray) (l : List ByteArray) : List ByteArray := (l.filterMap recOf).filter fun k => bef x k
theorem abv_len (x : ByteArray) (l : List ByteArray) : (abv x l).length ≤ l.length := Nat.le_trans (List.length_filter_le _ _) (List.length_filterMap_le _ _)
theorem abv_some {x : ByteArray} {l : List ByteArray} {j : Nat} {a k : ByteArray} (hj : l[j]? = some a) (hr : recOf a = some k) (hb : bef x k = true) : abv x (l.take (j + 1)) = abv x (l.take j) ++ [k] := by
  unfold abv
  rw [List.take_add_one, hj, List.filterMap_append, List.filter_append]
  simp [hr, hb]
theorem abv_none {x : ByteArray} {l : List ByteArray} {j : Nat} {a : ByteArray} (hj : l[j]? = some a) (hr : recOf a = none) : abv x (l.take (j + 1)) = abv x (l.take j) := by
  unfold abv
  rw [List.take_add_one, hj, List.filterMap_append, List.filter_append]
  simp [hr]
theorem abv_below {x : ByteArray} {l : List ByteArray} {j : Nat} {a k : ByteArray} (hj : l[j]? = some a) (hr : recOf a = some k) (hb : bef x k = false) : abv x (l.take (j + 1)) = abv x (l.take j) := by
  unfold abv
  rw [List.take_add_one, hj, List.filterMap_append, List.filter_append]
  simp [hr, hb]
theorem txs_app (l m : List ByteArray) : txs (l ++ m) = txs l ++ txs m := by simp [txs]
theorem txs_one (k : ByteArray) : txs [k] = enc (k.size * 2) ++ sb k := by simp [txs, Wi.fold_nat]
theorem txs_len {l : List ByteArray} {M : Nat} (h : ∀ k ∈ l, k.size ≤ M) (hM : M ≤ 100000000) : (txs l).length ≤ l.length * (M + 10) := by
  induction l with
  | nil => simp [txs]
  | cons k l ih =>
    have e : txs (k :: l) = txs [k] ++ txs l := txs_app [k] l
    rw [e, List.length_append, txs_one, List.length_append, Wi.sb_length, List.length_cons, Nat.succ_mul]
    have h1 := h k List.mem_cons_self
    have h2 := ih (fun x hx => h x (List.mem_cons_of_mem _ hx))
    have h3 := Wi.enc_len10 (u := k.size * 2) (by omega)
    omega
theorem txs_lt (l : List ByteArray) : ∀ x ∈ txs l, x < 256 := by
  intro x hx
  obtain ⟨k, _, hk⟩ := List.mem_flatMap.1 hx
  rcases List.mem_append.1 hk with h | h
  · exact Wi.enc_lt _ x h
  · unfold Wi.sb Wi.tab at h
    obtain ⟨i, _, rfl⟩ := List.mem_map.1 h
    exact Wi.bt_lt k i
set_option maxRecDepth 100000 in
set_option maxHeartbeats 2000000 in
theorem pscan_any (X : Nat) (s : Sl) (C : Nat) (D : Value) (d : List F) (x : ByteArray) (w : World) (o : Nat → Nat × Nat) (h : IsPl w o X s C D d) :
    Calls Tryz.prog 39 #[.pointer (some ⟨X, 0, none⟩), .string x] w fun e w' => e = .returned (.string (bs (txs (scnK s.z x)))) ∧ ∃ o', IsPl w' o' X s C D d ∧ Fr (fun _ => False) o o' w w' := by
  have c6 := h.c.c6
  have hok := h.st.ok
  have KY := hid (keys_any C s.z w o h.st)
  have HI := hid h
  have HKS : Hid (∀ a ∈ s.z.keys, a.size ≤ 65536) := hid (fun a ha => by
    obtain ⟨i, hi, rfl⟩ := List.mem_map.1 ha
    have := hok.fit i hi
    rw [ByteArray.size_append] at this; omega)
  have HND : Hid ((s.z.keys.filterMap recOf).Nodup) := hid (recs_nodup hok)
  have hln : s.z.keys.length ≤ 1000000 := by
    have := hok.few
    unfold Sp.keys; rw [List.length_map]; omega
  have HSC : Hid (scnK s.z x = (srtS (abv x s.z.keys)).take 16) := hid rfl
  obtain ⟨K, hK⟩ : ∃ K, K = s.z.keys := ⟨_, rfl⟩
  rw [← hK] at HKS HND hln HSC
  obtain ⟨n, hnn⟩ : ∃ n, K.length = n := ⟨_, rfl⟩
  have HN := hid hnn
  have HKK := hid hK
  rw [hnn] at hln
  clear h hok hK hnn
  go_enter Tryz.func39, Tryz.ntmps39
  go_wp2_with fail
  refine KY.out.mono ?_
  rintro e w1 ⟨V, o1, rfl, O1, _, G1⟩
  rw [← HKK.out, HN.out] at O1
  obtain ⟨b1, c1, rfl, _⟩ := O1.form
  have HI1 := hid (HI.out.fr G1 (fun _ _ => id))
  have HG1 := hid G1
  obtain ⟨q, hq⟩ : ∃ q : Nat → Nat × Nat, q = fun _ => (6, 6) := ⟨_, rfl⟩
  have HO1 : Hid (OwnK w1 q (6, 6) 1 (.slice b1 n c1) n (strc K)) := hid (O1.mark2 (fun b _ => by rw [hq]))
  have HQ := hid hq
  clear O1 G1 KY HI hq
  go_wp2_with fail
  go_loopw [5, 19] (fun y i wr => ∃ (j : Nat) (oo : Nat → Nat × Nat) (Y : Value), j ≤ n ∧ Y = y ∧ i = .int .i64 (j : Int) ∧ Hid (OwnK wr oo (7, 7) 1 Y (abv x (K.take j)).length (strc (abv x (K.take j)))) ∧ Hid (Fr (· = (7, 7)) q oo w1 wr)) (fun _ i _ => n - (intOf i).toNat)
  case atStart => exact ⟨0, q, _, by omega, rfl, rfl, OwnK.nil _ _ _ _, Fr.refl _ _ _⟩
  case round =>
    obtain ⟨j, oo, Y, hj, rfl, rfl, HA, HB⟩ := hrel
    by_cases hlt : j < n
    · obtain ⟨a, ha⟩ : ∃ a, K[j]? = some a := ⟨_, List.getElem?_eq_getElem (by rw [HN.out]; exact hlt)⟩
      have HAA := hid ha
      obtain ⟨g1, e1, d1⟩ := (HO1.out.fr HB.out (fun e => by cases e)).read ha
      subst e1
      have hi1 : (j : Int) < (n : Int) := by omega
      have hle : Hid ((abv x (K.take j)).length ≤ n) := hid (Nat.le_trans (abv_len _ _) (by rw [List.length_take]; omega))
      cases hr : recOf a with
      | none =>
        have CP : Hid (∀ W, Calls Tryz.prog 55 #[.string a, .string ⟨#[109]⟩] W fun e w' => e = .returned (.tuple #[.string a, .bool false]) ∧ W = w') := hid (fun W => (cutp_any a W).mono (by
          rintro e w' ⟨rfl, rfl⟩
          rw [hr]; exact ⟨rfl, rfl⟩))
        have HNX := hid (abv_none (x := x) ha hr)
        clear hr ha
        go_wp2_with fail
        refine (CP.out _).mono ?_
        rintro e w2 ⟨rfl, rfl⟩
        go_wp2_with fail
        refine ⟨⟨j + 1, oo, _, by omega, rfl, by go_num, ?_, HB⟩, by simp [intOf]; omega⟩
        rw [HNX.out]; exact HA
      | some k =>
        have CP : Hid (∀ W, Calls Tryz.prog 55 #[.string a, .string ⟨#[109]⟩] W fun e w' => e = .returned (.tuple #[.string k, .bool true]) ∧ W = w') := hid (fun W => (cutp_any a W).mono (by
          rintro e w' ⟨rfl, rfl⟩
          rw [hr]; exact ⟨rfl, rfl⟩))
        cases hb : bef x k with
        | true =>
          have t1 : Op.bytesLess k.toList x.toList = false := bef_asymm hb
          have t2 : (k.toList == x.toList) = false := by
            cases hq : (k.toList == x.toList) with
            | false => rfl
            | true =>
              have he : k.toList = x.toList := by simpa using hq
              have h9 : bef x k = Op.bytesLess x.toList k.toList := rfl
              rw [h9, he, bb_irrefl] at hb; cases hb
          have HNX := hid (abv_some ha hr hb)
          obtain ⟨v3, w3, o3, hrun, O3, F3⟩ := app_one 99 9 (.string ⟨#[]⟩) 16 und55 inf9 (by kernel_rfl) HA.out [.string k] rfl (fun u hu => by simp at hu; rw [hu]; rfl) (by have := hle.out; omega) (by have := hle.out; omega)
          have HO3 : Hid (OwnK w3 o3 (7, 7) 1 v3 (abv x (K.take (j + 1))).length (strc (abv x (K.take (j + 1)))) ∧ Fr (· = (7, 7)) q o3 w1 w3) := hid ⟨by
            rw [HNX.out, List.length_append, strc_append]; exact O3, HB.out.trans F3⟩
          clear O3 F3 hr hb ha
          go_wp2_with fail
          refine (CP.out _).mono ?_
          rintro e w2 ⟨rfl, rfl⟩
          go_wp2_with (at_builtin; refine wpList_append_run rfl (.tmp 34) (.tmp 36) 99 99 rfl _ _ _ rfl rfl hrun ?_)
          exact ⟨⟨j + 1, o3, _, by omega, rfl, by go_num, HO3.out.1, HO3.out.2⟩, by simp [intOf]; omega⟩
        | false =>
          have HNX := hid (abv_below ha hr hb)
          by_cases he : k = x
          · have t1 : Op.bytesLess k.toList x.toList = false := by rw [he]; exact bb_irrefl _
            have t2 : (k.toList == x.toList) = true := by rw [he]; simp
            clear hr hb ha he
            go_wp2_with fail
            refine (CP.out _).mono ?_
            rintro e w2 ⟨rfl, rfl⟩
            go_wp2_with fail
            refine ⟨⟨j + 1, oo, _, by omega, rfl, by go_num, ?_, HB⟩, by simp [intOf]; omega⟩
            rw [HNX.out]; exact HA
          · have t1 : Op.bytesLess k.toList x.toList = true := by
              rcases bef_total k x with h | h | h
              · exact absurd h he
              · exact h
              · rw [h] at hb; cases hb
            clear hr hb ha he
            go_wp2_with fail
            refine (CP.out _).mono ?_
            rintro e w2 ⟨rfl, rfl⟩
            go_wp2_with fail
            refine ⟨⟨j + 1, oo, _, by omega, rfl, by go_num, ?_, HB⟩, by simp [intOf]; omega⟩
            rw [HNX.out]; exact HA
    · have hjn : j = n := by omega
      subst hjn
      have HA2 : Hid (OwnK wr oo (7, 7) 1 Y (abv x K).length (strc (abv x K))) := hid (by
        have := HA.out
        rw [List.take_of_length_le (by rw [HN.out]; exact Nat.le_refl _)] at this
        exact this)
      have SO := hid (psort_any (abv x K) Y (by have := abv_len x K; rw [HN.out] at this; omega) (HND.out.sublist List.filter_sublist) wr HA2.out)
      have hal : (abv x K).length ≤ 1000000 := by have := abv_len x K; rw [HN.out] at this; omega
      go_wp2_with fail
      refine SO.out.mono ?_
      rintro e w2 ⟨rfl, O2, F2⟩
      obtain ⟨M, hM⟩ : ∃ M, M = srtS (abv x K) := ⟨_, rfl⟩
      have hMl : (abv x K).length = M.length := by rw [hM]; exact (srtS_perm _).length_eq.symm
      have HMS : Hid (∀ a ∈ M, a.size ≤ 65536) := hid (fun a ha => by
        rw [hM] at ha
        have h1 := (srtS_perm _).mem_iff.1 ha
        have h2 := (List.mem_filter.1 h1).1
        obtain ⟨b, hb, hr⟩ := List.mem_filterMap.1 h2
        have h3 := HKS.out b hb
        rw [recOf_inv hr, ByteArray.size_append] at h3; omega)
      have HB2 : Hid (Below w1.heap.size w1 w2) := hid ((HB.out.trans F2).below (Nat.le_refl _) (fun b _ e => by rw [HQ.out] at e; cases e))
      rw [← hM, hMl] at O2
      rw [hMl] at hal
      have HMM : Hid (scnK s.z x = M.take 16) := hid (by rw [HSC.out, ← hM])
      obtain ⟨m, hm⟩ : ∃ m, M.length = m := ⟨_, rfl⟩
      have HML := hid hm
      rw [hm] at O2 hal
      obtain ⟨a, c, hY, hmc⟩ := O2.form
      subst hY
      have HO2 := hid O2
      obtain ⟨p, hp⟩ : ∃ p : Nat, p = min m 16 := ⟨_, rfl⟩
      have hmin : min (m : Int) 16 = (p : Int) := by rw [hp]; omega
      have hp16 : p ≤ 16 := by omega
      have hpm : p ≤ m := by omega
      have HTP : Hid (M.take p = M.take 16) := hid (by
        rw [hp]
        by_cases h : m ≤ 16
        · rw [show min m 16 = m by omega, List.take_of_length_le (by omega), List.take_of_length_le (by omega)]
        · rw [show min m 16 = 16 by omega])
      have slp := sl55 a m c p (by omega)
      clear hM hMl HSC O2 F2 HB HA2 SO HA hm hp HKS HND HKK
      go_wp2_with fail
      go_loopw [10, 47] (fun y i wr => ∃ (j : Nat) (b : Option Addr) (cc : Nat), j ≤ p ∧ .slice b (txs (M.take j)).length cc = y ∧ i = .int .i64 (j : Int) ∧ Hid (RowF wr b (lf (txs (M.take j))) (txs (M.take j)).length) ∧ Hid (Below w2.heap.size w2 wr)) (fun _ i _ => p - (intOf i).toNat)
      case atStart => exact ⟨0, none, 0, by omega, rfl, rfl, .inl rfl, Below.refl _ _⟩
      case round =>
        obtain ⟨i, b, cc, hi, rfl, rfl, HR, HW⟩ := hrel
        have HLE : Hid ((txs (M.take i)).length ≤ 16 * 65546) := hid (by
          have h1 := txs_len (l := M.take i) (M := 65536) (fun k hk => HMS.out k (List.mem_of_mem_take hk)) (by omega)
          have h2 : (M.take i).length ≤ 16 := by rw [List.length_take]; omega
          exact Nat.le_trans h1 (Nat.mul_le_mul_right _ h2))
        by_cases hlt : i < p
        · obtain ⟨k, hk⟩ : ∃ k, M[i]? = some k := ⟨_, List.getElem?_eq_getElem (by have := HML.out; omega)⟩
          obtain ⟨g1, e1, d1⟩ := (HO2.out.below HW.out).read hk
          subst e1
          have hi1 : (i : Int) < (p : Int) := by omega
          have hks := HMS.out k (List.mem_of_getElem? hk)
          have TX := hid (Wi.text_any b (txs (M.take i)).length cc (lf (txs (M.take i))) k (by have := HLE.out; omega) wr HR.out)
          have HNX : Hid (tab (lf (txs (M.take i))) (txs (M.take i)).length ++ (enc (k.size * 2) ++ sb k) = txs (M.take (i + 1))) := hid (by
            rw [Wi.tab_lf, ← txs_one, ← txs_app, List.take_add_one, hk]; rfl)
          rw [HNX.out] at TX
          obtain ⟨ln, hln2⟩ : ∃ ln, ln = (txs (M.take i)).length := ⟨_, rfl⟩
          rw [← hln2] at TX ⊢
          clear hk hks HR HLE HNX hln2
          go_wp2_with fail
          refine TX.out.mono ?_
          rintro e w3 ⟨v3, rfl, O3, B3⟩
          obtain ⟨b3, c3, rfl, _, r3⟩ := O3.row
          have HR3 := hid r3
          have HW3 := hid (HW.out.trans (B3.mono HW.out.size))
          clear O3 B3 r3 TX
          go_wp2_with fail
          exact ⟨⟨i + 1, b3, c3, by omega, rfl, by go_num, HR3, HW3⟩, by simp [intOf]; omega⟩
        · have hip : i = p := by omega
          subst hip
          have cv := Wi.conv_str wr b _ cc _ HR.out
          obtain ⟨sx, hsx⟩ : ∃ sx, Wi.mkS (lf (txs (M.take i))) (txs (M.take i)).length = sx := ⟨_, rfl⟩
          have HSX : Hid (sx = bs (txs (scnK s.z x))) := hid (by rw [HMM.out, ← HTP.out, ← hsx]; rfl)
          rw [hsx] at cv
          obtain ⟨ln, hln2⟩ : ∃ ln, ln = (txs (M.take i)).length := ⟨_, rfl⟩
          rw [← hln2] at cv ⊢
          have HE : Hid (IsPl wr o1 X s C D d ∧ Fr (fun _ => False) o o1 w wr) := hid ⟨HI1.out.below (HB2.out.trans (HW.out.mono HB2.out.size)), HG1.out.trans (Fr.ofBelow _ o1 (HB2.out.trans (HW.out.mono HB2.out.size)))⟩
          clear hsx HR HLE hln2
          go_wp2_with fail
          go_ret
          exact ⟨by rw [← HSX.out]; rfl, o1, HE.out⟩
end Go.Proofs.YtfinaichajbnkaaGreatDoor
