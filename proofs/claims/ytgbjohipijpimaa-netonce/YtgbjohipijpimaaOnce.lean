/-
  NETONCE walked.
-/
import Derived.Test.YtgbjohipijpimaaRuns
namespace Go.Proofs.Ytgbjohipijpimaa
open Go.RowKit

/-- Truths as cells. -/
def bc (f : Nat → Bool) (n : Nat) : List Value := (List.range n).map fun i => .bool (f i)
theorem bc_length (f : Nat → Bool) (n : Nat) : (bc f n).length = n := by simp [bc]
theorem bc_at (f : Nat → Bool) {n j : Nat} (h : j < n) : (bc f n)[j]? = some (.bool (f j)) := by simp [bc, h]
theorem bc_set (f : Nat → Bool) {n j : Nat} (h : j < n) : (bc f n).set j (.bool true) = bc (fun i => if i = j then true else f i) n := by
  refine List.ext_getElem? fun i => ?_
  by_cases e : j = i
  · subst e
    rw [List.getElem?_set_self (by rw [bc_length]; exact h), bc_at _ h]; simp
  · rw [List.getElem?_set_ne e]
    by_cases hi : i < n
    · rw [bc_at _ hi, bc_at _ hi, if_neg (fun x => e x.symm)]
    · rw [List.getElem?_eq_none (by rw [bc_length]; omega), List.getElem?_eq_none (by rw [bc_length]; omega)]
theorem under46 : Try.prog.underlying 46 = some (.slice 4) := by kernel_rfl
theorem info4 : (Try.prog.info? 4).map (fun i => (i.zero, i.size, i.bytes)) = some (some (.bool false), 1, 1) := by kernel_rfl
/-- make([]bool, n). -/
theorem make_bools (w : World) (o : Nat → Nat × Nat) (t : Nat × Nat) (n : Nat) (hn : n ≤ 1000000) : ∃ w' o', (Instr.makeSlice 46 (.int .i64 (n : Int)) (.int .i64 (n : Int))).run Try.prog w = .ok (.slice (some ⟨w.heap.size, 0, none⟩) n n) w' ∧
    OwnK w' o' t 1 (.slice (some ⟨w.heap.size, 0, none⟩) n n) n (bc (fun _ => false) n) ∧ Fr (fun _ => False) o o' w w' := by
  obtain ⟨i0, hi, hz0, hz1, hz2⟩ := info_parts info4
  have hr := run_make (P := Try.prog) w 46 4 i0 (.bool false) under46 hi hz0 .i64 .i64 (n : Int) (n : Int) (by omega) (by omega) (by rw [hz2]; omega) (by omega)
  simp only [Int.toNat_natCast] at hr
  refine ⟨_, lab o w.heap.size t, hr, ?_, Fr.new _ o w _ _⟩
  have := own_new (w := w) (o := o) (t := t) (k := 1) (n := n) (cap := n) (e := 4) (bc (fun _ => false) n) #[] (by rw [bc_length, Nat.mul_one]) (fun u hu => by obtain ⟨k, _, rfl⟩ := List.mem_map.1 hu; rfl) (Nat.le_refl _) (by unfold maxLen; omega) (by simp)
  rw [Array.append_empty] at this
  have e : madeCells (Value.bool false).cells n = (bc (fun _ => false) n).toArray := by
    apply Array.ext'
    simp [madeCells, bc, Value.cells, Nat.mod_one]
  rw [hz1, Nat.mul_one, e]
  exact this
theorem out_map (ns : List Nat) (k : Nat) : out (ns.map fun (i : Nat) => fo i) k = (ns.eraseIdx k).map fun (i : Nat) => fo i := by
  unfold out
  rw [List.eraseIdx_eq_take_drop_succ, List.map_append, List.map_take, List.map_drop]
theorem getD_mem {ns : List Nat} {k : Nat} (h : k < ns.length) : ns.getD k 0 ∈ ns := by
  rw [List.getD_eq_getElem?_getD, List.getElem?_eq_getElem h]; exact List.getElem_mem h
theorem map_at {ns : List Nat} {k : Nat} (h : k < ns.length) : (ns.map fun (i : Nat) => fo i)[k]? = some (fo ((ns.getD k 0 : Nat) : Int)) := by
  rw [List.getElem?_map, List.getElem?_eq_getElem h, List.getD_eq_getElem?_getD, List.getElem?_eq_getElem h]; rfl
theorem nodup_out {ns : List Nat} (hn : ns.Nodup) {k : Nat} (hk : k < ns.length) {y : Nat} (hy : y ∈ ns.eraseIdx k) : y ≠ ns.getD k 0 := by
  rintro rfl
  have h1 : ns[k] ∈ ns.eraseIdx k := by
    have : ns.getD k 0 = ns[k] := by rw [List.getD_eq_getElem?_getD, List.getElem?_eq_getElem hk]; rfl
    rw [← this]; exact hy
  rw [List.mem_eraseIdx_iff_getElem] at h1
  obtain ⟨i, hi, hne, he⟩ := h1
  exact hne ((List.getElem?_inj hi hn).1 (by rw [List.getElem?_eq_getElem hi, List.getElem?_eq_getElem hk, he]))
theorem len_q {o : Nat → Nat × Nat} {x b : Nat} {l : List F} (n : Nat) (hn : n = l.length) (w : World) (h : IsNet w o x b l) :
    Calls Try.prog 15 #[.pointer (some ⟨b, 0, none⟩)] w fun e w' => e = .returned (.int .i64 (n : Int)) ∧ w = w' := by
  subst hn; exact len_any w h
set_option maxRecDepth 100000 in
set_option maxHeartbeats 4000000 in
theorem once_walk (N : Int) (a : Option Addr) (len cap : Nat) (q : Nat → Int) (w : World) (hq : IntsF w a q len) : Calls Try.prog 5 #[.int .i64 N, .slice a len cap] w fun e w' => e = .returned (.bool true) ∧ Below w.heap.size w w' := by
  have HQ : Hid (IntsF w a q len) := hq
  obtain ⟨K, hK⟩ : ∃ K : Nat, wi N 0 60 = (K : Int) := ⟨(wi N 0 60).toNat, by have := (wi_bd N 0 60 (by omega)).1; omega⟩
  have hK60 : K ≤ 60 := by have := (wi_bd N 0 60 (by omega)).2; omega
  have HK : Hid (wi N 0 60 = (K : Int)) := hK
  clear hq hK
  go_enter Try.func5, Try.ntmps5
  go_wp2_with fail
  refine (new_any 2 _ o0).mono ?_
  rintro e w1 ⟨b, o1, rfl, I1, F1⟩
  have HI1 : Hid (IsNet w1 o1 2 b []) := I1
  have HF1 : Hid (Fr TN o0 o1 w w1) := F1.mono (fun _ h => h.elim)
  clear I1 F1
  go_wp2_with fail
  refine (within_any N 0 60 (by omega) (by omega) (by omega) _).mono ?_
  rintro e w2 ⟨rfl, rfl⟩
  rw [HK.out]
  go_wp2_with fail
  go_loopw [7] (fun i wr => ∃ (j : Nat) (o : Nat → Nat × Nat), i = .int .i64 (j : Int) ∧ j ≤ K ∧ Hid (IsNet wr o 2 b ((List.range j).map fun (i : Nat) => fo i)) ∧ Hid (Fr TN o0 o w wr)) (fun i _ => K - (intOf i).toNat)
  case atStart => exact ⟨0, o1, rfl, by omega, HI1, HF1⟩
  case round =>
    clear HI1 HF1
    obtain ⟨j, o, rfl, hj, HI, HF⟩ := hrel
    by_cases hlt : j < K
    · have hi1 : (j : Int) < (K : Int) := by omega
      go_wp2_with fail
      refine (of_any (j : Int) _).mono ?_
      rintro e w2 ⟨rfl, ob, rfl⟩
      have HI2 : Hid (IsNet (wr.alloc ob) o 2 b ((List.range j).map fun (i : Nat) => fo i)) := HI.out.alloc ob
      have HF2 : Hid (Fr TN o0 o w (wr.alloc ob)) := HF.out.trans (Fr.alloc _ _ _ _)
      clear HI HF
      go_wp2_with fail
      refine (send_any (fo (j : Int)) (by simp; omega) _ HI2.out).mono ?_
      rintro e w3 ⟨o3, rfl, I3, F3⟩
      have HI3 : Hid (IsNet w3 o3 2 b ((List.range (j + 1)).map fun (i : Nat) => fo i)) := by
        show IsNet _ _ _ _ _; rw [List.range_succ, List.map_append]; exact I3
      have HF3 : Hid (Fr TN o0 o3 w w3) := HF2.out.trans (F3.mono (fun t h => TN.of (by decide) h))
      clear I3 F3 HI2 HF2
      go_wp2_with fail
      exact ⟨⟨j + 1, o3, by go_num, by omega, HI3, HF3⟩, by simp [intOf]; omega⟩
    · have hi1 : decide ((j : Int) < (K : Int)) = false := by simp; omega
      have hjK : j = K := by omega
      subst hjK
      obtain ⟨w4, o4, hmk, O4, F4⟩ := make_bools wr o (9, 0) j (by omega)
      have HI4 : Hid (IsNet w4 o4 2 b ((List.range j).map fun (i : Nat) => fo i)) := HI.out.fr F4 id id
      have HF4 : Hid (Fr TN o0 o4 w w4) := HF.out.trans (F4.mono (fun _ h => h.elim))
      obtain ⟨g, hg⟩ : ∃ g, g = wr.heap.size := ⟨_, rfl⟩
      rw [← hg] at hmk O4
      have HO4 : Hid (OwnK w4 o4 (9, 0) 1 (.slice (some ⟨g, 0, none⟩) j j) j (bc (fun _ => false) j)) := O4
      obtain ⟨K, hKj⟩ : ∃ K, K = j := ⟨_, rfl⟩
      subst hKj
      clear F4 O4 HI HF hg hj hlt HK
      go_wp2_with fail
      go_loopw [9] (fun i wr => ∃ (j : Nat) (ns : List Nat) (f : Nat → Bool) (o : Nat → Nat × Nat), i = .int .i64 (j : Int) ∧ j ≤ K ∧ Hid (j + ns.length = K) ∧ Hid ns.Nodup ∧ Hid (∀ x ∈ ns, x < K) ∧ Hid (∀ x ∈ ns, f x = false) ∧ Hid (IsNet wr o 2 b (ns.map fun (i : Nat) => fo i)) ∧ Hid (OwnK wr o (9, 0) 1 (.slice (some ⟨g, 0, none⟩) K K) K (bc f K)) ∧ Hid (Fr TN o0 o w wr)) (fun i _ => K - (intOf i).toNat)
      case atStart => exact ⟨0, List.range K, (fun _ => false), o4, rfl, by omega, by show _ = _; simp, List.nodup_range, (fun x hx => by simpa using hx), (fun _ _ => rfl), HI4, HO4, HF4⟩
      case round =>
        clear HI4 HF4 HO4 hmk
        obtain ⟨j, ns, f, o, rfl, hj, HJ, HND, HLT, HS, HI, HO, HF⟩ := hrel
        obtain ⟨m, hm⟩ : ∃ m, m = ns.length := ⟨_, rfl⟩
        have hjm : j + m = K := by rw [hm]; exact HJ.out
        have HLN : Hid ((ns.map fun (i : Nat) => fo i).length = m) := by show _ = _; rw [List.length_map, hm]
        have HM : Hid (m = ns.length) := hm
        clear hm
        go_wp2_with fail
        refine (len_q m HLN.out.symm _ HI.out).mono ?_
        rintro e w5 ⟨rfl, rfl⟩
        by_cases hlt : j < K
        · have hi1 : (j : Int) < (K : Int) := by omega
          have hm0 : (0 : Int) < (m : Int) := by omega
          by_cases hpl : j < len
          · have hi2 : (j : Int) < (len : Int) := by omega
            rcases HQ.out with h0 | ⟨p, off, e1, hall⟩
            · omega
            · subst e1
              have k1 := HF.out.cell (hall j hpl) (fun x => x rfl)
              obtain ⟨P, hP⟩ : ∃ P : Nat, wi (q j) 0 ((m : Int) - 1) = (P : Int) := ⟨(wi (q j) 0 ((m : Int) - 1)).toNat, by have := (wi_bd (q j) 0 ((m : Int) - 1) (by omega)).1; omega⟩
              have hPm : P < m := by have := (wi_bd (q j) 0 ((m : Int) - 1) (by omega)).2; omega
              have HP : Hid (wi (q j) 0 ((m : Int) - 1) = (P : Int)) := hP
              have HPL : Hid (P < ns.length) := by show _ < _; rw [← HM.out]; exact hPm
              have HAT : Hid ((ns.map fun (i : Nat) => fo i)[P]? = some (fo ((ns.getD P 0 : Nat) : Int))) := map_at HPL.out
              have hwk : IntKind.i64.wrap ((m : Int) - 1) = (m : Int) - 1 := by rw [IntKind.wrap_i64]; omega
              obtain ⟨Q, hQ⟩ : ∃ Q, Q = q j := ⟨_, rfl⟩
              rw [← hQ] at k1 HP
              clear hall hP hQ
              have k2 : wr.drew.cell? ⟨p, off + j, none⟩ = some (.int .i64 Q) := k1
              have HID : Hid (IsNet wr.drew o 2 b (ns.map fun (i : Nat) => fo i)) := HI.out.fr (Fr.drew1 (fun _ => False) o wr) id id
              go_wp2_with fail
              go_region_held3 (fun w' => w'.cell? ⟨p, off + j, none⟩ = some (.int .i64 Q)) (first | exact k2 | exact k1)
                (first
                  | (go_at_call 15; refine (len_q m HLN.out.symm _ HID.out).mono ?_; rintro e w6 ⟨rfl, rfl⟩)
                  | (go_at_call 18; refine (within_any Q 0 ((m : Int) - 1) (by omega) (by omega) (by omega) _).mono ?_; rintro e w6 ⟨rfl, rfl⟩; rw [HP.out]))
              go_wp2_with fail
              refine (deliver_yes P (fo ((ns.getD P 0 : Nat) : Int)) (by rw [HAT.out]) (by rw [HLN.out]; omega) (by decide) _ HID.out).mono ?_
              rintro e w8 ⟨rfl, o8, I8, F8⟩
              obtain ⟨o9, M9, N9⟩ := Mine.new w8 o8 (fo ((ns.getD P 0 : Nat) : Int))
              have FT : Fr (·.1 = 2) o o9 wr (w8.alloc (.cells (fo ((ns.getD P 0 : Nat) : Int)).cs.toArray 26)) := (Fr.drew1 _ o wr).trans (F8.trans (N9 _))
              have I9 : IsNet (w8.alloc (.cells (fo ((ns.getD P 0 : Nat) : Int)).cs.toArray 26)) o9 2 b ((ns.eraseIdx P).map fun (i : Nat) => fo i) := by
                rw [← out_map]; exact I8.fr (N9 (fun _ => False)) id id
              have O9 := HO.out.fr FT (by decide)
              have HT9 : Hid (Fr TN o0 o9 w (w8.alloc (.cells (fo ((ns.getD P 0 : Nat) : Int)).cs.toArray 26))) := HF.out.trans (FT.mono (fun t h => TN.of (by decide) h))
              obtain ⟨x, hx⟩ : ∃ x, x = ns.getD P 0 := ⟨_, rfl⟩
              rw [← hx] at I9 O9 HT9 ⊢
              have HX : Hid (x = ns.getD P 0) := hx
              have hxk : x < K := by rw [hx]; exact HLT.out _ (getD_mem HPL.out)
              have hfx : f x = false := by rw [hx]; exact HS.out _ (getD_mem HPL.out)
              obtain ⟨g9, cap9, e9, og9, _, _, _, h69, h79⟩ := O9.there (by omega)
              injection e9 with e9 e9' e9''
              injection e9 with e9
              injection e9 with e9
              subst e9 e9''
              have s1 := h69 x (.bool false) (by rw [← hfx]; exact bc_at f hxk)
              have s2 := (h79 x (by omega)).2
              have s3 : (x : Int) < (K : Int) := by omega
              have s4 : decide ((x : Int) < 0) = false := by simp
              have s5 : decide ((K : Int) ≤ (x : Int)) = false := by simp; omega
              have OS := O9.set x (.bool true) rfl (by omega)
              rw [bc_set f hxk] at OS
              have FS : Fr (· = (9, 0)) o9 o9 (w8.alloc (.cells (fo (x : Int)).cs.toArray 26)) ((w8.alloc (.cells (fo (x : Int)).cs.toArray 26)).setCell ⟨g, x, none⟩ (.bool true)) := Fr.set (a := ⟨g, x, none⟩) og9 _
              have HE : Hid (IsNet ((w8.alloc (.cells (fo (x : Int)).cs.toArray 26)).setCell ⟨g, x, none⟩ (.bool true)) o9 2 b ((ns.eraseIdx P).map fun (i : Nat) => fo i) ∧ OwnK ((w8.alloc (.cells (fo (x : Int)).cs.toArray 26)).setCell ⟨g, x, none⟩ (.bool true)) o9 (9, 0) 1 (.slice (some ⟨g, 0, none⟩) K K) K (bc (fun j => if j = x then true else f j) K) ∧ Fr TN o0 o9 w ((w8.alloc (.cells (fo (x : Int)).cs.toArray 26)).setCell ⟨g, x, none⟩ (.bool true))) := ⟨I9.fr FS (fun e => by cases e) (fun e => by cases e), OS, HT9.out.trans (FS.mono (fun t e => by rw [e]; intro h; cases h))⟩
              simp only [fo, F.v, F.cs] at s1 s2 HE ⊢
              clear I8 F8 M9 N9 FT I9 O9 HT9 hx hfx og9 h69 h79 OS FS e9' HI HO HF
              go_wp2_with fail
              refine ⟨⟨j + 1, ns.eraseIdx P, (fun j => if j = x then true else f j), o9, by go_num, by omega, ?_, ?_, ?_, ?_, HE.out.1, HE.out.2.1, HE.out.2.2⟩, by simp [intOf]; omega⟩
              · show _ = _; have := HJ.out; have := HPL.out; rw [List.length_eraseIdx, if_pos HPL.out]; omega
              · exact HND.out.sublist (List.eraseIdx_sublist _ _)
              · exact fun y hy => HLT.out y (List.mem_of_mem_eraseIdx hy)
              · intro y hy
                have hne : y ≠ x := by rw [HX.out]; exact nodup_out HND.out HPL.out hy
                show (if y = x then true else f y) = false
                rw [if_neg hne]; exact HS.out y (List.mem_of_mem_eraseIdx hy)
          · have hi2 : decide ((j : Int) < (len : Int)) = false := by simp; omega
            have HPL : Hid (0 < ns.length) := by show _ < _; rw [← HM.out]; omega
            have HAT : Hid ((ns.map fun (i : Nat) => fo i)[0]? = some (fo ((ns.getD 0 0 : Nat) : Int))) := map_at HPL.out
            go_wp2_with fail
            refine (deliver_yes 0 (fo ((ns.getD 0 0 : Nat) : Int)) (by rw [HAT.out]) (by rw [HLN.out]; omega) (by decide) _ HI.out).mono ?_
            rintro e w8 ⟨rfl, o8, I8, F8⟩
            obtain ⟨o9, M9, N9⟩ := Mine.new w8 o8 (fo ((ns.getD 0 0 : Nat) : Int))
            have FT : Fr (·.1 = 2) o o9 wr (w8.alloc (.cells (fo ((ns.getD 0 0 : Nat) : Int)).cs.toArray 26)) := (F8.trans (N9 _))
            have I9 : IsNet (w8.alloc (.cells (fo ((ns.getD 0 0 : Nat) : Int)).cs.toArray 26)) o9 2 b ((ns.eraseIdx 0).map fun (i : Nat) => fo i) := by
              rw [← out_map]; exact I8.fr (N9 (fun _ => False)) id id
            have O9 := HO.out.fr FT (by decide)
            have HT9 : Hid (Fr TN o0 o9 w (w8.alloc (.cells (fo ((ns.getD 0 0 : Nat) : Int)).cs.toArray 26))) := HF.out.trans (FT.mono (fun t h => TN.of (by decide) h))
            obtain ⟨x, hx⟩ : ∃ x, x = ns.getD 0 0 := ⟨_, rfl⟩
            rw [← hx] at I9 O9 HT9 ⊢
            have HX : Hid (x = ns.getD 0 0) := hx
            have hxk : x < K := by rw [hx]; exact HLT.out _ (getD_mem HPL.out)
            have hfx : f x = false := by rw [hx]; exact HS.out _ (getD_mem HPL.out)
            obtain ⟨g9, cap9, e9, og9, _, _, _, h69, h79⟩ := O9.there (by omega)
            injection e9 with e9 e9' e9''
            injection e9 with e9
            injection e9 with e9
            subst e9 e9''
            have s1 := h69 x (.bool false) (by rw [← hfx]; exact bc_at f hxk)
            have s2 := (h79 x (by omega)).2
            have s3 : (x : Int) < (K : Int) := by omega
            have s4 : decide ((x : Int) < 0) = false := by simp
            have s5 : decide ((K : Int) ≤ (x : Int)) = false := by simp; omega
            have OS := O9.set x (.bool true) rfl (by omega)
            rw [bc_set f hxk] at OS
            have FS : Fr (· = (9, 0)) o9 o9 (w8.alloc (.cells (fo (x : Int)).cs.toArray 26)) ((w8.alloc (.cells (fo (x : Int)).cs.toArray 26)).setCell ⟨g, x, none⟩ (.bool true)) := Fr.set (a := ⟨g, x, none⟩) og9 _
            have HE : Hid (IsNet ((w8.alloc (.cells (fo (x : Int)).cs.toArray 26)).setCell ⟨g, x, none⟩ (.bool true)) o9 2 b ((ns.eraseIdx 0).map fun (i : Nat) => fo i) ∧ OwnK ((w8.alloc (.cells (fo (x : Int)).cs.toArray 26)).setCell ⟨g, x, none⟩ (.bool true)) o9 (9, 0) 1 (.slice (some ⟨g, 0, none⟩) K K) K (bc (fun j => if j = x then true else f j) K) ∧ Fr TN o0 o9 w ((w8.alloc (.cells (fo (x : Int)).cs.toArray 26)).setCell ⟨g, x, none⟩ (.bool true))) := ⟨I9.fr FS (fun e => by cases e) (fun e => by cases e), OS, HT9.out.trans (FS.mono (fun t e => by rw [e]; intro h; cases h))⟩
            simp only [fo, F.v, F.cs] at s1 s2 HE ⊢
            clear I8 F8 M9 N9 FT I9 O9 HT9 hx hfx og9 h69 h79 OS FS e9' HI HO HF
            go_wp2_with fail
            refine ⟨⟨j + 1, ns.eraseIdx 0, (fun j => if j = x then true else f j), o9, by go_num, by omega, ?_, ?_, ?_, ?_, HE.out.1, HE.out.2.1, HE.out.2.2⟩, by simp [intOf]; omega⟩
            · show _ = _; have := HJ.out; have := HPL.out; rw [List.length_eraseIdx, if_pos HPL.out]; omega
            · exact HND.out.sublist (List.eraseIdx_sublist _ _)
            · exact fun y hy => HLT.out y (List.mem_of_mem_eraseIdx hy)
            · intro y hy
              have hne : y ≠ x := by rw [HX.out]; exact nodup_out HND.out HPL.out hy
              show (if y = x then true else f y) = false
              rw [if_neg hne]; exact HS.out y (List.mem_of_mem_eraseIdx hy)
        · have hjK : j = K := by omega
          subst hjK
          have hm0 : m = 0 := by omega
          subst hm0
          have hns : ns = [] := List.eq_nil_of_length_eq_zero HM.out.symm
          subst hns
          have HI' : Hid (IsNet wr o 2 b []) := HI.out
          clear HI HO HJ HND HLT HS HLN HM
          go_wp2_with fail
          refine (deliver_no 0 (by simp) _ HI'.out).mono ?_
          rintro e w6 ⟨rfl, F6⟩
          have F7 := F6.trans (Fr.alloc _ _ _ (.cells Z.cs.toArray 26))
          have HI7 : Hid (IsNet (w6.alloc (.cells Z.cs.toArray 26)) o 2 b []) := HI'.out.fr F7 id id
          have HF7 : Hid (Fr TN o0 o w (w6.alloc (.cells Z.cs.toArray 26))) := HF.out.trans (F7.mono (fun _ h => h.elim))
          simp only [Z, F.v, F.cs] at HI7 HF7 ⊢
          clear F6 F7 HI' HF
          go_wp2_with fail
          refine (len_q 0 rfl _ HI7.out).mono ?_
          rintro e w8 ⟨rfl, rfl⟩
          go_wp2_with fail
          refine (runs_any _).mono ?_
          rintro e w9 ⟨rfl, B9⟩
          have HE : Hid (Below w.heap.size w w9) := (HF7.out.trans (Fr.ofBelow _ _ B9)).below (Nat.le_refl _) (fun b _ h => h rfl)
          clear B9 HF7 HI7
          go_wp2_with fail
          go_ret
          exact ⟨rfl, HE.out⟩
end Go.Proofs.Ytgbjohipijpimaa
