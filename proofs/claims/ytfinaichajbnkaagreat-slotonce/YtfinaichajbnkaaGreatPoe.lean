/-
  SlotOnce.
-/
import Derived.Test.YtfinaichajbnkaaGreatPmp
import Derived.Test.YtfinaichajbnkaaGreatPoq
import Derived.Test.YtfinaichajbnkaaGreatPrd
import Derived.Test.YtfinaichajbnkaaGreatPop
import Derived.Test.YtfinaichajbnkaaGreatPmk
import Derived.Test.YtfinaichajbnkaaGreatPrn
import Derived.Deep.CutBlock
import Derived.Deep.CutRange
namespace Go.Proofs.YtfinaichajbnkaaGreat
open Go.RowKit
open Wi (F)

theorem lw_new8 (w : World) : Calls Tryz.prog 8 #[.int .i64 1, .int .i64 8, .int .i64 4096] w fun e w' => ∃ X o n, e = .returned (.tuple #[.pointer (some ⟨X, 0, none⟩), .int .i64 0]) ∧ Lw w w' o X (Sl.new 1 8 4096 n) :=
  (pnews_yes 1 8 4096 8 4096 rfl rfl (by omega) (by omega) (by omega) (by omega) (by omega) (by omega) w o00).mono (by
    rintro e w' ⟨X, o', n, rfl, hn, I, g⟩
    exact ⟨X, o', n, rfl, I, g.mono (fun _ e => e.elim)⟩)
theorem oV_put {V : ByteArray → Int} {x : Nat} {k : ByteArray} {v : Int} (h : ¬ x % 4 = 3) (hv : V k = v) : oV V x k = updV V k (max v ((x : Int) + 1)) := by unfold oV; rw [if_neg h, hv]
theorem oV_yes {V : ByteArray → Int} {x : Nat} {k : ByteArray} {v : Int} (h : x % 4 = 3) (hv : V k = v) (hle : v ≤ (x : Int) + 1) : oV V x k = updV V k 0 := by unfold oV; rw [if_pos h, hv, if_pos hle]
theorem oV_no {V : ByteArray → Int} {x : Nat} {k : ByteArray} {v : Int} (h : x % 4 = 3) (hv : V k = v) (hle : ¬ v ≤ (x : Int) + 1) : oV V x k = V := by
  unfold oV; rw [if_pos h, hv, if_neg hle]
  funext k'
  unfold updV
  split
  · next e => rw [e, hv]
  · rfl
theorem oV_bd {V : ByteArray → Int} (h : ∀ k, 0 ≤ V k ∧ V k ≤ 12) (x : Nat) (k : ByteArray) (hx : x < 12) : ∀ K, 0 ≤ oV V x k K ∧ oV V x k K ≤ 12 := by
  intro K
  have h1 := h k
  have h2 := h K
  have u : ∀ v, 0 ≤ v → v ≤ 12 → 0 ≤ updV V k v K ∧ updV V k v K ≤ 12 := fun v a b => by
    unfold updV
    split
    · exact ⟨a, b⟩
    · exact h2
  unfold oV
  split
  · exact u _ (by split <;> omega) (by split <;> omega)
  · exact u _ (by omega) (by omega)
def oqs (ks : List ByteArray) : List F := ks.mapIdx oq
theorem oqs_snoc (ks : List ByteArray) (k : ByteArray) : oqs (ks ++ [k]) = oqs ks ++ [oq ks.length k] := by unfold oqs; rw [List.mapIdx_concat]
theorem oqs_at {ks : List ByteArray} {i : Nat} {k : ByteArray} (h : ks[i]? = some k) : (oqs ks)[i]? = some (oq i k) := by unfold oqs; rw [List.getElem?_mapIdx, h]; rfl
set_option maxRecDepth 100000 in
set_option maxHeartbeats 20000000 in
theorem once_walk (a0 : Option Addr) (len0 cap0 : Nat) (z0 : Nat → ByteArray) (a1 : Option Addr) (len1 cap1 : Nat) (z1 : Nat → Int) (w : World) (_ : len0 ≤ 9223372036854775807) (_ : len1 ≤ 9223372036854775807) (h0 : StrF w a0 z0 len0) (h1 : IntsF w a1 z1 len1) :
    Calls Tryz.prog 5 #[.slice a0 len0 cap0, .slice a1 len1 cap1] w fun e w' => e = .returned (.bool true) ∧ Below w.heap.size w w' := by
  have HA := hid h0
  have HB := hid h1
  clear h0 h1
  go_enter Tryz.func5, Tryz.ntmps5
  go_wp2_with fail
  refine (lw_new8 _).mono ?_
  rintro e w0 ⟨X, o0, n, rfl, l0⟩
  have L0 := hid l0
  have ok : OkSp ⟨St.new 8 4096 n, []⟩ := by
    obtain ⟨C, D, d, I⟩ := l0.I
    exact I.st.ok
  obtain ⟨s1, t1, hd1, q1⟩ := Oq.begin ok
  have T1 := hid t1
  have Q1 := hid (And.intro hd1 q1)
  clear l0 ok t1 q1 hd1
  go_wp2_with fail
  refine (ask5_any 1 ⟨#[]⟩ ⟨#[]⟩ 0 _).mono ?_
  rintro e w1 ⟨rfl, b1⟩
  have L1 := hid (L0.out.below b1)
  clear b1
  have TK : Hid (Calls Tryz.prog 9 #[.pointer (some ⟨X, 0, none⟩), .agg #[.int .i64 5, .int .i64 1, .int .i64 3, .int .i64 1, .int .i64 0, .int .i64 0, .string ⟨#[]⟩, .int .i64 0, .string ⟨#[]⟩]] w1 fun e w' => e = .returned (.tuple #[.agg #[.int .i64 6, .int .i64 1, .int .i64 3, .int .i64 1, .int .i64 0, .int .i64 0, .string ⟨#[]⟩, .int .i64 0, .string ⟨#[]⟩], .bool true]) ∧ ∃ o', Lw w w' o' X s1 ∧ Kept w1 o0 w' o') := hid (lw_take L1.out (Nat.zero_le _) (⟨5, 1, 3, 1, 0, 0, ⟨#[]⟩, 0, ⟨#[]⟩⟩ : F) T1.out rfl rfl)
  go_wp2_with fail
  refine TK.out.mono ?_
  rintro e w2 ⟨rfl, o2, l2, k2⟩
  have L2 := hid l2
  clear TK k2 l2
  go_upto_block 0 with fail
  clear L0 L1 T1
  go_cut [7, 8, 9, 10] from 36 to 68 (fun y _ _ _ wx => ∃ (j : Nat) (o : Nat → Nat × Nat) (ks : List ByteArray) (b : Option Addr) (c : Nat), y = .slice b j c ∧ j ≤ 12 ∧ Hid (ks.length = j) ∧ Hid (∀ k ∈ ks, k.size ≤ 60) ∧ Hid (Lw w wx o X s1) ∧ Hid (OwnK wx o (7, 1) 9 (.slice b j c) j (fcz (oqs ks))))
  case first =>
    go_wp2_with fail
    go_loopw [7, 8] (fun y i wr => ∃ (j : Nat) (o : Nat → Nat × Nat) (ks : List ByteArray) (b : Option Addr) (c : Nat), y = .slice b j c ∧ i = .int .i64 (j : Int) ∧ j ≤ 12 ∧ Hid (ks.length = j) ∧ Hid (∀ k ∈ ks, k.size ≤ 60) ∧ Hid (Lw w wr o X s1) ∧ Hid (OwnK wr o (7, 1) 9 (.slice b j c) j (fcz (oqs ks)))) (fun _ i _ => 12 - (intOf i).toNat)
    case atStart => exact ⟨0, o2, [], none, 0, rfl, rfl, by omega, rfl, hid (by intro k hk; cases hk), L2, OwnK.nil _ _ _ _⟩
    case round =>
      clear L2
      obtain ⟨j, o, ks, b, c, rfl, rfl, hj, HL, HZ, LR, HO⟩ := hrel
      by_cases hlt : j < len0 ∧ j < 12
      · obtain ⟨hl1, hl2⟩ := hlt
        obtain ⟨k, hkz⟩ : ∃ k, k = z0 j := ⟨_, rfl⟩
        rcases HA.out with h0 | ⟨p, off, rfl, hcl⟩
        · omega
        have c0 := cell_b (hcl j hl1) LR.out.fin
        rw [← hkz] at c0
        clear hkz hcl
        have hi1 : (j : Int) < (len0 : Int) := by omega
        have hi2 : (j : Int) < 12 := by omega
        by_cases hk2 : k.size ≤ 60
        · have hk3 : ¬ ((60 : Int) < (k.size : Int)) := by omega
          have hvs : ¬ (9223372036854775807 < (⟨#[118]⟩ : ByteArray).size + k.size) := by have e : (⟨#[118]⟩ : ByteArray).size = 1 := rfl; omega
          have m4 : (j : Int).tmod 4 = ((j % 4 : Nat) : Int) := by rw [Int.tmod_eq_emod_of_nonneg (by omega)]; omega
          obtain ⟨q4, hq4⟩ : ∃ q4, j % 4 = q4 := ⟨_, rfl⟩
          rw [hq4] at m4
          by_cases h3 : q4 = 3
          · subst h3
            go_wp2_with fail
            refine (askn_any 3 (10 + (j : Int)) k (⟨#[118]⟩ ++ k) ((j : Int) + 1) rfl _).mono ?_
            rintro e w3 ⟨rfl, b3⟩
            have hkd : kd j = 3 := by unfold kd; rw [if_pos hq4]
            have hcs : (oq j k).cs.toArray = #[.int .i64 3, .int .i64 1, .int .i64 3, .int .i64 (10 + (j : Int)), .int .i64 0, .int .i64 1, .string k, .int .i64 ((j : Int) + 1), .string (⟨#[118]⟩ ++ k)] := by
              unfold oq; rw [hkd]; rfl
            obtain ⟨v4, w4, o4, hrun, O4, F4⟩ := app_one 44 27 Wi.Z.v 88 und44 info27 cells27 (HO.out.below b3) (oq j k).cs rfl (fz_one _) (by omega) (by omega)
            rw [hcs] at hrun
            have L4 := hid ((LR.out.below b3).grow F4 (nTP7 _) (n07 _))
            obtain ⟨b4, c4, rfl, _⟩ := O4.form
            have G4 : Hid (OwnK w4 o4 (7, 1) 9 (.slice b4 (j + 1) c4) (j + 1) (fcz (oqs (ks ++ [k])))) := hid (by
              rw [oqs_snoc, fcz_append, HL.out]; exact O4)
            have Z4 : Hid (∀ x ∈ ks ++ [k], x.size ≤ 60) := hid (fun x hx => by
              rcases List.mem_append.1 hx with h | h
              · exact HZ.out x h
              · rw [List.mem_singleton.1 h]; omega)
            have N4 : Hid ((ks ++ [k]).length = j + 1) := hid (by rw [List.length_append, HL.out]; rfl)
            clear O4 F4 b3 LR HO hcs hkd HL HZ
            go_wp2_with (at_builtin; refine wpList_append_run rfl (.tmp 57) (.tmp 67) 44 44 rfl _ _ _ rfl rfl hrun ?_)
            exact ⟨⟨j + 1, o4, ks ++ [k], b4, c4, rfl, by go_num, by omega, N4, Z4, L4, G4⟩, by simp [intOf]; omega⟩
          · have h4 : ((q4 : Int) == 3) = false := by simp; omega
            go_wp2_with fail
            refine (askn_any 1 (10 + (j : Int)) k (⟨#[118]⟩ ++ k) ((j : Int) + 1) rfl _).mono ?_
            rintro e w3 ⟨rfl, b3⟩
            have hkd : kd j = 1 := by unfold kd; rw [if_neg (by omega)]
            have hcs : (oq j k).cs.toArray = #[.int .i64 1, .int .i64 1, .int .i64 3, .int .i64 (10 + (j : Int)), .int .i64 0, .int .i64 1, .string k, .int .i64 ((j : Int) + 1), .string (⟨#[118]⟩ ++ k)] := by
              unfold oq; rw [hkd]; rfl
            obtain ⟨v4, w4, o4, hrun, O4, F4⟩ := app_one 44 27 Wi.Z.v 88 und44 info27 cells27 (HO.out.below b3) (oq j k).cs rfl (fz_one _) (by omega) (by omega)
            rw [hcs] at hrun
            have L4 := hid ((LR.out.below b3).grow F4 (nTP7 _) (n07 _))
            obtain ⟨b4, c4, rfl, _⟩ := O4.form
            have G4 : Hid (OwnK w4 o4 (7, 1) 9 (.slice b4 (j + 1) c4) (j + 1) (fcz (oqs (ks ++ [k])))) := hid (by
              rw [oqs_snoc, fcz_append, HL.out]; exact O4)
            have Z4 : Hid (∀ x ∈ ks ++ [k], x.size ≤ 60) := hid (fun x hx => by
              rcases List.mem_append.1 hx with h | h
              · exact HZ.out x h
              · rw [List.mem_singleton.1 h]; omega)
            have N4 : Hid ((ks ++ [k]).length = j + 1) := hid (by rw [List.length_append, HL.out]; rfl)
            clear O4 F4 b3 LR HO hcs hkd HL HZ
            go_wp2_with (at_builtin; refine wpList_append_run rfl (.tmp 57) (.tmp 67) 44 44 rfl _ _ _ rfl rfl hrun ?_)
            exact ⟨⟨j + 1, o4, ks ++ [k], b4, c4, rfl, by go_num, by omega, N4, Z4, L4, G4⟩, by simp [intOf]; omega⟩
        · have hk3 : (60 : Int) < (k.size : Int) := by omega
          have hk4 : (60 : Int) ≤ (k.size : Int) := by omega
          have hsl : ∀ W, (Instr.sliceAt 9 (.string k) none (some (.int .i64 60)) none).run Tryz.prog W = .ok (.string (k.extract 0 60)) W := fun W => by
            rw [run_sliceAt_string _ _ _ _ _ _ Tryz.underlying9, run_slice_string_h _ _ _ Tryz.underlying9 _ _ (by omega) hk4]
            rfl
          have hes : (k.extract 0 60).size = 60 := by rw [ByteArray.size_extract]; omega
          obtain ⟨kk, hkk⟩ : ∃ kk, k.extract 0 60 = kk := ⟨_, rfl⟩
          rw [hkk] at hes
          simp only [hkk] at hsl
          have hvs : ¬ (9223372036854775807 < (⟨#[118]⟩ : ByteArray).size + kk.size) := by have e : (⟨#[118]⟩ : ByteArray).size = 1 := rfl; omega
          have m4 : (j : Int).tmod 4 = ((j % 4 : Nat) : Int) := by rw [Int.tmod_eq_emod_of_nonneg (by omega)]; omega
          obtain ⟨q4, hq4⟩ : ∃ q4, j % 4 = q4 := ⟨_, rfl⟩
          rw [hq4] at m4
          by_cases h3 : q4 = 3
          · subst h3
            go_wp2_with fail
            refine (askn_any 3 (10 + (j : Int)) kk (⟨#[118]⟩ ++ kk) ((j : Int) + 1) rfl _).mono ?_
            rintro e w3 ⟨rfl, b3⟩
            have hkd : kd j = 3 := by unfold kd; rw [if_pos hq4]
            have hcs : (oq j kk).cs.toArray = #[.int .i64 3, .int .i64 1, .int .i64 3, .int .i64 (10 + (j : Int)), .int .i64 0, .int .i64 1, .string kk, .int .i64 ((j : Int) + 1), .string (⟨#[118]⟩ ++ kk)] := by
              unfold oq; rw [hkd]; rfl
            obtain ⟨v4, w4, o4, hrun, O4, F4⟩ := app_one 44 27 Wi.Z.v 88 und44 info27 cells27 (HO.out.below b3) (oq j kk).cs rfl (fz_one _) (by omega) (by omega)
            rw [hcs] at hrun
            have L4 := hid ((LR.out.below b3).grow F4 (nTP7 _) (n07 _))
            obtain ⟨b4, c4, rfl, _⟩ := O4.form
            have G4 : Hid (OwnK w4 o4 (7, 1) 9 (.slice b4 (j + 1) c4) (j + 1) (fcz (oqs (ks ++ [kk])))) := hid (by
              rw [oqs_snoc, fcz_append, HL.out]; exact O4)
            have Z4 : Hid (∀ x ∈ ks ++ [kk], x.size ≤ 60) := hid (fun x hx => by
              rcases List.mem_append.1 hx with h | h
              · exact HZ.out x h
              · rw [List.mem_singleton.1 h]; omega)
            have N4 : Hid ((ks ++ [kk]).length = j + 1) := hid (by rw [List.length_append, HL.out]; rfl)
            clear O4 F4 b3 LR HO hcs hkd HL HZ
            go_wp2_with (at_builtin; refine wpList_append_run rfl (.tmp 57) (.tmp 67) 44 44 rfl _ _ _ rfl rfl hrun ?_)
            exact ⟨⟨j + 1, o4, ks ++ [kk], b4, c4, rfl, by go_num, by omega, N4, Z4, L4, G4⟩, by simp [intOf]; omega⟩
          · have h4 : ((q4 : Int) == 3) = false := by simp; omega
            go_wp2_with fail
            refine (askn_any 1 (10 + (j : Int)) kk (⟨#[118]⟩ ++ kk) ((j : Int) + 1) rfl _).mono ?_
            rintro e w3 ⟨rfl, b3⟩
            have hkd : kd j = 1 := by unfold kd; rw [if_neg (by omega)]
            have hcs : (oq j kk).cs.toArray = #[.int .i64 1, .int .i64 1, .int .i64 3, .int .i64 (10 + (j : Int)), .int .i64 0, .int .i64 1, .string kk, .int .i64 ((j : Int) + 1), .string (⟨#[118]⟩ ++ kk)] := by
              unfold oq; rw [hkd]; rfl
            obtain ⟨v4, w4, o4, hrun, O4, F4⟩ := app_one 44 27 Wi.Z.v 88 und44 info27 cells27 (HO.out.below b3) (oq j kk).cs rfl (fz_one _) (by omega) (by omega)
            rw [hcs] at hrun
            have L4 := hid ((LR.out.below b3).grow F4 (nTP7 _) (n07 _))
            obtain ⟨b4, c4, rfl, _⟩ := O4.form
            have G4 : Hid (OwnK w4 o4 (7, 1) 9 (.slice b4 (j + 1) c4) (j + 1) (fcz (oqs (ks ++ [kk])))) := hid (by
              rw [oqs_snoc, fcz_append, HL.out]; exact O4)
            have Z4 : Hid (∀ x ∈ ks ++ [kk], x.size ≤ 60) := hid (fun x hx => by
              rcases List.mem_append.1 hx with h | h
              · exact HZ.out x h
              · rw [List.mem_singleton.1 h]; omega)
            have N4 : Hid ((ks ++ [kk]).length = j + 1) := hid (by rw [List.length_append, HL.out]; rfl)
            clear O4 F4 b3 LR HO hcs hkd HL HZ
            go_wp2_with (at_builtin; refine wpList_append_run rfl (.tmp 57) (.tmp 67) 44 44 rfl _ _ _ rfl rfl hrun ?_)
            exact ⟨⟨j + 1, o4, ks ++ [kk], b4, c4, rfl, by go_num, by omega, N4, Z4, L4, G4⟩, by simp [intOf]; omega⟩
      · have hn : ¬ (j : Int) < (len0 : Int) ∨ (j : Int) < (len0 : Int) ∧ ¬ (j : Int) < 12 := by
          rcases Nat.lt_or_ge j len0 with h | h
          · exact .inr ⟨by omega, by omega⟩
          · exact .inl (by omega)
        clear hlt
        rcases hn with hn | hn
        · go_wp2_with fail
          go_meet
          exact ⟨j, o, ks, b, c, rfl, hj, HL, HZ, LR, HO⟩
        · go_wp2_with fail
          go_meet
          exact ⟨j, o, ks, b, c, rfl, hj, HL, HZ, LR, HO⟩
  case rest =>
    clear L2 HA
    obtain ⟨j, o, ks, b, c, rfl, hj, HL, HZ, LR, HO⟩ := hcut
    obtain ⟨wr, hwr⟩ : ∃ wr, wr = wc := ⟨_, rfl⟩
    rw [← hwr] at LR HO ⊢
    clear hwr
    go_upto_region 16 with fail
    obtain ⟨obF, mkF⟩ := make_frames j (by omega)
    obtain ⟨obB, mkB⟩ := make_bools j (by omega)
    obtain ⟨r1, OF⟩ := mkF wr
    obtain ⟨wa, hwa⟩ : ∃ W, W = wr.alloc obF := ⟨_, rfl⟩
    have FA : Fr (fun _ => False) o (lab o wr.heap.size (7, 2)) wr wa := by rw [hwa]; exact Fr.new _ o wr _ _
    replace OF := OF o (7, 2)
    rw [← hwa] at r1 OF
    obtain ⟨r2, OB⟩ := mkB wa
    obtain ⟨oa, hoa⟩ : ∃ x, x = lab o wr.heap.size (7, 2) := ⟨_, rfl⟩
    rw [← hoa] at OF FA
    obtain ⟨wb, hwb⟩ : ∃ W, W = wa.alloc obB := ⟨_, rfl⟩
    have FB : Fr (fun _ => False) oa (lab oa wa.heap.size (7, 3)) wa wb := by rw [hwb]; exact Fr.new _ oa wa _ _
    replace OB := OB oa (7, 3)
    rw [← hwb] at r2 OB
    obtain ⟨ob, hob⟩ : ∃ x, x = lab oa wa.heap.size (7, 3) := ⟨_, rfl⟩
    rw [← hob] at OB FB
    have FC : Fr (fun _ => False) ob (lab ob wb.heap.size (7, 4)) wb (wb.alloc (.map #[] 0)) := Fr.new _ ob wb _ _
    have lc : lab ob wb.heap.size (7, 4) wb.heap.size = (7, 4) := lab_same _ _ _
    have MV := IsMv.new wb
    obtain ⟨oc, hoc⟩ : ∃ x, x = lab ob wb.heap.size (7, 4) := ⟨_, rfl⟩
    obtain ⟨wc, hwc⟩ : ∃ W, W = wb.alloc (.map #[] 0) := ⟨_, rfl⟩
    have r3 : (Instr.makeMap 57 none).run Tryz.prog wb = .ok (.map (some wb.heap.size)) wc := by rw [hwc]; exact run_makeMap _ _
    rw [← hoc] at FC lc
    rw [← hwc] at FC MV
    obtain ⟨gT, hgT⟩ : ∃ g, g = wr.heap.size := ⟨_, rfl⟩
    obtain ⟨gW, hgW⟩ : ∃ g, g = wa.heap.size := ⟨_, rfl⟩
    obtain ⟨gM, hgM⟩ : ∃ g, g = wb.heap.size := ⟨_, rfl⟩
    rw [← hgT] at r1 OF
    rw [← hgW] at r2 OB
    rw [← hgM] at r3 MV lc
    have LC := hid (((LR.out.grow FA (fun _ _ => id) id).grow FB (fun _ _ => id) id).grow FC (fun _ _ => id) id)
    have OR := hid (((HO.out.fr FA id).fr FB id).fr FC id)
    have OT := hid ((OF.fr FB id).fr FC id)
    have OW := hid (OB.fr FC id)
    have MC := hid MV
    have LM := hid lc
    have QC := hid (Oq.start Q1.out.2 Q1.out.1 HZ.out (by rw [HL.out]; omega))
    rw [HL.out] at QC
    clear LR HO FA FB FC OF OB MV lc hwa hwb hwc hoa hob hoc hgT hgW hgM mkF mkB HZ Q1
    go_upto_block 2 with fail
    go_cut [14, 15, 16, 17, 18] from 76 to 162 (fun _ _ _ _ _ wx => ∃ (m : Nat) (o : Nat → Nat × Nat) (s : Sl) (wl : List Bool) (tl : List F) (V : ByteArray → Int), Hid (∀ k, 0 ≤ V k ∧ V k ≤ 12) ∧ Hid (Lw w wx o X s) ∧ Hid (Oq s n ks wl tl V) ∧ Hid (OwnK wx o (7, 1) 9 (.slice b j c) j (fcz (oqs ks))) ∧ Hid (IsMv wx gM m V) ∧ Hid (o gM = (7, 4)))
    case first =>
      go_wp2_with fail
      go_loopw [14] (fun i wr => ∃ (q m : Nat) (o : Nat → Nat × Nat) (s : Sl) (wl : List Bool) (tl : List F) (V : ByteArray → Int), i = .int .i64 (q : Int) ∧ q ≤ 60 ∧ m ≤ 2 * q ∧ Hid (∀ k, 0 ≤ V k ∧ V k ≤ 12) ∧ Hid (Lw w wr o X s) ∧ Hid (Oq s n ks wl tl V) ∧ Hid (OwnK wr o (7, 1) 9 (.slice b j c) j (fcz (oqs ks))) ∧ Hid (OwnK wr o (7, 2) 9 (.slice (some ⟨gT, 0, none⟩) j j) j (fcz tl)) ∧ Hid (OwnK wr o (7, 3) 1 (.slice (some ⟨gW, 0, none⟩) j j) j (bcs wl)) ∧ Hid (IsMv wr gM m V) ∧ Hid (o gM = (7, 4))) (fun i _ => 60 - (intOf i).toNat)
      case atStart => exact ⟨0, 0, oc, s1, _, _, _, rfl, by omega, by omega, hid (fun _ => ⟨Int.le_refl _, by omega⟩), LC, QC, OR, OT, OW, MC, LM⟩
      case round =>
        clear LC QC OR OT OW MC LM
        obtain ⟨q, m, o2, s, wl, tl, V, rfl, hq, hm, HV, LC, QC, OR, OT, OW, MC, LM⟩ := hrel
        by_cases hlt : (q < len1 ∧ q < 60) ∧ 0 < j
        · obtain ⟨⟨hl1, hl2⟩, hl3⟩ := hlt
          rcases HB.out with h0 | ⟨p1, off1, rfl, hci⟩
          · omega
          have ci := cell_b (hci q hl1) LC.out.fin
          have hi1 : (q : Int) < (len1 : Int) := by omega
          have hi2 : (q : Int) < 60 := by omega
          have hi3 : (0 : Int) < (j : Int) := by omega
          go_wp2_with fail
          refine (within_any (z1 q) 0 ((j : Int) - 1) (by omega) (by omega) (by omega) _).mono ?_
          rintro e yw ⟨rfl, rfl⟩
          obtain ⟨x, hx, hxj⟩ : ∃ x : Nat, wi (z1 q) 0 ((j : Int) - 1) = (x : Int) ∧ x < j := by
            have h := wi_bd (z1 q) 0 ((j : Int) - 1) (by omega)
            exact ⟨(wi (z1 q) 0 ((j : Int) - 1)).toNat, by omega, by omega⟩
          rw [hx]
          obtain ⟨k, hk⟩ : ∃ k, ks[x]? = some k := ⟨_, List.getElem?_eq_getElem (by have := HL.out; omega)⟩
          obtain ⟨gR, cR, eR, _, hRs, _, _, hR6, _⟩ := OR.out.there (by omega)
          injection eR with eR1 eR2 eR3
          subst eR1 eR3
          have hxi : (x : Int) < (j : Int) := by omega
          have f0 := hR6 _ _ ((fcz_at _ (oqs_at hk) 0 (by omega)).trans rfl)
          have f1 := hR6 _ _ ((fcz_at _ (oqs_at hk) 1 (by omega)).trans rfl)
          have f2 := hR6 _ _ ((fcz_at _ (oqs_at hk) 2 (by omega)).trans rfl)
          have f3 := hR6 _ _ ((fcz_at _ (oqs_at hk) 3 (by omega)).trans rfl)
          have f4 := hR6 _ _ ((fcz_at _ (oqs_at hk) 4 (by omega)).trans rfl)
          have f5 := hR6 _ _ ((fcz_at _ (oqs_at hk) 5 (by omega)).trans rfl)
          have f6 := hR6 _ _ ((fcz_at _ (oqs_at hk) 6 (by omega)).trans rfl)
          have f7 := hR6 _ _ ((fcz_at _ (oqs_at hk) 7 (by omega)).trans rfl)
          have f8 := hR6 _ _ ((fcz_at _ (oqs_at hk) 8 (by omega)).trans rfl)
          rw [Nat.add_zero] at f0
          have HK := hid hk
          clear hk hx ci hci hR6 hRs
          go_wp2_with fail
          have hdl : Hid (s.done.length ≤ 90000) := hid (by
            have h1 := QC.out.dl
            have h2 := List.countP_le_length (p := id) (l := wl)
            have h3 := QC.out.lw
            have h4 := QC.out.kl
            omega)
          have hwx : wl[x]? = some true ∨ wl[x]? = some false := by
            have h3 := QC.out.lw
            obtain ⟨bb, hbb⟩ : ∃ bb, wl[x]? = some bb := ⟨_, List.getElem?_eq_getElem (by have := HL.out; omega)⟩
            cases bb
            · exact .inr hbb
            · exact .inl hbb
          rcases hwx with hwx | hwx
          · obtain ⟨aa, hta, htk⟩ := QC.out.again HK.out hwx
            obtain ⟨a0', a1', a2', a3', a4', a5', a6', a7', a8'⟩ := aa
            have HTK := hid htk
            clear htk
            have TK : Hid (Calls Tryz.prog 9 #[.pointer (some ⟨X, 0, none⟩), .agg #[.int .i64 (oq x k).kind, .int .i64 (oq x k).slot, .int .i64 (oq x k).inc, .int .i64 (oq x k).rid, .int .i64 (oq x k).floor, .int .i64 (oq x k).role, .string (oq x k).key, .int .i64 (oq x k).ver, .string (oq x k).data]] wr fun e w' => e = .returned (.tuple #[.agg #[.int .i64 a0', .int .i64 a1', .int .i64 a2', .int .i64 a3', .int .i64 a4', .int .i64 a5', .string a6', .int .i64 a7', .string a8'], .bool true]) ∧ ∃ o', Fr TP o2 o' wr w' ∧ Lw w w' o' X s) := hid ((ptake_any X s (oq x k) hdl.out wr o2 LC.out.I).mono (by
              rintro e w' ⟨rfl, o', I, g⟩
              rw [HTK.out] at I ⊢
              exact ⟨rfl, o', g, LC.out.fr I g⟩))
            refine TK.out.mono ?_
            rintro e w4 ⟨rfl, o4, g4, l4⟩
            have L4 := hid l4
            have R4 := hid (OR.out.fr g4 (nTP7' _))
            have T4 := hid (OT.out.fr g4 (nTP7' _))
            have W4 := hid (OW.out.fr g4 (nTP7' _))
            have M4 := hid (MC.out.fr g4 (by rw [LM.out]; exact nTP7' _))
            have LM4 := hid ((g4.lab gM MC.out.lt).trans LM.out)
            clear TK LC OR OT OW MC LM g4 l4 hdl HTK f0 f1 f2 f3 f4 f5 f6 f7 f8
            go_upto_region 24 with fail
            obtain ⟨o5, ho5⟩ : ∃ o5, o5 = nwl o4 w4.heap.size := ⟨_, rfl⟩
            obtain ⟨B, hB⟩ : ∃ B, B = w4.heap.size := ⟨_, rfl⟩
            obtain ⟨w5, hw5⟩ : ∃ V, V = w4.alloc (.cells #[.int .i64 a0', .int .i64 a1', .int .i64 a2', .int .i64 a3', .int .i64 a4', .int .i64 a5', .string a6', .int .i64 a7', .string a8'] 27) := ⟨_, rfl⟩
            have q5 := L4.out.box ⟨a0', a1', a2', a3', a4', a5', a6', a7', a8'⟩
            rw [show (⟨a0', a1', a2', a3', a4', a5', a6', a7', a8'⟩ : F).cs.toArray = #[.int .i64 a0', .int .i64 a1', .int .i64 a2', .int .i64 a3', .int .i64 a4', .int .i64 a5', .string a6', .int .i64 a7', .string a8'] from rfl, ← hw5, ← ho5, ← hB] at q5
            rw [← hw5, ← hB]
            have g5 : Fr (fun _ => False) o4 o5 w4 w5 := by rw [ho5]; exact nwl_fr _ o4 (by rw [hw5]; exact bel_alloc _ _)
            have L5 := hid q5.1
            have K5 := hid q5.2.1.k
            have R5 := hid (R4.out.fr g5 id)
            have T5 := hid (T4.out.fr g5 id)
            have W5 := hid (W4.out.fr g5 id)
            have M5 := hid (M4.out.fr g5 id)
            have LM5 := hid ((g5.lab gM M4.out.lt).trans LM4.out)
            clear q5 g5 ho5 hw5 hB L4 R4 T4 W4 M4 LM4
            obtain ⟨gw', cw', eW, oW, _, _, _, hW6, hW7⟩ := W5.out.there (by omega)
            injection eW with eW1 eW2 eW3
            injection eW1 with eW1
            injection eW1 with eW1
            subst eW1
            have wx := hW6 x _ (bcs_at hwx)
            have wz := (hW7 x (by omega)).2
            obtain ⟨gt', ct', eT, oT, _, _, _, hT6, hT7⟩ := T5.out.there (by omega)
            injection eT with eT1 eT2 eT3
            injection eT1 with eT1
            injection eT1 with eT1
            subst eT1
            have b0 := K5.out.q 0 _ rfl
            have b1 := K5.out.q 1 _ rfl
            have b2 := K5.out.q 2 _ rfl
            have b3 := K5.out.q 3 _ rfl
            have b4 := K5.out.q 4 _ rfl
            have b5 := K5.out.q 5 _ rfl
            have b6 := K5.out.q 6 _ rfl
            have b7 := K5.out.q 7 _ rfl
            have b8 := K5.out.q 8 _ rfl
            have t0 := hT6 _ _ ((fcz_at _ hta 0 (by omega)).trans rfl)
            have t1 := hT6 _ _ ((fcz_at _ hta 1 (by omega)).trans rfl)
            have t2 := hT6 _ _ ((fcz_at _ hta 2 (by omega)).trans rfl)
            have t3 := hT6 _ _ ((fcz_at _ hta 3 (by omega)).trans rfl)
            have t4 := hT6 _ _ ((fcz_at _ hta 4 (by omega)).trans rfl)
            have t5 := hT6 _ _ ((fcz_at _ hta 5 (by omega)).trans rfl)
            have t6 := hT6 _ _ ((fcz_at _ hta 6 (by omega)).trans rfl)
            have t7 := hT6 _ _ ((fcz_at _ hta 7 (by omega)).trans rfl)
            have t8 := hT6 _ _ ((fcz_at _ hta 8 (by omega)).trans rfl)
            rw [Nat.add_zero] at t0
            have nz : ∀ W, (binOp .neq 27 (.agg #[.int .i64 a0', .int .i64 a1', .int .i64 a2', .int .i64 a3', .int .i64 a4', .int .i64 a5', .string a6', .int .i64 a7', .string a8']) (.agg #[.int .i64 a0', .int .i64 a1', .int .i64 a2', .int .i64 a3', .int .i64 a4', .int .i64 a5', .string a6', .int .i64 a7', .string a8'])).run Tryz.prog W = .ok (.bool false) W := fun W => neqz W ⟨a0', a1', a2', a3', a4', a5', a6', a7', a8'⟩ ⟨a0', a1', a2', a3', a4', a5', a6', a7', a8'⟩ true (by simp)
            have QF : Hid (Oq s n ks (wl.set x true) (tl.set x ⟨a0', a1', a2', a3', a4', a5', a6', a7', a8'⟩) V) := hid (by rw [set_same hwx, set_same hta]; exact QC.out)
            have y0 := (hT7 (x * 9) (by omega)).2
            have y1 := (hT7 (x * 9 + 1) (by omega)).2
            have y2 := (hT7 (x * 9 + 2) (by omega)).2
            have y3 := (hT7 (x * 9 + 3) (by omega)).2
            have y4 := (hT7 (x * 9 + 4) (by omega)).2
            have y5 := (hT7 (x * 9 + 5) (by omega)).2
            have y6 := (hT7 (x * 9 + 6) (by omega)).2
            have y7 := (hT7 (x * 9 + 7) (by omega)).2
            have y8 := (hT7 (x * 9 + 8) (by omega)).2
            clear hT6 hW6 hW7 hT7 eW2 eW3 eT2 eT3
            have nWT : gW ≠ gT := by rintro rfl; rw [oW] at oT; injection oT with _ e; omega
            have nWB : gW ≠ B := by rintro rfl; have := K5.out.lb; rw [oW] at this; injection this with e _; omega
            have nTB : gT ≠ B := by rintro rfl; have := K5.out.lb; rw [oT] at this; injection this with e _; omega
            go_quiet (fail)
            go_wp2_with fail
            have s6 : decide (j ≤ x) = false := by simp; omega
            have s5 : decide ((j : Int) ≤ (x : Int)) = false := by simp; omega
            go_region_with (fail)
            all_goals
              have b9 := below_drewN (Below.refl w5.heap.size w5) (nq + 1)
              have fW : Fr (· = (7, 3)) o5 o5 (w5.drewN (nq + 1)) ((w5.drewN (nq + 1)).setCell ⟨gW, x, none⟩ (.bool true)) := Fr.set (a := ⟨gW, x, none⟩) oW _
              have fT := fr_set9 (o := o5) oT ((w5.drewN (nq + 1)).setCell ⟨gW, x, none⟩ (.bool true)) (x * 9) (x * 9 + 1) (x * 9 + 2) (x * 9 + 3) (x * 9 + 4) (x * 9 + 5) (x * 9 + 6) (x * 9 + 7) (x * 9 + 8) (.int .i64 a0') (.int .i64 a1') (.int .i64 a2') (.int .i64 a3') (.int .i64 a4') (.int .i64 a5') (.string a6') (.int .i64 a7') (.string a8')
              have L7 := hid (((L5.out.below b9).grow fW (nTP7 _) (n07 _)).grow fT (nTP7 _) (n07 _))
              have R7 := hid (((R5.out.below b9).fr fW (by intro e; injection e with _ e; omega)).fr fT (by intro e; injection e with _ e; omega))
              have T7 := hid (((T5.out.below b9).fr fW (by intro e; injection e with _ e; omega)).setF x hxj a0' a1' a2' a3' a4' a5' a6' a7' a8')
              have W7 := ((W5.out.below b9).set x (.bool true) rfl (by omega)).fr fT (by intro e; injection e with _ e; omega)
              rw [bcs_set] at W7
              replace W7 := hid W7
              have M7 := hid (((M5.out.fr (Fr.ofBelow (fun _ => False) o5 b9) id).fr fW (by rw [LM5.out]; intro e; injection e with _ e; omega)).fr fT (by rw [LM5.out]; intro e; injection e with _ e; omega))
              clear b9 fW fT
              go_wp2_with fail
              exact ⟨⟨q + 1, m, o5, s, _, _, V, by go_num, by omega, by omega, HV, L7, QF, R7, T7, W7, M7, LM5⟩, by simp [intOf]; omega⟩
          · obtain ⟨s', aa, htk, hq'⟩ := QC.out.first HK.out hwx
            obtain ⟨a0', a1', a2', a3', a4', a5', a6', a7', a8'⟩ := aa
            have HTK := hid htk
            clear htk
            have TK : Hid (Calls Tryz.prog 9 #[.pointer (some ⟨X, 0, none⟩), .agg #[.int .i64 (oq x k).kind, .int .i64 (oq x k).slot, .int .i64 (oq x k).inc, .int .i64 (oq x k).rid, .int .i64 (oq x k).floor, .int .i64 (oq x k).role, .string (oq x k).key, .int .i64 (oq x k).ver, .string (oq x k).data]] wr fun e w' => e = .returned (.tuple #[.agg #[.int .i64 a0', .int .i64 a1', .int .i64 a2', .int .i64 a3', .int .i64 a4', .int .i64 a5', .string a6', .int .i64 a7', .string a8'], .bool true]) ∧ ∃ o', Fr TP o2 o' wr w' ∧ Lw w w' o' X s') := hid ((ptake_any X s (oq x k) hdl.out wr o2 LC.out.I).mono (by
              rintro e w' ⟨rfl, o', I, g⟩
              rw [HTK.out] at I ⊢
              exact ⟨rfl, o', g, LC.out.fr I g⟩))
            refine TK.out.mono ?_
            rintro e w4 ⟨rfl, o4, g4, l4⟩
            have L4 := hid l4
            have R4 := hid (OR.out.fr g4 (nTP7' _))
            have T4 := hid (OT.out.fr g4 (nTP7' _))
            have W4 := hid (OW.out.fr g4 (nTP7' _))
            have M4 := hid (MC.out.fr g4 (by rw [LM.out]; exact nTP7' _))
            have LM4 := hid ((g4.lab gM MC.out.lt).trans LM.out)
            clear TK LC OR OT OW MC LM g4 l4 hdl HTK f0 f1 f2 f3 f4 f5 f6 f7 f8
            go_upto_region 24 with fail
            obtain ⟨o5, ho5⟩ : ∃ o5, o5 = nwl o4 w4.heap.size := ⟨_, rfl⟩
            obtain ⟨B, hB⟩ : ∃ B, B = w4.heap.size := ⟨_, rfl⟩
            obtain ⟨w5, hw5⟩ : ∃ V, V = w4.alloc (.cells #[.int .i64 a0', .int .i64 a1', .int .i64 a2', .int .i64 a3', .int .i64 a4', .int .i64 a5', .string a6', .int .i64 a7', .string a8'] 27) := ⟨_, rfl⟩
            have q5 := L4.out.box ⟨a0', a1', a2', a3', a4', a5', a6', a7', a8'⟩
            rw [show (⟨a0', a1', a2', a3', a4', a5', a6', a7', a8'⟩ : F).cs.toArray = #[.int .i64 a0', .int .i64 a1', .int .i64 a2', .int .i64 a3', .int .i64 a4', .int .i64 a5', .string a6', .int .i64 a7', .string a8'] from rfl, ← hw5, ← ho5, ← hB] at q5
            rw [← hw5, ← hB]
            have g5 : Fr (fun _ => False) o4 o5 w4 w5 := by rw [ho5]; exact nwl_fr _ o4 (by rw [hw5]; exact bel_alloc _ _)
            have L5 := hid q5.1
            have K5 := hid q5.2.1.k
            have R5 := hid (R4.out.fr g5 id)
            have T5 := hid (T4.out.fr g5 id)
            have W5 := hid (W4.out.fr g5 id)
            have M5 := hid (M4.out.fr g5 id)
            have LM5 := hid ((g5.lab gM M4.out.lt).trans LM4.out)
            clear q5 g5 ho5 hw5 hB L4 R4 T4 W4 M4 LM4
            obtain ⟨gw', cw', eW, oW, _, _, _, hW6, hW7⟩ := W5.out.there (by omega)
            injection eW with eW1 eW2 eW3
            injection eW1 with eW1
            injection eW1 with eW1
            subst eW1
            have wx := hW6 x _ (bcs_at hwx)
            have wz := (hW7 x (by omega)).2
            obtain ⟨gt', ct', eT, oT, _, _, _, hT6, hT7⟩ := T5.out.there (by omega)
            injection eT with eT1 eT2 eT3
            injection eT1 with eT1
            injection eT1 with eT1
            subst eT1
            have b0 := K5.out.q 0 _ rfl
            have b1 := K5.out.q 1 _ rfl
            have b2 := K5.out.q 2 _ rfl
            have b3 := K5.out.q 3 _ rfl
            have b4 := K5.out.q 4 _ rfl
            have b5 := K5.out.q 5 _ rfl
            have b6 := K5.out.q 6 _ rfl
            have b7 := K5.out.q 7 _ rfl
            have b8 := K5.out.q 8 _ rfl
            clear hT6 hW6 hW7 hT7 eW2 eW3 eT2 eT3
            go_big_quiet (fail)
            have b9 := below_drewN (Below.refl w5.heap.size w5) nq
            obtain ⟨wq, hwq⟩ : ∃ V, V = w5.drewN nq := ⟨_, rfl⟩
            rw [← hwq] at b9 ⊢
            replace wx := (World.cell?_of_block (a := ⟨gW, x, none⟩) (b9.block gW (World.block_lt_of_cell? _ _ wx))).trans wx
            have L6 := hid (L5.out.below b9)
            have K6 := hid (K5.out.below b9)
            have R6 := hid (R5.out.below b9)
            have T6 := hid (T5.out.below b9)
            have W6 := hid (W5.out.below b9)
            have M6 := hid (M5.out.fr (Fr.ofBelow (fun _ => False) o5 b9) id)
            obtain ⟨gR', cR', eR, _, _, _, _, hR6, _⟩ := R6.out.there (by omega)
            injection eR with eR1 eR2 eR3
            injection eR1 with eR1
            injection eR1 with eR1
            subst eR1 eR3
            have FF := fun (r : Nat) (hr : r < 9) (u : Value) (hu : (oq x k).cs[r]? = some u) => hR6 _ _ ((fcz_at _ (oqs_at HK.out) r hr).trans hu)
            clear hR6 eR2 b9 hwq L5 K5 R5 T5 W5 M5 wz b0 b1 b2 b3 b4 b5 b6 b7 b8
            by_cases h3 : x % 4 = 3
            · have hkd : kd x = 3 := by unfold kd; rw [if_pos h3]
              have f0 : wq.cell? ⟨gR, x * 9, none⟩ = some (.int .i64 3) := by
                have := FF 0 (by omega) (.int .i64 3) (by show some (Value.int .i64 (kd x)) = _; rw [hkd])
                rwa [Nat.add_zero] at this
              have f1 : wq.cell? ⟨gR, x * 9 + 1, none⟩ = some (.int .i64 1) := FF 1 (by omega) _ rfl
              have f2 : wq.cell? ⟨gR, x * 9 + 2, none⟩ = some (.int .i64 3) := FF 2 (by omega) _ rfl
              have f3 : wq.cell? ⟨gR, x * 9 + 3, none⟩ = some (.int .i64 (10 + (x : Int))) := FF 3 (by omega) _ rfl
              have f4 : wq.cell? ⟨gR, x * 9 + 4, none⟩ = some (.int .i64 0) := FF 4 (by omega) _ rfl
              have f5 : wq.cell? ⟨gR, x * 9 + 5, none⟩ = some (.int .i64 1) := FF 5 (by omega) _ rfl
              have f6 : wq.cell? ⟨gR, x * 9 + 6, none⟩ = some (.string k) := FF 6 (by omega) _ rfl
              have f7 : wq.cell? ⟨gR, x * 9 + 7, none⟩ = some (.int .i64 ((x : Int) + 1)) := FF 7 (by omega) _ rfl
              have f8 : wq.cell? ⟨gR, x * 9 + 8, none⟩ = some (.string (vk k)) := FF 8 (by omega) _ rfl
              clear FF
              go_upto_region 28 with fail
              obtain ⟨o7, ho7⟩ : ∃ o, o = nwl o5 wq.heap.size := ⟨_, rfl⟩
              obtain ⟨B2, hB2⟩ : ∃ B, B = wq.heap.size := ⟨_, rfl⟩
              obtain ⟨w7, hw7⟩ : ∃ V, V = wq.alloc (.cells #[.int .i64 3, .int .i64 1, .int .i64 3, .int .i64 (10 + (x : Int)), .int .i64 0, .int .i64 1, .string k, .int .i64 ((x : Int) + 1), .string (vk k)] 27) := ⟨_, rfl⟩
              have q7 := L6.out.box (oq x k)
              rw [show (oq x k).cs.toArray = #[.int .i64 3, .int .i64 1, .int .i64 3, .int .i64 (10 + (x : Int)), .int .i64 0, .int .i64 1, .string k, .int .i64 ((x : Int) + 1), .string (vk k)] by show (#[.int .i64 (kd x), _, _, _, _, _, _, _, _] : Array Value) = _; rw [hkd]; rfl, ← hw7, ← ho7, ← hB2] at q7
              rw [← hw7, ← hB2]
              have g7 : Fr (fun _ => False) o5 o7 wq w7 := by rw [ho7]; exact nwl_fr _ o5 (by rw [hw7]; exact bel_alloc _ _)
              have L7 := hid q7.1
              have K7 := hid (K6.out.fr g7 id)
              have R7 := hid (R6.out.fr g7 id)
              have T7 := hid (T6.out.fr g7 id)
              have W7 := hid (W6.out.fr g7 id)
              have M7 := hid (M6.out.fr g7 id)
              have LM7 := hid ((g7.lab gM M6.out.lt).trans LM5.out)
              have y0 : w7.cell? ⟨B2, 0, none⟩ = some (.int .i64 3) := q7.2.1.k.q 0 _ (by show some (Value.int .i64 (kd x)) = _; rw [hkd])
              have y6 : w7.cell? ⟨B2, 6, none⟩ = some (.string k) := q7.2.1.k.q 6 _ rfl
              have y7 : w7.cell? ⟨B2, 7, none⟩ = some (.int .i64 ((x : Int) + 1)) := q7.2.1.k.q 7 _ rfl
              clear q7 g7 ho7 hw7 hB2 L6 K6 R6 T6 W6 M6 LM5 f0 f1 f2 f3 f4 f5 f6 f7 f8 wx
              have hks : k.size ≤ 1000 := by have := QC.out.sz k (List.mem_of_getElem? HK.out); omega
              obtain ⟨vb0, vb1⟩ := HV.out k
              have hlk := M7.out.look k hks
              obtain ⟨v, hv⟩ : ∃ v, V k = v := ⟨_, rfl⟩
              rw [hv] at vb0 vb1 hlk
              by_cases hle : v ≤ (x : Int) + 1
              · have dle : decide (v ≤ (x : Int) + 1) = true := decide_eq_true hle
                obtain ⟨w8, hup, M8', g8⟩ := M7.out.put LM7.out (by omega) k hks 0 (by simp [Lit.wf, IntKind.min, IntKind.max, IntKind.bits, IntKind.signed])
                have M8 : Hid (IsMv w8 gM (m + 1) (oV V x k)) := hid (by rw [oV_yes h3 hv hle]; exact M8')
                clear M8'
                have L8 := hid (L7.out.grow g8 (nTP7 _) (n07 _))
                have K8 := hid (K7.out.fr g8 (by intro e; injection e with e _; omega))
                have R8 := hid (R7.out.fr g8 (by intro e; injection e with _ e; omega))
                have T8 := hid (T7.out.fr g8 (by intro e; injection e with _ e; omega))
                have W8 := hid (W7.out.fr g8 (by intro e; injection e with _ e; omega))
                have LM8 := LM7
                have VB : Hid (∀ KK, 0 ≤ oV V x k KK ∧ oV V x k KK ≤ 12) := hid (oV_bd HV.out x k (by omega))
                have QF : Hid (Oq s' n ks (wl.set x true) (tl.set x ⟨a0', a1', a2', a3', a4', a5', a6', a7', a8'⟩) (oV V x k)) := hid hq'
                go_wp2_with fail
                clear L7 K7 R7 T7 W7 M7 hlk hks y0 y6 y7 LM7
                obtain ⟨gw', cw', eW, oW, _, _, _, hW6, hW7⟩ := W8.out.there (by omega)
                injection eW with eW1 eW2 eW3
                injection eW1 with eW1
                injection eW1 with eW1
                subst eW1
                have wx := hW6 x _ (bcs_at hwx)
                have wz := (hW7 x (by omega)).2
                obtain ⟨gt', ct', eT, oT, _, _, _, hT6, hT7⟩ := T8.out.there (by omega)
                injection eT with eT1 eT2 eT3
                injection eT1 with eT1
                injection eT1 with eT1
                subst eT1
                have b0 := K8.out.q 0 _ rfl
                have b1 := K8.out.q 1 _ rfl
                have b2 := K8.out.q 2 _ rfl
                have b3 := K8.out.q 3 _ rfl
                have b4 := K8.out.q 4 _ rfl
                have b5 := K8.out.q 5 _ rfl
                have b6 := K8.out.q 6 _ rfl
                have b7 := K8.out.q 7 _ rfl
                have b8 := K8.out.q 8 _ rfl
                obtain ⟨⟨g0, g1, g2, g3, g4, g5, g6, g7, g8⟩, hta⟩ : ∃ g, tl[x]? = some g := ⟨_, List.getElem?_eq_getElem (by have := QC.out.lt; have := HL.out; omega)⟩
                have t0 := hT6 _ _ ((fcz_at _ hta 0 (by omega)).trans rfl)
                have t1 := hT6 _ _ ((fcz_at _ hta 1 (by omega)).trans rfl)
                have t2 := hT6 _ _ ((fcz_at _ hta 2 (by omega)).trans rfl)
                have t3 := hT6 _ _ ((fcz_at _ hta 3 (by omega)).trans rfl)
                have t4 := hT6 _ _ ((fcz_at _ hta 4 (by omega)).trans rfl)
                have t5 := hT6 _ _ ((fcz_at _ hta 5 (by omega)).trans rfl)
                have t6 := hT6 _ _ ((fcz_at _ hta 6 (by omega)).trans rfl)
                have t7 := hT6 _ _ ((fcz_at _ hta 7 (by omega)).trans rfl)
                have t8 := hT6 _ _ ((fcz_at _ hta 8 (by omega)).trans rfl)
                rw [Nat.add_zero] at t0
                have y0 := (hT7 (x * 9) (by omega)).2
                have y1 := (hT7 (x * 9 + 1) (by omega)).2
                have y2 := (hT7 (x * 9 + 2) (by omega)).2
                have y3 := (hT7 (x * 9 + 3) (by omega)).2
                have y4 := (hT7 (x * 9 + 4) (by omega)).2
                have y5 := (hT7 (x * 9 + 5) (by omega)).2
                have y6 := (hT7 (x * 9 + 6) (by omega)).2
                have y7 := (hT7 (x * 9 + 7) (by omega)).2
                have y8 := (hT7 (x * 9 + 8) (by omega)).2
                clear hT6 hW6 hW7 hT7 eW2 eW3 eT2 eT3 hta
                have nWT : gW ≠ gT := by rintro rfl; rw [oW] at oT; injection oT with _ e; omega
                have nWB : gW ≠ B := by rintro rfl; have := K8.out.lb; rw [oW] at this; injection this with e _; omega
                have nTB : gT ≠ B := by rintro rfl; have := K8.out.lb; rw [oT] at this; injection this with e _; omega
                have s6 : decide (j ≤ x) = false := by simp; omega
                have s5 : decide ((j : Int) ≤ (x : Int)) = false := by simp; omega
                go_region_with (fail)
                all_goals
                  have fW : Fr (· = (7, 3)) o7 o7 w8 (w8.setCell ⟨gW, x, none⟩ (.bool true)) := Fr.set (a := ⟨gW, x, none⟩) oW _
                  have fT := fr_set9 (o := o7) oT (w8.setCell ⟨gW, x, none⟩ (.bool true)) (x * 9) (x * 9 + 1) (x * 9 + 2) (x * 9 + 3) (x * 9 + 4) (x * 9 + 5) (x * 9 + 6) (x * 9 + 7) (x * 9 + 8) (.int .i64 a0') (.int .i64 a1') (.int .i64 a2') (.int .i64 a3') (.int .i64 a4') (.int .i64 a5') (.string a6') (.int .i64 a7') (.string a8')
                  have W9 := (W8.out.set x (.bool true) rfl (by omega)).fr fT (by intro e; injection e with _ e; omega)
                  rw [bcs_set] at W9
                  have T9 := (T8.out.fr fW (by intro e; injection e with _ e; omega)).setF x hxj a0' a1' a2' a3' a4' a5' a6' a7' a8'
                  have R9 := (R8.out.fr fW (by intro e; injection e with _ e; omega)).fr fT (by intro e; injection e with _ e; omega)
                  have L9 := (L8.out.grow fW (nTP7 _) (n07 _)).grow fT (nTP7 _) (n07 _)
                  have M9 := (M8.out.fr fW (by rw [LM8.out]; intro e; injection e with _ e; omega)).fr fT (by rw [LM8.out]; intro e; injection e with _ e; omega)
                  have c9 := fun W : World => (Fr.drew1 (fun _ => False) o7 W).below (Nat.le_refl W.heap.size) (fun _ _ => id)
                  replace L9 := hid (L9.below (c9 _))
                  replace R9 := hid (R9.below (c9 _))
                  replace T9 := hid (T9.below (c9 _))
                  replace W9 := hid (W9.below (c9 _))
                  replace M9 := hid (M9.fr (Fr.drew1 (fun _ => False) o7 _) id)
                  clear c9 fW fT
                  go_wp2_with fail
                  exact ⟨⟨q + 1, m + 1, o7, s', wl.set x true, tl.set x ⟨a0', a1', a2', a3', a4', a5', a6', a7', a8'⟩, oV V x k, by go_num, by omega, by omega, VB, L9, QF, R9, T9, W9, M9, LM8⟩, by simp [intOf]; omega⟩
              · have dle : decide (v ≤ (x : Int) + 1) = false := decide_eq_false hle
                go_wp2_with fail
                obtain ⟨w8, hw8⟩ : ∃ w8, w8 = w7 := ⟨_, rfl⟩
                rw [← hw8]
                have g8 : Fr (fun _ => False) o7 o7 w7 w8 := by rw [hw8]; exact Fr.refl _ _ _
                have M8 : Hid (IsMv w8 gM (m + 1) (oV V x k)) := hid (by
                  rw [oV_no h3 hv (by omega)]
                  exact (M7.out.fr g8 id).mono (by omega))
                have L8 := hid (L7.out.grow g8 (fun _ _ => id) id)
                have K8 := hid (K7.out.fr g8 id)
                have R8 := hid (R7.out.fr g8 id)
                have T8 := hid (T7.out.fr g8 id)
                have W8 := hid (W7.out.fr g8 id)
                have LM8 := LM7
                have VB : Hid (∀ KK, 0 ≤ oV V x k KK ∧ oV V x k KK ≤ 12) := hid (oV_bd HV.out x k (by omega))
                have QF : Hid (Oq s' n ks (wl.set x true) (tl.set x ⟨a0', a1', a2', a3', a4', a5', a6', a7', a8'⟩) (oV V x k)) := hid hq'
                clear hw8 g8
                clear L7 K7 R7 T7 W7 M7 hlk hks y0 y6 y7 LM7
                obtain ⟨gw', cw', eW, oW, _, _, _, hW6, hW7⟩ := W8.out.there (by omega)
                injection eW with eW1 eW2 eW3
                injection eW1 with eW1
                injection eW1 with eW1
                subst eW1
                have wx := hW6 x _ (bcs_at hwx)
                have wz := (hW7 x (by omega)).2
                obtain ⟨gt', ct', eT, oT, _, _, _, hT6, hT7⟩ := T8.out.there (by omega)
                injection eT with eT1 eT2 eT3
                injection eT1 with eT1
                injection eT1 with eT1
                subst eT1
                have b0 := K8.out.q 0 _ rfl
                have b1 := K8.out.q 1 _ rfl
                have b2 := K8.out.q 2 _ rfl
                have b3 := K8.out.q 3 _ rfl
                have b4 := K8.out.q 4 _ rfl
                have b5 := K8.out.q 5 _ rfl
                have b6 := K8.out.q 6 _ rfl
                have b7 := K8.out.q 7 _ rfl
                have b8 := K8.out.q 8 _ rfl
                obtain ⟨⟨g0, g1, g2, g3, g4, g5, g6, g7, g8⟩, hta⟩ : ∃ g, tl[x]? = some g := ⟨_, List.getElem?_eq_getElem (by have := QC.out.lt; have := HL.out; omega)⟩
                have t0 := hT6 _ _ ((fcz_at _ hta 0 (by omega)).trans rfl)
                have t1 := hT6 _ _ ((fcz_at _ hta 1 (by omega)).trans rfl)
                have t2 := hT6 _ _ ((fcz_at _ hta 2 (by omega)).trans rfl)
                have t3 := hT6 _ _ ((fcz_at _ hta 3 (by omega)).trans rfl)
                have t4 := hT6 _ _ ((fcz_at _ hta 4 (by omega)).trans rfl)
                have t5 := hT6 _ _ ((fcz_at _ hta 5 (by omega)).trans rfl)
                have t6 := hT6 _ _ ((fcz_at _ hta 6 (by omega)).trans rfl)
                have t7 := hT6 _ _ ((fcz_at _ hta 7 (by omega)).trans rfl)
                have t8 := hT6 _ _ ((fcz_at _ hta 8 (by omega)).trans rfl)
                rw [Nat.add_zero] at t0
                have y0 := (hT7 (x * 9) (by omega)).2
                have y1 := (hT7 (x * 9 + 1) (by omega)).2
                have y2 := (hT7 (x * 9 + 2) (by omega)).2
                have y3 := (hT7 (x * 9 + 3) (by omega)).2
                have y4 := (hT7 (x * 9 + 4) (by omega)).2
                have y5 := (hT7 (x * 9 + 5) (by omega)).2
                have y6 := (hT7 (x * 9 + 6) (by omega)).2
                have y7 := (hT7 (x * 9 + 7) (by omega)).2
                have y8 := (hT7 (x * 9 + 8) (by omega)).2
                clear hT6 hW6 hW7 hT7 eW2 eW3 eT2 eT3 hta
                have nWT : gW ≠ gT := by rintro rfl; rw [oW] at oT; injection oT with _ e; omega
                have nWB : gW ≠ B := by rintro rfl; have := K8.out.lb; rw [oW] at this; injection this with e _; omega
                have nTB : gT ≠ B := by rintro rfl; have := K8.out.lb; rw [oT] at this; injection this with e _; omega
                have s6 : decide (j ≤ x) = false := by simp; omega
                have s5 : decide ((j : Int) ≤ (x : Int)) = false := by simp; omega
                go_region_with (fail)
                all_goals
                  have fW : Fr (· = (7, 3)) o7 o7 w8 (w8.setCell ⟨gW, x, none⟩ (.bool true)) := Fr.set (a := ⟨gW, x, none⟩) oW _
                  have fT := fr_set9 (o := o7) oT (w8.setCell ⟨gW, x, none⟩ (.bool true)) (x * 9) (x * 9 + 1) (x * 9 + 2) (x * 9 + 3) (x * 9 + 4) (x * 9 + 5) (x * 9 + 6) (x * 9 + 7) (x * 9 + 8) (.int .i64 a0') (.int .i64 a1') (.int .i64 a2') (.int .i64 a3') (.int .i64 a4') (.int .i64 a5') (.string a6') (.int .i64 a7') (.string a8')
                  have W9 := (W8.out.set x (.bool true) rfl (by omega)).fr fT (by intro e; injection e with _ e; omega)
                  rw [bcs_set] at W9
                  have T9 := (T8.out.fr fW (by intro e; injection e with _ e; omega)).setF x hxj a0' a1' a2' a3' a4' a5' a6' a7' a8'
                  have R9 := (R8.out.fr fW (by intro e; injection e with _ e; omega)).fr fT (by intro e; injection e with _ e; omega)
                  have L9 := (L8.out.grow fW (nTP7 _) (n07 _)).grow fT (nTP7 _) (n07 _)
                  have M9 := (M8.out.fr fW (by rw [LM8.out]; intro e; injection e with _ e; omega)).fr fT (by rw [LM8.out]; intro e; injection e with _ e; omega)
                  have c9 := fun W : World => (Fr.drew1 (fun _ => False) o7 W).below (Nat.le_refl W.heap.size) (fun _ _ => id)
                  replace L9 := hid (L9.below (c9 _))
                  replace R9 := hid (R9.below (c9 _))
                  replace T9 := hid (T9.below (c9 _))
                  replace W9 := hid (W9.below (c9 _))
                  replace M9 := hid (M9.fr (Fr.drew1 (fun _ => False) o7 _) id)
                  clear c9 fW fT
                  go_wp2_with fail
                  exact ⟨⟨q + 1, m + 1, o7, s', wl.set x true, tl.set x ⟨a0', a1', a2', a3', a4', a5', a6', a7', a8'⟩, oV V x k, by go_num, by omega, by omega, VB, L9, QF, R9, T9, W9, M9, LM8⟩, by simp [intOf]; omega⟩
            · have hkd : kd x = 1 := by unfold kd; rw [if_neg h3]
              have f0 : wq.cell? ⟨gR, x * 9, none⟩ = some (.int .i64 1) := by
                have := FF 0 (by omega) (.int .i64 1) (by show some (Value.int .i64 (kd x)) = _; rw [hkd])
                rwa [Nat.add_zero] at this
              have f1 : wq.cell? ⟨gR, x * 9 + 1, none⟩ = some (.int .i64 1) := FF 1 (by omega) _ rfl
              have f2 : wq.cell? ⟨gR, x * 9 + 2, none⟩ = some (.int .i64 3) := FF 2 (by omega) _ rfl
              have f3 : wq.cell? ⟨gR, x * 9 + 3, none⟩ = some (.int .i64 (10 + (x : Int))) := FF 3 (by omega) _ rfl
              have f4 : wq.cell? ⟨gR, x * 9 + 4, none⟩ = some (.int .i64 0) := FF 4 (by omega) _ rfl
              have f5 : wq.cell? ⟨gR, x * 9 + 5, none⟩ = some (.int .i64 1) := FF 5 (by omega) _ rfl
              have f6 : wq.cell? ⟨gR, x * 9 + 6, none⟩ = some (.string k) := FF 6 (by omega) _ rfl
              have f7 : wq.cell? ⟨gR, x * 9 + 7, none⟩ = some (.int .i64 ((x : Int) + 1)) := FF 7 (by omega) _ rfl
              have f8 : wq.cell? ⟨gR, x * 9 + 8, none⟩ = some (.string (vk k)) := FF 8 (by omega) _ rfl
              clear FF
              go_upto_region 28 with fail
              obtain ⟨o7, ho7⟩ : ∃ o, o = nwl o5 wq.heap.size := ⟨_, rfl⟩
              obtain ⟨B2, hB2⟩ : ∃ B, B = wq.heap.size := ⟨_, rfl⟩
              obtain ⟨w7, hw7⟩ : ∃ V, V = wq.alloc (.cells #[.int .i64 1, .int .i64 1, .int .i64 3, .int .i64 (10 + (x : Int)), .int .i64 0, .int .i64 1, .string k, .int .i64 ((x : Int) + 1), .string (vk k)] 27) := ⟨_, rfl⟩
              have q7 := L6.out.box (oq x k)
              rw [show (oq x k).cs.toArray = #[.int .i64 1, .int .i64 1, .int .i64 3, .int .i64 (10 + (x : Int)), .int .i64 0, .int .i64 1, .string k, .int .i64 ((x : Int) + 1), .string (vk k)] by show (#[.int .i64 (kd x), _, _, _, _, _, _, _, _] : Array Value) = _; rw [hkd]; rfl, ← hw7, ← ho7, ← hB2] at q7
              rw [← hw7, ← hB2]
              have g7 : Fr (fun _ => False) o5 o7 wq w7 := by rw [ho7]; exact nwl_fr _ o5 (by rw [hw7]; exact bel_alloc _ _)
              have L7 := hid q7.1
              have K7 := hid (K6.out.fr g7 id)
              have R7 := hid (R6.out.fr g7 id)
              have T7 := hid (T6.out.fr g7 id)
              have W7 := hid (W6.out.fr g7 id)
              have M7 := hid (M6.out.fr g7 id)
              have LM7 := hid ((g7.lab gM M6.out.lt).trans LM5.out)
              have y0 : w7.cell? ⟨B2, 0, none⟩ = some (.int .i64 1) := q7.2.1.k.q 0 _ (by show some (Value.int .i64 (kd x)) = _; rw [hkd])
              have y6 : w7.cell? ⟨B2, 6, none⟩ = some (.string k) := q7.2.1.k.q 6 _ rfl
              have y7 : w7.cell? ⟨B2, 7, none⟩ = some (.int .i64 ((x : Int) + 1)) := q7.2.1.k.q 7 _ rfl
              clear q7 g7 ho7 hw7 hB2 L6 K6 R6 T6 W6 M6 LM5 f0 f1 f2 f3 f4 f5 f6 f7 f8 wx
              have hks : k.size ≤ 1000 := by have := QC.out.sz k (List.mem_of_getElem? HK.out); omega
              obtain ⟨vb0, vb1⟩ := HV.out k
              have hlk := M7.out.look k hks
              obtain ⟨v, hv⟩ : ∃ v, V k = v := ⟨_, rfl⟩
              rw [hv] at vb0 vb1 hlk
              obtain ⟨w8, hup, M8', g8⟩ := M7.out.put LM7.out (by omega) k hks (max v ((x : Int) + 1)) (by simp [Lit.wf, IntKind.min, IntKind.max, IntKind.bits, IntKind.signed]; omega)
              have M8 : Hid (IsMv w8 gM (m + 1) (oV V x k)) := hid (by rw [oV_put h3 hv]; exact M8')
              clear M8'
              have L8 := hid (L7.out.grow g8 (nTP7 _) (n07 _))
              have K8 := hid (K7.out.fr g8 (by intro e; injection e with e _; omega))
              have R8 := hid (R7.out.fr g8 (by intro e; injection e with _ e; omega))
              have T8 := hid (T7.out.fr g8 (by intro e; injection e with _ e; omega))
              have W8 := hid (W7.out.fr g8 (by intro e; injection e with _ e; omega))
              have LM8 := LM7
              have VB : Hid (∀ KK, 0 ≤ oV V x k KK ∧ oV V x k KK ≤ 12) := hid (oV_bd HV.out x k (by omega))
              have QF : Hid (Oq s' n ks (wl.set x true) (tl.set x ⟨a0', a1', a2', a3', a4', a5', a6', a7', a8'⟩) (oV V x k)) := hid hq'
              go_wp2_with fail
              clear L7 K7 R7 T7 W7 M7 hlk hks y0 y6 y7 LM7
              obtain ⟨gw', cw', eW, oW, _, _, _, hW6, hW7⟩ := W8.out.there (by omega)
              injection eW with eW1 eW2 eW3
              injection eW1 with eW1
              injection eW1 with eW1
              subst eW1
              have wx := hW6 x _ (bcs_at hwx)
              have wz := (hW7 x (by omega)).2
              obtain ⟨gt', ct', eT, oT, _, _, _, hT6, hT7⟩ := T8.out.there (by omega)
              injection eT with eT1 eT2 eT3
              injection eT1 with eT1
              injection eT1 with eT1
              subst eT1
              have b0 := K8.out.q 0 _ rfl
              have b1 := K8.out.q 1 _ rfl
              have b2 := K8.out.q 2 _ rfl
              have b3 := K8.out.q 3 _ rfl
              have b4 := K8.out.q 4 _ rfl
              have b5 := K8.out.q 5 _ rfl
              have b6 := K8.out.q 6 _ rfl
              have b7 := K8.out.q 7 _ rfl
              have b8 := K8.out.q 8 _ rfl
              obtain ⟨⟨g0, g1, g2, g3, g4, g5, g6, g7, g8⟩, hta⟩ : ∃ g, tl[x]? = some g := ⟨_, List.getElem?_eq_getElem (by have := QC.out.lt; have := HL.out; omega)⟩
              have t0 := hT6 _ _ ((fcz_at _ hta 0 (by omega)).trans rfl)
              have t1 := hT6 _ _ ((fcz_at _ hta 1 (by omega)).trans rfl)
              have t2 := hT6 _ _ ((fcz_at _ hta 2 (by omega)).trans rfl)
              have t3 := hT6 _ _ ((fcz_at _ hta 3 (by omega)).trans rfl)
              have t4 := hT6 _ _ ((fcz_at _ hta 4 (by omega)).trans rfl)
              have t5 := hT6 _ _ ((fcz_at _ hta 5 (by omega)).trans rfl)
              have t6 := hT6 _ _ ((fcz_at _ hta 6 (by omega)).trans rfl)
              have t7 := hT6 _ _ ((fcz_at _ hta 7 (by omega)).trans rfl)
              have t8 := hT6 _ _ ((fcz_at _ hta 8 (by omega)).trans rfl)
              rw [Nat.add_zero] at t0
              have y0 := (hT7 (x * 9) (by omega)).2
              have y1 := (hT7 (x * 9 + 1) (by omega)).2
              have y2 := (hT7 (x * 9 + 2) (by omega)).2
              have y3 := (hT7 (x * 9 + 3) (by omega)).2
              have y4 := (hT7 (x * 9 + 4) (by omega)).2
              have y5 := (hT7 (x * 9 + 5) (by omega)).2
              have y6 := (hT7 (x * 9 + 6) (by omega)).2
              have y7 := (hT7 (x * 9 + 7) (by omega)).2
              have y8 := (hT7 (x * 9 + 8) (by omega)).2
              clear hT6 hW6 hW7 hT7 eW2 eW3 eT2 eT3 hta
              have nWT : gW ≠ gT := by rintro rfl; rw [oW] at oT; injection oT with _ e; omega
              have nWB : gW ≠ B := by rintro rfl; have := K8.out.lb; rw [oW] at this; injection this with e _; omega
              have nTB : gT ≠ B := by rintro rfl; have := K8.out.lb; rw [oT] at this; injection this with e _; omega
              have s6 : decide (j ≤ x) = false := by simp; omega
              have s5 : decide ((j : Int) ≤ (x : Int)) = false := by simp; omega
              go_region_with (fail)
              all_goals
                have fW : Fr (· = (7, 3)) o7 o7 w8 (w8.setCell ⟨gW, x, none⟩ (.bool true)) := Fr.set (a := ⟨gW, x, none⟩) oW _
                have fT := fr_set9 (o := o7) oT (w8.setCell ⟨gW, x, none⟩ (.bool true)) (x * 9) (x * 9 + 1) (x * 9 + 2) (x * 9 + 3) (x * 9 + 4) (x * 9 + 5) (x * 9 + 6) (x * 9 + 7) (x * 9 + 8) (.int .i64 a0') (.int .i64 a1') (.int .i64 a2') (.int .i64 a3') (.int .i64 a4') (.int .i64 a5') (.string a6') (.int .i64 a7') (.string a8')
                have W9 := (W8.out.set x (.bool true) rfl (by omega)).fr fT (by intro e; injection e with _ e; omega)
                rw [bcs_set] at W9
                have T9 := (T8.out.fr fW (by intro e; injection e with _ e; omega)).setF x hxj a0' a1' a2' a3' a4' a5' a6' a7' a8'
                have R9 := (R8.out.fr fW (by intro e; injection e with _ e; omega)).fr fT (by intro e; injection e with _ e; omega)
                have L9 := (L8.out.grow fW (nTP7 _) (n07 _)).grow fT (nTP7 _) (n07 _)
                have M9 := (M8.out.fr fW (by rw [LM8.out]; intro e; injection e with _ e; omega)).fr fT (by rw [LM8.out]; intro e; injection e with _ e; omega)
                have c9 := fun W : World => (Fr.drew1 (fun _ => False) o7 W).below (Nat.le_refl W.heap.size) (fun _ _ => id)
                replace L9 := hid (L9.below (c9 _))
                replace R9 := hid (R9.below (c9 _))
                replace T9 := hid (T9.below (c9 _))
                replace W9 := hid (W9.below (c9 _))
                replace M9 := hid (M9.fr (Fr.drew1 (fun _ => False) o7 _) id)
                clear c9 fW fT
                go_wp2_with fail
                exact ⟨⟨q + 1, m + 1, o7, s', wl.set x true, tl.set x ⟨a0', a1', a2', a3', a4', a5', a6', a7', a8'⟩, oV V x k, by go_num, by omega, by omega, VB, L9, QF, R9, T9, W9, M9, LM8⟩, by simp [intOf]; omega⟩
        · by_cases g1 : q < len1
          · have d1 : (q : Int) < (len1 : Int) := by omega
            by_cases g2 : q < 60
            · have d2 : (q : Int) < 60 := by omega
              have d3 : j = 0 := by omega
              subst d3
              clear hlt
              go_wp2_with fail
              go_meet
              exact ⟨m, o2, s, wl, tl, V, HV, LC, QC, OR, MC, LM⟩
            · have d2 : decide ((q : Int) < 60) = false := by simp; omega
              clear hlt
              go_wp2_with fail
              go_meet
              exact ⟨m, o2, s, wl, tl, V, HV, LC, QC, OR, MC, LM⟩
          · have d1 : decide ((q : Int) < (len1 : Int)) = false := by simp; omega
            clear hlt
            go_wp2_with fail
            go_meet
            exact ⟨m, o2, s, wl, tl, V, HV, LC, QC, OR, MC, LM⟩
    case rest =>
      clear LC QC OR OT OW MC LM
      obtain ⟨m, o2, s, wl, tl, V, HV, LC, QC, OR, MC, LM⟩ := hcut
      have QE := hid QC.out.end
      have HZ2 := hid QC.out.sz
      clear QC
      go_wp2_with fail
      go_loopw [19] (fun i wr => ∃ (t : Nat) (o : Nat → Nat × Nat) (s : Sl), i = .int .i64 (t : Int) ∧ t ≤ j ∧ Hid (Lw w wr o X s) ∧ Hid (Og s n V t) ∧ Hid (OwnK wr o (7, 1) 9 (.slice b j c) j (fcz (oqs ks))) ∧ Hid (IsMv wr gM m V) ∧ Hid (o gM = (7, 4))) (fun i _ => j - (intOf i).toNat)
      case atStart => exact ⟨0, o2, s, rfl, by omega, LC, QE, OR, MC, LM⟩
      case round =>
        clear LC QE OR MC LM
        obtain ⟨t, o3, s3, rfl, ht, LC, QE, OR, MC, LM⟩ := hrel
        by_cases htj : t < j
        · obtain ⟨k, hk⟩ : ∃ k, ks[t]? = some k := ⟨_, List.getElem?_eq_getElem (by have := HL.out; omega)⟩
          have hkz : k.size ≤ 60 := HZ2.out k (List.mem_of_getElem? hk)
          obtain ⟨gR, cR, eR, _, _, _, _, hR6, _⟩ := OR.out.there (by omega)
          injection eR with eR1 eR2 eR3
          subst eR1 eR3
          have f6 := hR6 (t * 9 + 6) (.string k) ((fcz_at _ (oqs_at hk) 6 (by omega)).trans rfl)
          have hti : (t : Int) < (j : Int) := by omega
          obtain ⟨s4, htk, hq4⟩ := QE.out.get (by omega) hkz
          have QG := hid hq4
          have hdl : Hid (s3.done.length ≤ 90000) := hid (by have := QE.out.dl; omega)
          have HK := hid hk
          obtain ⟨vb0, vb1⟩ := HV.out k
          clear hR6 eR2 hq4 hk QE
          go_wp2_with fail
          refine (askn_any 2 (100 + (t : Int)) k ⟨#[]⟩ 0 rfl _).mono ?_
          rintro e y3 ⟨rfl, b3⟩
          have L3 := hid (LC.out.below b3)
          have R3 := hid (OR.out.below b3)
          have M3 := hid (MC.out.fr (Fr.ofBelow (fun _ => False) o3 b3) id)
          clear LC OR MC b3 f6
          obtain ⟨v, hv⟩ : ∃ v, V k = v := ⟨_, rfl⟩
          obtain ⟨D, hD⟩ : ∃ D, (if V k = 0 then (⟨#[]⟩ : ByteArray) else vk k) = D := ⟨_, rfl⟩
          rw [hD, hv] at htk
          rw [hv] at hD vb0 vb1
          have HTK := hid htk
          have TK : Hid (Calls Tryz.prog 9 #[.pointer (some ⟨X, 0, none⟩), .agg #[.int .i64 2, .int .i64 1, .int .i64 3, .int .i64 (100 + (t : Int)), .int .i64 0, .int .i64 1, .string k, .int .i64 0, .string ⟨#[]⟩]] y3 fun e w' => e = .returned (.tuple #[.agg #[.int .i64 6, .int .i64 1, .int .i64 3, .int .i64 (100 + (t : Int)), .int .i64 0, .int .i64 1, .string k, .int .i64 v, .string D], .bool true]) ∧ ∃ o', Fr TP o3 o' y3 w' ∧ Lw w w' o' X s4) := hid ((ptake_any X s3 ⟨2, 1, 3, 100 + (t : Int), 0, 1, k, 0, ⟨#[]⟩⟩ hdl.out y3 o3 L3.out.I).mono (by
            rintro e w' ⟨rfl, o', I, g⟩
            rw [HTK.out] at I ⊢
            exact ⟨rfl, o', g, L3.out.fr I g⟩))
          clear htk
          go_wp2_with fail
          refine TK.out.mono ?_
          rintro e y4 ⟨rfl, o4, g4, l4⟩
          have L4 := hid l4
          have R4 := hid (R3.out.fr g4 (nTP7' _))
          have M4 := hid (M3.out.fr g4 (by rw [LM.out]; exact nTP7' _))
          have LM4 := hid ((g4.lab gM M3.out.lt).trans LM.out)
          clear TK L3 R3 M3 LM g4 l4 hdl HTK
          go_upto_region 37 with fail
          obtain ⟨o5, ho5⟩ : ∃ o5, o5 = nwl o4 y4.heap.size := ⟨_, rfl⟩
          obtain ⟨B, hB⟩ : ∃ B, B = y4.heap.size := ⟨_, rfl⟩
          obtain ⟨y5, hy5⟩ : ∃ V, V = y4.alloc (.cells #[.int .i64 6, .int .i64 1, .int .i64 3, .int .i64 (100 + (t : Int)), .int .i64 0, .int .i64 1, .string k, .int .i64 v, .string D] 27) := ⟨_, rfl⟩
          have q5 := L4.out.box ⟨6, 1, 3, 100 + (t : Int), 0, 1, k, v, D⟩
          rw [show (⟨6, 1, 3, 100 + (t : Int), 0, 1, k, v, D⟩ : F).cs.toArray = #[.int .i64 6, .int .i64 1, .int .i64 3, .int .i64 (100 + (t : Int)), .int .i64 0, .int .i64 1, .string k, .int .i64 v, .string D] from rfl, ← hy5, ← ho5, ← hB] at q5
          rw [← hy5, ← hB]
          have g5 : Fr (fun _ => False) o4 o5 y4 y5 := by rw [ho5]; exact nwl_fr _ o4 (by rw [hy5]; exact bel_alloc _ _)
          have L5 := hid q5.1
          have R5 := hid (R4.out.fr g5 id)
          have M5 := hid (M4.out.fr g5 id)
          have LM5 := hid ((g5.lab gM M4.out.lt).trans LM4.out)
          have b7 := q5.2.1.k.q 7 _ rfl
          have b8 := q5.2.1.k.q 8 _ rfl
          clear q5 g5 ho5 hy5 hB L4 R4 M4 LM4
          obtain ⟨gR', cR', eR, _, _, _, _, hR6, _⟩ := R5.out.there (by omega)
          injection eR with eR1 eR2 eR3
          injection eR1 with eR1
          injection eR1 with eR1
          subst eR1 eR3
          have f6 := hR6 (t * 9 + 6) (.string k) ((fcz_at _ (oqs_at HK.out) 6 (by omega)).trans rfl)
          clear hR6 eR2
          have hlk : ∀ mm, (Instr.lookup 57 (.map (some gM)) (.string k) false).run Tryz.prog (y5.drewN mm) = .ok (.int .i64 v) (y5.drewN mm) := fun mm => by
            have := (M5.out.fr (Fr.drewN (fun _ => False) o5 y5 mm) id).look k (by omega)
            rwa [hv] at this
          have hvv : (v != v) = false := by simp
          clear hv
          have s5 : decide ((j : Int) ≤ (t : Int)) = false := by simp; omega
          by_cases hv0 : v = 0
          · subst hv0
            clear hD
            go_big_quiet (fail)
            go_wp2_with fail
            exact ⟨⟨t + 1, o5, s4, by go_num, by omega, hid (L5.out.below (below_drewN (Below.refl _ _) _)), QG, hid (R5.out.below (below_drewN (Below.refl _ _) _)), hid (M5.out.fr (Fr.drewN (fun _ => False) o5 y5 _) id), LM5⟩, by simp [intOf]; omega⟩
          · have hvp : decide (0 < v) = true := by simp; omega
            have hD2 : D = vk k := by rw [← hD, if_neg hv0]
            subst hD2
            clear hD hv0
            have hvs : ¬ (9223372036854775807 < (⟨#[118]⟩ : ByteArray).size + k.size) := by have e : (⟨#[118]⟩ : ByteArray).size = 1 := rfl; omega
            have hne : ((vk k).toList == ((⟨#[118]⟩ : ByteArray) ++ k).toList) = true := by
              show ((vk k).toList == (vk k).toList) = true
              exact beq_self_eq_true _
            go_big_quiet (fail)
            go_wp2_with fail
            exact ⟨⟨t + 1, o5, s4, by go_num, by omega, hid (L5.out.below (below_drewN (Below.refl _ _) _)), QG, hid (R5.out.below (below_drewN (Below.refl _ _) _)), hid (M5.out.fr (Fr.drewN (fun _ => False) o5 y5 _) id), LM5⟩, by simp [intOf]; omega⟩
        · have htj2 : decide ((t : Int) < (j : Int)) = false := by simp; omega
          go_wp2_with fail
          refine (runs_any _).mono ?_
          rintro e w9 ⟨rfl, b9⟩
          go_wp2_with fail
          go_ret
          exact ⟨rfl, LC.out.fin.trans (b9.mono LC.out.fin.size)⟩
end Go.Proofs.YtfinaichajbnkaaGreat
