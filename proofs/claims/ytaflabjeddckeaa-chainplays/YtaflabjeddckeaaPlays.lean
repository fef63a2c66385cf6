/-
  CHAINPLAYS walked.
-/
import Derived.Test.YtaflabjeddckeaaRDrop
import Derived.Test.YtaflabjeddckeaaTwins
namespace Go.Proofs.Ytaflabjeddckeaa
open Go.RowKit

theorem Dom.tell {s : A} {K : List ByteArray} (h : Dom s K) (hl : K.length ≤ 999) (q : AskD) : Dom (s.tell q) (shr q.S :: K) := by
  refine ⟨by simp; omega, fun k v hk => ?_, fun k hk => ?_⟩
  · have base : ∀ k v, s.F k = some v → k ∈ shr q.S :: K := fun k v hk => List.mem_cons_of_mem _ (h.2.1 k v hk)
    unfold A.tell at hk
    split at hk
    · rw [A.put_F] at hk
      by_cases e : k = shr q.S
      · rw [e]; exact List.mem_cons_self
      · rw [setF_other _ _ _ e] at hk; exact base k v hk
    · split at hk
      · rw [A.drop_F] at hk
        by_cases e : k = shr q.S
        · rw [e]; exact List.mem_cons_self
        · rw [setF_other _ _ _ e] at hk; exact base k v hk
      · exact base k v hk
  · rcases List.mem_cons.1 hk with rfl | hk
    · have := shr_size q.S; omega
    · exact h.2.2 k hk
/-- What stands behind the turn of one call. -/
def TailP (w : World) (C D : Nat) (s : A) (wx : World) : Prop := ∃ o9, IsChain wx o9 1 C s ∧ IsRef wx o9 2 D s ∧ Fr T12 o0 o9 w wx
set_option maxHeartbeats 2000000 in
set_option maxRecDepth 100000 in
theorem plays_any (la : Option Addr) (ln lc : Nat) (q : Nat → AskD) (hln : ln ≤ 9223372036854775807) (w : World) (ri : AskF w la q ln) :
    Calls Try.prog 4 #[.slice la ln lc] w fun e w' => e = .returned (.bool true) ∧ Below w.heap.size w w' := by
  have RI : Hid (AskF w la q ln) := ri
  clear ri
  go_enter Try.func4, Try.ntmps4
  go_wp2_with fail
  refine (new_any 1 _ o0).mono ?_
  rintro e w1 ⟨C, o1, rfl, I1, F1⟩
  have HI1 : Hid (IsChain w1 o1 1 C A0) := I1
  have HF1 : Hid (Fr T12 o0 o1 w w1) := F1.mono (fun _ h => h.elim)
  clear I1 F1
  go_wp2_with fail
  refine (rnew_any 2 _ o1).mono ?_
  rintro e w2 ⟨D, o2, rfl, I2, F2⟩
  have HI2 : Hid (IsChain w2 o2 1 C A0) := HI1.out.fr F2 (fun _ h => h)
  have HJ2 : Hid (IsRef w2 o2 2 D A0) := I2
  have HF2 : Hid (Fr T12 o0 o2 w w2) := HF1.out.trans (F2.mono (fun _ h => h.elim))
  clear I2 F2 HI1 HF1
  go_wp2_with fail
  go_loopw [5] (fun y wr => ∃ (i : Nat) (s : A) (K : List ByteArray) (o3 : Nat → Nat × Nat), i ≤ ln ∧ i ≤ 120 ∧ y = .int .i64 (i : Int) ∧ -(i : Int) ≤ s.keys ∧ s.keys ≤ (i : Int) ∧ Hid (K.length ≤ i) ∧ Hid (Dom s K) ∧ Hid (IsChain wr o3 1 C s) ∧ Hid (IsRef wr o3 2 D s) ∧ Hid (Fr T12 o0 o3 w wr)) (fun y _ => 120 - (intOf y).toNat)
  case atStart => exact ⟨0, A0, [], o2, by omega, by omega, rfl, by decide, by decide, by show _ ≤ _; simp, ⟨by simp, fun k v h => (by cases h), fun k h => (by cases h)⟩, HI2, HJ2, HF2⟩
  case round =>
    clear HI2 HJ2 HF2
    obtain ⟨i, s, K, o3, hi, hi120, rfl, hk1, hk2, HKl, HD, HI, HJ, HF⟩ := hrel
    by_cases hlt : i < ln ∧ i < 120
    · obtain ⟨hlt, h120⟩ := hlt
      have hi1 : (i : Int) < (ln : Int) := by omega
      have hi2 : (i : Int) < 120 := by omega
      have BB := HF.out.below (N := w.heap.size) (Nat.le_refl _) (fun b _ e => by rcases e with e | e <;> cases e)
      obtain ⟨p, off, rfl, d0, d1, d2⟩ := (RI.out.below BB).at_ hlt
      obtain ⟨tk1, tk2⟩ := s.tell_keys (q i)
      have HDT : Hid (Dom (s.tell (q i)) (shr (q i).S :: K)) := HD.out.tell (by have := HKl.out; omega) (q i)
      obtain ⟨Q, hQ⟩ : ∃ Q, Q = q i := ⟨_, rfl⟩
      rw [← hQ] at d0 d1 d2 tk1 tk2 HDT
      have HPB : Hid (p < w.heap.size) := by
        obtain ⟨p', off', hp', z0, _⟩ := RI.out.at_ hlt
        injection hp' with hp'
        injection hp' with h1 h2
        subst h1 h2
        exact World.block_lt_of_cell? _ _ z0
      clear hQ BB
      obtain ⟨KK, N, S⟩ := Q
      simp only at d0 d1 d2
      have hsz := shr_size S
      go_wp2_with fail
      refine (short_any S _).mono ?_
      rintro e wx ⟨rfl, rfl⟩
      obtain ⟨k, hk⟩ : ∃ k, k = shr S := ⟨_, rfl⟩
      have HK : Hid (k = shr S) := hk
      rw [← hk] at hsz ⊢
      clear hk
      go_wp2_with fail
      refine (hash_any k (by omega) _).mono ?_
      rintro e wx ⟨rfl, rfl⟩
      obtain ⟨z, hz⟩ : ∃ z, z = hs k := ⟨_, rfl⟩
      have HZ : Hid (z = hs k) := hz
      rw [← hz]
      clear hz
      go_wp2_with fail
      refine (rhash_any k (by omega) _).mono ?_
      rintro e wx ⟨rfl, rfl⟩
      rw [← HZ.out]
      have hzz : (z != z) = false := by simp
      go_upto_block 2 with fail
      have hkb1 : -1000000000 ≤ s.keys := by omega
      have hkb2 : s.keys ≤ 1000000000 := by omega
      go_cut [7, 8, 9, 10] from 21 to 130 (fun _ _ _ _ wx => Hid (TailP w C D (s.tell ⟨KK, N, S⟩) wx))
      case first =>
        by_cases hK1 : KK = 1
        · subst hK1
          have HT : Hid (s.tell ⟨1, N, S⟩ = s.put k N) := by show _ = _; rw [HK.out]; rfl
          obtain ⟨bb, hbb⟩ : ∃ b, b = (!(s.F k).isSome) := ⟨_, rfl⟩
          have HBB : Hid (bb = (!(s.F k).isSome)) := hbb
          have hb2 : (bb != bb) = false := by simp
          have HID : Hid (IsChain wr.drew o3 1 C s) := HI.out.below ((Below.refl _ _).drew)
          have HJD : Hid (IsRef wr.drew o3 2 D s) := HJ.out.below ((Below.refl _ _).drew)
          have HFD : Hid (Fr T12 o0 o3 w wr.drew) := HF.out.trans (Fr.drew1 _ o3 wr)
          have hcell : ∀ {X : World} {o' : Nat → Nat × Nat}, Fr T12 o0 o' w X → X.cell? ⟨p, off + i * 3 + 1, none⟩ = w.cell? ⟨p, off + i * 3 + 1, none⟩ := fun f =>
            World.cell?_of_block (a := ⟨p, off + i * 3 + 1, none⟩) (f.block p HPB.out (fun e => by rcases e with e | e <;> cases e))
          have HCE : Hid (∀ {X : World} {o' : Nat → Nat × Nat}, Fr T12 o0 o' w X → X.cell? ⟨p, off + i * 3 + 1, none⟩ = some (.int .i64 N)) := fun f => (hcell f).trans ((hcell HF.out).symm.trans d1)
          have S0 : wr.drew.cell? ⟨p, off + i * 3 + 1, none⟩ = some (.int .i64 N) := d1
          clear hbb hcell HI HJ HF d0
          go_wp2_with fail
          go_region_held3 (fun w' => w'.cell? ⟨p, off + i * 3 + 1, none⟩ = some (.int .i64 N)) (first | with_reducible exact S0 | with_reducible exact S1 | with_reducible exact S2 | exact S0 | exact S1 | exact S2)
            (first
              | (go_at_call 10; refine (put_any 1 C s k N (by omega) hkb1 hkb2 _ o3 HID.out).mono ?_; rintro e w5 ⟨rfl, o5, I5, F5⟩; rw [← HBB.out]; have HI5 : Hid (IsChain w5 o5 1 C (s.put k N)) := I5; have HJ5 : Hid (IsRef w5 o5 2 D s) := HJD.out.fr F5 (fun _ h => by cases h); have HF5 : Hid (Fr T12 o0 o5 w w5) := HFD.out.trans (F5.mono (fun _ h => .inl h)); have S1 : w5.cell? ⟨p, off + i * 3 + 1, none⟩ = some (.int .i64 N) := HCE.out HF5.out; clear I5 F5)
              | (go_at_call 17; refine (rput_any 2 D s k N (by omega) hkb1 hkb2 K HD.out w5 o5 HJ5.out).mono ?_; rintro e w6 ⟨rfl, o6, I6, F6⟩; rw [← HBB.out]; have HI6 : Hid (IsChain w6 o6 1 C (s.put k N)) := HI5.out.fr F6 (fun _ h => by cases h); have HJ6 : Hid (IsRef w6 o6 2 D (s.put k N)) := I6; have HF6 : Hid (Fr T12 o0 o6 w w6) := HF5.out.trans (F6.mono (fun _ h => .inr h)); have S2 : w6.cell? ⟨p, off + i * 3 + 1, none⟩ = some (.int .i64 N) := HCE.out HF6.out; clear I6 F6))
          go_wp2_with fail
          go_meet
          exact ⟨o6, by rw [HT.out]; exact HI6.out, by rw [HT.out]; exact HJ6.out, HF6.out⟩
        · have jk1 : (KK == 1) = false := by simp [hK1]
          by_cases hK2 : KK = 2
          · subst hK2
            have HT : Hid (s.tell ⟨2, N, S⟩ = s) := by show _ = _; rfl
            obtain ⟨zn, hzn⟩ : ∃ z, z = (s.F k).getD 0 := ⟨_, rfl⟩
            obtain ⟨zb, hzb⟩ : ∃ z, z = (s.F k).isSome := ⟨_, rfl⟩
            have HZN : Hid (zn = (s.F k).getD 0 ∧ zb = (s.F k).isSome) := ⟨hzn, hzb⟩
            have y1 : (zn != zn) = false := by simp
            have y2 : (zb != zb) = false := by simp
            clear hzn hzb d0 d1
            go_wp2_with fail
            refine (get_any 1 C s k (by omega) _ o3 HI.out).mono ?_
            rintro e w5 ⟨rfl, B5⟩
            rw [← HZN.out.1, ← HZN.out.2]
            have HI5 : Hid (IsChain w5 o3 1 C s) := HI.out.below B5
            have HJ5 : Hid (IsRef w5 o3 2 D s) := HJ.out.below B5
            have HF5 : Hid (Fr T12 o0 o3 w w5) := HF.out.trans (Fr.ofBelow _ o3 B5)
            clear B5 HI HJ HF
            go_wp2_with fail
            refine (rget_any 2 D s k (by omega) K HD.out _ o3 HJ5.out).mono ?_
            rintro e w6 ⟨rfl, B6⟩
            rw [← HZN.out.1, ← HZN.out.2]
            have HI6 : Hid (IsChain w6 o3 1 C s) := HI5.out.below B6
            have HJ6 : Hid (IsRef w6 o3 2 D s) := HJ5.out.below B6
            have HF6 : Hid (Fr T12 o0 o3 w w6) := HF5.out.trans (Fr.ofBelow _ o3 B6)
            clear B6 HI5 HJ5 HF5
            go_wp2_with fail
            go_meet
            exact ⟨o3, by rw [HT.out]; exact HI6.out, by rw [HT.out]; exact HJ6.out, HF6.out⟩
          · have jk2 : (KK == 2) = false := by simp [hK2]
            by_cases hK3 : KK = 3
            · subst hK3
              have HT : Hid (s.tell ⟨3, N, S⟩ = s.drop k) := by show _ = _; rw [HK.out]; rfl
              obtain ⟨zb, hzb⟩ : ∃ z, z = (s.F k).isSome := ⟨_, rfl⟩
              have HZB : Hid (zb = (s.F k).isSome) := hzb
              have y2 : (zb != zb) = false := by simp
              clear hzb d0 d1
              go_wp2_with fail
              refine (drop_any 1 C s k (by omega) hkb1 hkb2 _ o3 HI.out).mono ?_
              rintro e w5 ⟨rfl, o5, I5, F5⟩
              rw [← HZB.out]
              have HI5 : Hid (IsChain w5 o5 1 C (s.drop k)) := I5
              have HJ5 : Hid (IsRef w5 o5 2 D s) := HJ.out.fr F5 (fun _ h => by cases h)
              have HF5 : Hid (Fr T12 o0 o5 w w5) := HF.out.trans (F5.mono (fun _ h => .inl h))
              clear I5 F5 HI HJ HF
              go_wp2_with fail
              refine (rdrop_any 2 D s k (by omega) hkb1 hkb2 K HD.out _ o5 HJ5.out).mono ?_
              rintro e w6 ⟨rfl, o6, I6, F6⟩
              rw [← HZB.out]
              have HI6 : Hid (IsChain w6 o6 1 C (s.drop k)) := HI5.out.fr F6 (fun _ h => by cases h)
              have HJ6 : Hid (IsRef w6 o6 2 D (s.drop k)) := I6
              have HF6 : Hid (Fr T12 o0 o6 w w6) := HF5.out.trans (F6.mono (fun _ h => .inr h))
              clear I6 F6 HI5 HJ5 HF5
              go_wp2_with fail
              go_meet
              exact ⟨o6, by rw [HT.out]; exact HI6.out, by rw [HT.out]; exact HJ6.out, HF6.out⟩
            · have jk3 : (KK == 3) = false := by simp [hK3]
              have HT : Hid (s.tell ⟨KK, N, S⟩ = s) := by show _ = _; unfold A.tell; simp [hK1, hK3]
              clear d0 d1
              go_wp2_with fail
              go_meet
              exact ⟨o3, by rw [HT.out]; exact HI.out, by rw [HT.out]; exact HJ.out, HF.out⟩
      case rest =>
        obtain ⟨o9, r1, r2, r3⟩ := hcut.out
        obtain ⟨s9, hs9⟩ : ∃ s9, s9 = s.tell ⟨KK, N, S⟩ := ⟨_, rfl⟩
        rw [← hs9] at r1 r2 tk1 tk2 HDT
        have J1 : Hid (IsChain wc o9 1 C s9) := r1
        have J2 : Hid (IsRef wc o9 2 D s9) := r2
        have J3 : Hid (Fr T12 o0 o9 w wc) := r3
        have y1 : (((s9.n : Nat) : Int) != ((s9.n : Nat) : Int)) = false := by simp
        have y2 : (((s9.m : Nat) : Int) != ((s9.m : Nat) : Int)) = false := by simp
        have y3 : (((s9.mv : Nat) : Int) != ((s9.mv : Nat) : Int)) = false := by simp
        have y4 : (s9.keys != s9.keys) = false := by simp
        have HKl9 : Hid ((shr S :: K).length ≤ i + 1) := by show _ ≤ _; have := HKl.out; simp; omega
        clear r1 r2 r3 hcut hs9 HI HJ HF HD d0 d1 d2 HKl HK HZ hzz
        go_wp2_with fail
        refine (shape_any 1 C s9 _ o9 J1.out).mono ?_
        rintro e w7 ⟨rfl, B7⟩
        have L1 : Hid (IsChain w7 o9 1 C s9) := J1.out.below B7
        have L2 : Hid (IsRef w7 o9 2 D s9) := J2.out.below B7
        have L3 : Hid (Fr T12 o0 o9 w w7) := J3.out.trans (Fr.ofBelow _ o9 B7)
        clear B7 J1 J2 J3
        go_wp2_with fail
        refine (rshape_any 2 D s9 _ o9 L2.out).mono ?_
        rintro e w8 ⟨rfl, B8⟩
        have M1 : Hid (∀ n, IsChain (w8.drewN n) o9 1 C s9) := fun n => (L1.out.below B8).below (below_drewN (Below.refl _ _) n)
        have M2 : Hid (∀ n, IsRef (w8.drewN n) o9 2 D s9) := fun n => (L2.out.below B8).below (below_drewN (Below.refl _ _) n)
        have M3 : Hid (∀ n, Fr T12 o0 o9 w (w8.drewN n)) := fun n => (L3.out.trans (Fr.ofBelow _ o9 B8)).trans (Fr.drewN _ o9 w8 n)
        have e3 : w8.cell? ⟨D, 3, none⟩ = some (.int .i64 s9.keys) := by obtain ⟨_, _, hR⟩ := L2.out.below B8; exact hR.c3
        clear B8 L1 L2 L3
        go_wp2_with fail
        go_quiet ((go_at_call 13; exact Calls.quiet_of_same ((len_any 1 C s9 _ o9 (M1.out _)).mono fun e w' ⟨h1, h2⟩ => ⟨h1, h2.symm⟩)))
        go_wp2_with fail
        exact ⟨⟨i + 1, s9, shr S :: K, o9, by omega, by omega, by go_num, by omega, by omega, HKl9, HDT, M1.out _, M2.out _, M3.out _⟩, by simp [intOf]; omega⟩
    · have hc : i = ln ∨ i < ln ∧ i = 120 := by omega
      rcases hc with hc | ⟨hc, hd⟩
      case' inl =>
        subst hc
      case' inr =>
        subst hd
        have hi1 : (120 : Int) < (ln : Int) := by omega
      all_goals
        go_wp2_with fail
        refine (runs_any _).mono ?_
        rintro e w6 ⟨rfl, B6⟩
        go_wp2_with fail
        go_ret
        have B := HF.out.below (N := w.heap.size) (Nat.le_refl _) (fun b _ e => by rcases e with e | e <;> cases e)
        exact ⟨rfl, B.trans (B6.mono B.size)⟩
end Go.Proofs.Ytaflabjeddckeaa
