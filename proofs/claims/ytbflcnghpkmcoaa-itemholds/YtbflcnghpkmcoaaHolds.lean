/-
  ITEMHOLDS walked.
-/
import Derived.Test.YtbflcnghpkmcoaaHoldsS
namespace Go.Proofs.Ytbflcnghpkmcoaa
open Go.RowKit

/-- What stands behind the search of the key. -/
def SeekP (w : World) (X i A : Nat) (q : AskD) (K D P at_ : Value) (wx : World) : Prop :=
  ∃ (m : Nat) (ks ds : List ByteArray) (ps : List Bool) (z : Sp) (o : Nat → Nat × Nat) (ka da pa : Option Addr) (kc dc pc p : Nat), K = .slice ka m kc ∧ D = .slice da m dc ∧ P = .slice pa m pc ∧ at_ = .int .i64 (p : Int) ∧ m ≤ i + 1 ∧ p < m ∧ ks[p]? = some q.Y ∧ Lst w X z m ks ds ps (.slice ka m kc) (.slice da m dc) (.slice pa m pc) wx o ∧ AskAt wx A 0 q ∧ o A = (0, 0)
set_option maxRecDepth 100000 in
set_option maxHeartbeats 16000000 in
theorem holds_walk (pages page : Int) (la : Option Addr) (ln lc : Nat) (f : Nat → AskD) (w : World) (hA : AskF w la f ln) :
    Calls Try.prog 5 #[.int .i64 pages, .int .i64 page, .slice la ln lc] w fun e w' => e = .returned (.bool true) ∧ Below w.heap.size w w' := by
  have HA : Hid (AskF w la f ln) := hA
  clear hA
  go_enter Try.func5, Try.ntmps5
  go_wp2_with fail
  refine (within_any pages 1 6 (by omega) (by omega) (by omega) _).mono ?_
  rintro e w1 ⟨rfl, rfl⟩
  obtain ⟨b1, b2⟩ := wi_bd pages 1 6 (by omega)
  obtain ⟨np, hnp⟩ : ∃ n : Nat, wi pages 1 6 = (n : Int) := ⟨(wi pages 1 6).toNat, by omega⟩
  rw [hnp] at b1 b2 ⊢
  clear hnp
  go_wp2_with fail
  refine (within_any page 64 600 (by omega) (by omega) (by omega) _).mono ?_
  rintro e w1 ⟨rfl, rfl⟩
  obtain ⟨b3, b4⟩ := wi_bd page 64 600 (by omega)
  obtain ⟨ng, hng⟩ : ∃ n : Nat, wi page 64 600 = (n : Int) := ⟨(wi page 64 600).toNat, by omega⟩
  rw [hng] at b3 b4 ⊢
  clear hng
  go_wp2_with fail
  refine (snew_yes np ng _ _ rfl rfl (by omega) (by omega) (by omega) (by omega) _ o0 (fun b _ => o0_ok b)).mono ?_
  rintro e w1 ⟨X, rfl, o1, nc, hm, I1, F1⟩
  have HL1 : Hid (Lst w X ⟨St.new np ng nc, []⟩ 0 [] [] [] (.slice none 0 0) (.slice none 0 0) (.slice none 0 0) w1 o1) := ⟨Led.new I1.ok rfl, rfl, (fun _ h => by cases h), I1, OwnK.nil _ _ _ _, OwnK.nil _ _ _ _, OwnK.nil _ _ _ _, F1.mono (fun _ h => h.elim)⟩
  clear I1 F1 hm b1 b2 b3 b4
  go_wp2_with fail
  go_loopw [9, 10, 11, 12] (fun K D P y wr => ∃ (i m : Nat) (ks ds : List ByteArray) (ps : List Bool) (z : Sp) (o : Nat → Nat × Nat) (ka da pa : Option Addr) (kc dc pc : Nat), K = .slice ka m kc ∧ D = .slice da m dc ∧ P = .slice pa m pc ∧ y = .int .i64 (i : Int) ∧ i ≤ 60 ∧ m ≤ i ∧ Hid (Lst w X z m ks ds ps (.slice ka m kc) (.slice da m dc) (.slice pa m pc) wr o)) (fun _ _ _ y _ => 60 - (intOf y).toNat)
  case atStart => exact ⟨0, 0, [], [], [], _, o1, none, none, none, 0, 0, 0, rfl, rfl, rfl, rfl, by omega, by omega, HL1⟩
  case round =>
    clear HL1
    obtain ⟨i, m, ks, ds, ps, z, o, ka, da, pa, kc, dc, pc, rfl, rfl, rfl, rfl, hi60, hmi, HL⟩ := hrel
    by_cases hlt : i < ln ∧ i < 60
    · obtain ⟨hl1, hl2⟩ := hlt
      have k1 : (i : Int) < (ln : Int) := by omega
      have k2 : (i : Int) < 60 := by omega
      obtain ⟨pp, off, hla, hat⟩ := (HA.out.below HL.out.fr.low).at_ hl1
      subst hla
      obtain ⟨q, hq⟩ : ∃ q, q = f i := ⟨_, rfl⟩
      rw [← hq] at hat
      obtain ⟨y0, y1, y2, y3, y4⟩ := hat
      clear hq
      have HL1 := HL.out.new (.cells #[.int .i64 q.K, .int .i64 q.Z, .string q.Y, .string q.D, .bool q.T] 42)
      obtain ⟨A, hA'⟩ : ∃ A, A = wr.heap.size := ⟨_, rfl⟩
      obtain ⟨W, hW⟩ : ∃ W, W = wr.alloc (.cells #[.int .i64 q.K, .int .i64 q.Z, .string q.Y, .string q.D, .bool q.T] 42) := ⟨_, rfl⟩
      obtain ⟨oW, hoW⟩ : ∃ oW, oW = lab o wr.heap.size (0, 0) := ⟨_, rfl⟩
      have oA : oW A = (0, 0) := by rw [hoW, hA']; exact lab_same _ _ _
      have AA : AskAt W A 0 q := by
        refine ⟨?_, ?_, ?_, ?_, ?_⟩ <;> rw [hW, hA', World.cell?_alloc_new] <;> rfl
      rw [← hW, ← hoW] at HL1
      have HLW : Hid (Lst w X z m ks ds ps (.slice ka m kc) (.slice da m dc) (.slice pa m pc) W oW ∧ AskAt W A 0 q ∧ oW A = (0, 0)) := ⟨HL1, AA, oA⟩
      have a0 := AA.1
      have a2 := AA.2.2.1
      clear HL1 hoW oA HL AA
      go_upto_region 10 with fail
      rw [← hW, ← hA']
      clear hW hA' y0 y1 y2 y3 y4
      by_cases hkl : 100 < q.Y.size
      · have k3 : (100 : Int) < (q.Y.size : Int) := by omega
        go_wp2_with fail
        exact ⟨⟨i + 1, m, ks, ds, ps, z, oW, ka, da, pa, kc, dc, pc, rfl, rfl, rfl, by go_num, by omega, by omega, HLW.out.1⟩, by simp [intOf]; omega⟩
      · have k3 : decide ((100 : Int) < (q.Y.size : Int)) = false := by simp; omega
        have hkz : q.Y.size ≤ 100 := by omega
        clear hkl
        go_wp2_with fail
        obtain ⟨W0, rfl⟩ : ∃ W0, W0 = wr := ⟨_, rfl⟩
        go_loopw [14, 15] (fun zv jv wx => ∃ (zz : Int) (j d : Nat), zv = .int .i64 zz ∧ jv = .int .i64 (j : Int) ∧ j ≤ m ∧ Hid (AtP ks q.Y j zz) ∧ wx = W.drewN d) (fun _ jv _ => m - (intOf jv).toNat)
        case atStart => exact ⟨-1, 0, 0, rfl, rfl, by omega, .inl ⟨rfl, fun p hp => by omega⟩, rfl⟩
        case round =>
          obtain ⟨zz, j, d, rfl, rfl, hj, HAT, rfl⟩ := hrel
          by_cases hjm : j < m
          · have k4 : (j : Int) < (m : Int) := by omega
            obtain ⟨k', hk'⟩ : ∃ x, ks[j]? = some x := ⟨_, List.getElem?_eq_getElem (by rw [← HLW.out.1.len]; exact hjm)⟩
            obtain ⟨gk, ek, dk⟩ := HLW.out.1.k.read hk'
            subst ek
            have HK' : Hid (ks[j]? = some k') := hk'
            clear hk'
            by_cases hkk : k' = q.Y
            · have s1 : (k'.toList == q.Y.toList) = true := by rw [str_beq, hkk]; simp
              have HKK : Hid (k' = q.Y) := hkk
              clear hkk
              go_wp2_with fail
              go_quiet (fail)
              go_wp2_with fail
              exact ⟨⟨(j : Int), j + 1, d + nq, rfl, by go_num, by omega, .inr ⟨j, rfl, by omega, by rw [← HKK.out]; exact HK'.out⟩, rfl⟩, by simp [intOf]; omega⟩
            · have s1 : (k'.toList == q.Y.toList) = false := str_ne hkk
              have HKK : Hid (k' ≠ q.Y) := hkk
              clear hkk
              go_wp2_with fail
              go_quiet (fail)
              go_wp2_with fail
              exact ⟨⟨zz, j + 1, d + nq, rfl, by go_num, by omega, HAT.out.next HK'.out HKK.out, rfl⟩, by simp [intOf]; omega⟩
          · have k4 : decide ((j : Int) < (m : Int)) = false := by simp; omega
            have hjm' : j = m := by omega
            subst hjm'
            have HLX : Hid (Lst w X z j ks ds ps (.slice ka j kc) (.slice da j dc) (.slice pa j pc) (W.drewN d) oW ∧ AskAt (W.drewN d) A 0 q ∧ oW A = (0, 0)) := ⟨HLW.out.1.below (below_drewN (Below.refl _ _) d), HLW.out.2.1, HLW.out.2.2⟩
            obtain ⟨V, hV⟩ : ∃ V, V = W.drewN d := ⟨_, rfl⟩
            rw [← hV] at HLX ⊢
            have a2' : V.cell? ⟨A, 0 + 2, none⟩ = some (.string q.Y) := HLX.out.2.1.2.2.1
            clear hV HLW hjm hj a0 a2
            go_upto_if 72 with fail
            go_cut [9, 10, 11, 14] from 39 to 222 (fun K D P at_ wx => Hid (SeekP w X i A q K D P at_ wx))
            case first =>
              clear_value *
              as_aux_lemma =>
                rcases HAT.out with ⟨hz, hno⟩ | ⟨p, hz, hpj, hp⟩
                · subst hz
                  have hno' : ∀ p : Nat, ks[p]? ≠ some q.Y := fun p => by
                    by_cases e : p < j
                    · exact hno p e
                    · rw [List.getElem?_eq_none (by rw [← HLX.out.1.len]; omega)]; intro e'; cases e'
                  obtain ⟨ka', kc', da', dc', pa', pc', x1, x2, x3, o3, r1, r2, r3, L3, F3⟩ := HLX.out.1.grow (by omega) hkz hno'
                  have HE : Hid (SeekP w X i A q (.slice ka' (j + 1) kc') (.slice da' (j + 1) dc') (.slice pa' (j + 1) pc') (.int .i64 (j : Int)) x3) := ⟨j + 1, _, _, _, z, o3, ka', da', pa', kc', dc', pc', j, rfl, rfl, rfl, rfl, by omega, by omega, by rw [HLX.out.1.len, List.getElem?_append_right (Nat.le_refl _)]; simp, L3, HLX.out.2.1.fr F3 (by rw [HLX.out.2.2]; show ¬ (0 : Nat) = 9; decide), (F3.lab A (World.block_lt_of_cell? _ _ HLX.out.2.1.1)).trans HLX.out.2.2⟩
                  clear L3 F3 hno hno' HLX HAT
                  go_wp2_with (at_builtin; first | refine wpList_append_run rfl (.tmp 73) (.tmp 76) 26 26 rfl _ _ _ rfl rfl r1 ?_ | refine wpList_append_run rfl (.tmp 78) (.tmp 79) 26 26 rfl _ _ _ rfl rfl r2 ?_ | refine wpList_append_run rfl (.tmp 81) (.tmp 82) 63 63 rfl _ _ _ rfl rfl r3 ?_)
                  go_meet
                  exact HE
                · subst hz
                  have HE : Hid (SeekP w X i A q (.slice ka j kc) (.slice da j dc) (.slice pa j pc) (.int .i64 (p : Int)) V) := ⟨j, ks, ds, ps, z, oW, ka, da, pa, kc, dc, pc, p, rfl, rfl, rfl, rfl, by omega, by omega, hp, HLX.out.1, HLX.out.2.1, HLX.out.2.2⟩
                  have k5 : decide ((p : Int) < 0) = false := by simp
                  clear hp HLX HAT
                  go_wp2_with fail
                  go_meet
                  exact HE
            case rest =>
              obtain ⟨m, ks, ds, ps, z, o, ka, da, pa, kc, dc, pc, p, rfl, rfl, rfl, rfl, hmi', hpm, hpk, HL', HA', HoA⟩ := hcut.out
              have HL : Hid (Lst w X z m ks ds ps (.slice ka m kc) (.slice da m dc) (.slice pa m pc) wc o ∧ AskAt wc A 0 q ∧ o A = (0, 0) ∧ ks[p]? = some q.Y) := ⟨HL', HA', HoA, hpk⟩
              have a0 := HA'.1
              clear hcut HL' HA' HoA hpk HLX HAT a2'
              go_upto_block 4 with fail
              go_cut [9] from 39 to 222 (fun Kv wx => Kv = .slice ka m kc ∧ Hid (ToldP w X m ks (.slice ka m kc) (.slice da m dc) (.slice pa m pc) wx))
              case first => exact Code.wp_mono then_imp (sw_any ‹_› ‹_› hkz (by omega) hpm HL a0)
              case rest =>
                  obtain ⟨rfl, HT⟩ := hcut
                  obtain ⟨ds2, ps2, z2, o2, L2⟩ := HT.out
                  have HL2 : Hid (Lst w X z2 m ks ds2 ps2 (.slice ka m kc) (.slice da m dc) (.slice pa m pc) wc o2) := L2
                  clear HT L2 HL a0
                  go_wp2_with fail
                  go_loopw [22] (fun y wx => ∃ jj : Nat, jj ≤ m ∧ y = .int .i64 (jj : Int) ∧ Hid (Lst w X z2 m ks ds2 ps2 (.slice ka m kc) (.slice da m dc) (.slice pa m pc) wx o2)) (fun y _ => m - (intOf y).toNat)
                  case atStart => exact ⟨0, by omega, rfl, HL2⟩
                  case round =>
                    clear HL2
                    obtain ⟨jj, hjj, rfl, HL3⟩ := hrel
                    by_cases hlt2 : jj < m
                    · have k6 : (jj : Int) < (m : Int) := by omega
                      have hlen := HL3.out.len
                      obtain ⟨k, hk⟩ : ∃ x, ks[jj]? = some x := ⟨_, List.getElem?_eq_getElem (by omega)⟩
                      obtain ⟨dd, hd⟩ : ∃ x, ds2[jj]? = some x := ⟨_, List.getElem?_eq_getElem (by rw [HL3.out.led.l1]; omega)⟩
                      obtain ⟨pb, hp⟩ : ∃ x, ps2[jj]? = some x := ⟨_, List.getElem?_eq_getElem (by rw [HL3.out.led.l2]; omega)⟩
                      obtain ⟨gk, ek, xk⟩ := HL3.out.k.read hk
                      obtain ⟨gd, ed, xd⟩ := HL3.out.d.read hd
                      obtain ⟨gp, ep, xp⟩ := HL3.out.p.readB hp
                      subst ek ed ep
                      have HLOOK : Hid ((fnd z2.l k = none ∧ pb = false) ∨ ∃ i, fnd z2.l k = some i ∧ i.d = dd) := HL3.out.led.look hk hd hp
                      have hkk : k.size ≤ 140737488355328 := HL3.out.keys hk
                      clear hk hd hp hlen
                      go_wp2_with fail
                      refine (peek_any X z2 k hkk _ o2 HL3.out.st).mono ?_
                      rintro e w5 ⟨rfl, B5⟩
                      have HL5 : Hid (Lst w X z2 m ks ds2 ps2 (.slice (some ⟨gk, 0, none⟩) m kc) (.slice (some ⟨gd, 0, none⟩) m dc) (.slice (some ⟨gp, 0, none⟩) m pc) w5 o2) := HL3.out.below B5
                      have xd5 := cell_up B5 xd
                      have xp5 := cell_up B5 xp
                      rcases HLOOK.out with ⟨h1, h2⟩ | ⟨i9, h1, h2⟩
                      · rw [h1]
                        subst h2
                        rw [show tel none = ⟨#[]⟩ from rfl, show (none : Option It).isSome = false from rfl]
                        clear h1 B5 HL3 xd xp xk HLOOK
                        go_wp2_with fail
                        exact ⟨⟨jj + 1, by omega, by go_num, HL5⟩, by simp [intOf]; omega⟩
                      · rw [h1]
                        rw [show tel (some i9) = dd from h2, show (some i9 : Option It).isSome = true from rfl]
                        clear h1 h2 B5 HL3 xd xp xk HLOOK
                        go_wp2_with fail
                        exact ⟨⟨jj + 1, by omega, by go_num, HL5⟩, by simp [intOf]; omega⟩
                    · have k6 : decide ((jj : Int) < (m : Int)) = false := by simp; omega
                      go_wp2_with fail
                      exact ⟨⟨i + 1, m, ks, ds2, ps2, z2, o2, ka, da, pa, kc, dc, pc, rfl, rfl, rfl, by go_num, by omega, by omega, HL3⟩, by simp [intOf]; omega⟩
    · have hcond : ¬ ((i : Int) < (ln : Int)) ∨ ((i : Int) < (ln : Int) ∧ ¬ ((i : Int) < 60)) := by omega
      have HB : Hid (Below w.heap.size w wr) := HL.out.fr.low
      clear hlt HL
      rcases hcond with hc | ⟨hc1, hc2⟩
      · have k1 : decide ((i : Int) < (ln : Int)) = false := by simp; omega
        go_wp2_with fail
        refine (runs_any _).mono ?_
        rintro e w3 ⟨rfl, B3⟩
        have HB3 : Hid (Below w.heap.size w w3) := HB.out.trans (B3.mono HB.out.size)
        clear B3
        go_wp2_with fail
        go_ret
        exact ⟨rfl, HB3.out⟩
      · have k1 : decide ((i : Int) < 60) = false := by simp; omega
        go_wp2_with fail
        refine (runs_any _).mono ?_
        rintro e w3 ⟨rfl, B3⟩
        have HB3 : Hid (Below w.heap.size w w3) := HB.out.trans (B3.mono HB.out.size)
        clear B3
        go_wp2_with fail
        go_ret
        exact ⟨rfl, HB3.out⟩
end Go.Proofs.Ytbflcnghpkmcoaa
