/-
  PARSELARGE walked: a value that is too large is gone past, whatever its bytes, in whatever pieces.
-/
import Derived.Test.YtedbklipbfbmoaaDoorPNm
namespace Go.Proofs.YtedbklipbfbmoaaDoor
open Go.RowKit

theorem bc_set (l : B) (j : Nat) (c : UInt8) : (bc l).set j (.int .u8 ((c.toNat : Nat) : Int)) = bc (l.set j c) := by simp [bc, List.map_set]
/-- make([]byte, n): a list of the call's own. -/
theorem make_own (w : World) (o : Nat → Nat × Nat) (t : Nat × Nat) (n : Nat) (hn : n ≤ 1000000) : ∃ w', (Instr.makeSlice 26 (.int .i64 (n : Int)) (.int .i64 (n : Int))).run Tryd.prog w = .ok (.slice (some ⟨w.heap.size, 0, none⟩) n n) w' ∧
    OwnK w' (lab o w.heap.size t) t 1 (.slice (some ⟨w.heap.size, 0, none⟩) n n) n (bc (List.replicate n 0)) ∧ Fr (fun _ => False) o (lab o w.heap.size t) w w' := by
  obtain ⟨i0, hi, hz0, hz1, hz2⟩ := info_parts info5
  have hr := run_make (P := Tryd.prog) w 26 5 i0 (.int .u8 0) under26 hi hz0 .i64 .i64 (n : Int) (n : Int) (by omega) (by omega) (by rw [hz2]; omega) (by omega)
  simp only [Int.toNat_natCast] at hr
  rw [hz1, Nat.mul_one] at hr
  refine ⟨_, hr, ?_, Fr.new _ _ _ _ _⟩
  have hc : ∀ j, j < n → (w.alloc (.cells (madeCells (Value.int .u8 0).cells n) 5)).cell? ⟨w.heap.size, j, none⟩ = some (.int .u8 0) := fun j hj => by
    rw [World.cell?_alloc_new]
    simp [madeCells, hj, Value.cells, Nat.mod_one]
  refine ⟨by simp [bc], fun u hu => ?_, .inr ⟨_, _, rfl, lab_same _ _ _, by simp, Nat.le_refl _, by unfold maxLen; omega, fun j u hu => ?_, fun j hj => ?_⟩⟩
  · simp only [bc, List.map_replicate] at hu
    rw [List.eq_of_mem_replicate hu]
    rfl
  · simp only [bc, List.map_replicate, List.getElem?_replicate] at hu
    split at hu
    · rename_i hj
      cases hu
      exact hc j hj
    · cases hu
  · rw [Nat.mul_one] at hj
    exact ⟨by rw [hc j hj]; rfl, World.frozen?_alloc_new _ _ _ _⟩
/-- The parser and the bytes. -/
structure Lb (w : World) (P : Nat) (wr : World) (p : Ps) (G n : Nat) (l : B) (o : Nat → Nat × Nat) : Prop where
  lp : Lp w P wr p o
  ow : OwnK wr o (7, 3) 1 (.slice (some ⟨G, 0, none⟩) n n) n (bc l)
  ln : l.length = n
theorem Lb.at_ {w : World} {P : Nat} {wr : World} {p : Ps} {G n : Nat} {l : B} {o : Nat → Nat × Nat} (h : Lb w P wr p G n l o) {j : Nat} (hj : j < n) : (∃ u, wr.cell? ⟨G, j, none⟩ = some u) ∧ wr.frozen? ⟨G, j, none⟩ = false ∧ o G = (7, 3) := by
  obtain ⟨g, cap, e, h2, _, h4, _, _, h7⟩ := h.ow.there (by omega)
  injection e with e1 e2 e3
  injection e1 with e1
  injection e1 with e1
  subst e1
  obtain ⟨u, hu⟩ := Option.isSome_iff_exists.1 (h7 j (by omega)).1
  exact ⟨⟨u, hu⟩, (h7 j (by omega)).2, h2⟩
theorem Lb.set {w : World} {P : Nat} {wr : World} {p : Ps} {G n : Nat} {l : B} {o : Nat → Nat × Nat} (h : Lb w P wr p G n l o) {j : Nat} (hj : j < n) (c : UInt8) : Lb w P (wr.setCell ⟨G, j, none⟩ (.int .u8 ((c.toNat : Nat) : Int))) p G n (l.set j c) o := by
  have f : Fr (· = (7, 3)) o o wr (wr.setCell ⟨G, j, none⟩ (.int .u8 ((c.toNat : Nat) : Int))) := Fr.set (a := ⟨G, j, none⟩) (h.at_ hj).2.2 _
  refine ⟨h.lp.frm f (by decide) (by decide) (by decide), ?_, by rw [List.length_set]; exact h.ln⟩
  rw [← bc_set]
  exact h.ow.set j _ rfl (by omega)
theorem Lb.conv {w : World} {P : Nat} {wr : World} {p : Ps} {G n : Nat} {l : B} {o : Nat → Nat × Nat} (h : Lb w P wr p G n l o) {k : Nat} (hk : k ≤ n) : (convert 26 9 (.slice (some ⟨G, 0, none⟩) k n)).run Tryd.prog wr = .ok (.string (S (l.take k))) wr := by
  have := h.ow.cut k hk
  rw [Nat.mul_one, bc_take] at this
  exact conv_own (l := l.take k) (by rw [List.length_take, h.ln, Nat.min_eq_left hk]; exact this)
def pq (k : Nat) : Ps := if k = 0 then pz 0 else pp k
theorem pq_left (k : Nat) : (pq k).left = [] := by unfold pq; split <;> rfl
set_option maxRecDepth 100000 in
set_option maxHeartbeats 4000000 in
theorem large_walk (over piece : Int) (quiet : Bool) (fc : UInt8) (w : World) (ht : HasTab w) (htab : Lib.TabIs Tryd.prog w "internal/strconv.uint64pow10" .u64 Lib.pow10Tab) :
    Calls Tryd.prog 7 #[.int .i64 over, .int .i64 piece, .bool quiet, .int .u8 ((fc.toNat : Nat) : Int)] w fun e w' => e = .returned (.bool true) ∧ Below w.heap.size w w' := by
  obtain ⟨W1, hW1⟩ : ∃ W, W = w.alloc (.cells ((pz 0).cs (.slice none 0 0) (.slice none 0 0)).toArray 60) := ⟨_, rfl⟩
  obtain ⟨o1, HL1⟩ := Lp.new w ht hW1
  have HL1 := Lib.hid HL1
  have HW1 := Lib.hid hW1
  have HTB := Lib.hid htab
  obtain ⟨F, hF⟩ : ∃ F : Int, ((fc.toNat : Nat) : Int) = F := ⟨_, rfl⟩
  rw [hF]
  have HF := Lib.hid hF
  clear hW1 ht htab hF
  go_enter Tryd.func7, Tryd.ntmps7
  go_wp2_with fail
  refine (new_any w).mono ?_
  rintro e w1 ⟨rfl, hw1⟩
  have : w1 = W1 := by rw [hw1, HW1.out]
  clear hw1
  subst this
  obtain ⟨P, hP⟩ : ∃ P, P = w.heap.size := ⟨_, rfl⟩
  rw [← hP] at HL1
  rw [← hP]
  clear HW1 hP
  have ep := eqp P
  go_wp2_with fail
  clear ep
  refine (within_any over 1 3000 (by omega) (by omega) (by omega) w1).mono ?_
  rintro e w2 ⟨rfl, rfl⟩
  obtain ⟨b1, b2⟩ := wi_bd over 1 3000 (by omega)
  obtain ⟨y, hy⟩ : ∃ y : Nat, wi over 1 3000 = (y : Int) := ⟨(wi over 1 3000).toNat, by omega⟩
  rw [hy] at b1 b2 ⊢
  obtain ⟨NN, hN⟩ : ∃ NN : Nat, (1048576 : Int) + (y : Int) = (NN : Int) := ⟨1048576 + y, by omega⟩
  have n1 : 1048576 < NN := by omega
  have n2 : NN ≤ 1051576 := by omega
  clear hy
  go_wp2_with fail
  clear b1 b2 hN
  refine (itoa_any NN (by omega) w1 (tabIs_below HTB.out HL1.out.below)).mono ?_
  rintro e w3 ⟨rfl, b3⟩
  have HL3 := Lib.hid (HL1.out.up b3)
  obtain ⟨dg, hdg⟩ : ∃ dg, S (Lib.decDigits NN) = dg := ⟨_, rfl⟩
  have z0 : dg.size ≤ 20 := by rw [← hdg, S_size]; exact (dec_len (by omega)).2
  rw [hdg]
  obtain ⟨s1, e1⟩ : ∃ s', (⟨#[115, 101, 116, 32, 107, 32, 48, 32, 48, 32]⟩ : ByteArray) ++ dg = s' := ⟨_, rfl⟩
  have z1 : s1.size ≤ 30 := by rw [← e1, ByteArray.size_append]; show 10 + _ ≤ _; omega
  obtain ⟨ia, inn, ic, ika, ikn, ikc, ip⟩ := HL3.out.ip
  have HIP := Lib.hid ip
  clear b3 HL1 HTB ip
  cases quiet
  case' false =>
    obtain ⟨str, e3⟩ : ∃ s', s1 ++ (⟨#[13, 10]⟩ : ByteArray) = s' := ⟨_, rfl⟩
    have HST : Hid (L str = bigL false NN ++ [13, 10]) := Lib.hid (by rw [← e3, ← e1, ← hdg, L_append, L_append, L_S]; unfold bigL setW; simp; rfl)
    have hsz : str.size ≤ 1000000000 := by rw [← e3, ByteArray.size_append]; show _ + 2 ≤ _; omega
    have HFD := Lib.hid (feed_any (by decide) (7, 1) rfl (okp_pz 0 (.inl rfl)) str hsz w3 HIP.out HL3.out.tb)
    clear hsz
    go_wp2_with fail
    refine HFD.out.mono ?_
    rintro e w5 ⟨v5, rfl, F5⟩
    obtain ⟨o5, ga, gc, rfl, E5, L5, G5⟩ := HL3.out.fed (p' := pp (NN + 2)) (l := [ans 14 tooLarge]) F5 (by rw [HST.out]; exact feed_big false (by omega) n1)
    obtain ⟨g5, Y0, h50, ⟨_, _, _, hY0, _⟩, l0⟩ := E5.cell (i := 0) rfl
    subst h50
    have q4 : w5.cell? ⟨g5, 9, none⟩ = some (.int .i64 14) := l0 9 _ (by rw [hY0]; rfl)
    have HL5 := Lib.hid L5
    rw [show ([ans 14 tooLarge] : List Ev).length = 1 from rfl]
    clear E5 L5 G5 F5 HFD l0 hY0 e1 e3 z0 z1 hdg HIP HL3
    go_wp2_with fail
    clear q4
  case' true =>
    obtain ⟨s2, e2⟩ : ∃ s', s1 ++ (⟨#[32, 110, 111, 114, 101, 112, 108, 121]⟩ : ByteArray) = s' := ⟨_, rfl⟩
    have z2 : s2.size ≤ 38 := by rw [← e2, ByteArray.size_append]; show _ + 8 ≤ _; omega
    obtain ⟨str, e3⟩ : ∃ s', s2 ++ (⟨#[13, 10]⟩ : ByteArray) = s' := ⟨_, rfl⟩
    have HST : Hid (L str = bigL true NN ++ [13, 10]) := Lib.hid (by rw [← e3, ← e2, ← e1, ← hdg, L_append, L_append, L_append, L_S]; unfold bigL setW noreply; simp; rfl)
    have hsz : str.size ≤ 1000000000 := by rw [← e3, ByteArray.size_append]; show _ + 2 ≤ _; omega
    have HFD := Lib.hid (feed_any (by decide) (7, 1) rfl (okp_pz 0 (.inl rfl)) str hsz w3 HIP.out HL3.out.tb)
    clear hsz
    go_wp2_with fail
    refine HFD.out.mono ?_
    rintro e w5 ⟨v5, rfl, F5⟩
    obtain ⟨o5, ga, gc, rfl, E5, L5, G5⟩ := HL3.out.fed (p' := pp (NN + 2)) (l := []) F5 (by rw [HST.out]; exact feed_big true (by omega) n1)
    have HL5 := Lib.hid L5
    rw [show ([] : List Ev).length = 0 from rfl]
    clear E5 L5 G5 F5 HFD e1 e2 e3 z0 z1 z2 hdg HIP HL3
    go_wp2_with fail
  all_goals
    refine (within_any piece 1 9 (by omega) (by omega) (by omega) w5).mono ?_
    rintro e w6 ⟨rfl, rfl⟩
    obtain ⟨b1, b2⟩ := wi_bd piece 1 9 (by omega)
    obtain ⟨y2, hy⟩ : ∃ y : Nat, wi piece 1 9 = (y : Int) := ⟨(wi piece 1 9).toNat, by omega⟩
    rw [hy] at b1 b2 ⊢
    obtain ⟨BL, hB⟩ : ∃ BL : Nat, (y2 : Int) * 60000 = (BL : Int) := ⟨y2 * 60000, by omega⟩
    have m1 : 1 ≤ BL := by omega
    have m2 : BL ≤ 540000 := by omega
    clear hy
    obtain ⟨w6, hmk, OW, FW⟩ := make_own w5 o5 (7, 3) BL (by omega)
    obtain ⟨G, hG⟩ : ∃ G, G = w5.heap.size := ⟨_, rfl⟩
    rw [← hG] at hmk OW FW
    obtain ⟨o6, ho6⟩ : ∃ o6, o6 = lab o5 G (7, 3) := ⟨_, rfl⟩
    rw [← ho6] at OW FW
    have HLB : Hid (Lb w P w6 (pq (NN + 2)) G BL (List.replicate BL 0) o6) := Lib.hid ⟨by rw [show pq (NN + 2) = pp (NN + 2) from if_neg (by omega)]; exact HL5.out.frm FW id id id, OW, List.length_replicate⟩
    clear OW FW hG ho6 HL5
    go_wp2_with fail
    clear hmk hB b1 b2
    go_loopw [14] (fun jv wr => ∃ (j : Nat) (l : B), jv = .int .i64 (j : Int) ∧ j ≤ BL ∧ Hid (Lb w P wr (pq (NN + 2)) G BL l o6)) (fun jv _ => BL - (intOf jv).toNat)
    case atStart => exact ⟨0, _, rfl, by omega, HLB⟩
    case round =>
      obtain ⟨j, l, rfl, hj, HB⟩ := hrel
      clear HLB
      by_cases hlt : j < BL
      · have hi1 : (j : Int) < (BL : Int) := by omega
        obtain ⟨⟨u, s1⟩, s2, _⟩ := HB.out.at_ hlt
        have s4 : decide ((j : Int) < 0) = false := by simp
        have s5 : decide ((BL : Int) ≤ (j : Int)) = false := by simp; omega
        go_wp2_with fail
        exact ⟨⟨j + 1, l.set j fc, by go_num, by omega, Lib.hid (by rw [← HF.out]; exact HB.out.set hlt fc)⟩, by simp [intOf]; omega⟩
      · obtain rfl : j = BL := by omega
        have hi1 : decide ((j : Int) < (j : Int)) = false := by simp
        obtain ⟨LF, hLF⟩ : ∃ LF : Nat, (NN : Int) + 2 = (LF : Int) := ⟨NN + 2, by omega⟩
        have hLF2 : LF = NN + 2 := by omega
        rw [← hLF2] at HB
        have lf1 : LF ≤ 1051578 := by omega
        clear hLF2
        go_wp2_with fail
        clear hLF
        go_loopw [15] (fun lv wr => ∃ (lf : Nat) (o : Nat → Nat × Nat), lv = .int .i64 (lf : Int) ∧ lf ≤ 1051578 ∧ Hid (Lb w P wr (pq lf) G j l o)) (fun lv _ => (intOf lv).toNat)
        case atStart => exact ⟨LF, o6, rfl, lf1, HB⟩
        case round =>
          obtain ⟨lf, o, rfl, hlf, HQ⟩ := hrel
          clear HB
          obtain ⟨ia, inn, ic, ika, ikn, ikc, ip⟩ := HQ.out.lp.ip
          by_cases hpos : 0 < lf
          · have hi2 : (0 : Int) < (lf : Int) := by omega
            obtain ⟨kk, hkk⟩ : ∃ kk : Nat, kk = min lf j := ⟨_, rfl⟩
            have k1 : kk ≤ j := by omega
            have k2 : kk ≤ lf := by omega
            have k3 : 1 ≤ kk := by omega
            have hmn : min (lf : Int) (j : Int) = (kk : Int) := by omega
            clear hkk
            have sl := left_hi G j j kk k1
            have cv := HQ.out.conv k1
            obtain ⟨str, hstr⟩ : ∃ str, str = S (l.take kk) := ⟨_, rfl⟩
            rw [← hstr] at cv
            have hll : (L str).length = kk := by rw [hstr, L_S, List.length_take, HQ.out.ln]; omega
            have HFE : Hid (feed (pq lf) (L str) = (pq (lf - kk), [])) := Lib.hid (by
              rw [show pq lf = pp lf from if_neg (by omega), feed_past (by omega) (by rw [hll]; exact k2), hll]; rfl)
            have HFD := Lib.hid (feed_any (by decide) (7, 1) rfl (show Okp (pq lf) by rw [show pq lf = pp lf from if_neg (by omega)]; exact okp_pp (by omega) (by omega)) str (by rw [← L_len, hll]; omega) wr ip HQ.out.lp.tb)
            clear ip hstr hll
            go_wp2_with fail
            refine HFD.out.mono ?_
            rintro e w7 ⟨v7, rfl, F7⟩
            obtain ⟨o7, ha, hc, rfl, E7, L7, G7⟩ := HQ.out.lp.fed (p' := pq (lf - kk)) (l := []) F7 HFE.out
            have HQ7 : Hid (Lb w P w7 (pq (lf - kk)) G j l o7) := Lib.hid ⟨L7, HQ.out.ow.fr G7 (tf_no (by decide) (by decide)), HQ.out.ln⟩
            obtain ⟨ja, jn, jc, jka, jkn, jkc, ip7⟩ := L7.ip
            have hjn : jn = 0 := by rw [ip7.len, pq_left]; rfl
            subst hjn
            have HI7 := Lib.hid ip7
            rw [show ([] : List Ev).length = 0 from rfl]
            clear E7 L7 G7 F7 HFD ip7 HQ HFE sl cv
            go_wp2_with fail
            refine (left_any w7 HI7.out).mono ?_
            rintro e w8 ⟨rfl, rfl⟩
            rw [show ((0 : Nat) : Int) = 0 from rfl]
            go_wp2_with fail
            exact ⟨⟨lf - kk, o7, by go_num, by omega, HQ7⟩, by simp [intOf]; omega⟩
          · have hz : lf = 0 := by omega
            subst hz
            have hi2 : decide ((0 : Int) < (((0 : Nat)) : Int)) = false := by simp
            have HFD := Lib.hid (feed_any (p := pz 0) (by decide) (7, 1) rfl (okp_pz 0 (.inl rfl)) ⟨#[103, 101, 116, 32, 97, 13, 10]⟩ (by decide) wr ip HQ.out.lp.tb)
            have HLP : Hid (Lp w P wr (pz 0) o) := Lib.hid HQ.out.lp
            clear ip HQ
            go_wp2_with fail
            refine HFD.out.mono ?_
            rintro e w7 ⟨v7, rfl, F7⟩
            obtain ⟨o7, ha, hc, rfl, E7, L7, G7⟩ := HLP.out.fed (p' := pz 0) (l := [req ⟨1, [[97]], 0, 0, 0, 0, 0, false⟩ []]) F7 get_is
            obtain ⟨g5, Y0, h50, ⟨_, _, _, hY0, _⟩, l0⟩ := E7.cell (i := 0) rfl
            subst h50
            have q4 : w7.cell? ⟨g5, 0, none⟩ = some (.int .i64 1) := l0 0 _ (by rw [hY0]; rfl)
            have HT7 : Hid (HasTab w7) := Lib.hid L7.tb.1
            have HB7 : Hid (Below w.heap.size w w7) := Lib.hid L7.below
            rw [show ([req ⟨1, [[97]], 0, 0, 0, 0, 0, false⟩ []] : List Ev).length = 1 from rfl]
            clear E7 L7 G7 F7 l0 hY0 HFD HLP
            go_wp2_with fail
            refine (runs_any w7 HT7.out).mono ?_
            rintro e w8 ⟨rfl, b8⟩
            have HB8 : Hid (Below w.heap.size w w8) := Lib.hid (HB7.out.trans (b8.mono HB7.out.size))
            clear b8
            go_wp2_with fail
            go_ret
            exact ⟨rfl, HB8.out⟩
end Go.Proofs.YtedbklipbfbmoaaDoor
