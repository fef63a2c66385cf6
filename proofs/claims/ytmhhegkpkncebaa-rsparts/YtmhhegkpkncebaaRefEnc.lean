/-
  THE REFERENCE's Size and Encode; Same of strings.
-/
import Derived.Test.YtmhhegkpkncebaaShort
namespace Go.Proofs.Ytmhhegkpkncebaa
open Go.RowKit

theorem within_i (n lo : Int) (d : Nat) (H : Int) (hH : H = lo + (d : Int)) (hlo : -1000 ≤ lo ∧ lo ≤ 1000) (hd : d ≤ 4611686018427387) (w : World) :
    Calls Try.prog 15 #[.int .i64 n, .int .i64 lo, .int .i64 H] w fun e w' => (∃ r : Int, lo ≤ r ∧ r ≤ lo + (d : Int) ∧ e = .returned (.int .i64 r)) ∧ w = w' := by
  subst hH
  obtain ⟨q1, q2⟩ := tmod_bd n d
  obtain ⟨q, hq⟩ : ∃ q, n.tmod ((d : Int) + 1) = q := ⟨_, rfl⟩
  rw [hq] at q1 q2
  have hsub : (lo + (d : Int)) - lo = (d : Int) := by omega
  have hne : ((d : Int) + 1 == 0) = false := by simp; omega
  have hne2 : ¬ ((d : Int) + 1 = -1) := by omega
  by_cases q0 : q < 0
  · go_enter Try.func15, Try.ntmps15
    go_wp2
    go_ret
    exact ⟨⟨q + d + 1 + lo, by omega, by omega, ret_int (by omega)⟩, rfl⟩
  · go_enter Try.func15, Try.ntmps15
    go_wp2
    go_ret
    exact ⟨⟨q + lo, by omega, by omega, ret_int (by omega)⟩, rfl⟩
theorem rsize_any (k n : Nat) (hk1 : 1 ≤ k) (hk : k ≤ 8) (hn : n ≤ 4611686018427387904) (w : World) :
    Calls Try.prog 19 #[.int .i64 (k : Int), .int .i64 (n : Int)] w fun e w' => e = .returned (.int .i64 ((szk k n : Nat) : Int)) ∧ w = w' := by
  have h1 : decide ((k : Int) < 1) = false := by simp; omega
  have h2 : decide ((n : Int) < 0) = false := by simp
  have hne : ((k : Int) == 0) = false := by simp; omega
  have hne2 : ¬ ((k : Int) = -1) := by omega
  go_enter Try.func19, Try.ntmps19
  go_wp2
  go_ret
  refine ⟨ret_int ?_, rfl⟩
  unfold szk
  rw [show ((n : Int) + (k : Int) - 1) = ((n + k - 1 : Nat) : Int) by omega]
  simp
theorem rsize_neg (k : Nat) (n : Int) (hk1 : 1 ≤ k) (hn : n < 0) (w : World) :
    Calls Try.prog 19 #[.int .i64 (k : Int), .int .i64 n] w fun e w' => e = .returned (.int .i64 0) ∧ w = w' := by
  have h1 : decide ((k : Int) < 1) = false := by simp; omega
  go_enter Try.func19, Try.ntmps19
  go_wp2
  go_ret
  exact ⟨rfl, rfl⟩
theorem rcau_none (k m : Int) (h : k < 1 ∨ 8 < k ∨ m < 0 ∨ 12 - k < m) (w : World) :
    Calls Try.prog 13 #[.int .i64 k, .int .i64 m] w fun e w' => e = .returned (.slice none 0 0) ∧ w = w' := by
  by_cases h1 : k < 1
  · clear h
    go_enter Try.func13, Try.ntmps13
    go_wp2_with fail
    go_ret
    exact ⟨rfl, rfl⟩
  · have j1 : decide (k < (1 : Int)) = false := by simp; omega
    by_cases h2 : 8 < k
    · clear h
      go_enter Try.func13, Try.ntmps13
      go_wp2_with fail
      go_ret
      exact ⟨rfl, rfl⟩
    · have j2 : decide ((8 : Int) < k) = false := by simp; omega
      by_cases h3 : m < 0
      · clear h
        go_enter Try.func13, Try.ntmps13
        go_wp2_with fail
        go_ret
        exact ⟨rfl, rfl⟩
      · have j3 : decide (m < (0 : Int)) = false := by simp; omega
        have j4 : 12 - k < m := by omega
        clear h
        go_enter Try.func13, Try.ntmps13
        go_wp2_with fail
        go_ret
        exact ⟨rfl, rfl⟩

set_option maxHeartbeats 1000000 in
set_option maxRecDepth 100000 in
theorem sames_any (a a' : Option Addr) (n c c' : Nat) (R R' : Nat → ByteArray) (hn : n ≤ 4096) (hfg : ∀ i, i < n → R i = R' i) (w : World) (ra : StrF w a R n) (rb : StrF w a' R' n) :
    Calls Try.prog 20 #[.slice a n c, .slice a' n c'] w fun e w' => e = .returned (.bool true) ∧ Below w.heap.size w w' := by
  have ne : ((n : Int) != (n : Int)) = false := by simp
  have HF : Hid (∀ i, i < n → R i = R' i) := hfg
  have HA : Hid (StrF w a R n) := ra
  have HA' : Hid (StrF w a' R' n) := rb
  clear hfg ra rb
  go_enter Try.func20, Try.ntmps20
  go_wp2_with fail
  go_loopw [5] (fun i wr => ∃ j k : Nat, j ≤ n ∧ i = .int .i64 (j : Int) ∧ Hid (wr = w.drewN k)) (fun i _ => n - (intOf i).toNat)
  case atStart => exact ⟨0, 0, by omega, rfl, rfl⟩
  case round =>
    obtain ⟨j, k, hj, rfl, HW⟩ := hrel
    by_cases hlt : j < n
    · have hi1 : (j : Int) < (n : Int) := by omega
      obtain ⟨p, o, rfl, q1⟩ : ∃ p off, a = some ⟨p, off, none⟩ ∧ ∀ i, i < n → w.cell? ⟨p, off + i, none⟩ = some (.string (R i)) := by
        rcases HA.out with r | r
        · exfalso; omega
        · exact r
      obtain ⟨p', o', rfl, q2⟩ : ∃ p off, a' = some ⟨p, off, none⟩ ∧ ∀ i, i < n → w.cell? ⟨p, off + i, none⟩ = some (.string (R' i)) := by
        rcases HA'.out with r | r
        · exfalso; omega
        · exact r
      have c1 : wr.cell? ⟨p, o + j, none⟩ = some (.string (R j)) := (by rw [HW.out]; exact q1 j hlt)
      have c2 : wr.cell? ⟨p', o' + j, none⟩ = some (.string (R j)) := (by rw [HW.out, HF.out j hlt]; exact q2 j hlt)
      clear q1 q2
      go_wp2_with fail
      go_quiet (fail)
      go_wp2_with fail
      exact ⟨⟨j + 1, k + nq, by omega, by go_num, by show _ = _; rw [HW.out, World.drewN_drewN]⟩, by simp [intOf]; omega⟩
    · have i1 : decide ((j : Int) < (n : Int)) = false := by simp; omega
      go_wp2_with fail
      go_ret
      exact ⟨rfl, by rw [HW.out]; exact below_drewN (Below.refl _ _) k⟩
theorem wrap_eq64 (n : Int) : IntKind.i64.wrap n = wrap64 n := by rw [IntKind.wrap_i64]; unfold wrap64; rfl
theorem str_at' (s : ByteArray) (q : Nat) (X : Int) (hX : X = (q : Int)) (h : q < s.size) (w : World) : (Instr.index 9 (.string s) (.int .i64 X)).run Try.prog w = .ok (.int .u8 ((bt s q : Nat) : Int)) w := by
  subst hX; exact str_at s q h w
theorem info9' : (Try.prog.info? 9).map (fun i => (i.zero, i.size, i.bytes)) = some (some (.string ⟨#[]⟩), 1, 16) := by kernel_rfl
theorem under26 : Try.prog.underlying 26 = some (.slice 9) := by kernel_rfl
theorem own_strF {w : World} {B n : Nat} {v : Value} {R : Nat → ByteArray} (h : w.ownsRow B 9 1 v n ((List.range n).map (fun i => Value.string (R i)))) : (v = .slice none 0 0 ∧ n = 0) ∨ ∃ g cap, v = .slice (some ⟨g, 0, none⟩) n cap ∧ B ≤ g ∧ n ≤ cap ∧ StrF w (some ⟨g, 0, none⟩) R n := by
  rcases h.2 with h2 | ⟨g, cap, cur, hv, hg, hh, hc, _, hs, hx⟩
  · exact Or.inl h2
  · refine Or.inr ⟨g, cap, hv, hg, hc, Or.inr ⟨g, 0, rfl, fun i hi => ?_⟩⟩
    have h3 : (cur.toList.take (n * 1))[i]? = some (.string (R i)) := by rw [hx]; simp [hi]
    rw [List.getElem?_take_of_lt (by omega)] at h3
    rw [Nat.zero_add, cell_of_row w g i cur 9 (0, 0) hh]
    simpa using h3

set_option maxHeartbeats 4000000 in
set_option maxRecDepth 100000 in
theorem renc_any (k m : Nat) (v : ByteArray) (hk1 : 1 ≤ k) (hk : k ≤ 8) (hm : k + m ≤ 12) (hv : v.size ≤ 4096) (w : World) :
    Calls Try.prog 21 #[.int .i64 (k : Int), .int .i64 (m : Int), .string v] w fun e w' => ∃ g cap, e = .returned (.slice (some ⟨g, 0, none⟩) (k + m) cap) ∧ StrF w' (some ⟨g, 0, none⟩) (fragS k v) (k + m) ∧ Below w.heap.size w w' := by
  have hS0 := szk_le k v.size hk1
  obtain ⟨S, eS⟩ : ∃ S, S = szk k v.size := ⟨_, rfl⟩
  have ES : Hid (S = szk k v.size) := eS
  rw [← eS] at hS0
  have hS : S ≤ 4200 := by
    have : S ≤ k * S := Nat.le_mul_of_pos_left S (by omega)
    omega
  clear eS hS0
  go_enter Try.func21, Try.ntmps21
  go_wp2_with fail
  refine (rcau_own k m hk1 hk hm _).mono ?_
  rintro e w1 ⟨v1, xs, rfl, ho, hr, hb1⟩
  obtain ⟨g1, cap1, ev, hM, hc1⟩ := own_matF (by omega) ho hr
  subst ev
  have HM : Hid (MatF w1 (some ⟨g1, 0, none⟩) (Gf.cau k) (k + m) k) := hM
  have HB1 : Hid (Below w.heap.size w w1) := hb1
  clear ho hr hM hb1
  go_wp2_with fail
  refine (rsize_any k v.size hk1 hk (by omega) _).mono ?_
  rintro e w2 ⟨rfl, rfl⟩
  rw [← ES.out]
  go_wp2_with fail
  go_loopw [9, 10] (fun x i wr => ∃ t : Nat, t ≤ k + m ∧ i = .int .i64 (t : Int) ∧ wr.ownsRow w1.heap.size 9 1 x t ((List.range t).map (fun i => Value.string (fragS k v i))) ∧ Hid (Below w1.heap.size w1 wr)) (fun _ i _ => k + m - (intOf i).toNat)
  case atStart => exact ⟨0, by omega, rfl, World.ownsRow_nil _ _ _ _, Below.refl _ _⟩
  case round =>
    obtain ⟨t, ht, rfl, own, HB⟩ := hrel
    obtain ⟨W0, rfl⟩ : ∃ W0, W0 = wr := ⟨wr, rfl⟩
    by_cases hlt : t < k + m
    · have hi1 : (t : Int) < (k : Int) + (m : Int) := by omega
      have OWN : Hid (W0.ownsRow w1.heap.size 9 1 u9 t ((List.range t).map (fun i => Value.string (fragS k v i)))) := own
      clear own
      go_wp2_with fail
      obtain ⟨w3, cur, hrun, hg, hcs, hz, hb3⟩ := make_zeros W0 S (by omega)
      rw [hrun]
      clear hrun
      obtain ⟨G, eG⟩ : ∃ G, G = W0.heap.size := ⟨_, rfl⟩
      have O3 : Hid (OwnB w3 G (mixF (Gf.cau k t) (pieceS k v) 0) S) := ⟨cur, by rw [eG]; exact hg, hcs, hz⟩
      have HB3 : Hid (Below W0.heap.size W0 w3) := hb3
      have hGB : Hid (W0.heap.size ≤ G) := by show _ ≤ _; omega
      rw [← eG]
      clear hg hcs hz hb3 eG
      obtain ⟨p0, o0, e0, hrr⟩ : ∃ p off, (some ⟨g1, 0, none⟩ : Option Addr) = some ⟨p, off, none⟩ ∧ ∀ i, i < k + m → ∃ ra rc, W0.cell? ⟨p, off + i, none⟩ = some (.slice ra k rc) ∧ k ≤ rc ∧ RowF W0 ra (Gf.cau k i) k := by
        rcases HM.out.below HB.out with r | r
        · exfalso; omega
        · exact r
      injection e0 with e0; injection e0 with e1 e2 _
      subst e1 e2
      obtain ⟨ra, rc, dd, _, hrow⟩ := hrr t hlt
      rw [Nat.zero_add] at dd
      obtain ⟨p2, o2, rfl, hrow2⟩ : ∃ p off, ra = some ⟨p, off, none⟩ ∧ ∀ i, i < k → W0.cell? ⟨p, off + i, none⟩ = some (.int .u8 ((Gf.cau k t i : Nat) : Int)) := by
        rcases hrow with r | r
        · exfalso; omega
        · exact r
      have HDD : Hid (W0.cell? ⟨g1, t, none⟩ = some (.slice (some ⟨p2, o2, none⟩) k rc)) := dd
      have HRow : Hid (∀ i, i < k → W0.cell? ⟨p2, o2 + i, none⟩ = some (.int .u8 ((Gf.cau k t i : Nat) : Int))) := hrow2
      clear hrr dd hrow hrow2
      go_wp2_with fail
      go_loopw [12] (fun i w5 => ∃ j : Nat, j ≤ k ∧ i = .int .i64 (j : Int) ∧ Hid (OwnB w5 G (mixF (Gf.cau k t) (pieceS k v) j) S) ∧ Hid (Below W0.heap.size W0 w5)) (fun i _ => k - (intOf i).toNat)
      case atStart => exact ⟨0, by omega, rfl, O3, HB3⟩
      case round =>
        obtain ⟨j, hj, rfl, HO, HB5⟩ := hrel
        clear O3 HB3
        by_cases hjk : j < k
        · have hi2 : (j : Int) < (k : Int) := by omega
          obtain ⟨P, eP⟩ : ∃ P, P = j * S := ⟨_, rfl⟩
          have hP : P + S ≤ 33600 := by
            have : (j + 1) * S ≤ 8 * S := Nat.mul_le_mul_right S (by omega)
            rw [Nat.succ_mul, ← eP] at this; omega
          have EP : Hid (P = j * S) := eP
          have M1 : Hid (wrap64 ((j : Int) * (S : Int)) = (P : Int)) := by
            show wrap64 _ = _
            rw [show (j : Int) * (S : Int) = (P : Int) by rw [eP]; simp]
            clear eP
            unfold wrap64; omega
          have O6 : Hid (OwnB wr G (fun x => mixF (Gf.cau k t) (pieceS k v) j x ^^^ if x < 0 then Gf.mul (Gf.cau k t j) (bt v (P + x)) else 0) S) := HO.out.congr (fun x _ => by rw [if_neg (by omega), Nat.xor_zero])
          clear HO eP
          go_wp2_with fail
          go_loopw [13] (fun i w5 => ∃ q : Nat, q ≤ S ∧ i = .int .i64 (q : Int) ∧ Hid (OwnB w5 G (fun x => mixF (Gf.cau k t) (pieceS k v) j x ^^^ if x < q then Gf.mul (Gf.cau k t j) (bt v (P + x)) else 0) S) ∧ Hid (Below W0.heap.size W0 w5)) (fun i _ => S - (intOf i).toNat)
          case atStart => exact ⟨0, by omega, rfl, O6, HB5⟩
          case round =>
            obtain ⟨q, hq, rfl, HO, HB6⟩ := hrel
            clear O6 HB5
            by_cases hqS : q < S
            · have hi3 : (q : Int) < (S : Int) := by omega
              have HQ : Hid (wrap64 (wrap64 ((j : Int) * (S : Int)) + (q : Int)) = ((P + q : Nat) : Int)) := by
                show wrap64 _ = _
                rw [M1.out]
                unfold wrap64; omega
              have hPq : P + q < 33600 := by omega
              go_wp2_with fail
              · rename_i hh
                have hin : P + q < v.size := by rw [HQ.out] at hh; omega
                have c4 := str_at' v (P + q) ((P : Int) + (q : Int)) (by clear hh; omega) hin
                have mW1 : IntKind.i64.wrap ((j : Int) * (S : Int)) = (P : Int) := (wrap_eq64 _).trans M1.out
                have mW2 : IntKind.i64.wrap ((P : Int) + (q : Int)) = (P : Int) + (q : Int) := by rw [IntKind.wrap_i64]; clear hh mW1; omega
                clear hh
                have hb8 := bt_lt v (P + q)
                have hc8 := Gf.cau_lt k t j
                have hxor := xor_u8 (mixF (Gf.cau k t) (pieceS k v) j q) (Gf.mul (Gf.cau k t j) (bt v (P + q))) (mixF_lt _ _ _ _) (Gf.mul_lt _ _)
                refine wp_region_still_tail 23 (by kernel_rfl) (by kernel_rfl) ?_
                simp only [List.take_succ_cons, List.take_zero, List.drop_succ_cons, List.drop_zero]
                obtain ⟨Y, eY, yO, yB⟩ : ∃ Y, Y = ({ wr with drawn := wr.drawn + 1 } : World) ∧ OwnB Y G (fun x => mixF (Gf.cau k t) (pieceS k v) j x ^^^ if x < q then Gf.mul (Gf.cau k t j) (bt v (P + x)) else 0) S ∧ Below W0.heap.size W0 Y :=
                  ⟨_, rfl, HO.out.alike ⟨rfl, rfl, rfl, rfl⟩, below_drewN HB6.out 1⟩
                rw [← eY]
                have c1 : Y.cell? ⟨G, q, none⟩ = some (.int .u8 ((mixF (Gf.cau k t) (pieceS k v) j q : Nat) : Int)) := by
                  rw [yO.cell hqS, if_neg (by omega), Nat.xor_zero]
                have c2 := cell_later yB HDD.out
                have c3 := cell_later yB (HRow.out j hjk)
                have fz := yO.fz q
                have O7 : Hid (OwnB (Y.setCell ⟨G, q, none⟩ (.int .u8 ((mixF (Gf.cau k t) (pieceS k v) j q ^^^ Gf.mul (Gf.cau k t j) (bt v (P + q)) : Nat) : Int))) G (fun x => mixF (Gf.cau k t) (pieceS k v) j x ^^^ if x < q + 1 then Gf.mul (Gf.cau k t j) (bt v (P + x)) else 0) S) :=
                  (yO.set (v := mixF (Gf.cau k t) (pieceS k v) j q ^^^ Gf.mul (Gf.cau k t j) (bt v (P + q))) hqS).congr (fun x _ => by
                    by_cases e : x = q
                    · simp only [if_pos e]; rw [e, if_pos (by omega)]
                    · simp only [if_neg e]
                      by_cases e2 : x < q
                      · rw [if_pos e2, if_pos (by omega)]
                      · rw [if_neg e2, if_neg (by omega)])
                have B7 : Hid (Below W0.heap.size W0 (Y.setCell ⟨G, q, none⟩ (.int .u8 ((mixF (Gf.cau k t) (pieceS k v) j q ^^^ Gf.mul (Gf.cau k t j) (bt v (P + q)) : Nat) : Int)))) := yB.setCell hGB.out _
                clear HO HB6 yO yB eY
                repeat still_step
                still_call (rmul_any (Gf.cau k t j) (bt v (P + q)) hc8 hb8 _)
                repeat still_step
                refine wpStill_nil ?_
                go_wp2_with fail
                exact ⟨⟨q + 1, by omega, by go_num, O7, B7⟩, by simp [intOf]; omega⟩
              · rename_i hh
                have hin : v.size ≤ P + q := by rw [HQ.out] at hh; omega
                have O7 : Hid (OwnB wr G (fun x => mixF (Gf.cau k t) (pieceS k v) j x ^^^ if x < q + 1 then Gf.mul (Gf.cau k t j) (bt v (P + x)) else 0) S) := HO.out.congr (fun x _ => by
                  by_cases e : x = q
                  · rw [e, if_neg (by omega), if_pos (by omega), bt_out hin, Gf.mul_zero]
                  · by_cases e2 : x < q
                    · rw [if_pos e2, if_pos (by omega)]
                    · rw [if_neg e2, if_neg (by omega)])
                clear hh
                exact ⟨⟨q + 1, by omega, by go_num, O7, HB6⟩, by simp [intOf]; omega⟩
            · have hqn : q = S := by omega
              subst hqn
              have i1 : decide ((q : Int) < (q : Int)) = false := by simp
              have O5 : Hid (OwnB wr G (mixF (Gf.cau k t) (pieceS k v) (j + 1)) q) := HO.out.congr (fun x hx => by
                rw [if_pos hx, mixF_succ, bt_piece (by rw [← ES.out]; exact hx), ← ES.out, ← EP.out])
              clear HO
              go_wp2_with fail
              exact ⟨⟨j + 1, by omega, by go_num, O5, HB6⟩, by simp [intOf]; omega⟩
        · have hjn : j = k := by omega
          subst hjn
          have i1 : decide ((j : Int) < (j : Int)) = false := by simp
          have hconv := conv_str wr (some ⟨G, 0, none⟩) S S _ HO.out.rowF
          have e1 : mkS (mixF (Gf.cau j t) (pieceS j v) j) S = fragS j v t := by rw [ES.out]; rfl
          rw [e1] at hconv
          have own5 := own_up OWN.out HB5.out
          have HB7 : Hid (Below w1.heap.size w1 wr) := HB.out.trans (HB5.out.mono HB.out.size)
          have hsz : w1.heap.size ≤ wr.heap.size := HB7.out.size
          obtain ⟨i0, hi, hz0, hz1, hz2⟩ := info_parts info9'
          clear e1 HO HB5 HB OWN
          go_wp2_with (at_builtin; refine wpList_append_own _ rfl _ _ 26 rfl w1.heap.size 9 i0 (.string ⟨#[]⟩) 1 16 under26 hi hz0 hz1 hz2 rfl (by decide) _ _ _ rfl (own5.alloc _) ⟨wr.heap.size, 0, none⟩ 1 1 [.string (fragS j v t)] rfl rfl ?c1 ?c2 ?c3 ?c4 ?c5 ?_)
          case c1 =>
            intro s u hs
            match s, hs with
            | 0, hs => simp at hs; subst hs; simp [Addr.add]
          case c2 => intro u hu; simp at hu; subst hu; rfl
          case c3 => unfold maxLen; omega
          case c4 => omega
          case c5 => simp; omega
          intro v' w8 hown' hgrow _
          have O8 : w8.ownsRow w1.heap.size 9 1 v' (t + 1) ((List.range (t + 1)).map (fun i => Value.string (fragS j v i))) := by
            rw [List.range_succ, List.map_append]; exact hown'
          have B8 : Hid (Below w1.heap.size w1 w8) := (HB7.out.alloc hsz _).grown hgrow (by rw [World.size_alloc]; omega) (fun k e => (own5.lt k e).1)
          clear hown' hgrow own5 hconv
          go_wp2_with fail
          exact ⟨⟨t + 1, by omega, by go_num, O8, B8⟩, by simp [intOf]; omega⟩
    · have htk : t = k + m := by omega
      have i1 : decide ((t : Int) < (k : Int) + (m : Int)) = false := by simp; omega
      rcases own_strF own with ⟨_, h0⟩ | ⟨g, cap, rfl, _, hcap, hstr⟩
      · exfalso; omega
      have HStr : Hid (StrF W0 (some ⟨g, 0, none⟩) (fragS k v) (k + m)) := by rw [← htk]; exact hstr
      have HBf : Hid (Below w.heap.size w W0) := HB1.out.trans (HB.out.mono HB1.out.size)
      have HT : Hid (t = k + m) := htk
      clear own hstr htk
      go_wp2_with fail
      go_ret
      exact ⟨g, cap, by rw [← HT.out]; rfl, HStr.out, HBf.out⟩
end Go.Proofs.Ytmhhegkpkncebaa
