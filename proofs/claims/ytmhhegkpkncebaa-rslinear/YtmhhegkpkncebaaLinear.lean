/-
  THE CODE IS LINEAR; the first k fragments are the value: the law's walk.
-/
import Derived.Test.YtmhhegkpkncebaaShort
namespace Go.Proofs.Ytmhhegkpkncebaa
open Go.RowKit

theorem mv_xor {k : Nat} {M : Nat → Nat → Nat} {p q : Nat → Nat} (hM : Gf.B8 M) (hp : ∀ i, p i < 256) (hq : ∀ i, q i < 256) (i : Nat) : Gf.mv k M (fun j => p j ^^^ q j) i = Gf.mv k M p i ^^^ Gf.mv k M q i := by
  show Gf.xs (fun l => Gf.mul (M i l) (p l ^^^ q l)) k = _
  rw [Gf.xs_congr (g := fun l => Gf.mul (M i l) (p l) ^^^ Gf.mul (M i l) (q l)) (fun l _ => Gf.mul_xor (hM i l) (hp l) (hq l)), Gf.xs_xor]
  rfl
theorem frag_xor {k n : Nat} {X Y Z : ByteArray} (hX : X.size = n) (hY : Y.size = n) (hZ : Z.size = n) (h : ∀ i, bt Z i = bt X i ^^^ bt Y i) {i x : Nat} (hx : x < szk k n) : bt (fragS k X i) x ^^^ bt (fragS k Y i) x = bt (fragS k Z i) x := by
  rw [bt_frag (v := X) (by rw [hX]; exact hx), bt_frag (v := Y) (by rw [hY]; exact hx), bt_frag (v := Z) (by rw [hZ]; exact hx), hX, hY, hZ]
  rw [← mv_xor (fun i j => Gf.cau_lt _ _ _) (fun i => bt_lt _ _) (fun i => bt_lt _ _)]
  exact Gf.xs_congr (fun j _ => by show Gf.mul (Gf.cau k i j) (bt X (j * szk k n + x) ^^^ bt Y (j * szk k n + x)) = Gf.mul (Gf.cau k i j) (bt Z (j * szk k n + x)); rw [h])
theorem frag_piece {k : Nat} {v : ByteArray} {i : Nat} (hi : i < k) : fragS k v i = pieceS k v i := by
  refine str_ext (by rw [fragS_size, pieceS_size]) (fun x hx => ?_)
  rw [fragS_size] at hx
  rw [bt_frag hx, bt_piece hx, mv_id (M := Gf.cau k) (fun i hi j _ => by unfold Gf.cau; rw [if_pos hi]) (fun i => bt_lt _ _) hi]
/-- The first j rows, one behind the other. -/
def catS (v : ByteArray) (S j : Nat) : ByteArray := mkS (bt v) (j * S)
theorem catS_size (v : ByteArray) (S j : Nat) : (catS v S j).size = j * S := mkS_size _ _
theorem catS_succ {k n S : Nat} {v : ByteArray} (hv : v.size = n) (hS : S = szk k n) (j : Nat) : catS v S j ++ pieceS k v j = catS v S (j + 1) := by
  subst hv hS
  refine str_ext ?_ (fun x hx => ?_)
  · rw [ByteArray.size_append, catS_size, catS_size, pieceS_size, Nat.succ_mul]
  · rw [ByteArray.size_append, catS_size, pieceS_size] at hx
    rw [bt_append, catS_size]
    have h2 : bt (catS v (szk k v.size) (j + 1)) x = bt v x := bt_mkS (bt_lt _ _) (by rw [Nat.succ_mul]; exact hx)
    rw [h2]
    by_cases h : x < j * szk k v.size
    · rw [if_pos h]; exact bt_mkS (bt_lt _ _) h
    · rw [if_neg h, bt_piece (by omega), show j * szk k v.size + (x - j * szk k v.size) = x by omega]
theorem catS_head {v : ByteArray} {S j n : Nat} (hv : v.size = n) (h : n ≤ j * S) : (catS v S j).extract 0 n = v := by
  have := str_cut (catS v S j) 0 n (by rw [catS_size]; omega)
  rw [Nat.zero_add] at this
  rw [this]
  refine str_ext (by rw [mkS_size, hv]) (fun x hx => ?_)
  rw [mkS_size] at hx
  rw [bt_mkS (f := fun x => bt (catS v S j) (0 + x)) (bt_lt _ _) hx]
  show bt (catS v S j) (0 + x) = _
  rw [Nat.zero_add]; exact bt_mkS (bt_lt _ _) (by omega)

/-- The ways of a region come together. -/
def Joined4 (F : Nat → Nat → Nat → Nat → Act) (R : Nat → Nat → Nat → Nat → World → Prop) : Exit → Act → World → Prop
  | .normal, a', w' => ∃ x1 x2 x3 x4, a' = F x1 x2 x3 x4 ∧ R x1 x2 x3 x4 w'
  | _, _, _ => False
def Joined3 (F : Nat → Nat → Nat → Act) (R : Nat → Nat → Nat → World → Prop) : Exit → Act → World → Prop
  | .normal, a', w' => ∃ x1 x2 x3, a' = F x1 x2 x3 ∧ R x1 x2 x3 w'
  | _, _, _ => False
theorem joined4 {F : Nat → Nat → Nat → Nat → Act} {R : Nat → Nat → Nat → Nat → World → Prop} {a' : Act} {w' : World} (x1 x2 x3 x4 : Nat) (h1 : a' = F x1 x2 x3 x4) (h2 : R x1 x2 x3 x4 w') : Joined4 F R .normal a' w' := ⟨x1, x2, x3, x4, h1, h2⟩
theorem joined3 {F : Nat → Nat → Nat → Act} {R : Nat → Nat → Nat → World → Prop} {a' : Act} {w' : World} (x1 x2 x3 : Nat) (h1 : a' = F x1 x2 x3) (h2 : R x1 x2 x3 w') : Joined3 F R .normal a' w' := ⟨x1, x2, x3, h1, h2⟩
theorem wp_split {P : Program} {c : Code} {Q' : Exit → Act → World → Prop} {a : Act} {w : World} (F : Nat → Nat → Nat → Nat → Act) (R : Nat → Nat → Nat → Nat → World → Prop)
    (h : c.wp P (Joined4 F R) a w) (hq : ∀ x1 x2 x3 x4 w', R x1 x2 x3 x4 w' → Q' Exit.normal (F x1 x2 x3 x4) w') : c.wp P Q' a w :=
  wp_mono h (fun e _ w' h => by
    cases e <;> first | exact (h : False).elim | (obtain ⟨x1, x2, x3, x4, h2, h3⟩ := h; subst h2; exact hq x1 x2 x3 x4 w' h3))
theorem wp_split3 {P : Program} {c : Code} {Q' : Exit → Act → World → Prop} {a : Act} {w : World} (F : Nat → Nat → Nat → Act) (R : Nat → Nat → Nat → World → Prop)
    (h : c.wp P (Joined3 F R) a w) (hq : ∀ x1 x2 x3 w', R x1 x2 x3 w' → Q' Exit.normal (F x1 x2 x3) w') : c.wp P Q' a w :=
  wp_mono h (fun e _ w' h => by
    cases e <;> first | exact (h : False).elim | (obtain ⟨x1, x2, x3, h2, h3⟩ := h; subst h2; exact hq x1 x2 x3 w' h3))
theorem conv_bytes_n (w : World) (s : ByteArray) (n : Nat) (h : s.size = n) : ∃ w' cap, (convert 9 54 (.string s)).run Try.prog w = .ok (.slice (some ⟨w.heap.size, 0, none⟩) n cap) w' ∧ HasB w' w.heap.size (bt s) n ∧ Below w.heap.size w w' := by
  subst h; exact conv_bytes w s
theorem str_head (s : ByteArray) (n : Nat) (h : n ≤ s.size) (w : World) : (Instr.sliceAt 9 (.string s) none (some (.int .i64 (n : Int))) none).run Try.prog w = .ok (.string (s.extract 0 n)) w := by
  rw [run_sliceAt_string w 9 _ _ _ _ under9, run_slice_string_to_if w 9 s .i64 (n : Int) under9, if_pos ⟨by omega, by omega⟩, Int.toNat_natCast]

set_option maxHeartbeats 4000000 in
set_option maxRecDepth 100000 in
theorem linear_walk (a0 a1 : Int) (s t : ByteArray) (w : World) :
    Calls Try.prog 7 #[.int .i64 a0, .int .i64 a1, .string s, .string t] w fun e w' => e = .returned (.bool true) ∧ Below w.heap.size w w' := by
  go_enter Try.func7, Try.ntmps7
  go_wp2_with fail
  refine (within_l a0 _ _ 1 8 rfl rfl (by decide) (by decide) _).mono ?_
  rintro e w1 ⟨⟨k, hk1, hk, rfl⟩, rfl⟩
  go_wp2_with fail
  refine (within_0 a1 _ _ (12 - k) rfl (by omega) (by omega) _).mono ?_
  rintro e w1 ⟨⟨m, hm, rfl⟩, rfl⟩
  go_wp2_with fail
  refine (new_any k m _ _ rfl rfl hk1 hk (by omega) _).mono ?_
  rintro e w1 ⟨b, rfl, hC1, hb1⟩
  have HC1 : Hid (IsCode w1 b k (k + m)) := hC1
  have HB1 : Hid (Below w.heap.size w w1) := hb1
  clear hC1 hb1
  obtain ⟨n, en⟩ : ∃ n : Nat, n = min (min s.size t.size) 100 := ⟨_, rfl⟩
  have hmin : (if (100 : Int) < (if t.size < s.size then (t.size : Int) else (s.size : Int)) then (100 : Int) else (if t.size < s.size then (t.size : Int) else (s.size : Int))) = (n : Int) := by
    by_cases h1 : t.size < s.size
    · rw [if_pos h1]; by_cases h2 : (100 : Int) < (t.size : Int)
      · rw [if_pos h2]; omega
      · rw [if_neg h2]; omega
    · rw [if_neg h1]; by_cases h2 : (100 : Int) < (s.size : Int)
      · rw [if_pos h2]; omega
      · rw [if_neg h2]; omega
  have hn100 : n ≤ 100 := by omega
  have hns : n ≤ s.size := by omega
  have hnt : n ≤ t.size := by omega
  clear en
  go_wp2_with fail
  clear hmin
  have hs1 := str_head s n hns
  have hs2 := str_head t n hnt
  obtain ⟨X, eX⟩ : ∃ X, X = s.extract 0 n := ⟨_, rfl⟩
  obtain ⟨Y, eY⟩ : ∃ Y, Y = t.extract 0 n := ⟨_, rfl⟩
  have hX : X.size = n := by rw [eX, ByteArray.size_extract]; omega
  have hY : Y.size = n := by rw [eY, ByteArray.size_extract]; omega
  rw [← eX] at hs1
  rw [← eY] at hs2
  have HX : Hid (X.size = n) := hX
  have HY : Hid (Y.size = n) := hY
  clear eX eY
  obtain ⟨U1, cu1, ru1, hu1, bu1⟩ := conv_bytes_n w1.drew X n hX
  obtain ⟨U2, cu2, ru2, hu2, bu2⟩ := conv_bytes_n U1 Y n hY
  obtain ⟨V1, cv1, rv1, hv1, bv1⟩ := conv_bytes_n w1.drew Y n hY
  obtain ⟨V2, cv2, rv2, hv2, bv2⟩ := conv_bytes_n V1 X n hX
  have HU : Hid (HasB U2 w1.heap.size (bt X) n ∧ HasB U2 U1.heap.size (bt Y) n ∧ Below w1.heap.size w1 U2) := ⟨hu1.up bu2, hu2, (below_drewN (Below.refl _ _) 1).trans (bu1.trans (bu2.mono bu1.size))⟩
  have HV : Hid (HasB V2 w1.heap.size (bt Y) n ∧ HasB V2 V1.heap.size (bt X) n ∧ Below w1.heap.size w1 V2) := ⟨hv1.up bv2, hv2, (below_drewN (Below.refl _ _) 1).trans (bv1.trans (bv2.mono bv1.size))⟩
  clear hu1 bu1 hu2 bu2 hv1 bv1 hv2 bv2 hX hY
  refine wp_split ?F (fun Gx cx Gy cy w' => HasB w' Gx (bt X) n ∧ HasB w' Gy (bt Y) n ∧ Below w1.heap.size w1 w') ?reg ?cont
  case reg =>
    go_region
    · refine joined4 w1.heap.size cu1 U1.heap.size cu2 ?_ ⟨HU.out.1, HU.out.2.1, HU.out.2.2⟩
      generalize w1.heap.size = Gx
      generalize U1.heap.size = Gy
      generalize cu1 = cx
      generalize cu2 = cy
      exact rfl
    · exact joined4 V1.heap.size cv2 w1.heap.size cv1 rfl ⟨HV.out.2.1, HV.out.1, HV.out.2.2⟩
  case cont =>
    rintro Gx cx Gy cy w2 ⟨hx, hy, hb2⟩
    have HHx : Hid (HasB w2 Gx (bt X) n) := hx
    have HHy : Hid (HasB w2 Gy (bt Y) n) := hy
    have HB2 : Hid (Below w1.heap.size w1 w2) := hb2
    clear hx hy hb2 ru1 ru2 rv1 rv2 HU HV hs1 hs2
    go_wp2_with fail
    obtain ⟨w3, cur, hrun, hg, hcs, hz, hb3⟩ := make_zeros w2 n (by omega)
    rw [hrun]
    clear hrun
    obtain ⟨G, eG⟩ : ∃ G, G = w2.heap.size := ⟨_, rfl⟩
    have O1 : Hid (OwnB w3 G (fun x => if x < 0 then bt X x ^^^ bt Y x else 0) n) := ⟨cur, by rw [eG]; exact hg, hcs, fun q hq => by rw [hz q hq]; rfl⟩
    have HB3 : Hid (Below w2.heap.size w2 w3) := hb3
    have hGB : Hid (w2.heap.size ≤ G) := by show _ ≤ _; omega
    rw [← eG]
    clear hg hcs hz hb3 eG
    go_wp2_with fail
    go_loopw [16] (fun i wr => ∃ q : Nat, q ≤ n ∧ i = .int .i64 (q : Int) ∧ Hid (OwnB wr G (fun x => if x < q then bt X x ^^^ bt Y x else 0) n) ∧ Hid (Below w2.heap.size w2 wr)) (fun i _ => n - (intOf i).toNat)
    case atStart => exact ⟨0, by omega, rfl, O1, HB3⟩
    case round =>
      obtain ⟨q, hq, rfl, HO, HB⟩ := hrel
      clear O1 HB3
      by_cases hlt : q < n
      · have hi1 : (q : Int) < (n : Int) := by omega
        have d1 := cell_later HB.out (HHx.out q hlt).1
        have d2 := cell_later HB.out (HHy.out q hlt).1
        have d3 := HO.out.cell hlt
        have fz := HO.out.fz q
        have hxor := xor_u8 (bt X q) (bt Y q) (bt_lt _ _) (bt_lt _ _)
        have O3 : Hid (OwnB (wr.setCell ⟨G, q, none⟩ (.int .u8 ((bt X q ^^^ bt Y q : Nat) : Int))) G (fun x => if x < q + 1 then bt X x ^^^ bt Y x else 0) n) := (HO.out.set hlt).congr (fun x _ => by
          by_cases e : x = q
          · simp only [if_pos e]; rw [e, if_pos (by omega)]
          · simp only [if_neg e]
            by_cases e2 : x < q
            · rw [if_pos e2, if_pos (by omega)]
            · rw [if_neg e2, if_neg (by omega)])
        have B3 : Hid (Below w2.heap.size w2 (wr.setCell ⟨G, q, none⟩ (.int .u8 ((bt X q ^^^ bt Y q : Nat) : Int)))) := HB.out.setCell hGB.out _
        clear HO HB
        go_wp2_with fail
        go_region
        all_goals
          go_wp2_with fail
          exact ⟨⟨q + 1, by omega, by go_num, O3.out.alike ⟨rfl, rfl, rfl, rfl⟩, below_alike B3.out ⟨rfl, rfl, rfl, rfl⟩⟩, by simp [intOf]; omega⟩
      · have hqn : q = n := by omega
        subst hqn
        have i1 : decide ((q : Int) < (q : Int)) = false := by simp
        obtain ⟨Z, eZ⟩ : ∃ Z, Z = mkS (fun x => bt X x ^^^ bt Y x) q := ⟨_, rfl⟩
        have hZ : Z.size = q := by rw [eZ, mkS_size]
        have HZ : Hid (∀ i, bt Z i = bt X i ^^^ bt Y i) := fun i => by
          by_cases h : i < q
          · rw [eZ, bt_mkS (f := fun x => bt X x ^^^ bt Y x) (Gf.xor_lt (bt_lt _ _) (bt_lt _ _)) h]
          · rw [bt_out (s := Z) (by omega), bt_out (s := X) (by rw [HX.out]; omega), bt_out (s := Y) (by rw [HY.out]; omega)]; rfl
        have rX : RowF wr (some ⟨Gx, 0, none⟩) (bt X) q := (HHx.out.up HB.out).rowF
        have rY : RowF wr (some ⟨Gy, 0, none⟩) (bt Y) q := (HHy.out.up HB.out).rowF
        have rZ : RowF wr (some ⟨G, 0, none⟩) (fun x => if x < q then bt X x ^^^ bt Y x else 0) q := HO.out.rowF
        have eX : mkS (bt X) q = X := by rw [← HX.out]; exact mkS_self X
        have eY : mkS (bt Y) q = Y := by rw [← HY.out]; exact mkS_self Y
        have eZ' : mkS (fun x => if x < q then bt X x ^^^ bt Y x else 0) q = Z := by rw [eZ]; exact mkS_congr (fun i hi => by rw [if_pos hi])
        have cX : ∀ U, Below wr.heap.size wr U → (convert 54 9 (.slice (some ⟨Gx, 0, none⟩) q cx)).run Try.prog U = .ok (.string X) U := fun U hU => by rw [conv_str U _ q cx _ (rX.below hU), eX]
        have cY : ∀ U, Below wr.heap.size wr U → (convert 54 9 (.slice (some ⟨Gy, 0, none⟩) q cy)).run Try.prog U = .ok (.string Y) U := fun U hU => by rw [conv_str U _ q cy _ (rY.below hU), eY]
        have cZ : ∀ U, Below wr.heap.size wr U → (convert 54 9 (.slice (some ⟨G, 0, none⟩) q q)).run Try.prog U = .ok (.string Z) U := fun U hU => by rw [conv_str U _ q q _ (rZ.below hU), eZ']
        have CX : Hid (∀ U, Below wr.heap.size wr U → (convert 54 9 (.slice (some ⟨Gx, 0, none⟩) q cx)).run Try.prog U = .ok (.string X) U) := cX
        have CY : Hid (∀ U, Below wr.heap.size wr U → (convert 54 9 (.slice (some ⟨Gy, 0, none⟩) q cy)).run Try.prog U = .ok (.string Y) U) := cY
        have CZ : Hid (∀ U, Below wr.heap.size wr U → (convert 54 9 (.slice (some ⟨G, 0, none⟩) q q)).run Try.prog U = .ok (.string Z) U) := cZ
        have HBr : Hid (Below w1.heap.size w1 wr) := HB2.out.trans (HB.out.mono HB2.out.size)
        have HCr : Hid (IsCode wr b k (k + m)) := HC1.out.up HBr.out
        have HBq : Hid (Below w2.heap.size w2 wr) := HB.out
        have Hhz : Hid (Z.size = q) := hZ
        clear HO HB cX cY cZ rX rY rZ eX eY eZ' eZ hZ
        go_wp2_with fail
        have x0 := CX.out wr.drew (below_alike (Below.refl _ _) ⟨rfl, rfl, rfl, rfl⟩)
        have y0 := CY.out wr.drew (below_alike (Below.refl _ _) ⟨rfl, rfl, rfl, rfl⟩)
        have z0 := CZ.out wr.drew (below_alike (Below.refl _ _) ⟨rfl, rfl, rfl, rfl⟩)
        have hXl : X.size ≤ 1048576 := by rw [HX.out]; omega
        have hYl : Y.size ≤ 1048576 := by rw [HY.out]; omega
        have hZl : Z.size ≤ 1048576 := by rw [Hhz.out]; omega
        have HCd : IsCode wr.drew b k (k + m) := HCr.out.alike ⟨rfl, rfl, rfl, rfl⟩
        have hBd : Below wr.heap.size wr wr.drew := below_alike (Below.refl _ _) ⟨rfl, rfl, rfl, rfl⟩
        refine wp_split3 ?F2 (fun Gp Gq Gr w' => OwnS w' Gp (k + m) (fragS k X) (k + m) ∧ OwnS w' Gq (k + m) (fragS k Y) (k + m) ∧ OwnS w' Gr (k + m) (fragS k Z) (k + m) ∧ Below wr.heap.size wr w') ?reg ?cont
        case reg =>
          go_region_with (first
            | (go_at_call_of 10 (Value.string X); refine (encode_any b k (k + m) X hk1 hk (by omega) hXl _ HCd).mono ?_; rintro e w5 ⟨G5, rfl, hG5, O5, hb5⟩; have hB5 := hBd.trans (hb5.mono hBd.size); have hC5 := HCr.out.up hB5; have y5 := CY.out w5 hB5; have z5 := CZ.out w5 hB5; clear hb5)
            | (go_at_call_of 10 (Value.string Y); refine (encode_any b k (k + m) Y hk1 hk (by omega) hYl _ hC5).mono ?_; rintro e w6 ⟨G6, rfl, hG6, O6, hb6⟩; have O56 := O5.up hb6; have hB6 := hB5.trans (hb6.mono hB5.size); have hC6 := HCr.out.up hB6; have z6 := CZ.out w6 hB6; clear hb6 O5)
            | (go_at_call_of 10 (Value.string Z); refine (encode_any b k (k + m) Z hk1 hk (by omega) hZl _ hC6).mono ?_; rintro e w7 ⟨G7, rfl, hG7, O7, hb7⟩; have O57 := O56.up hb7; have O67 := O6.up hb7; have hB7 := hB6.trans (hb7.mono hB6.size); clear hb7 O56 O6))
          all_goals
            refine joined3 G5 G6 G7 ?_ ⟨O57, O67, O7, hB7⟩
            clear O57 O67 O7 hB7 hG5 hG6 hG7
            exact rfl
        case cont =>
          rintro Gp Gq Gr w4 ⟨hp, hq, hr, hb4⟩
          have HP : Hid (OwnS w4 Gp (k + m) (fragS k X) (k + m)) := hp
          have HQ : Hid (OwnS w4 Gq (k + m) (fragS k Y) (k + m)) := hq
          have HR : Hid (OwnS w4 Gr (k + m) (fragS k Z) (k + m)) := hr
          have HB4 : Hid (Below w1.heap.size w1 w4) := HBr.out.trans (hb4.mono HBr.out.size)
          have HC4 : Hid (IsCode w4 b k (k + m)) := HCr.out.up hb4
          have HC4d : ∀ d, IsCode (w4.drewN d) b k (k + m) := fun d => HC4.out.drewN d
          have HXr : Hid (RowF w4 (some ⟨Gx, 0, none⟩) (bt X) q) := ((HHx.out.up HBq.out).rowF).below hb4
          clear hp hq hr hb4 x0 y0 z0 HCd hBd CX CY CZ
          obtain ⟨S, eS⟩ : ∃ S, S = szk k q := ⟨_, rfl⟩
          have ES : Hid (S = szk k q) := eS
          have hSq := szk_le k q hk1
          rw [← eS] at hSq
          have hS : S ≤ 107 := by
            have : S ≤ k * S := Nat.le_mul_of_pos_left S (by omega)
            omega
          clear eS
          go_wp2_with fail
          refine (n_any b k (k + m) _ HC4.out).mono ?_
          rintro e w5 ⟨rfl, rfl⟩
          go_wp2_with fail
          refine (n_any b k (k + m) _ HC4.out).mono ?_
          rintro e w5 ⟨rfl, rfl⟩
          go_wp2_with fail
          refine (n_any b k (k + m) _ HC4.out).mono ?_
          rintro e w5 ⟨rfl, rfl⟩
          go_wp2_with fail
          go_loopw [20, 21] (fun D i wr => ∃ (t c : Nat) (DS : ByteArray), t ≤ k + m ∧ i = .int .i64 (t : Int) ∧ D = .string DS ∧ Hid (DS = catS X S (min t k)) ∧ Hid (wr = w4.drewN c)) (fun _ i _ => k + m - (intOf i).toNat)
          case atStart => exact ⟨0, 0, ⟨#[]⟩, by omega, rfl, rfl, by show _ = _; rw [Nat.zero_min]; unfold catS; rw [Nat.zero_mul]; rfl, rfl⟩
          case round =>
            obtain ⟨t', c, DS, ht, rfl, rfl, HD, HW⟩ := hrel
            by_cases hlt : t' < k + m
            · have hi1 : (t' : Int) < (k : Int) + (m : Int) := by omega
              obtain ⟨fX, efX⟩ : ∃ f, f = fragS k X t' := ⟨_, rfl⟩
              obtain ⟨fY, efY⟩ : ∃ f, f = fragS k Y t' := ⟨_, rfl⟩
              obtain ⟨fZ, efZ⟩ : ∃ f, f = fragS k Z t' := ⟨_, rfl⟩
              have hsX : fX.size = S := by rw [efX, fragS_size, HX.out, ES.out]
              have hsY : fY.size = S := by rw [efY, fragS_size, HY.out, ES.out]
              have hsZ : fZ.size = S := by rw [efZ, fragS_size, Hhz.out, ES.out]
              have d1 : ∀ d, (w4.drewN d).cell? ⟨Gp, t', none⟩ = some (.string fX) := fun d => by rw [efX]; exact ownS_at HP.out hlt
              have d2 : ∀ d, (w4.drewN d).cell? ⟨Gq, t', none⟩ = some (.string fY) := fun d => by rw [efY]; exact ownS_at HQ.out hlt
              have d3 : ∀ d, (w4.drewN d).cell? ⟨Gr, t', none⟩ = some (.string fZ) := fun d => by rw [efZ]; exact ownS_at HR.out hlt
              have EX : Hid (fX = fragS k X t') := efX
              have Hxor : Hid (∀ x, x < S → bt fX x ^^^ bt fY x = bt fZ x) := fun x hx => by
                rw [efX, efY, efZ]; exact frag_xor HX.out HY.out Hhz.out HZ.out (by rw [← ES.out]; exact hx)
              have D1 : Hid (∀ d, (w4.drewN d).cell? ⟨Gp, t', none⟩ = some (.string fX)) := d1
              have D2 : Hid (∀ d, (w4.drewN d).cell? ⟨Gq, t', none⟩ = some (.string fY)) := d2
              have D3 : Hid (∀ d, (w4.drewN d).cell? ⟨Gr, t', none⟩ = some (.string fZ)) := d3
              have e1 : wr.cell? ⟨Gp, t', none⟩ = some (.string fX) := by rw [HW.out]; exact d1 c
              have e2 : wr.cell? ⟨Gq, t', none⟩ = some (.string fY) := by rw [HW.out]; exact d2 c
              have e3 : wr.cell? ⟨Gr, t', none⟩ = some (.string fZ) := by rw [HW.out]; exact d3 c
              have hCr : ∀ d, IsCode (wr.drewN d) b k (k + m) := fun d => by rw [HW.out, World.drewN_drewN]; exact HC4d _
              have ne : ((S : Int) != (S : Int)) = false := by simp
              clear efX efY efZ d1 d2 d3
              go_wp2_with fail
              go_quiet (first | (go_at_call 18; exact Calls.quiet_of ((size_any b k (k + m) q _ rfl hk1 hk (by omega) _ (hCr _)).mono fun e w' ⟨h1, h2⟩ => ⟨by rw [h1, ← ES.out], 0, h2.symm⟩)))
              have HW2 : Hid (wr.drewN nq = w4.drewN (c + nq)) := by show _ = _; rw [HW.out, World.drewN_drewN]
              clear e1 e2 e3 hCr
              go_wp2_with fail
              go_loopw [22] (fun j wr => ∃ x c : Nat, x ≤ S ∧ j = .int .i64 (x : Int) ∧ Hid (wr = w4.drewN c)) (fun j _ => S - (intOf j).toNat)
              case atStart => exact ⟨0, c + nq, by omega, rfl, HW2⟩
              case round =>
                obtain ⟨x, c2, hx, rfl, HW3⟩ := hrel
                clear HW HW2
                have e1 : wr.cell? ⟨Gp, t', none⟩ = some (.string fX) := by rw [HW3.out]; exact D1.out c2
                have e2 : wr.cell? ⟨Gq, t', none⟩ = some (.string fY) := by rw [HW3.out]; exact D2.out c2
                have e3 : wr.cell? ⟨Gr, t', none⟩ = some (.string fZ) := by rw [HW3.out]; exact D3.out c2
                by_cases hxS : x < S
                · have hi2 : (x : Int) < (S : Int) := by omega
                  have a1 := str_at fX x (by omega)
                  have a2 := str_at fY x (by omega)
                  have a3 := str_at fZ x (by omega)
                  have hxor := xor_u8 (bt fX x) (bt fY x) (bt_lt _ _) (bt_lt _ _)
                  rw [Hxor.out x hxS] at hxor
                  have ne2 : (((bt fZ x : Nat) : Int) != ((bt fZ x : Nat) : Int)) = false := by simp
                  go_wp2_with fail
                  go_quiet (fail)
                  go_wp2_with fail
                  exact ⟨⟨x + 1, c2 + nq, by omega, by go_num, by show _ = _; rw [HW3.out, World.drewN_drewN]⟩, by simp [intOf]; omega⟩
                · have hxe : x = S := by omega
                  have i2 : decide ((x : Int) < (S : Int)) = false := by simp; omega
                  by_cases htk : t' < k
                  · have i3 : (t' : Int) < (k : Int) := by omega
                    have hsz : (catS X S (min t' k)).size ≤ 12 * 107 := by
                      rw [catS_size]
                      exact Nat.mul_le_mul (by omega) hS
                    have hadd : ∀ w, (Op.stringOp .add DS fX).run Try.prog w = .ok (.string (DS ++ fX)) w := fun w => run_string_add_sum w DS fX (by rw [HD.out]; omega)
                    have HD2 : Hid (DS ++ fX = catS X S (min (t' + 1) k)) := by
                      show _ = _
                      rw [HD.out, EX.out, frag_piece htk, Nat.min_eq_left (by omega), Nat.min_eq_left (by omega)]
                      exact catS_succ HX.out ES.out t'
                    clear hsz
                    go_wp2_with fail
                    exact ⟨⟨t' + 1, c2, DS ++ fX, by omega, by go_num, rfl, HD2, HW3⟩, by simp [intOf]; omega⟩
                  · have i3 : decide ((t' : Int) < (k : Int)) = false := by simp; omega
                    have HD2 : Hid (DS = catS X S (min (t' + 1) k)) := by
                      show _ = _
                      rw [HD.out, Nat.min_eq_right (by omega), Nat.min_eq_right (by omega)]
                    go_wp2_with fail
                    exact ⟨⟨t' + 1, c2, DS, by omega, by go_num, rfl, HD2, HW3⟩, by simp [intOf]; omega⟩
            · have htk : t' = k + m := by omega
              have i1 : decide ((t' : Int) < (k : Int) + (m : Int)) = false := by simp; omega
              have HD2 : Hid (DS = catS X S k) := by show _ = _; rw [HD.out, Nat.min_eq_right (by omega)]
              have hds : DS.size = k * S := by rw [HD2.out, catS_size]
              obtain ⟨M, eM⟩ : ∃ M, M = k * S := ⟨_, rfl⟩
              rw [← eM] at hds hSq
              have hqM : (q : Int) ≤ (M : Int) := by omega
              have hh := str_head DS q (by omega)
              rw [HD2.out, catS_head HX.out (by rw [← eM]; omega), ← HD2.out] at hh
              have hext : DS.extract 0 q = X := by rw [HD2.out]; exact catS_head HX.out (by rw [← eM]; omega)
              have eXX : mkS (bt X) q = X := by rw [← HX.out]; exact mkS_self X
              clear eM HD HD2
              go_wp2_with fail
              refine wp_region_still_tail 13 (by kernel_rfl) (by kernel_rfl) ?_
              simp only [List.take_succ_cons, List.take_zero, List.drop_succ_cons, List.drop_zero]
              obtain ⟨Y', eY', hcv, HBw⟩ : ∃ Y', Y' = ({ wr with drawn := wr.drawn + 1 } : World) ∧ (convert 54 9 (.slice (some ⟨Gx, 0, none⟩) q cx)).run Try.prog Y' = .ok (.string (mkS (bt X) q)) Y' ∧ Below w.heap.size w Y' :=
                ⟨_, rfl, conv_str _ (some ⟨Gx, 0, none⟩) q cx (bt X) (by rw [HW.out]; exact HXr.out), by rw [HW.out]; exact below_drewN (below_drewN (HB1.out.trans (HB4.out.mono HB1.out.size)) c) 1⟩
              rw [← eY']
              rw [eXX] at hcv
              have HBw' : Hid (Below w.heap.size w Y') := HBw
              clear eY' HBw eXX
              repeat still_step
              refine wpStill_nil ?_
              go_wp2_with fail
              refine (rruns_any _).mono ?_
              rintro e w9 ⟨rfl, hb9⟩
              have HB9 : Hid (Below w.heap.size w w9) := HBw'.out.trans (hb9.mono HBw'.out.size)
              clear hb9
              go_wp2_with fail
              go_ret
              exact ⟨rfl, HB9.out⟩
end Go.Proofs.Ytmhhegkpkncebaa
