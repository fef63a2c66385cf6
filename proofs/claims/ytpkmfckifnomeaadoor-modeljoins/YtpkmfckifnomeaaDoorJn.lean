/-
  ModelJoins.
-/
import Derived.Test.YtpkmfckifnomeaaDoorSf
namespace Go.Proofs.YtpkmfckifnomeaaDoor
open Go.RowKit

open Go.Lib (TabIs pow10Tab)
def kK : ByteArray := ⟨#[107]⟩
def jE (v : ByteArray) (c : Int) : En := ⟨kK, 3, 0, v, c⟩
theorem lv0 (now : Int) : lv 0 now = true := rfl
def jS (v : ByteArray) : Rq := ⟨3, 3, 0, (v.size : Int), 0, 0, false, v⟩
def jR (vb : Int) (p : ByteArray) : Rq := ⟨vb, 9, -1, (p.size : Int), 0, 0, false, p⟩
theorem j_set (v : ByteArray) : q1 (jS v) kK 5 1 [] = kpt (ab 2) (jE v 1) ∧ stp (jS v) kK 5 1 [] = [jE v 1] := by
  have e : q1 (jS v) kK 5 1 [] = kpt (ab 2) (jE v 1) := by unfold q1; rw [nxt_3 rfl]; rfl
  exact ⟨e, stp_new e⟩
theorem j_app (v p : ByteArray) (c ver : Int) (hz : v.size + p.size ≤ 1048576) : q1 (jR 6 p) kK 5 ver [jE v c] = kpt (ab 2) (jE (v ++ p) ver) ∧ stp (jR 6 p) kK 5 ver [jE v c] = [jE (v ++ p) ver] := by
  have e : q1 (jR 6 p) kK 5 ver [jE v c] = kpt (ab 2) (jE (v ++ p) ver) := by
    unfold q1
    rw [show liv [jE v c] kK 5 = (jE v c, true) from liv_self (jE v c) 5 (lv0 5), nxt_6 rfl]
    unfold joi
    rw [if_neg (by simp), if_neg (by show ¬ 1048576 < (v ++ p).size; rw [ByteArray.size_append]; omega)]
    rfl
  exact ⟨e, stp_keep (e := jE v c) rfl e⟩
theorem j_pre (v p : ByteArray) (c ver : Int) (hz : v.size + p.size ≤ 1048576) : q1 (jR 7 p) kK 5 ver [jE v c] = kpt (ab 2) (jE (p ++ v) ver) ∧ stp (jR 7 p) kK 5 ver [jE v c] = [jE (p ++ v) ver] := by
  have e : q1 (jR 7 p) kK 5 ver [jE v c] = kpt (ab 2) (jE (p ++ v) ver) := by
    unfold q1
    rw [show liv [jE v c] kK 5 = (jE v c, true) from liv_self (jE v c) 5 (lv0 5), nxt_7 rfl]
    unfold joi
    rw [if_neg (by simp), if_neg (by show ¬ 1048576 < (p ++ v).size; rw [ByteArray.size_append]; omega)]
    rfl
  exact ⟨e, stp_keep (e := jE v c) rfl e⟩
/-- The law on its way. -/
structure Jw (w wr : World) (o : Nat → Nat × Nat) (P j : Nat) (v : ByteArray) : Prop where
  ls : Ls wr o P (j + 1) [jE v ((j : Int) + 1)] [] []
  zz : Zz w wr o
  sz : v.size ≤ 200 + 50 * j
set_option maxRecDepth 100000 in
set_option maxHeartbeats 8000000 in
theorem joins_walk (value : ByteArray) (a1 : Option Addr) (len1 cap1 : Nat) (T : Nat → ByteArray) (a2 : Option Addr) (len2 cap2 : Nat) (B : Nat → Bool) (n1 : len1 ≤ 9223372036854775807) (w : World) (s1 : CellF w a1 (fun i => .string (T i)) len1) (s2 : CellF w a2 (fun i => .bool (B i)) len2) (htab : TabIs Tryd.prog w "internal/strconv.uint64pow10" .u64 pow10Tab) :
    Calls Tryd.prog 8 #[.string value, .slice a1 len1 cap1, .slice a2 len2 cap2] w fun e w' => e = .returned (.bool true) ∧ Below w.heap.size w w' := by
  have HTAB := Lib.hid htab
  have HS := Lib.hid (And.intro s1 s2)
  clear htab s1 s2
  go_enter Tryd.func8, Tryd.ntmps8
  go_wp2_with fail
  refine (ls_new w HTAB.out).mono ?_
  rintro e_ w0 ⟨P, o_, rfl, h_, z_⟩
  clear HTAB
  have HL := Lib.hid (And.intro h_ z_)
  clear h_ z_
  by_cases hv : 200 < value.size
  · have g1 : decide ((200 : Int) < (value.size : Int)) = true := decide_eq_true (by omega)
    go_wp2_with fail
    refine (runs_any _ HL.out.1.tab).mono ?_
    rintro e_ w1 ⟨rfl, hb⟩
    have HB : Hid (Below w.heap.size w w1) := Lib.hid (HL.out.2.b.trans (hb.mono HL.out.2.b.size))
    clear hb HL
    go_wp2_with fail
    go_ret
    exact ⟨rfl, HB.out⟩
  have g1 : decide ((200 : Int) < (value.size : Int)) = false := decide_eq_false (by omega)
  have hvz : value.size ≤ 200 := by omega
  clear hv
  go_wp2_with fail
  refine (of_x 3 kK value 0 0 (value.size : Int) rfl rfl _ HL.out.1 HL.out.2).mono ?_
  rintro e_ w1 ⟨p1, o1, rfl, h_, z_⟩
  clear HL
  have HL := Lib.hid (And.intro h_ z_)
  clear h_ z_
  clear g1
  have h_ := HL.out.1.below (below_alloc _ (.cells #[.int .i64 3, .slice (some ⟨p1, 0, none⟩) 1 1, .int .i64 3, .int .i64 0, .int .i64 (value.size : Int), .int .i64 0, .int .u64 0, .bool false, .string value] 27))
  have z_ := HL.out.2.below (below_alloc _ (.cells #[.int .i64 3, .slice (some ⟨p1, 0, none⟩) 1 1, .int .i64 3, .int .i64 0, .int .i64 (value.size : Int), .int .i64 0, .int .u64 0, .bool false, .string value] 27))
  clear HL
  have HL := Lib.hid (And.intro h_ z_)
  clear h_ z_
  go_wp2_with fail
  refine (ls_x (jS value) 5 1 kK p1 1 0 rfl rfl rfl rfl (kpt (ab 2) (jE value 1)) [jE value 1] 2 0 nA (j_set value).1 (j_set value).2 rfl (by omega) (by decide) (by show value.size ≤ _; omega) _ HL.out.1 HL.out.2 (.head _)).mono ?_
  rintro e_ w2 ⟨o2, rfl, h_, z_⟩
  clear HL
  have HL := Lib.hid (And.intro h_ z_)
  clear h_ z_
  have HJ : Hid (Jw w w2 o2 P 0 value) := Lib.hid ⟨HL.out.1.sub (Nat.le_refl _) (fun x hx => by cases hx) (fun x hx => hx), HL.out.2, by omega⟩
  clear HL
  go_wp2_with fail
  go_loopw [9, 10] (fun wv i wr => ∃ (j : Nat) (v : ByteArray) (o1 : Nat → Nat × Nat), j ≤ 20 ∧ j ≤ len1 ∧ i = .int .i64 (j : Int) ∧ wv = .string v ∧ Hid (Jw w wr o1 P j v)) (fun _ i _ => 20 - (intOf i).toNat)
  case atStart => exact ⟨0, value, o2, by omega, by omega, rfl, rfl, HJ⟩
  case round =>
    obtain ⟨j, v, o1, hj1, hj2, rfl, rfl, HR⟩ := hrel
    clear HJ
    have vz := HR.out.sz
    have vz2 : v.size ≤ 1200 := by omega
    clear vz
    by_cases hlt : j < len1 ∧ j < 20
    · obtain ⟨hl1, hl2⟩ := hlt
      have i1 : decide ((j : Int) < (len1 : Int)) = true := decide_eq_true (by omega)
      have i2 : decide ((j : Int) < 20) = true := decide_eq_true (by omega)
      obtain ⟨pa, offa, rfl, ca⟩ := (HS.out.1.below HR.out.zz.b).at_ hl1
      obtain ⟨s, hs⟩ : ∃ s, T j = s := ⟨_, rfl⟩
      rw [hs] at ca
      clear hs
      by_cases hc : 50 < s.size
      · by_cases hb : j < len2
        · have b1 : decide ((j : Int) < (len2 : Int)) = true := decide_eq_true (by omega)
          obtain ⟨pb, offb, rfl, cb⟩ := (HS.out.2.below HR.out.zz.b).at_ hb
          cases hB : B j with
          | true =>
            rw [hB] at cb
            clear hB
            have c1 : decide ((50 : Int) < (s.size : Int)) = true := decide_eq_true (by omega)
            have sl := fun W => str_hi s 50 (by omega) W
            obtain ⟨q, hq⟩ : ∃ q, S ((L s).take 50) = q := ⟨_, rfl⟩
            have qz : q.size ≤ 50 := by rw [← hq, S_size, List.length_take]; omega
            rw [hq] at sl
            replace sl : ∀ W, (Instr.sliceAt 9 (.string s) none (some (.int .i64 50)) none).run Tryd.prog W = .ok (.string q) W := sl
            clear hq
            obtain ⟨v2, hv2⟩ : ∃ v2, q ++ v = v2 := ⟨_, rfl⟩
            have v2z : v2.size = v.size + q.size := by rw [← hv2, ByteArray.size_append]; omega
            have v2y : v2.size ≤ 1250 := by omega
            have HL := Lib.hid (And.intro HR.out.ls HR.out.zz)
            go_wp2_with fail
            refine (of_x 7 kK q 0 0 (q.size : Int) rfl rfl _ HL.out.1 HL.out.2).mono ?_
            rintro e_ w3 ⟨p3, o3, rfl, h_, z_⟩
            clear HL
            have HL := Lib.hid (And.intro h_ z_)
            clear h_ z_
            have h_ := HL.out.1.below (below_alloc _ (.cells #[.int .i64 7, .slice (some ⟨p3, 0, none⟩) 1 1, .int .i64 9, .int .i64 (-1), .int .i64 (q.size : Int), .int .i64 0, .int .u64 0, .bool false, .string q] 27))
            have z_ := HL.out.2.below (below_alloc _ (.cells #[.int .i64 7, .slice (some ⟨p3, 0, none⟩) 1 1, .int .i64 9, .int .i64 (-1), .int .i64 (q.size : Int), .int .i64 0, .int .u64 0, .bool false, .string q] 27))
            clear HL
            have HL := Lib.hid (And.intro h_ z_)
            clear h_ z_
            go_wp2_with fail
            refine (ls_x (jR 7 q) 5 ((j : Int) + 2) kK p3 1 0 rfl rfl rfl rfl (kpt (ab 2) (jE v2 ((j : Int) + 2))) [jE v2 ((j : Int) + 2)] 2 0 nA (by rw [← hv2]; exact (j_pre v q _ _ (by omega)).1) (by rw [← hv2]; exact (j_pre v q _ _ (by omega)).2) rfl (by omega) (by decide) (by show q.size ≤ _; omega) _ HL.out.1 HL.out.2 (.head _)).mono ?_
            rintro e_ w4 ⟨o4, rfl, h_, z_⟩
            clear HL
            have HL := Lib.hid (And.intro h_ z_)
            clear h_ z_
            have HN : Hid (Jw w w4 o4 P (j + 1) v2) := Lib.hid ⟨by
              have := HL.out.1.sub (vs' := []) (os' := []) (Nat.le_refl _) (fun x hx => by cases hx) (fun x hx => hx)
              rwa [show (((j + 1 : Nat) : Int) + 1) = (j : Int) + 2 by omega], HL.out.2, by have := HR.out.sz; omega⟩
            clear HL hv2
            have fl := fun W => fld0 2 (.slice none 0 0) false 0 nA W
            go_wp2_with fail
            exact ⟨⟨j + 1, v2, o4, by omega, by omega, by go_num, rfl, HN⟩, by simp [intOf]; omega⟩
          | false =>
            rw [hB] at cb
            clear hB
            have c1 : decide ((50 : Int) < (s.size : Int)) = true := decide_eq_true (by omega)
            have sl := fun W => str_hi s 50 (by omega) W
            obtain ⟨q, hq⟩ : ∃ q, S ((L s).take 50) = q := ⟨_, rfl⟩
            have qz : q.size ≤ 50 := by rw [← hq, S_size, List.length_take]; omega
            rw [hq] at sl
            replace sl : ∀ W, (Instr.sliceAt 9 (.string s) none (some (.int .i64 50)) none).run Tryd.prog W = .ok (.string q) W := sl
            clear hq
            obtain ⟨v2, hv2⟩ : ∃ v2, v ++ q = v2 := ⟨_, rfl⟩
            have v2z : v2.size = v.size + q.size := by rw [← hv2, ByteArray.size_append]
            have v2y : v2.size ≤ 1250 := by omega
            have HL := Lib.hid (And.intro HR.out.ls HR.out.zz)
            go_wp2_with fail
            refine (of_x 6 kK q 0 0 (q.size : Int) rfl rfl _ HL.out.1 HL.out.2).mono ?_
            rintro e_ w3 ⟨p3, o3, rfl, h_, z_⟩
            clear HL
            have HL := Lib.hid (And.intro h_ z_)
            clear h_ z_
            have h_ := HL.out.1.below (below_alloc _ (.cells #[.int .i64 6, .slice (some ⟨p3, 0, none⟩) 1 1, .int .i64 9, .int .i64 (-1), .int .i64 (q.size : Int), .int .i64 0, .int .u64 0, .bool false, .string q] 27))
            have z_ := HL.out.2.below (below_alloc _ (.cells #[.int .i64 6, .slice (some ⟨p3, 0, none⟩) 1 1, .int .i64 9, .int .i64 (-1), .int .i64 (q.size : Int), .int .i64 0, .int .u64 0, .bool false, .string q] 27))
            clear HL
            have HL := Lib.hid (And.intro h_ z_)
            clear h_ z_
            go_wp2_with fail
            refine (ls_x (jR 6 q) 5 ((j : Int) + 2) kK p3 1 0 rfl rfl rfl rfl (kpt (ab 2) (jE v2 ((j : Int) + 2))) [jE v2 ((j : Int) + 2)] 2 0 nA (by rw [← hv2]; exact (j_app v q _ _ (by omega)).1) (by rw [← hv2]; exact (j_app v q _ _ (by omega)).2) rfl (by omega) (by decide) (by show q.size ≤ _; omega) _ HL.out.1 HL.out.2 (.head _)).mono ?_
            rintro e_ w4 ⟨o4, rfl, h_, z_⟩
            clear HL
            have HL := Lib.hid (And.intro h_ z_)
            clear h_ z_
            have HN : Hid (Jw w w4 o4 P (j + 1) v2) := Lib.hid ⟨by
              have := HL.out.1.sub (vs' := []) (os' := []) (Nat.le_refl _) (fun x hx => by cases hx) (fun x hx => hx)
              rwa [show (((j + 1 : Nat) : Int) + 1) = (j : Int) + 2 by omega], HL.out.2, by have := HR.out.sz; omega⟩
            clear HL hv2
            have fl := fun W => fld0 2 (.slice none 0 0) false 0 nA W
            go_wp2_with fail
            exact ⟨⟨j + 1, v2, o4, by omega, by omega, by go_num, rfl, HN⟩, by simp [intOf]; omega⟩
        · skip
          have c1 : decide ((50 : Int) < (s.size : Int)) = true := decide_eq_true (by omega)
          have sl := fun W => str_hi s 50 (by omega) W
          obtain ⟨q, hq⟩ : ∃ q, S ((L s).take 50) = q := ⟨_, rfl⟩
          have qz : q.size ≤ 50 := by rw [← hq, S_size, List.length_take]; omega
          rw [hq] at sl
          replace sl : ∀ W, (Instr.sliceAt 9 (.string s) none (some (.int .i64 50)) none).run Tryd.prog W = .ok (.string q) W := sl
          clear hq
          have b1 : decide ((j : Int) < (len2 : Int)) = false := decide_eq_false (by omega)
          obtain ⟨v2, hv2⟩ : ∃ v2, v ++ q = v2 := ⟨_, rfl⟩
          have v2z : v2.size = v.size + q.size := by rw [← hv2, ByteArray.size_append]
          have v2y : v2.size ≤ 1250 := by omega
          have HL := Lib.hid (And.intro HR.out.ls HR.out.zz)
          go_wp2_with fail
          refine (of_x 6 kK q 0 0 (q.size : Int) rfl rfl _ HL.out.1 HL.out.2).mono ?_
          rintro e_ w3 ⟨p3, o3, rfl, h_, z_⟩
          clear HL
          have HL := Lib.hid (And.intro h_ z_)
          clear h_ z_
          have h_ := HL.out.1.below (below_alloc _ (.cells #[.int .i64 6, .slice (some ⟨p3, 0, none⟩) 1 1, .int .i64 9, .int .i64 (-1), .int .i64 (q.size : Int), .int .i64 0, .int .u64 0, .bool false, .string q] 27))
          have z_ := HL.out.2.below (below_alloc _ (.cells #[.int .i64 6, .slice (some ⟨p3, 0, none⟩) 1 1, .int .i64 9, .int .i64 (-1), .int .i64 (q.size : Int), .int .i64 0, .int .u64 0, .bool false, .string q] 27))
          clear HL
          have HL := Lib.hid (And.intro h_ z_)
          clear h_ z_
          go_wp2_with fail
          refine (ls_x (jR 6 q) 5 ((j : Int) + 2) kK p3 1 0 rfl rfl rfl rfl (kpt (ab 2) (jE v2 ((j : Int) + 2))) [jE v2 ((j : Int) + 2)] 2 0 nA (by rw [← hv2]; exact (j_app v q _ _ (by omega)).1) (by rw [← hv2]; exact (j_app v q _ _ (by omega)).2) rfl (by omega) (by decide) (by show q.size ≤ _; omega) _ HL.out.1 HL.out.2 (.head _)).mono ?_
          rintro e_ w4 ⟨o4, rfl, h_, z_⟩
          clear HL
          have HL := Lib.hid (And.intro h_ z_)
          clear h_ z_
          have HN : Hid (Jw w w4 o4 P (j + 1) v2) := Lib.hid ⟨by
            have := HL.out.1.sub (vs' := []) (os' := []) (Nat.le_refl _) (fun x hx => by cases hx) (fun x hx => hx)
            rwa [show (((j + 1 : Nat) : Int) + 1) = (j : Int) + 2 by omega], HL.out.2, by have := HR.out.sz; omega⟩
          clear HL hv2
          have fl := fun W => fld0 2 (.slice none 0 0) false 0 nA W
          go_wp2_with fail
          exact ⟨⟨j + 1, v2, o4, by omega, by omega, by go_num, rfl, HN⟩, by simp [intOf]; omega⟩
      · by_cases hb : j < len2
        · have b1 : decide ((j : Int) < (len2 : Int)) = true := decide_eq_true (by omega)
          obtain ⟨pb, offb, rfl, cb⟩ := (HS.out.2.below HR.out.zz.b).at_ hb
          cases hB : B j with
          | true =>
            rw [hB] at cb
            clear hB
            have c1 : decide ((50 : Int) < (s.size : Int)) = false := decide_eq_false (by omega)
            obtain ⟨q, hq⟩ : ∃ q, s = q := ⟨_, rfl⟩
            subst hq
            have qz : s.size ≤ 50 := by omega

            obtain ⟨v2, hv2⟩ : ∃ v2, s ++ v = v2 := ⟨_, rfl⟩
            have v2z : v2.size = v.size + s.size := by rw [← hv2, ByteArray.size_append]; omega
            have v2y : v2.size ≤ 1250 := by omega
            have HL := Lib.hid (And.intro HR.out.ls HR.out.zz)
            go_wp2_with fail
            refine (of_x 7 kK s 0 0 (s.size : Int) rfl rfl _ HL.out.1 HL.out.2).mono ?_
            rintro e_ w3 ⟨p3, o3, rfl, h_, z_⟩
            clear HL
            have HL := Lib.hid (And.intro h_ z_)
            clear h_ z_
            have h_ := HL.out.1.below (below_alloc _ (.cells #[.int .i64 7, .slice (some ⟨p3, 0, none⟩) 1 1, .int .i64 9, .int .i64 (-1), .int .i64 (s.size : Int), .int .i64 0, .int .u64 0, .bool false, .string s] 27))
            have z_ := HL.out.2.below (below_alloc _ (.cells #[.int .i64 7, .slice (some ⟨p3, 0, none⟩) 1 1, .int .i64 9, .int .i64 (-1), .int .i64 (s.size : Int), .int .i64 0, .int .u64 0, .bool false, .string s] 27))
            clear HL
            have HL := Lib.hid (And.intro h_ z_)
            clear h_ z_
            go_wp2_with fail
            refine (ls_x (jR 7 s) 5 ((j : Int) + 2) kK p3 1 0 rfl rfl rfl rfl (kpt (ab 2) (jE v2 ((j : Int) + 2))) [jE v2 ((j : Int) + 2)] 2 0 nA (by rw [← hv2]; exact (j_pre v s _ _ (by omega)).1) (by rw [← hv2]; exact (j_pre v s _ _ (by omega)).2) rfl (by omega) (by decide) (by show s.size ≤ _; omega) _ HL.out.1 HL.out.2 (.head _)).mono ?_
            rintro e_ w4 ⟨o4, rfl, h_, z_⟩
            clear HL
            have HL := Lib.hid (And.intro h_ z_)
            clear h_ z_
            have HN : Hid (Jw w w4 o4 P (j + 1) v2) := Lib.hid ⟨by
              have := HL.out.1.sub (vs' := []) (os' := []) (Nat.le_refl _) (fun x hx => by cases hx) (fun x hx => hx)
              rwa [show (((j + 1 : Nat) : Int) + 1) = (j : Int) + 2 by omega], HL.out.2, by have := HR.out.sz; omega⟩
            clear HL hv2
            have fl := fun W => fld0 2 (.slice none 0 0) false 0 nA W
            go_wp2_with fail
            exact ⟨⟨j + 1, v2, o4, by omega, by omega, by go_num, rfl, HN⟩, by simp [intOf]; omega⟩
          | false =>
            rw [hB] at cb
            clear hB
            have c1 : decide ((50 : Int) < (s.size : Int)) = false := decide_eq_false (by omega)
            obtain ⟨q, hq⟩ : ∃ q, s = q := ⟨_, rfl⟩
            subst hq
            have qz : s.size ≤ 50 := by omega

            obtain ⟨v2, hv2⟩ : ∃ v2, v ++ s = v2 := ⟨_, rfl⟩
            have v2z : v2.size = v.size + s.size := by rw [← hv2, ByteArray.size_append]
            have v2y : v2.size ≤ 1250 := by omega
            have HL := Lib.hid (And.intro HR.out.ls HR.out.zz)
            go_wp2_with fail
            refine (of_x 6 kK s 0 0 (s.size : Int) rfl rfl _ HL.out.1 HL.out.2).mono ?_
            rintro e_ w3 ⟨p3, o3, rfl, h_, z_⟩
            clear HL
            have HL := Lib.hid (And.intro h_ z_)
            clear h_ z_
            have h_ := HL.out.1.below (below_alloc _ (.cells #[.int .i64 6, .slice (some ⟨p3, 0, none⟩) 1 1, .int .i64 9, .int .i64 (-1), .int .i64 (s.size : Int), .int .i64 0, .int .u64 0, .bool false, .string s] 27))
            have z_ := HL.out.2.below (below_alloc _ (.cells #[.int .i64 6, .slice (some ⟨p3, 0, none⟩) 1 1, .int .i64 9, .int .i64 (-1), .int .i64 (s.size : Int), .int .i64 0, .int .u64 0, .bool false, .string s] 27))
            clear HL
            have HL := Lib.hid (And.intro h_ z_)
            clear h_ z_
            go_wp2_with fail
            refine (ls_x (jR 6 s) 5 ((j : Int) + 2) kK p3 1 0 rfl rfl rfl rfl (kpt (ab 2) (jE v2 ((j : Int) + 2))) [jE v2 ((j : Int) + 2)] 2 0 nA (by rw [← hv2]; exact (j_app v s _ _ (by omega)).1) (by rw [← hv2]; exact (j_app v s _ _ (by omega)).2) rfl (by omega) (by decide) (by show s.size ≤ _; omega) _ HL.out.1 HL.out.2 (.head _)).mono ?_
            rintro e_ w4 ⟨o4, rfl, h_, z_⟩
            clear HL
            have HL := Lib.hid (And.intro h_ z_)
            clear h_ z_
            have HN : Hid (Jw w w4 o4 P (j + 1) v2) := Lib.hid ⟨by
              have := HL.out.1.sub (vs' := []) (os' := []) (Nat.le_refl _) (fun x hx => by cases hx) (fun x hx => hx)
              rwa [show (((j + 1 : Nat) : Int) + 1) = (j : Int) + 2 by omega], HL.out.2, by have := HR.out.sz; omega⟩
            clear HL hv2
            have fl := fun W => fld0 2 (.slice none 0 0) false 0 nA W
            go_wp2_with fail
            exact ⟨⟨j + 1, v2, o4, by omega, by omega, by go_num, rfl, HN⟩, by simp [intOf]; omega⟩
        · skip
          have c1 : decide ((50 : Int) < (s.size : Int)) = false := decide_eq_false (by omega)
          obtain ⟨q, hq⟩ : ∃ q, s = q := ⟨_, rfl⟩
          subst hq
          have qz : s.size ≤ 50 := by omega

          have b1 : decide ((j : Int) < (len2 : Int)) = false := decide_eq_false (by omega)
          obtain ⟨v2, hv2⟩ : ∃ v2, v ++ s = v2 := ⟨_, rfl⟩
          have v2z : v2.size = v.size + s.size := by rw [← hv2, ByteArray.size_append]
          have v2y : v2.size ≤ 1250 := by omega
          have HL := Lib.hid (And.intro HR.out.ls HR.out.zz)
          go_wp2_with fail
          refine (of_x 6 kK s 0 0 (s.size : Int) rfl rfl _ HL.out.1 HL.out.2).mono ?_
          rintro e_ w3 ⟨p3, o3, rfl, h_, z_⟩
          clear HL
          have HL := Lib.hid (And.intro h_ z_)
          clear h_ z_
          have h_ := HL.out.1.below (below_alloc _ (.cells #[.int .i64 6, .slice (some ⟨p3, 0, none⟩) 1 1, .int .i64 9, .int .i64 (-1), .int .i64 (s.size : Int), .int .i64 0, .int .u64 0, .bool false, .string s] 27))
          have z_ := HL.out.2.below (below_alloc _ (.cells #[.int .i64 6, .slice (some ⟨p3, 0, none⟩) 1 1, .int .i64 9, .int .i64 (-1), .int .i64 (s.size : Int), .int .i64 0, .int .u64 0, .bool false, .string s] 27))
          clear HL
          have HL := Lib.hid (And.intro h_ z_)
          clear h_ z_
          go_wp2_with fail
          refine (ls_x (jR 6 s) 5 ((j : Int) + 2) kK p3 1 0 rfl rfl rfl rfl (kpt (ab 2) (jE v2 ((j : Int) + 2))) [jE v2 ((j : Int) + 2)] 2 0 nA (by rw [← hv2]; exact (j_app v s _ _ (by omega)).1) (by rw [← hv2]; exact (j_app v s _ _ (by omega)).2) rfl (by omega) (by decide) (by show s.size ≤ _; omega) _ HL.out.1 HL.out.2 (.head _)).mono ?_
          rintro e_ w4 ⟨o4, rfl, h_, z_⟩
          clear HL
          have HL := Lib.hid (And.intro h_ z_)
          clear h_ z_
          have HN : Hid (Jw w w4 o4 P (j + 1) v2) := Lib.hid ⟨by
            have := HL.out.1.sub (vs' := []) (os' := []) (Nat.le_refl _) (fun x hx => by cases hx) (fun x hx => hx)
            rwa [show (((j + 1 : Nat) : Int) + 1) = (j : Int) + 2 by omega], HL.out.2, by have := HR.out.sz; omega⟩
          clear HL hv2
          have fl := fun W => fld0 2 (.slice none 0 0) false 0 nA W
          go_wp2_with fail
          exact ⟨⟨j + 1, v2, o4, by omega, by omega, by go_num, rfl, HN⟩, by simp [intOf]; omega⟩
    · by_cases hq1 : j < len1
      · have i1 : decide ((j : Int) < (len1 : Int)) = true := decide_eq_true (by omega)
        have i2 : decide ((j : Int) < 20) = false := decide_eq_false (by omega)
        have HL := Lib.hid (And.intro HR.out.ls HR.out.zz)
        clear HR
        go_wp2_with fail
        refine (of_x 1 kK nA 0 0 0 rfl rfl _ HL.out.1 HL.out.2).mono ?_
        rintro e_ w3 ⟨p3, o3, rfl, h_, z_⟩
        clear HL
        have HL := Lib.hid (And.intro h_ z_)
        clear h_ z_
        go_wp2_with fail
        refine (lg_x false 1 (ofq 1 nA 0) 6 99 kK p3 1 0 rfl rfl [jE v ((j : Int) + 1)] (fnd_self (jE v ((j : Int) + 1)) 6 (lv0 6)) (by decide) _ HL.out.1 HL.out.2 (.head _) (fun _ _ _ _ h => by cases h)).mono ?_
        rintro e_ w4 ⟨a4, m4, c4, o4, rfl, hm4, h_, z_⟩
        clear HL
        have HL := Lib.hid (And.intro h_ z_)
        clear h_ z_
        subst hm4
        obtain ⟨h_, z_⟩ := Ls.alloc HL.out.1 HL.out.2 3 [.int .i64 1, .slice a4 1 c4, .bool false, .int .u64 0, .string ⟨#[]⟩, .int .i64 0, .int .i64 0, .int .i64 0, .int .i64 0] 32
        clear HL
        have HL := Lib.hid (And.intro h_ z_)
        clear h_ z_
        obtain ⟨gg, hg, x1, x2⟩ : ∃ gg, a4 = some ⟨gg, 0, none⟩ ∧ (w4.alloc (.cells #[.int .i64 1, .slice a4 1 c4, .bool false, .int .u64 0, .string ⟨#[]⟩, .int .i64 0, .int .i64 0, .int .i64 0, .int .i64 0] 32)).cell? ⟨gg, 1, none⟩ = some (.int .i64 3) ∧ (w4.alloc (.cells #[.int .i64 1, .slice a4 1 c4, .bool false, .int .u64 0, .string ⟨#[]⟩, .int .i64 0, .int .i64 0, .int .i64 0, .int .i64 0] 32)).cell? ⟨gg, 2, none⟩ = some (.string v) := by
          obtain ⟨gg, cap, e, _, _, _, _, hc, _⟩ := (HL.out.1.s 1 _ _ _ (.head _)).there (by simp)
          injection e with e1 _ _
          exact ⟨gg, e1, hc 1 _ rfl, hc 2 _ rfl⟩
        subst hg
        go_wp2_with fail
        refine (runs_any _ HL.out.1.tab).mono ?_
        rintro e_ w9 ⟨rfl, hb⟩
        have HB : Hid (Below w.heap.size w w9) := Lib.hid (HL.out.2.b.trans (hb.mono HL.out.2.b.size))
        clear hb HL x1 x2
        go_wp2_with fail
        go_ret
        exact ⟨rfl, HB.out⟩
      · have i1 : decide ((j : Int) < (len1 : Int)) = false := decide_eq_false (by omega)
        have HL := Lib.hid (And.intro HR.out.ls HR.out.zz)
        clear HR
        go_wp2_with fail
        refine (of_x 1 kK nA 0 0 0 rfl rfl _ HL.out.1 HL.out.2).mono ?_
        rintro e_ w3 ⟨p3, o3, rfl, h_, z_⟩
        clear HL
        have HL := Lib.hid (And.intro h_ z_)
        clear h_ z_
        go_wp2_with fail
        refine (lg_x false 1 (ofq 1 nA 0) 6 99 kK p3 1 0 rfl rfl [jE v ((j : Int) + 1)] (fnd_self (jE v ((j : Int) + 1)) 6 (lv0 6)) (by decide) _ HL.out.1 HL.out.2 (.head _) (fun _ _ _ _ h => by cases h)).mono ?_
        rintro e_ w4 ⟨a4, m4, c4, o4, rfl, hm4, h_, z_⟩
        clear HL
        have HL := Lib.hid (And.intro h_ z_)
        clear h_ z_
        subst hm4
        obtain ⟨h_, z_⟩ := Ls.alloc HL.out.1 HL.out.2 3 [.int .i64 1, .slice a4 1 c4, .bool false, .int .u64 0, .string ⟨#[]⟩, .int .i64 0, .int .i64 0, .int .i64 0, .int .i64 0] 32
        clear HL
        have HL := Lib.hid (And.intro h_ z_)
        clear h_ z_
        obtain ⟨gg, hg, x1, x2⟩ : ∃ gg, a4 = some ⟨gg, 0, none⟩ ∧ (w4.alloc (.cells #[.int .i64 1, .slice a4 1 c4, .bool false, .int .u64 0, .string ⟨#[]⟩, .int .i64 0, .int .i64 0, .int .i64 0, .int .i64 0] 32)).cell? ⟨gg, 1, none⟩ = some (.int .i64 3) ∧ (w4.alloc (.cells #[.int .i64 1, .slice a4 1 c4, .bool false, .int .u64 0, .string ⟨#[]⟩, .int .i64 0, .int .i64 0, .int .i64 0, .int .i64 0] 32)).cell? ⟨gg, 2, none⟩ = some (.string v) := by
          obtain ⟨gg, cap, e, _, _, _, _, hc, _⟩ := (HL.out.1.s 1 _ _ _ (.head _)).there (by simp)
          injection e with e1 _ _
          exact ⟨gg, e1, hc 1 _ rfl, hc 2 _ rfl⟩
        subst hg
        go_wp2_with fail
        refine (runs_any _ HL.out.1.tab).mono ?_
        rintro e_ w9 ⟨rfl, hb⟩
        have HB : Hid (Below w.heap.size w w9) := Lib.hid (HL.out.2.b.trans (hb.mono HL.out.2.b.size))
        clear hb HL x1 x2
        go_wp2_with fail
        go_ret
        exact ⟨rfl, HB.out⟩
end Go.Proofs.YtpkmfckifnomeaaDoor
