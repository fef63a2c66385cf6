/-
  ModelCounts.
-/
import Derived.Test.YtpkmfckifnomeaaDoorSf
namespace Go.Proofs.YtpkmfckifnomeaaDoor
open Go.RowKit

open Go.Lib (TabIs pow10Tab decDigits nDigits decDigits_length numDigits_eq nDigits_small)
theorem ng_append (most : Nat) : ∀ (l : B) (a : Nat) (r : B), ng most a (l ++ r) = (ng most a l).bind fun v => ng most v r
  | [], a, r => rfl
  | c :: l, a, r => by
    rw [List.cons_append, ng, ng]
    split
    · exact ng_append most l _ r
    · rfl
theorem dg_toNat {k : Nat} (h : k < 10) : (UInt8.ofNat (48 + k)).toNat = 48 + k := by
  rw [UInt8.toNat_ofNat']; omega
theorem ng_dec (most : Nat) (u : Nat) : ng most 0 (decDigits u) = if u ≤ most then some u else none := by
  induction u using Nat.strongRecOn with
  | _ u ih =>
    by_cases h : u < 10
    · rw [decDigits, dif_pos h, ng, dg_toNat h]
      by_cases h2 : u ≤ most
      · rw [if_pos ⟨by omega, by omega, by omega⟩, if_pos h2, ng]
        congr 1; omega
      · rw [if_neg (by omega), if_neg h2]
    · rw [decDigits, dif_neg h, ng_append, ih (u / 10) (by omega)]
      by_cases h2 : u / 10 ≤ most
      · rw [if_pos h2]
        show ng most (u / 10) _ = _
        rw [ng, dg_toNat (Nat.mod_lt _ (by omega))]
        by_cases h3 : u ≤ most
        · rw [if_pos ⟨by omega, by omega, by omega⟩, if_pos h3, ng]
          congr 1; omega
        · rw [if_neg (by omega), if_neg h3]
      · rw [if_neg h2, if_neg (by omega)]; rfl
theorem ng_zeros (most : Nat) : ∀ (k : Nat) (r : B), ng most 0 (List.replicate k 48 ++ r) = ng most 0 r
  | 0, r => rfl
  | k + 1, r => by
    rw [List.replicate_succ, List.cons_append, ng, if_pos ⟨by decide, by decide, by simp⟩]
    exact ng_zeros most k r
theorem num_dec {u : Nat} (h : u < 18446744073709551616) (most k : Nat) (hk : k + (decDigits u).length ≤ 20) : num most (List.replicate k 48 ++ decDigits u) = if u ≤ most then some u else none := by
  have := dec_len h
  unfold num
  rw [if_pos (by rw [List.length_append, List.length_replicate]; omega), ng_zeros, ng_dec]
theorem dec_num {u : Nat} (h : u < 18446744073709551616) (most : Nat) (hm : u ≤ most) : num most (decDigits u) = some u := by
  have := num_dec h most 0 (by have := dec_len h; omega)
  rwa [if_pos hm] at this
def kN : ByteArray := ⟨#[110]⟩
def cE (u : Nat) (c : Int) : En := ⟨kN, 0, 0, S (decDigits u), c⟩
theorem lvz (now : Int) : lv 0 now = true := rfl
theorem c_set (u : Nat) : q1 (ofq 3 (S (decDigits u)) 0) kN 0 1 [] = kpt (ab 2) (cE u 1) ∧ stp (ofq 3 (S (decDigits u)) 0) kN 0 1 [] = [cE u 1] := by
  have e : q1 (ofq 3 (S (decDigits u)) 0) kN 0 1 [] = kpt (ab 2) (cE u 1) := by unfold q1; rw [nxt_3 rfl]; rfl
  exact ⟨e, stp_new e⟩
theorem c_cou (up : Bool) (u d : Nat) (c ver : Int) (hu : u < 18446744073709551616) : cou up (cE u c) true d ver = kpt ⟨8, ((cnt up u d : Nat) : Int), nA⟩ (cE (cnt up u d) ver) := by
  have hn := dec_num hu 18446744073709551615 (by omega)
  obtain ⟨e1, e2⟩ := num_some hn
  have h1 : nv 18446744073709551615 (L (cE u c).val) = u := by show nv _ (L (S _)) = u; rw [L_S, e1]
  have h2 : nb 18446744073709551615 (L (cE u c).val) = true := by show nb _ (L (S _)) = true; rw [L_S, e2]
  unfold cou
  rw [if_neg (by simp), if_neg (by rw [h2]; simp), h1]
  rfl
theorem c_up (u d : Nat) (c ver : Int) (hu : u < 18446744073709551616) : q1 (ofq 10 nA d) kN 0 ver [cE u c] = kpt ⟨8, ((cnt true u d : Nat) : Int), nA⟩ (cE (cnt true u d) ver) ∧ stp (ofq 10 nA d) kN 0 ver [cE u c] = [cE (cnt true u d) ver] := by
  have e : q1 (ofq 10 nA d) kN 0 ver [cE u c] = kpt ⟨8, ((cnt true u d : Nat) : Int), nA⟩ (cE (cnt true u d) ver) := by
    unfold q1
    rw [show liv [cE u c] kN 0 = (cE u c, true) from liv_self (cE u c) 0 (lvz 0), nxt_10 rfl]
    exact c_cou true u d c ver hu
  exact ⟨e, stp_keep (e := cE u c) rfl e⟩
theorem c_down (u d : Nat) (c ver : Int) (hu : u < 18446744073709551616) : q1 (ofq 11 nA d) kN 0 ver [cE u c] = kpt ⟨8, ((cnt false u d : Nat) : Int), nA⟩ (cE (cnt false u d) ver) ∧ stp (ofq 11 nA d) kN 0 ver [cE u c] = [cE (cnt false u d) ver] := by
  have e : q1 (ofq 11 nA d) kN 0 ver [cE u c] = kpt ⟨8, ((cnt false u d : Nat) : Int), nA⟩ (cE (cnt false u d) ver) := by
    unfold q1
    rw [show liv [cE u c] kN 0 = (cE u c, true) from liv_self (cE u c) 0 (lvz 0), nxt_11 rfl]
    exact c_cou false u d c ver hu
  exact ⟨e, stp_keep (e := cE u c) rfl e⟩
/-- The law on its way. -/
structure Cw (w wr : World) (o : Nat → Nat × Nat) (P j u : Nat) : Prop where
  ls : Ls wr o P (j + 1) [cE u ((j : Int) + 1)] [] []
  zz : Zz w wr o
theorem below_drew (w : World) : Below w.heap.size w w.drew := (Below.refl _ w).drew
theorem drew_below {w w' : World} (h : Below w.drew.heap.size w.drew w') : Below w.heap.size w w' := (below_drew w).trans h
set_option maxRecDepth 100000 in
set_option maxHeartbeats 8000000 in
theorem counts_walk (first : Nat) (a1 : Option Addr) (len1 cap1 : Nat) (U : Nat → Nat) (a2 : Option Addr) (len2 cap2 : Nat) (B : Nat → Bool) (hf : first < 18446744073709551616) (n1 : len1 ≤ 9223372036854775807) (w : World) (hU : ∀ i, i < len1 → U i < 18446744073709551616) (s1 : CellF w a1 (fun i => .int .u64 ((U i : Nat) : Int)) len1) (s2 : CellF w a2 (fun i => .bool (B i)) len2) (htab : TabIs Tryd.prog w "internal/strconv.uint64pow10" .u64 pow10Tab) :
    Calls Tryd.prog 7 #[.int .u64 (first : Int), .slice a1 len1 cap1, .slice a2 len2 cap2] w fun e w' => e = .returned (.bool true) ∧ Below w.heap.size w w' := by
  have HTAB := Lib.hid htab
  have HS := Lib.hid (And.intro s1 (And.intro s2 hU))
  clear htab s1 s2 hU
  have dz0 := dec_len hf
  go_enter Tryd.func7, Tryd.ntmps7
  go_wp2_with fail
  refine (ls_new w HTAB.out).mono ?_
  rintro e_ w0 ⟨P, o_, rfl, h_, z_⟩
  clear HTAB
  have HL := Lib.hid (And.intro h_ z_)
  clear h_ z_
  go_wp2_with fail
  refine (fmt_any first hf _ HL.out.1.tab).mono ?_
  rintro e_ w00 ⟨rfl, hb⟩
  have h_ := HL.out.1.below hb
  have z_ := HL.out.2.below hb
  clear hb
  clear HL
  have HL := Lib.hid (And.intro h_ z_)
  clear h_ z_
  obtain ⟨ds, hds⟩ : ∃ ds, S (decDigits first) = ds := ⟨_, rfl⟩
  have dsz : ds.size ≤ 20 := by rw [← hds, S_size]; exact dz0.2
  have CS := Lib.hid (c_set first)
  rw [hds] at CS ⊢
  clear hds
  go_wp2_with fail
  refine (of_x 3 kN ds 0 0 (ds.size : Int) rfl rfl _ HL.out.1 HL.out.2).mono ?_
  rintro e_ w1 ⟨p1, o1, rfl, h_, z_⟩
  clear HL
  have HL := Lib.hid (And.intro h_ z_)
  clear h_ z_
  go_wp2_with fail
  refine (ls_x (ofq 3 ds 0) 0 1 kN p1 1 0 rfl rfl rfl rfl (kpt (ab 2) (cE first 1)) [cE first 1] 2 0 nA CS.out.1 CS.out.2 rfl (by omega) (by decide) (by show ds.size ≤ _; omega) _ HL.out.1 HL.out.2 (.head _)).mono ?_
  rintro e_ w2 ⟨o2, rfl, h_, z_⟩
  clear HL
  have HL := Lib.hid (And.intro h_ z_)
  clear h_ z_
  have HJ : Hid (Cw w w2 o2 P 0 first) := Lib.hid ⟨HL.out.1.sub (Nat.le_refl _) (fun x hx => by cases hx) (fun x hx => hx), HL.out.2⟩
  clear HL CS
  go_wp2_with fail
  go_loopw [8, 9] (fun wv i wr => ∃ (j u : Nat) (o1 : Nat → Nat × Nat), j ≤ 30 ∧ j ≤ len1 ∧ i = .int .i64 (j : Int) ∧ wv = .int .u64 (u : Int) ∧ u < 18446744073709551616 ∧ Hid (Cw w wr o1 P j u)) (fun _ i _ => 30 - (intOf i).toNat)
  case atStart => exact ⟨0, first, o2, by omega, by omega, rfl, rfl, hf, HJ⟩
  case round =>
    obtain ⟨j, u, o1, hj1, hj2, rfl, rfl, hu, HR⟩ := hrel
    clear HJ
    by_cases hlt : j < len1 ∧ j < 30
    · obtain ⟨hl1, hl2⟩ := hlt
      have i1 : decide ((j : Int) < (len1 : Int)) = true := decide_eq_true (by omega)
      have i2 : decide ((j : Int) < 30) = true := decide_eq_true (by omega)
      obtain ⟨pa, offa, rfl, ca⟩ := (HS.out.1.below HR.out.zz.b).at_ hl1
      have hd := HS.out.2.2 j hl1
      obtain ⟨d, hs⟩ : ∃ d, U j = d := ⟨_, rfl⟩
      rw [hs] at ca hd
      clear hs
      by_cases hb : j < len2
      · have b1 : decide ((j : Int) < (len2 : Int)) = true := decide_eq_true (by omega)
        obtain ⟨pb, offb, rfl, cb⟩ := (HS.out.2.1.below HR.out.zz.b).at_ hb
        cases hB : B j with
        | true =>
          rw [hB] at cb
          clear hB
          obtain ⟨u2, hu2⟩ : ∃ u2, cnt false u d = u2 := ⟨_, rfl⟩
          have u2z : u2 < 18446744073709551616 := by rw [← hu2]; exact cnt_lt _ _ _ hu
          obtain ⟨m, hm⟩ : ∃ m : Nat, min u d = m := ⟨_, rfl⟩
          have k0 : min (u : Int) (d : Int) = (m : Int) := by omega
          have k1 : IntKind.u64.wrap ((u : Int) - (m : Int)) = (u2 : Int) := by rw [IntKind.wrap_u64, ← hu2]; simp only [cnt]; simp only [Bool.false_eq_true, if_false]; omega
          clear hm
          have CC := Lib.hid (c_down u d ((j : Int) + 1) ((j : Int) + 2) hu)
          rw [hu2] at CC
          clear hu2
          have HL := Lib.hid (And.intro HR.out.ls HR.out.zz)
          go_wp2_with fail
          refine (of_x 11 kN nA d (d : Int) 0 rfl rfl _ HL.out.1 HL.out.2).mono ?_
          rintro e_ w3 ⟨p3, o3, rfl, h_, z_⟩
          clear HL
          have HL := Lib.hid (And.intro h_ z_)
          clear h_ z_
          go_wp2_with fail
          refine (ls_x (ofq 11 nA d) 0 ((j : Int) + 2) kN p3 1 (d : Int) rfl rfl rfl rfl (kpt ⟨8, (u2 : Int), nA⟩ (cE u2 ((j : Int) + 2))) [cE u2 ((j : Int) + 2)] 8 (u2 : Int) nA CC.out.1 CC.out.2 rfl (by omega) (by decide) (by show nA.size ≤ _; decide) _ HL.out.1 HL.out.2 (.head _)).mono ?_
          rintro e_ w4 ⟨o4, rfl, h_, z_⟩
          clear HL
          have HL := Lib.hid (And.intro h_ z_)
          clear h_ z_
          have HN : Hid (Cw w (w4.alloc (.cells #[.int .i64 8, .slice none 0 0, .bool false, .int .u64 (u2 : Int), .string nA, .int .i64 0, .int .i64 0, .int .i64 0, .int .i64 0] 32)) o4 P (j + 1) u2) := Lib.hid ⟨by
            have := (HL.out.1.sub (vs' := []) (os' := []) (Nat.le_refl _) (fun x hx => by cases hx) (fun x hx => hx)).below (below_alloc _ (.cells #[.int .i64 8, .slice none 0 0, .bool false, .int .u64 (u2 : Int), .string nA, .int .i64 0, .int .i64 0, .int .i64 0, .int .i64 0] 32))
            rwa [show (((j + 1 : Nat) : Int) + 1) = (j : Int) + 2 by omega], HL.out.2.below (below_alloc _ _)⟩
          clear HL CC
          go_wp2_with fail
          exact ⟨⟨j + 1, u2, o4, by omega, by omega, by go_num, rfl, u2z, HN⟩, by simp [intOf]; omega⟩
        | false =>
          rw [hB] at cb
          clear hB
          obtain ⟨u2, hu2⟩ : ∃ u2, cnt true u d = u2 := ⟨_, rfl⟩
          have u2z : u2 < 18446744073709551616 := by rw [← hu2]; exact cnt_lt _ _ _ hu
          have k1 : IntKind.u64.wrap ((u : Int) + (d : Int)) = (u2 : Int) := by rw [IntKind.wrap_u64, ← hu2]; simp only [cnt, if_true]; omega
          have CC := Lib.hid (c_up u d ((j : Int) + 1) ((j : Int) + 2) hu)
          rw [hu2] at CC
          clear hu2
          have HL := Lib.hid (And.intro HR.out.ls HR.out.zz)
          go_wp2_with fail
          refine (of_x 10 kN nA d (d : Int) 0 rfl rfl _ HL.out.1 HL.out.2).mono ?_
          rintro e_ w3 ⟨p3, o3, rfl, h_, z_⟩
          clear HL
          have HL := Lib.hid (And.intro h_ z_)
          clear h_ z_
          go_wp2_with fail
          refine (ls_x (ofq 10 nA d) 0 ((j : Int) + 2) kN p3 1 (d : Int) rfl rfl rfl rfl (kpt ⟨8, (u2 : Int), nA⟩ (cE u2 ((j : Int) + 2))) [cE u2 ((j : Int) + 2)] 8 (u2 : Int) nA CC.out.1 CC.out.2 rfl (by omega) (by decide) (by show nA.size ≤ _; decide) _ HL.out.1 HL.out.2 (.head _)).mono ?_
          rintro e_ w4 ⟨o4, rfl, h_, z_⟩
          clear HL
          have HL := Lib.hid (And.intro h_ z_)
          clear h_ z_
          have HN : Hid (Cw w (w4.alloc (.cells #[.int .i64 8, .slice none 0 0, .bool false, .int .u64 (u2 : Int), .string nA, .int .i64 0, .int .i64 0, .int .i64 0, .int .i64 0] 32)) o4 P (j + 1) u2) := Lib.hid ⟨by
            have := (HL.out.1.sub (vs' := []) (os' := []) (Nat.le_refl _) (fun x hx => by cases hx) (fun x hx => hx)).below (below_alloc _ (.cells #[.int .i64 8, .slice none 0 0, .bool false, .int .u64 (u2 : Int), .string nA, .int .i64 0, .int .i64 0, .int .i64 0, .int .i64 0] 32))
            rwa [show (((j + 1 : Nat) : Int) + 1) = (j : Int) + 2 by omega], HL.out.2.below (below_alloc _ _)⟩
          clear HL CC
          go_wp2_with fail
          exact ⟨⟨j + 1, u2, o4, by omega, by omega, by go_num, rfl, u2z, HN⟩, by simp [intOf]; omega⟩
      · skip
        have b1 : decide ((j : Int) < (len2 : Int)) = false := decide_eq_false (by omega)
        obtain ⟨u2, hu2⟩ : ∃ u2, cnt true u d = u2 := ⟨_, rfl⟩
        have u2z : u2 < 18446744073709551616 := by rw [← hu2]; exact cnt_lt _ _ _ hu
        have k1 : IntKind.u64.wrap ((u : Int) + (d : Int)) = (u2 : Int) := by rw [IntKind.wrap_u64, ← hu2]; simp only [cnt, if_true]; omega
        have CC := Lib.hid (c_up u d ((j : Int) + 1) ((j : Int) + 2) hu)
        rw [hu2] at CC
        clear hu2
        have HL := Lib.hid (And.intro HR.out.ls HR.out.zz)
        go_wp2_with fail
        refine (of_x 10 kN nA d (d : Int) 0 rfl rfl _ HL.out.1 HL.out.2).mono ?_
        rintro e_ w3 ⟨p3, o3, rfl, h_, z_⟩
        clear HL
        have HL := Lib.hid (And.intro h_ z_)
        clear h_ z_
        go_wp2_with fail
        refine (ls_x (ofq 10 nA d) 0 ((j : Int) + 2) kN p3 1 (d : Int) rfl rfl rfl rfl (kpt ⟨8, (u2 : Int), nA⟩ (cE u2 ((j : Int) + 2))) [cE u2 ((j : Int) + 2)] 8 (u2 : Int) nA CC.out.1 CC.out.2 rfl (by omega) (by decide) (by show nA.size ≤ _; decide) _ HL.out.1 HL.out.2 (.head _)).mono ?_
        rintro e_ w4 ⟨o4, rfl, h_, z_⟩
        clear HL
        have HL := Lib.hid (And.intro h_ z_)
        clear h_ z_
        have HN : Hid (Cw w (w4.alloc (.cells #[.int .i64 8, .slice none 0 0, .bool false, .int .u64 (u2 : Int), .string nA, .int .i64 0, .int .i64 0, .int .i64 0, .int .i64 0] 32)) o4 P (j + 1) u2) := Lib.hid ⟨by
          have := (HL.out.1.sub (vs' := []) (os' := []) (Nat.le_refl _) (fun x hx => by cases hx) (fun x hx => hx)).below (below_alloc _ (.cells #[.int .i64 8, .slice none 0 0, .bool false, .int .u64 (u2 : Int), .string nA, .int .i64 0, .int .i64 0, .int .i64 0, .int .i64 0] 32))
          rwa [show (((j + 1 : Nat) : Int) + 1) = (j : Int) + 2 by omega], HL.out.2.below (below_alloc _ _)⟩
        clear HL CC
        go_wp2_with fail
        exact ⟨⟨j + 1, u2, o4, by omega, by omega, by go_num, rfl, u2z, HN⟩, by simp [intOf]; omega⟩
    · by_cases hq1 : j < len1
      · have i1 : decide ((j : Int) < (len1 : Int)) = true := decide_eq_true (by omega)
        have i2 : decide ((j : Int) < 30) = false := decide_eq_false (by omega)
        have HL := Lib.hid (And.intro HR.out.ls HR.out.zz)
        clear HR
        go_wp2_with fail
        refine (of_x 1 kN nA 0 0 0 rfl rfl _ HL.out.1 HL.out.2).mono ?_
        rintro e_ w3 ⟨p3, o3, rfl, h_, z_⟩
        clear HL
        have HL := Lib.hid (And.intro h_ z_)
        clear h_ z_
        go_wp2_with fail
        refine (lg_x false 1 (ofq 1 nA 0) 0 99 kN p3 1 0 rfl rfl [cE u ((j : Int) + 1)] (fnd_self (cE u ((j : Int) + 1)) 0 (lvz 0)) (by decide) _ HL.out.1 HL.out.2 (.head _) (fun _ _ _ _ h => by cases h)).mono ?_
        rintro e_ w4 ⟨a4, m4, c4, o4, rfl, hm4, h_, z_⟩
        clear HL
        have HL := Lib.hid (And.intro h_ z_)
        clear h_ z_
        subst hm4
        obtain ⟨h_, z_⟩ := Ls.alloc HL.out.1 HL.out.2 3 [.int .i64 1, .slice a4 1 c4, .bool false, .int .u64 0, .string ⟨#[]⟩, .int .i64 0, .int .i64 0, .int .i64 0, .int .i64 0] 32
        clear HL
        have HL := Lib.hid (And.intro h_ z_)
        clear h_ z_
        obtain ⟨ds, hds⟩ : ∃ ds, S (decDigits u) = ds := ⟨_, rfl⟩
        obtain ⟨gg, hg, x2⟩ : ∃ gg, a4 = some ⟨gg, 0, none⟩ ∧ (w4.alloc (.cells #[.int .i64 1, .slice a4 1 c4, .bool false, .int .u64 0, .string ⟨#[]⟩, .int .i64 0, .int .i64 0, .int .i64 0, .int .i64 0] 32)).cell? ⟨gg, 2, none⟩ = some (.string ds) := by
          obtain ⟨gg, cap, e, _, _, _, _, hc, _⟩ := (HL.out.1.s 1 _ _ _ (.head _)).there (by simp)
          injection e with e1 _ _
          exact ⟨gg, e1, by rw [← hds]; exact hc 2 _ rfl⟩
        subst hg
        have FM := Lib.hid (fun W ht => fmt_any u hu W ht)
        rw [hds] at FM
        clear hds
        have x1 : (w4.alloc (.cells #[.int .i64 1, .slice (some ⟨gg, 0, none⟩) 1 c4, .bool false, .int .u64 0, .string ⟨#[]⟩, .int .i64 0, .int .i64 0, .int .i64 0, .int .i64 0] 32)).cell? ⟨w4.heap.size, 1, none⟩ = some (.slice (some ⟨gg, 0, none⟩) 1 c4) := HL.out.1.cell (.head _) rfl
        have HT : Hid (TabIs Tryd.prog (w4.alloc (.cells #[.int .i64 1, .slice (some ⟨gg, 0, none⟩) 1 c4, .bool false, .int .u64 0, .string ⟨#[]⟩, .int .i64 0, .int .i64 0, .int .i64 0, .int .i64 0] 32)) "internal/strconv.uint64pow10" .u64 pow10Tab) := Lib.hid HL.out.1.tab
        have HBW : Hid (Below w.heap.size w (w4.alloc (.cells #[.int .i64 1, .slice (some ⟨gg, 0, none⟩) 1 c4, .bool false, .int .u64 0, .string ⟨#[]⟩, .int .i64 0, .int .i64 0, .int .i64 0, .int .i64 0] 32))) := Lib.hid HL.out.2.b
        clear HL
        go_wp2_with fail
        go_region_with (first
          | (go_at_call 23; refine (FM.out _ (by first | exact HT.out | exact tabIs_below HT.out (below_drew _))).mono ?_; rintro e_ w8 ⟨rfl, hb8⟩; have x1' := cell_b x1 (by first | exact hb8 | exact drew_below hb8); have x2' := cell_b x2 (by first | exact hb8 | exact drew_below hb8); have HT8 : Hid (TabIs Tryd.prog w8 "internal/strconv.uint64pow10" .u64 pow10Tab) := Lib.hid (tabIs_below HT.out (by first | exact hb8 | exact drew_below hb8)); have HB8 : Hid (Below w.heap.size w w8) := Lib.hid (HBW.out.trans (Below.mono (by first | exact hb8 | exact drew_below hb8) HBW.out.size)); clear hb8)
          | (go_at_call 3; refine (runs_any _ HT8.out).mono ?_; rintro e_ w9 ⟨rfl, hb9⟩; have HB9 : Hid (Below w.heap.size w w9) := Lib.hid (HB8.out.trans (hb9.mono HB8.out.size)); clear hb9))
        all_goals
          (go_wp2_with fail
           go_ret
           exact ⟨rfl, HB9.out⟩)
      · have i1 : decide ((j : Int) < (len1 : Int)) = false := decide_eq_false (by omega)
        have HL := Lib.hid (And.intro HR.out.ls HR.out.zz)
        clear HR
        go_wp2_with fail
        refine (of_x 1 kN nA 0 0 0 rfl rfl _ HL.out.1 HL.out.2).mono ?_
        rintro e_ w3 ⟨p3, o3, rfl, h_, z_⟩
        clear HL
        have HL := Lib.hid (And.intro h_ z_)
        clear h_ z_
        go_wp2_with fail
        refine (lg_x false 1 (ofq 1 nA 0) 0 99 kN p3 1 0 rfl rfl [cE u ((j : Int) + 1)] (fnd_self (cE u ((j : Int) + 1)) 0 (lvz 0)) (by decide) _ HL.out.1 HL.out.2 (.head _) (fun _ _ _ _ h => by cases h)).mono ?_
        rintro e_ w4 ⟨a4, m4, c4, o4, rfl, hm4, h_, z_⟩
        clear HL
        have HL := Lib.hid (And.intro h_ z_)
        clear h_ z_
        subst hm4
        obtain ⟨h_, z_⟩ := Ls.alloc HL.out.1 HL.out.2 3 [.int .i64 1, .slice a4 1 c4, .bool false, .int .u64 0, .string ⟨#[]⟩, .int .i64 0, .int .i64 0, .int .i64 0, .int .i64 0] 32
        clear HL
        have HL := Lib.hid (And.intro h_ z_)
        clear h_ z_
        obtain ⟨ds, hds⟩ : ∃ ds, S (decDigits u) = ds := ⟨_, rfl⟩
        obtain ⟨gg, hg, x2⟩ : ∃ gg, a4 = some ⟨gg, 0, none⟩ ∧ (w4.alloc (.cells #[.int .i64 1, .slice a4 1 c4, .bool false, .int .u64 0, .string ⟨#[]⟩, .int .i64 0, .int .i64 0, .int .i64 0, .int .i64 0] 32)).cell? ⟨gg, 2, none⟩ = some (.string ds) := by
          obtain ⟨gg, cap, e, _, _, _, _, hc, _⟩ := (HL.out.1.s 1 _ _ _ (.head _)).there (by simp)
          injection e with e1 _ _
          exact ⟨gg, e1, by rw [← hds]; exact hc 2 _ rfl⟩
        subst hg
        have FM := Lib.hid (fun W ht => fmt_any u hu W ht)
        rw [hds] at FM
        clear hds
        have x1 : (w4.alloc (.cells #[.int .i64 1, .slice (some ⟨gg, 0, none⟩) 1 c4, .bool false, .int .u64 0, .string ⟨#[]⟩, .int .i64 0, .int .i64 0, .int .i64 0, .int .i64 0] 32)).cell? ⟨w4.heap.size, 1, none⟩ = some (.slice (some ⟨gg, 0, none⟩) 1 c4) := HL.out.1.cell (.head _) rfl
        have HT : Hid (TabIs Tryd.prog (w4.alloc (.cells #[.int .i64 1, .slice (some ⟨gg, 0, none⟩) 1 c4, .bool false, .int .u64 0, .string ⟨#[]⟩, .int .i64 0, .int .i64 0, .int .i64 0, .int .i64 0] 32)) "internal/strconv.uint64pow10" .u64 pow10Tab) := Lib.hid HL.out.1.tab
        have HBW : Hid (Below w.heap.size w (w4.alloc (.cells #[.int .i64 1, .slice (some ⟨gg, 0, none⟩) 1 c4, .bool false, .int .u64 0, .string ⟨#[]⟩, .int .i64 0, .int .i64 0, .int .i64 0, .int .i64 0] 32))) := Lib.hid HL.out.2.b
        clear HL
        go_wp2_with fail
        go_region_with (first
          | (go_at_call 23; refine (FM.out _ (by first | exact HT.out | exact tabIs_below HT.out (below_drew _))).mono ?_; rintro e_ w8 ⟨rfl, hb8⟩; have x1' := cell_b x1 (by first | exact hb8 | exact drew_below hb8); have x2' := cell_b x2 (by first | exact hb8 | exact drew_below hb8); have HT8 : Hid (TabIs Tryd.prog w8 "internal/strconv.uint64pow10" .u64 pow10Tab) := Lib.hid (tabIs_below HT.out (by first | exact hb8 | exact drew_below hb8)); have HB8 : Hid (Below w.heap.size w w8) := Lib.hid (HBW.out.trans (Below.mono (by first | exact hb8 | exact drew_below hb8) HBW.out.size)); clear hb8)
          | (go_at_call 3; refine (runs_any _ HT8.out).mono ?_; rintro e_ w9 ⟨rfl, hb9⟩; have HB9 : Hid (Below w.heap.size w w9) := Lib.hid (HB8.out.trans (hb9.mono HB8.out.size)); clear hb9))
        all_goals
          (go_wp2_with fail
           go_ret
           exact ⟨rfl, HB9.out⟩)
end Go.Proofs.YtpkmfckifnomeaaDoor
