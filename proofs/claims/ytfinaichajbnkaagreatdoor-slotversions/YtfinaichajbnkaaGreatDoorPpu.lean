/-
  put: what a request has is kept, unless a later version stands there.
-/
import Derived.Test.YtfinaichajbnkaaGreatDoorPgt
import Derived.Test.YtfinaichajbnkaaGreatDoorPutI
namespace Go.Proofs.YtfinaichajbnkaaGreatDoor
open Go.RowKit
open Wi (F enc fold unf lf sb OwnC RowF tab IsRd pk)

/-- The version that stands there then, the error. -/
def putR (s : Sl) (f : F) : Int × Nat := match got s.z f with
  | some (v, _) => if f.ver < v then (v, 0) else (f.ver, ((s.z.touch (nm f)).put (nm f) (kp f.ver f.data) false).2.1)
  | none => (f.ver, ((s.z.touch (nm f)).put (nm f) (kp f.ver f.data) false).2.1)
theorem put_of (s : Sl) (f : F) : (s.put f).1 = if (putR s f).2 = 0 then { s.an f with ver := (putR s f).1 } else s.no f := by
  unfold Sl.put putR
  cases got s.z f with
  | none => simp only; split <;> rfl
  | some g =>
    obtain ⟨v, dd⟩ := g
    simp only
    by_cases h : f.ver < v
    · simp only [if_pos h]; rfl
    · simp only [if_neg h]; split <;> rfl
theorem put_z (s : Sl) (f : F) (h : ∀ v dd, got s.z f = some (v, dd) → ¬ f.ver < v) : putR s f = (f.ver, ((s.z.touch (nm f)).put (nm f) (kp f.ver f.data) false).2.1) ∧ (s.put f).2 = ((s.z.touch (nm f)).put (nm f) (kp f.ver f.data) false).2.2 := by
  unfold Sl.put putR
  cases hg : got s.z f with
  | none => exact ⟨rfl, by simp only; split <;> rfl⟩
  | some g =>
    obtain ⟨v, dd⟩ := g
    have := h v dd hg
    simp only [if_neg this]
    exact ⟨trivial, by split <;> rfl⟩
theorem put_zl (s : Sl) (f : F) {v : Int} {dd : ByteArray} (hg : got s.z f = some (v, dd)) (h : f.ver < v) : putR s f = (v, 0) ∧ (s.put f).2 = s.z.touch (nm f) := by
  unfold Sl.put putR
  rw [hg]
  simp only [if_pos h]
  exact ⟨trivial, trivial⟩
set_option maxRecDepth 100000 in
set_option maxHeartbeats 1000000 in
theorem pput_any (X : Nat) (s : Sl) (C : Nat) (D : Value) (d : List F) (f : F) (hr : f.role = 1 ∨ f.role = 2) (hk : f.key.size ≤ 1000000) (hd : f.data.size ≤ 100000000) (hv1 : -9223372036854775808 ≤ f.ver) (hv2 : f.ver ≤ 9223372036854775807) (w : World) (o : Nat → Nat × Nat) (h : IsPl w o X s C D d) :
    Calls Tryz.prog 36 #[.pointer (some ⟨X, 0, none⟩), f.v] w fun e w' => e = .returned (.tuple #[.int .i64 (putR s f).1, .int .i64 (((putR s f).2 : Nat) : Int)]) ∧ ∃ o', IsPl w' o' X { s with z := (s.put f).2 } C D d ∧ Fr TS o o' w w' := by
  have NC : Hid (∀ W, Calls Tryz.prog 46 #[.slice none 0 0, .int .i64 f.ver] W fun e w' => ∃ v, e = .returned v ∧ OwnC w' W.heap.size v (enc (fold f.ver)) ∧ Below W.heap.size W w') := hid (fun W => by
    have h := Wi.num_any none 0 0 (lf []) f.ver hv1 hv2 (by omega) W (.inl rfl)
    rw [tab0] at h; exact h)
  obtain ⟨L, hL⟩ : ∃ L, enc (fold f.ver) = L := ⟨_, rfl⟩
  have hlen : L.length ≤ 10 := by rw [← hL]; exact Wi.enc_len10 (Wi.fold_lt hv1 hv2)
  rw [hL] at NC
  obtain ⟨sx, hsx⟩ : ∃ sx, bs L = sx := ⟨_, rfl⟩
  have hsz2 : sx.size ≤ 10 := by rw [← hsx, bs_size]; exact hlen
  have HSX : Hid (Wi.mkS (lf L) L.length = sx) := hid hsx
  have ha1 : ∀ w, (Op.stringOp .add sx f.data).run Tryz.prog w = .ok (.string (sx ++ f.data)) w := fun w => by rw [run_string_add_sum w sx f.data (by omega)]
  have hlim1 : ¬ (9223372036854775807 < sx.size + f.data.size) := by omega
  have HKP : Hid (kp f.ver f.data = sx ++ f.data) := hid (by unfold kp; rw [hL, hsx])
  have HKZ : Hid ((kp f.ver f.data).size ≤ 1000000000) := hid (by rw [HKP.out, ByteArray.size_append]; omega)
  obtain ⟨kk, hkk⟩ : ∃ kk, kp f.ver f.data = kk := ⟨_, rfl⟩
  have HKK := hid hkk
  have hkk2 : sx ++ f.data = kk := HKP.out.symm.trans hkk
  rw [hkk2] at ha1
  rw [hkk] at HKZ
  have HPZ := hid (put_z s f)
  have HPL := hid (fun v dd => put_zl s f (v := v) (dd := dd))
  rw [hkk] at HPZ
  clear hL hlen hsx HKP hkk hkk2 hd
  have NM := hid (keyOf_any f hr hk hv1 hv2)
  have HKS : Hid ((nm f).size ≤ 1000000000) := hid (by have := nm_le f hv1 hv2; omega)
  obtain ⟨km, hkm⟩ : ∃ km, nm f = km := ⟨_, rfl⟩
  have HKM := hid hkm
  have PG := hid (fun W oo (hS : IsPl W oo X s C D d) => pget_any X s C D d f hr hk hv1 hv2 W oo hS)
  rw [hkm] at NM HKS PG
  obtain ⟨g, hg⟩ : ∃ g, got s.z f = g := ⟨_, rfl⟩
  have HG := hid hg
  rw [hg] at PG
  have HI := hid h
  obtain ⟨W, hW⟩ : ∃ W, W = w.alloc (.cells f.cs.toArray 28) := ⟨_, rfl⟩
  have bW : Below w.heap.size w W := by rw [hW]; exact bel_alloc _ _
  have K0 : KB W (nwl o w.heap.size) w.heap.size f := by rw [hW]; exact KB.start w o f
  obtain ⟨o1, ho1⟩ : ∃ o1, o1 = nwl o w.heap.size := ⟨_, rfl⟩
  have G0 : Fr TS o o1 w W := by rw [ho1]; exact nwl_fr TS o bW
  have I0 : IsPl W o1 X s C D d := by rw [ho1]; exact HI.out.fr (nwl_fr (fun _ => False) o bW) (fun _ _ => id)
  rw [← ho1] at K0
  have PG1 := hid (PG.out W o1 I0)
  have HK := hid K0
  have HGG := hid G0
  have HI0 := hid I0
  rw [hkm] at HPZ HPL
  clear h hr hkm hg HI I0 ho1 G0 bW PG
  obtain ⟨f0, f1, f2, f3, f4, f5, f6, f7, f8⟩ := f
  have vf : (⟨f0, f1, f2, f3, f4, f5, f6, f7, f8⟩ : F).v = .agg #[.int .i64 f0, .int .i64 f1, .int .i64 f2, .int .i64 f3, .int .i64 f4, .int .i64 f5, .string f6, .int .i64 f7, .string f8] := rfl
  rw [vf] at NM PG1 ⊢
  have HF : Hid (W = w.alloc (.cells #[.int .i64 f0, .int .i64 f1, .int .i64 f2, .int .i64 f3, .int .i64 f4, .int .i64 f5, .string f6, .int .i64 f7, .string f8] 28)) := hid hW
  obtain ⟨q0, q1, q2, q3, q4, q5, q6, q7, q8⟩ := K0.nine
  clear vf hW K0
  have SP := hid (fun W oo (hS : IsSt W oo C (s.z.touch km)) => sput_any C (s.z.touch km) km kk false HKS.out HKZ.out W oo hS)
  replace NC : Hid (∀ W, Calls Tryz.prog 46 #[.slice none 0 0, .int .i64 f7] W fun e w' => ∃ v, e = .returned v ∧ OwnC w' W.heap.size v L ∧ Below W.heap.size W w') := NC
  replace ha1 : ∀ w, (Op.stringOp .add sx f8).run Tryz.prog w = .ok (.string kk) w := ha1
  have hlim1 : ¬ (9223372036854775807 < sx.size + f8.size) := hlim1
  cases g with
  | none =>
    have HZ := hid (HPZ.out (fun v dd e => by rw [HG.out] at e; cases e))
    obtain ⟨ee, hee⟩ : ∃ ee, ((s.z.touch km).put km kk false).2.1 = ee := ⟨_, rfl⟩
    have HPR : Hid (putR s ⟨f0, f1, f2, f3, f4, f5, f6, f7, f8⟩ = (f7, ee)) := hid (by rw [HZ.out.1, hee])
    have HPS := HZ.out.2
    rw [HPS]
    have HEE := hid hee
    replace SP : Hid (∀ W oo, IsSt W oo C (s.z.touch km) → Calls Tryz.prog 47 #[.pointer (some ⟨C, 0, none⟩), .string km, .string kk, .bool false] W fun e w' => ∃ V o', e = .returned (.tuple #[V, .int .i64 ((ee : Nat) : Int)]) ∧ True ∧ IsSt w' o' C ((s.z.touch km).put km kk false).2.2 ∧ Fr TS oo o' W w') := hid (fun W oo hS => (SP.out W oo hS).mono (by
      rintro e w' ⟨V, o', h1, _, h3, h4⟩
      exact ⟨V, o', by rw [h1, HEE.out], trivial, h3, h4⟩))
    replace PG1 : Hid (Calls Tryz.prog 37 #[.pointer (some ⟨X, 0, none⟩), .agg #[.int .i64 f0, .int .i64 f1, .int .i64 f2, .int .i64 f3, .int .i64 f4, .int .i64 f5, .string f6, .int .i64 f7, .string f8]] W fun e w' => e = .returned (.tuple #[.int .i64 0, .string ⟨#[]⟩, .bool false]) ∧ ∃ o', IsPl w' o' X { s with z := s.z.touch km } C D d ∧ Fr TS o1 o' W w') := PG1
    · clear hee HPS HPZ HPL HZ HG
      go_enter Tryz.func36, Tryz.ntmps36
      go_wp2_with fail
      rw [← HF.out]
      go_wp2_with fail
      refine PG1.out.mono ?_
      rintro e w1 ⟨rfl, o2, I1, g1⟩
      have R1 := hid (And.intro (HK.out.fr g1 nTS8) (And.intro I1 (HGG.out.trans g1)))
      obtain ⟨p0, p1, p2, p3, p4, p5, p6, p7, p8⟩ := R1.out.1.nine
      clear I1 g1 PG1
      go_wp2_with fail
      have SQ : Hid (∀ V oo (z' : Sp), KB V oo w.heap.size ⟨f0, f1, f2, f3, f4, f5, f6, f7, f8⟩ → IsPl V oo X { s with z := z' } C D d → (V.cell? ⟨X, 6, none⟩ = some (.pointer (some ⟨C, 0, none⟩)) ∧ V.cell? ⟨w.heap.size, 0, none⟩ = some (.int .i64 f0) ∧ V.cell? ⟨w.heap.size, 1, none⟩ = some (.int .i64 f1) ∧ V.cell? ⟨w.heap.size, 2, none⟩ = some (.int .i64 f2) ∧ V.cell? ⟨w.heap.size, 3, none⟩ = some (.int .i64 f3) ∧ V.cell? ⟨w.heap.size, 4, none⟩ = some (.int .i64 f4) ∧ V.cell? ⟨w.heap.size, 5, none⟩ = some (.int .i64 f5) ∧ V.cell? ⟨w.heap.size, 6, none⟩ = some (.string f6) ∧ V.cell? ⟨w.heap.size, 7, none⟩ = some (.int .i64 f7) ∧ V.cell? ⟨w.heap.size, 8, none⟩ = some (.string f8))) := hid (fun V oo z' k i => ⟨i.c.c6, k.nine⟩)
      have bdr : Below w1.heap.size w1 w1.drew := below_drewN (Below.refl _ w1) 1
      have HBD := hid bdr
      have l7 : w1.drew.cell? ⟨w.heap.size, 7, none⟩ = some (.int .i64 f7) := p7
      have l8 : w1.drew.cell? ⟨w.heap.size, 8, none⟩ = some (.string f8) := p8
      go_region_with (go_at_call 46; (with_reducible refine (NC.out _).mono ?_); rintro e w4 ⟨v4, rfl, hO, b4⟩; have p8' := cell_b l8 b4; obtain ⟨a4, c4, rfl, _, r4⟩ := hO.row; have cv := Wi.conv_str w4 a4 _ c4 _ r4; rw [show Wi.mkS (lf L) L.length = sx from HSX.out] at cv; have B4 := hid (HBD.out.trans (b4.mono HBD.out.size)); clear hO r4 b4)
      all_goals clear p8' cv l7 l8 p0 p1 p2 p3 p4 p5 p6 p7 p8
      all_goals (
        have bd4 : Below w4.heap.size w4 w4.drew := below_drewN (Below.refl _ w4) 1
        have bd := hid (B4.out.trans (bd4.mono B4.out.size))
        have R2 := hid (And.intro (R1.out.1.below bd.out) (And.intro (R1.out.2.1.below bd.out) (R1.out.2.2.trans (Fr.ofBelow TS o2 bd.out))))
        have S0 := SQ.out _ _ _ R2.out.1 R2.out.2.1
        go_wp2_with fail
        go_region_held3 (fun V => V.cell? ⟨X, 6, none⟩ = some (.pointer (some ⟨C, 0, none⟩)) ∧ V.cell? ⟨w.heap.size, 0, none⟩ = some (.int .i64 f0) ∧ V.cell? ⟨w.heap.size, 1, none⟩ = some (.int .i64 f1) ∧ V.cell? ⟨w.heap.size, 2, none⟩ = some (.int .i64 f2) ∧ V.cell? ⟨w.heap.size, 3, none⟩ = some (.int .i64 f3) ∧ V.cell? ⟨w.heap.size, 4, none⟩ = some (.int .i64 f4) ∧ V.cell? ⟨w.heap.size, 5, none⟩ = some (.int .i64 f5) ∧ V.cell? ⟨w.heap.size, 6, none⟩ = some (.string f6) ∧ V.cell? ⟨w.heap.size, 7, none⟩ = some (.int .i64 f7) ∧ V.cell? ⟨w.heap.size, 8, none⟩ = some (.string f8))
          (first | with_reducible exact S0 | with_reducible exact T1 | with_reducible exact T2)
          (first
            | (go_at_call 48; (with_reducible refine (NM.out _).mono ?_); rintro e w2 ⟨rfl, b2⟩; have R3 := hid (And.intro (R2.out.1.below b2) (And.intro (R2.out.2.1.below b2) (R2.out.2.2.trans (Fr.ofBelow TS o2 b2)))); have T1 := SQ.out _ _ _ R3.out.1 R3.out.2.1; clear b2)
            | (go_at_call 47; (with_reducible refine (SP.out _ _ R3.out.2.1.st).mono ?_); rintro e w3 ⟨V3, o3, rfl, _, hS3, f3'⟩; have R4 := hid (And.intro (R3.out.1.fr f3' nTS8) (And.intro (R3.out.2.1.store f3' nTS10 hS3) (R3.out.2.2.trans f3'))); have T2 := SQ.out _ _ _ R4.out.1 R4.out.2.1; clear f3' hS3))
        have v7 := (R4.out.1.nine).2.2.2.2.2.2.2.1
        go_wp2_with fail
        refine bodyPost_ret (v := .tuple #[.int .i64 f7, .int .i64 ((ee : Nat) : Int)]) (by simp [results, Tryz.results36, go_sem]) rfl ?_
        exact ⟨by rw [HPR.out], o3, R4.out.2.1, R4.out.2.2⟩)
  | some g =>
    obtain ⟨v, dd⟩ := g
    replace PG1 : Hid (Calls Tryz.prog 37 #[.pointer (some ⟨X, 0, none⟩), .agg #[.int .i64 f0, .int .i64 f1, .int .i64 f2, .int .i64 f3, .int .i64 f4, .int .i64 f5, .string f6, .int .i64 f7, .string f8]] W fun e w' => e = .returned (.tuple #[.int .i64 v, .string dd, .bool true]) ∧ ∃ o', IsPl w' o' X { s with z := s.z.touch km } C D d ∧ Fr TS o1 o' W w') := PG1
    by_cases hc : f7 < v
    · have HZ := hid (HPL.out v dd HG.out hc)
      have HPR := HZ.out.1
      have HPS := HZ.out.2
      rw [HPR, HPS]
      have d0 : decide (f7 < v) = true := by simp [hc]
      clear hc HPR HPS HPZ HPL HZ HG SP
      go_enter Tryz.func36, Tryz.ntmps36
      go_wp2_with fail
      rw [← HF.out]
      go_wp2_with fail
      refine PG1.out.mono ?_
      rintro e w1 ⟨rfl, o2, I1, g1⟩
      have R1 := hid (And.intro (HK.out.fr g1 nTS8) (And.intro I1 (HGG.out.trans g1)))
      obtain ⟨p0, p1, p2, p3, p4, p5, p6, p7, p8⟩ := R1.out.1.nine
      clear I1 g1 PG1
      go_wp2_with fail
      refine bodyPost_ret (v := .tuple #[.int .i64 v, .int .i64 0]) (by simp [results, Tryz.results36, go_sem]) rfl ?_
      exact ⟨rfl, o2, R1.out.2.1, R1.out.2.2⟩
    · have HZ := hid (HPZ.out (fun v' dd' e => by rw [HG.out] at e; injection e with e; injection e with e _; rw [← e]; exact hc))
      obtain ⟨ee, hee⟩ : ∃ ee, ((s.z.touch km).put km kk false).2.1 = ee := ⟨_, rfl⟩
      have HPR : Hid (putR s ⟨f0, f1, f2, f3, f4, f5, f6, f7, f8⟩ = (f7, ee)) := hid (by rw [HZ.out.1, hee])
      have HPS := HZ.out.2
      rw [HPS]
      have HEE := hid hee
      replace SP : Hid (∀ W oo, IsSt W oo C (s.z.touch km) → Calls Tryz.prog 47 #[.pointer (some ⟨C, 0, none⟩), .string km, .string kk, .bool false] W fun e w' => ∃ V o', e = .returned (.tuple #[V, .int .i64 ((ee : Nat) : Int)]) ∧ True ∧ IsSt w' o' C ((s.z.touch km).put km kk false).2.2 ∧ Fr TS oo o' W w') := hid (fun W oo hS => (SP.out W oo hS).mono (by
        rintro e w' ⟨V, o', h1, _, h3, h4⟩
        exact ⟨V, o', by rw [h1, HEE.out], trivial, h3, h4⟩))
      have d0 : decide (f7 < v) = false := by simp; omega
      clear hc hee HPS HPZ HPL HZ HG
      go_enter Tryz.func36, Tryz.ntmps36
      go_wp2_with fail
      rw [← HF.out]
      go_wp2_with fail
      refine PG1.out.mono ?_
      rintro e w1 ⟨rfl, o2, I1, g1⟩
      have R1 := hid (And.intro (HK.out.fr g1 nTS8) (And.intro I1 (HGG.out.trans g1)))
      obtain ⟨p0, p1, p2, p3, p4, p5, p6, p7, p8⟩ := R1.out.1.nine
      clear I1 g1 PG1
      go_wp2_with fail
      have SQ : Hid (∀ V oo (z' : Sp), KB V oo w.heap.size ⟨f0, f1, f2, f3, f4, f5, f6, f7, f8⟩ → IsPl V oo X { s with z := z' } C D d → (V.cell? ⟨X, 6, none⟩ = some (.pointer (some ⟨C, 0, none⟩)) ∧ V.cell? ⟨w.heap.size, 0, none⟩ = some (.int .i64 f0) ∧ V.cell? ⟨w.heap.size, 1, none⟩ = some (.int .i64 f1) ∧ V.cell? ⟨w.heap.size, 2, none⟩ = some (.int .i64 f2) ∧ V.cell? ⟨w.heap.size, 3, none⟩ = some (.int .i64 f3) ∧ V.cell? ⟨w.heap.size, 4, none⟩ = some (.int .i64 f4) ∧ V.cell? ⟨w.heap.size, 5, none⟩ = some (.int .i64 f5) ∧ V.cell? ⟨w.heap.size, 6, none⟩ = some (.string f6) ∧ V.cell? ⟨w.heap.size, 7, none⟩ = some (.int .i64 f7) ∧ V.cell? ⟨w.heap.size, 8, none⟩ = some (.string f8))) := hid (fun V oo z' k i => ⟨i.c.c6, k.nine⟩)
      have bdr : Below w1.heap.size w1 w1.drew := below_drewN (Below.refl _ w1) 1
      have HBD := hid bdr
      have l7 : w1.drew.cell? ⟨w.heap.size, 7, none⟩ = some (.int .i64 f7) := p7
      have l8 : w1.drew.cell? ⟨w.heap.size, 8, none⟩ = some (.string f8) := p8
      go_region_with (go_at_call 46; (with_reducible refine (NC.out _).mono ?_); rintro e w4 ⟨v4, rfl, hO, b4⟩; have p8' := cell_b l8 b4; obtain ⟨a4, c4, rfl, _, r4⟩ := hO.row; have cv := Wi.conv_str w4 a4 _ c4 _ r4; rw [show Wi.mkS (lf L) L.length = sx from HSX.out] at cv; have B4 := hid (HBD.out.trans (b4.mono HBD.out.size)); clear hO r4 b4)
      all_goals clear p8' cv l7 l8 p0 p1 p2 p3 p4 p5 p6 p7 p8
      all_goals (
        have bd4 : Below w4.heap.size w4 w4.drew := below_drewN (Below.refl _ w4) 1
        have bd := hid (B4.out.trans (bd4.mono B4.out.size))
        have R2 := hid (And.intro (R1.out.1.below bd.out) (And.intro (R1.out.2.1.below bd.out) (R1.out.2.2.trans (Fr.ofBelow TS o2 bd.out))))
        have S0 := SQ.out _ _ _ R2.out.1 R2.out.2.1
        go_wp2_with fail
        go_region_held3 (fun V => V.cell? ⟨X, 6, none⟩ = some (.pointer (some ⟨C, 0, none⟩)) ∧ V.cell? ⟨w.heap.size, 0, none⟩ = some (.int .i64 f0) ∧ V.cell? ⟨w.heap.size, 1, none⟩ = some (.int .i64 f1) ∧ V.cell? ⟨w.heap.size, 2, none⟩ = some (.int .i64 f2) ∧ V.cell? ⟨w.heap.size, 3, none⟩ = some (.int .i64 f3) ∧ V.cell? ⟨w.heap.size, 4, none⟩ = some (.int .i64 f4) ∧ V.cell? ⟨w.heap.size, 5, none⟩ = some (.int .i64 f5) ∧ V.cell? ⟨w.heap.size, 6, none⟩ = some (.string f6) ∧ V.cell? ⟨w.heap.size, 7, none⟩ = some (.int .i64 f7) ∧ V.cell? ⟨w.heap.size, 8, none⟩ = some (.string f8))
          (first | with_reducible exact S0 | with_reducible exact T1 | with_reducible exact T2)
          (first
            | (go_at_call 48; (with_reducible refine (NM.out _).mono ?_); rintro e w2 ⟨rfl, b2⟩; have R3 := hid (And.intro (R2.out.1.below b2) (And.intro (R2.out.2.1.below b2) (R2.out.2.2.trans (Fr.ofBelow TS o2 b2)))); have T1 := SQ.out _ _ _ R3.out.1 R3.out.2.1; clear b2)
            | (go_at_call 47; (with_reducible refine (SP.out _ _ R3.out.2.1.st).mono ?_); rintro e w3 ⟨V3, o3, rfl, _, hS3, f3'⟩; have R4 := hid (And.intro (R3.out.1.fr f3' nTS8) (And.intro (R3.out.2.1.store f3' nTS10 hS3) (R3.out.2.2.trans f3'))); have T2 := SQ.out _ _ _ R4.out.1 R4.out.2.1; clear f3' hS3))
        have v7 := (R4.out.1.nine).2.2.2.2.2.2.2.1
        go_wp2_with fail
        refine bodyPost_ret (v := .tuple #[.int .i64 f7, .int .i64 ((ee : Nat) : Int)]) (by simp [results, Tryz.results36, go_sem]) rfl ?_
        exact ⟨by rw [HPR.out], o3, R4.out.2.1, R4.out.2.2⟩)
end Go.Proofs.YtfinaichajbnkaaGreatDoor
