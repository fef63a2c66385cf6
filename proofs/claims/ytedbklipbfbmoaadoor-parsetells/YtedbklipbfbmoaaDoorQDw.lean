/-
  line of the reference: what a line makes.
-/
import Derived.Test.YtedbklipbfbmoaaDoorQMem
import Derived.Test.YtedbklipbfbmoaaDoorRLine
namespace Go.Proofs.YtedbklipbfbmoaaDoor
open Go.RowKit

set_option maxRecDepth 100000 in
theorem rstoring_c (V : Int) (b : Bool) (hb : (decide ((3 : Int) ≤ V) && decide (V ≤ 8)) = b) (w : World) : Calls Tryd.prog 59 #[.int .i64 V] w fun e w' => e = .returned (.bool b) ∧ w = w' := by
  subst hb
  by_cases h1 : 3 ≤ V
  · have e1 : decide ((3 : Int) ≤ V) = true := by simp; omega
    rw [e1]
    go_enter Tryd.func59, Tryd.ntmps59
    go_wp2_with fail
    go_ret
    exact ⟨rfl, rfl⟩
  · have e1 : decide ((3 : Int) ≤ V) = false := by simp; omega
    rw [e1]
    go_enter Tryd.func59, Tryd.ntmps59
    go_wp2_with fail
    go_ret
    exact ⟨rfl, rfl⟩
/-- What is left behind a line. -/
def lft (p : Ps) (R : B) : B := if p.st = 4 then [] else R
set_option maxRecDepth 100000 in
set_option maxHeartbeats 2000000 in
theorem lineR_any {o : Nat → Nat × Nat} {x P : Nat} {RR : B} {ka : Option Addr} {kn kc : Nat} (hx : x < 8) (s : ByteArray) (hs : s.size ≤ 100000) (w : World) (h : IsRf w o x P (pz 0) RR ka kn kc) :
    Calls Tryd.prog 43 #[.pointer (some ⟨P, 0, none⟩), .string s] w fun e w' => ∃ E, e = .returned (.agg E.toArray) ∧ OutR w o x P (obey (L s)).1 (lft (obey (L s)).1 RR) (obey (L s)).2 E w' := by
  have LA := Lib.hid (fun (w : World) => rline_any s hs w)
  have LB := Lib.hid (line_bytes (L s))
  have LE := Lib.hid (line_err (L s))
  unfold obey
  generalize line (L s) = LN at *
  obtain ⟨r, er⟩ := LN
  obtain ⟨w2, hw2⟩ : ∃ W1, W1 = w.alloc (.cells #[.int .i64 0, .slice none 0 0, .int .i64 0, .int .i64 0, .int .i64 0, .int .i64 0, .int .u64 0, .bool false, .string ⟨#[]⟩, .int .i64 0, .slice none 0 0, .bool false, .int .u64 0, .string ⟨#[]⟩, .int .i64 0, .int .i64 0, .int .i64 0, .int .i64 0] 44) := ⟨_, rfl⟩
  obtain ⟨o1, ho1⟩ : ∃ o1, o1 = lab o w.heap.size (8, 8) := ⟨_, rfl⟩
  have F1 : Fr (fun _ => False) o o1 w w2 := by rw [hw2, ho1]; exact Fr.new _ _ _ _ _
  have R1 : Res w2 o1 w.heap.size := by rw [hw2, ho1]; exact Res.new44 _ _
  have I1 := h.fr F1 id id
  have F1x : Fr (TX x) o o1 w w2 := F1.mono (fun _ h => h.elim)
  have H := Lib.hid (And.intro F1x (And.intro I1 R1))
  have HW2 := Lib.hid hw2
  clear F1 R1 I1 h ho1 F1x hw2
  go_enter Tryd.func43, Tryd.ntmps43
  go_wp2_with fail
  rw [← HW2.out]
  refine (LA.out w2).mono ?_
  rintro e w3 ⟨la, ln, lc, rfl, S3, b3, n3⟩
  clear HW2
  simp only at S3 LB LE ⊢
  obtain ⟨R, hR⟩ : ∃ R, R = r.cs (.slice la ln lc) := ⟨_, rfl⟩
  rw [show r.v (.slice la ln lc) = .agg R.toArray by rw [hR]; rfl]
  obtain ⟨W4, hW4⟩ : ∃ W4, W4 = (w3.alloc (.cells #[.int .i64 0, .slice none 0 0, .int .i64 0, .int .i64 0, .int .i64 0, .int .i64 0, .int .u64 0, .bool false, .string ⟨#[]⟩] 30)).setCells w3.heap.size 0 R := ⟨_, rfl⟩
  have rl : R.length = 9 := by rw [hR]; rfl
  have f3 := Fr.over (TX x) o1 b3 (9, 9)
  obtain ⟨f4, g4, th4, m4⟩ := rq_lay (o := over o1 w2.heap.size (9, 9)) rl hW4
  have k3 := S3.ks (o := o1) b3 n3
  obtain ⟨o4, ho4⟩ : ∃ o4, o4 = lab (over o1 w2.heap.size (9, 9)) w3.heap.size (8, 7) := ⟨_, rfl⟩
  rw [← ho4] at f4 m4
  obtain ⟨F2, I2, R2⟩ := H.out
  have H4 : Hid (Fr (TX x) o o4 w W4 ∧ IsRf W4 o4 x P (pz 0) RR ka kn kc ∧ Res W4 o4 w.heap.size ∧ Ks W4 o4 (.slice la ln lc) r.keys) := Lib.hid ⟨(F2.trans f3).trans (f4.mono (fun _ h => h.elim)), (I2.fr (Fr.over (fun _ => False) o1 b3 (9, 9)) id id).fr f4 id id, (R2.fr f3 (tx8 hx)).fr f4 id, k3.fr f4 id⟩
  have HG := Lib.hid g4
  have c0 : W4.cell? ⟨w3.heap.size, 0, none⟩ = some (.int .i64 ((r.verb : Nat) : Int)) := by
    have := g4 0 (.int .i64 ((r.verb : Nat) : Int)) (by rw [hR]; rfl)
    rwa [Nat.zero_add] at this
  have c4 : W4.cell? ⟨w3.heap.size, 4, none⟩ = some (.int .i64 r.bytes) := by
    have := g4 4 (.int .i64 r.bytes) (by rw [hR]; rfl)
    rwa [Nat.zero_add] at this
  have HM := Lib.hid m4
  have HRL := Lib.hid rl
  have HRR := Lib.hid hR
  have HRO : Hid (∀ u ∈ R, u.oneCell' = true) := Lib.hid (by rw [hR]; exact cs_one _ _ _ _)
  have HTH : Hid ((w3.alloc (.cells ZV.toArray 30)).there w3.heap.size 0 R.length) := Lib.hid (by rw [rl]; exact th4)
  have HW4 := Lib.hid hW4
  clear hR hW4 rl f3 f4 g4 th4 m4 k3 F2 I2 R2 H b3 n3 S3 ho4 LA
  obtain ⟨V, hV⟩ : ∃ V : Int, V = ((r.verb : Nat) : Int) := ⟨_, rfl⟩
  rw [← hV] at c0
  have HV := Lib.hid hV
  clear hV
  obtain ⟨by_, hby⟩ : ∃ by_, by_ = r.bytes := ⟨_, rfl⟩
  rw [← hby] at c4
  have lb0 : 0 ≤ by_ := by rw [hby]; exact LB.out.1
  have lb1 : by_ ≤ 2147483647 := by rw [hby]; exact LB.out.2
  have HBY := Lib.hid hby
  clear hby
  rcases LE.out with he | he | he
  · subst he
    rw [show ((0 : Nat) : Int) = 0 from rfl]
    by_cases h17 : V = 17
    · have HOB : Hid (obeyR (r, 0) = (pz 4, ans 15 [])) := Lib.hid (obey_17 (by have := HV.out; omega))
      subst h17
      obtain ⟨F4, I4, R4, K4⟩ := H4.out
      have p0 : W4.cell? ⟨P, 0, none⟩ = some (.string (S RR)) := I4.at_ 0 _ rfl
      have p12 : W4.cell? ⟨P, 12, none⟩ = some (.bool false) := I4.at_ 12 _ rfl
      have z0 := I4.fz 0
      have z12 := I4.fz 12
      obtain ⟨I5, F5⟩ := I4.set (b' := pz 4) (R' := RR) hx 12 (.bool true) (by omega) rfl rfl
      obtain ⟨I6, F6⟩ := I5.set (b' := pz 4) (R' := []) hx 0 (.string ⟨#[]⟩) (by omega) rfl rfl
      have O6 : OutR _ o4 x P (pz 4) [] (ans 15 []) ((ans 15 []).cs (.slice none 0 0)) _ := OutR.say I6 (Below.refl _ _) 15 []
      obtain ⟨E, hE⟩ : ∃ E, E = (ans 15 []).cs (.slice none 0 0) := ⟨_, rfl⟩
      have HE : Hid (E = [.int .i64 0, .slice none 0 0, .int .i64 0, .int .i64 0, .int .i64 0, .int .i64 0, .int .u64 0, .bool false, .string ⟨#[]⟩, .int .i64 15, .slice none 0 0, .bool false, .int .u64 0, .string ⟨#[]⟩, .int .i64 0, .int .i64 0, .int .i64 0, .int .i64 0]) := Lib.hid (by rw [hE]; rfl)
      rw [← hE] at O6
      obtain ⟨hl, ho, ht, hr, hq⟩ := chain_r hx (F4.trans (F5.trans F6)) ((R4.fr F5 (tx8 hx)).fr F6 (tx8 hx)) (Nat.le_refl _) O6
      have HL := Lib.hid hl
      have H1 := Lib.hid ho
      have HT := Lib.hid ht
      have HR := Lib.hid hr
      have HO := Lib.hid hq
      clear hl ho ht hr hq
      clear F4 I4 R4 K4 I5 F5 I6 F6 O6 H4 hE c4
      go_wp2_with (first | ((with_reducible show wpList _ _ _ (Oper.mk none (Op.store 30 (.tmp 5) _) _ _ _ _ :: _) _ _); refine wpList_store_mid (by rfl) 30 (.tmp 5) (.tmp 10) (by rfl) w3.heap.size 0 R.toArray (by rfl) (by rfl) HTH.out (by rw [List.size_toArray, HRL.out]; kernel_rfl) (all_oneCell_toArray HRO.out) ?_; rw [show R.toArray.toList = R from rfl, ← HW4.out]) | ((with_reducible show wpList _ _ _ (Oper.mk none (Op.store 44 (.tmp 4) _) _ _ _ _ :: _) _ _); refine wpList_store_mid (by rfl) 44 (.tmp 4) (.tmp 32) (by rfl) w.heap.size 0 E.toArray (by rfl) (by rw [HE.out]; rfl) HT.out (by rw [List.size_toArray, HL.out]; kernel_rfl) (all_oneCell_toArray H1.out) ?_; rw [show E.toArray.toList = E from rfl]))
      exact bodyPost_ret (v := .agg E.toArray) (by simp [results, Tryd.results43]; exact load44 HR.out HL.out) rfl ⟨E, rfl, by rw [HOB.out]; exact HO.out⟩
    · have hv17 : r.verb ≠ 17 := by have := HV.out; omega
      have HV17 := Lib.hid hv17
      clear hv17
      by_cases h38 : 3 ≤ V ∧ V ≤ 8
      · have HOB : Hid (obeyR (r, 0) = awt r) := Lib.hid (obey_st HV17.out (by have := HV.out; omega))
        have HSB : Hid ((decide ((3 : Int) ≤ V) && decide (V ≤ 8)) = true) := Lib.hid (by simp; omega)
        by_cases hbig : by_ ≤ 1048576
        · have hb2 : decide ((1048576 : Int) < by_) = false := by simp; omega
          have HAW : Hid (awt r = (pd [] r, Ev.none)) := Lib.hid (by unfold awt; rw [if_pos (by rw [← HBY.out]; exact hbig)])
          obtain ⟨F4, I4, R4, K4⟩ := H4.out
          obtain ⟨I5, F5⟩ := I4.wait hx K4 (b' := pd [] r) ⟨rfl, rfl, rfl, rfl⟩
          rw [← HRR.out] at I5 F5
          obtain ⟨W5, hW5⟩ : ∃ W5, W5 = W4.setCells P 1 R := ⟨_, rfl⟩
          have HTP : Hid (W4.there P 1 R.length) := Lib.hid (fun j hj => by
            have := I4.there (1 + j) (by rw [HRL.out] at hj; omega)
            rwa [Nat.zero_add] at this)
          rw [← hW5] at I5 F5
          have O6 := OutR.zero I5
          obtain ⟨E, hE⟩ : ∃ E, E = (Ev.none.cs (.slice none 0 0)) := ⟨_, rfl⟩
          have HE : Hid (E = [.int .i64 0, .slice none 0 0, .int .i64 0, .int .i64 0, .int .i64 0, .int .i64 0, .int .u64 0, .bool false, .string ⟨#[]⟩, .int .i64 0, .slice none 0 0, .bool false, .int .u64 0, .string ⟨#[]⟩, .int .i64 0, .int .i64 0, .int .i64 0, .int .i64 0]) := Lib.hid (by rw [hE]; rfl)
          rw [← hE] at O6
          obtain ⟨hl, ho, ht, hr, hq⟩ := chain_r hx (F4.trans F5) (R4.fr F5 (tx8 hx)) (Nat.le_refl _) O6
          have HL := Lib.hid hl
          have H1 := Lib.hid ho
          have HT := Lib.hid ht
          have HR := Lib.hid hr
          have HO := Lib.hid hq
          clear hl ho ht hr hq
          have HW5 := Lib.hid hW5
          clear F4 I4 R4 K4 I5 F5 O6 H4 hE hW5
          go_wp2_with ((with_reducible show wpList _ _ _ (Oper.mk none (Op.store 30 (.tmp 5) _) _ _ _ _ :: _) _ _); refine wpList_store_mid (by rfl) 30 (.tmp 5) (.tmp 10) (by rfl) w3.heap.size 0 R.toArray (by rfl) (by rfl) HTH.out (by rw [List.size_toArray, HRL.out]; kernel_rfl) (all_oneCell_toArray HRO.out) ?_; rw [show R.toArray.toList = R from rfl, ← HW4.out])
          refine (rstoring_c V true HSB.out _).mono ?_
          rintro e w5 ⟨rfl, rfl⟩
          go_wp2_with fail
          refine (rstoring_c V true HSB.out _).mono ?_
          rintro e w5 ⟨rfl, rfl⟩
          go_wp2_with (first
            | ((with_reducible show wpList _ _ _ (Oper.mk (some _) (Op.load 30 (.tmp 5)) _ _ _ _ :: _) _ _); refine wpList_load_mid (by rfl) 30 (.tmp 5) (by rfl) w3.heap.size 0 (by rfl) R _ HG.out Tryd.underlying30 (by rfl) (by rw [HRL.out]; kernel_rfl) ?_)
            | ((with_reducible show wpList _ _ _ (Oper.mk none (Op.store 30 (.tmp 60) _) _ _ _ _ :: _) _ _); refine wpList_store_mid (by rfl) 30 (.tmp 60) (.tmp 58) (by rfl) P 1 R.toArray (by rfl) (by rfl) HTP.out (by rw [List.size_toArray, HRL.out]; kernel_rfl) (all_oneCell_toArray HRO.out) ?_; rw [show R.toArray.toList = R from rfl, ← HW5.out])
            | ((with_reducible show wpList _ _ _ (Oper.mk none (Op.store 44 (.tmp 4) _) _ _ _ _ :: _) _ _); refine wpList_store_mid (by rfl) 44 (.tmp 4) (.tmp 61) (by rfl) w.heap.size 0 E.toArray (by rfl) (by rw [HE.out]; rfl) HT.out (by rw [List.size_toArray, HL.out]; kernel_rfl) (all_oneCell_toArray H1.out) ?_; rw [show E.toArray.toList = E from rfl]))
          exact bodyPost_ret (v := .agg E.toArray) (by simp [results, Tryd.results43]; exact load44 HR.out HL.out) rfl ⟨E, rfl, by rw [HOB.out, HAW.out]; exact HO.out⟩
        · have hb2 : decide ((1048576 : Int) < by_) = true := by simp; omega
          have HAW : Hid (awt r = (pp (by_ + 2).toNat, if r.quiet = true then Ev.none else ans 14 tooLarge)) := Lib.hid (by unfold awt; rw [if_neg (by rw [← HBY.out]; exact hbig), HBY.out])
          obtain ⟨F4, I4, R4, K4⟩ := H4.out
          obtain ⟨I5, F5⟩ := I4.set (b' := pp (by_ + 2).toNat) (R' := RR) hx 10 (.int .i64 (by_ + 2)) (by omega) rfl (by
            simp only [rcs, pp, pz, List.set_cons_succ, List.set_cons_zero]
            rw [show (((by_ + 2).toNat : Nat) : Int) = by_ + 2 by omega]
            rfl)
          have p10 : W4.cell? ⟨P, 10, none⟩ = some (.int .i64 0) := I4.at_ 10 _ rfl
          have z10 := I4.fz 10
          have d7 : (W4.setCell ⟨P, 10, none⟩ (.int .i64 (by_ + 2))).cell? ⟨w3.heap.size, 7, none⟩ = some (.bool r.quiet) := by
            refine F5.cell ?_ (by rw [HM.out]; exact fun e => by have : 8 = x := e; omega)
            have := HG.out 7 (.bool r.quiet) (by rw [HRR.out]; rfl)
            rwa [Nat.zero_add] at this
          obtain ⟨qu, hqu⟩ : ∃ qu, qu = r.quiet := ⟨_, rfl⟩
          rw [← hqu] at d7 HAW
          clear hqu
          cases qu with
          | true =>
            have O6 := OutR.zero I5
            obtain ⟨E, hE⟩ : ∃ E, E = (Ev.none.cs (.slice none 0 0)) := ⟨_, rfl⟩
            have HE : Hid (E = [.int .i64 0, .slice none 0 0, .int .i64 0, .int .i64 0, .int .i64 0, .int .i64 0, .int .u64 0, .bool false, .string ⟨#[]⟩, .int .i64 0, .slice none 0 0, .bool false, .int .u64 0, .string ⟨#[]⟩, .int .i64 0, .int .i64 0, .int .i64 0, .int .i64 0]) := Lib.hid (by rw [hE]; rfl)
            rw [← hE] at O6
            obtain ⟨hl, ho, ht, hr, hq⟩ := chain_r hx (F4.trans F5) (R4.fr F5 (tx8 hx)) (Nat.le_refl _) O6
            have HL := Lib.hid hl
            have H1 := Lib.hid ho
            have HT := Lib.hid ht
            have HR := Lib.hid hr
            have HO := Lib.hid hq
            clear hl ho ht hr hq
            clear F4 I4 R4 K4 I5 F5 O6 H4 hE
            go_wp2_with ((with_reducible show wpList _ _ _ (Oper.mk none (Op.store 30 (.tmp 5) _) _ _ _ _ :: _) _ _); refine wpList_store_mid (by rfl) 30 (.tmp 5) (.tmp 10) (by rfl) w3.heap.size 0 R.toArray (by rfl) (by rfl) HTH.out (by rw [List.size_toArray, HRL.out]; kernel_rfl) (all_oneCell_toArray HRO.out) ?_; rw [show R.toArray.toList = R from rfl, ← HW4.out])
            refine (rstoring_c V true HSB.out _).mono ?_
            rintro e w5 ⟨rfl, rfl⟩
            go_wp2_with ((with_reducible show wpList _ _ _ (Oper.mk none (Op.store 44 (.tmp 4) _) _ _ _ _ :: _) _ _); refine wpList_store_mid (by rfl) 44 (.tmp 4) (.tmp 50) (by rfl) w.heap.size 0 E.toArray (by rfl) (by rw [HE.out]; rfl) HT.out (by rw [List.size_toArray, HL.out]; kernel_rfl) (all_oneCell_toArray H1.out) ?_; rw [show E.toArray.toList = E from rfl])
            exact bodyPost_ret (v := .agg E.toArray) (by simp [results, Tryd.results43]; exact load44 HR.out HL.out) rfl ⟨E, rfl, by rw [HOB.out, HAW.out]; exact HO.out⟩
          | false =>
            have O6 := OutR.say I5 (Below.refl _ _) 14 tooLarge
            obtain ⟨E, hE⟩ : ∃ E, E = (ans 14 tooLarge).cs (.slice none 0 0) := ⟨_, rfl⟩
            have HE : Hid (E = [.int .i64 0, .slice none 0 0, .int .i64 0, .int .i64 0, .int .i64 0, .int .i64 0, .int .u64 0, .bool false, .string ⟨#[]⟩, .int .i64 14, .slice none 0 0, .bool false, .int .u64 0, .string ⟨#[111, 98, 106, 101, 99, 116, 32, 116, 111, 111, 32, 108, 97, 114, 103, 101, 32, 102, 111, 114, 32, 99, 97, 99, 104, 101]⟩, .int .i64 0, .int .i64 0, .int .i64 0, .int .i64 0]) := Lib.hid (by rw [hE]; rfl)
            rw [← hE] at O6
            obtain ⟨hl, ho, ht, hr, hq⟩ := chain_r hx (F4.trans F5) (R4.fr F5 (tx8 hx)) (Nat.le_refl _) O6
            have HL := Lib.hid hl
            have H1 := Lib.hid ho
            have HT := Lib.hid ht
            have HR := Lib.hid hr
            have HO := Lib.hid hq
            clear hl ho ht hr hq
            clear F4 I4 R4 K4 I5 F5 O6 H4 hE
            go_wp2_with ((with_reducible show wpList _ _ _ (Oper.mk none (Op.store 30 (.tmp 5) _) _ _ _ _ :: _) _ _); refine wpList_store_mid (by rfl) 30 (.tmp 5) (.tmp 10) (by rfl) w3.heap.size 0 R.toArray (by rfl) (by rfl) HTH.out (by rw [List.size_toArray, HRL.out]; kernel_rfl) (all_oneCell_toArray HRO.out) ?_; rw [show R.toArray.toList = R from rfl, ← HW4.out])
            refine (rstoring_c V true HSB.out _).mono ?_
            rintro e w5 ⟨rfl, rfl⟩
            go_wp2_with ((with_reducible show wpList _ _ _ (Oper.mk none (Op.store 44 (.tmp 4) _) _ _ _ _ :: _) _ _); refine wpList_store_mid (by rfl) 44 (.tmp 4) (.tmp 52) (by rfl) w.heap.size 0 E.toArray (by rfl) (by rw [HE.out]; rfl) HT.out (by rw [List.size_toArray, HL.out]; kernel_rfl) (all_oneCell_toArray H1.out) ?_; rw [show E.toArray.toList = E from rfl])
            exact bodyPost_ret (v := .agg E.toArray) (by simp [results, Tryd.results43]; exact load44 HR.out HL.out) rfl ⟨E, rfl, by rw [HOB.out, HAW.out]; exact HO.out⟩
      · have HOB : Hid (obeyR (r, 0) = (pz 0, req r [])) := Lib.hid (obey_no HV17.out (by have := HV.out; omega))
        have HSB : Hid ((decide ((3 : Int) ≤ V) && decide (V ≤ 8)) = false) := Lib.hid (by simp; omega)
        obtain ⟨F4, I4, R4, K4⟩ := H4.out
        have O5 : OutR W4 o4 x P (pz 0) RR (req r []) ((req r []).cs (.slice la ln lc)) W4 := ⟨o4, ka, kn, kc, ⟨la, ln, lc, rfl, K4⟩, I4, Fr.refl _ _ _⟩
        obtain ⟨E, hE⟩ : ∃ E, E = (req r []).cs (.slice la ln lc) := ⟨_, rfl⟩
        rw [← hE] at O5
        have HE := Lib.hid hE
        obtain ⟨hl, ho, ht, hr, hq⟩ := chain_r hx F4 R4 (Nat.le_refl _) O5
        have HL := Lib.hid hl
        have H1 := Lib.hid ho
        have HT := Lib.hid ht
        have HR := Lib.hid hr
        have HO := Lib.hid hq
        clear hl ho ht hr hq
        clear F4 I4 R4 K4 O5 H4 hE
        go_wp2_with ((with_reducible show wpList _ _ _ (Oper.mk none (Op.store 30 (.tmp 5) _) _ _ _ _ :: _) _ _); refine wpList_store_mid (by rfl) 30 (.tmp 5) (.tmp 10) (by rfl) w3.heap.size 0 R.toArray (by rfl) (by rfl) HTH.out (by rw [List.size_toArray, HRL.out]; kernel_rfl) (all_oneCell_toArray HRO.out) ?_; rw [show R.toArray.toList = R from rfl, ← HW4.out])
        refine (rstoring_c V false HSB.out _).mono ?_
        rintro e w5 ⟨rfl, rfl⟩
        go_wp2_with fail
        refine (rstoring_c V false HSB.out _).mono ?_
        rintro e w5 ⟨rfl, rfl⟩
        go_wp2_with (first
          | ((with_reducible show wpList _ _ _ (Oper.mk (some _) (Op.load 30 (.tmp 5)) _ _ _ _ :: _) _ _); refine wpList_load_mid (by rfl) 30 (.tmp 5) (by rfl) w3.heap.size 0 (by rfl) R _ HG.out Tryd.underlying30 (by rfl) (by rw [HRL.out]; kernel_rfl) ?_; rw [HRR.out]; simp only [Rq.cs])
          | ((with_reducible show wpList _ _ _ (Oper.mk none (Op.store 44 (.tmp 4) _) _ _ _ _ :: _) _ _); refine wpList_store_mid (by rfl) 44 (.tmp 4) (.tmp 63) (by rfl) w.heap.size 0 E.toArray (by rfl) (by rw [HE.out]; rfl) HT.out (by rw [List.size_toArray, HL.out]; kernel_rfl) (all_oneCell_toArray H1.out) ?_; rw [show E.toArray.toList = E from rfl]))
        exact bodyPost_ret (v := .agg E.toArray) (by simp [results, Tryd.results43]; exact load44 HR.out HL.out) rfl ⟨E, rfl, by rw [HOB.out]; exact HO.out⟩
  · subst he
    have HOB : Hid (obeyR (r, 1) = (pz 0, ans 13 badLine)) := Lib.hid obey_1
    rw [show ((1 : Nat) : Int) = 1 from rfl]
    go_wp2_with ((with_reducible show wpList _ _ _ (Oper.mk none (Op.store 30 (.tmp 5) _) _ _ _ _ :: _) _ _); refine wpList_store_mid (by rfl) 30 (.tmp 5) (.tmp 10) (by rfl) w3.heap.size 0 R.toArray (by rfl) (by rfl) HTH.out (by rw [List.size_toArray, HRL.out]; kernel_rfl) (all_oneCell_toArray HRO.out) ?_; rw [show R.toArray.toList = R from rfl, ← HW4.out])
    refine (client_any badLine ⟨#[98, 97, 100, 32, 99, 111, 109, 109, 97, 110, 100, 32, 108, 105, 110, 101, 32, 102, 111, 114, 109, 97, 116]⟩ rfl _).mono ?_
    rintro e w5 ⟨rfl, b5⟩
    obtain ⟨F4, I4, R4, K4⟩ := H4.out
    have O5 := OutR.say I4 b5 13 badLine
    obtain ⟨E, hE⟩ : ∃ E, E = (ans 13 badLine).cs (.slice none 0 0) := ⟨_, rfl⟩
    rw [← hE] at O5 ⊢
    obtain ⟨hl, ho, ht, hr, hq⟩ := chain_r hx F4 R4 (Nat.le_refl _) O5
    have HL := Lib.hid hl
    have H1 := Lib.hid ho
    have HT := Lib.hid ht
    have HR := Lib.hid hr
    have HO := Lib.hid hq
    clear hl ho ht hr hq
    clear hE F4 I4 R4 K4 O5 b5 H4
    go_wp2_with ((with_reducible show wpList _ _ _ (Oper.mk none (Op.store 44 (.tmp 4) _) _ _ _ _ :: _) _ _); refine wpList_store_mid (by rfl) 44 (.tmp 4) (.tmp 20) (by rfl) w.heap.size 0 E.toArray (by rfl) (by rfl) HT.out (by rw [List.size_toArray, HL.out]; kernel_rfl) (all_oneCell_toArray H1.out) ?_; rw [show E.toArray.toList = E from rfl])
    exact bodyPost_ret (v := .agg E.toArray) (by simp [results, Tryd.results43]; exact load44 HR.out HL.out) rfl ⟨E, rfl, by rw [HOB.out]; exact HO.out⟩
  · subst he
    have HOB : Hid (obeyR (r, 4) = (pz 0, ans 12 [])) := Lib.hid obey_4
    rw [show ((4 : Nat) : Int) = 4 from rfl]
    obtain ⟨F4, I4, R4, K4⟩ := H4.out
    have O5 := OutR.say I4 (Below.refl _ _) 12 []
    obtain ⟨E, hE⟩ : ∃ E, E = (ans 12 []).cs (.slice none 0 0) := ⟨_, rfl⟩
    have HE : Hid (E = [.int .i64 0, .slice none 0 0, .int .i64 0, .int .i64 0, .int .i64 0, .int .i64 0, .int .u64 0, .bool false, .string ⟨#[]⟩, .int .i64 12, .slice none 0 0, .bool false, .int .u64 0, .string ⟨#[]⟩, .int .i64 0, .int .i64 0, .int .i64 0, .int .i64 0]) := Lib.hid (by rw [hE]; rfl)
    rw [← hE] at O5
    obtain ⟨hl, ho, ht, hr, hq⟩ := chain_r hx F4 R4 (Nat.le_refl _) O5
    have HL := Lib.hid hl
    have H1 := Lib.hid ho
    have HT := Lib.hid ht
    have HR := Lib.hid hr
    have HO := Lib.hid hq
    clear hl ho ht hr hq
    clear hE F4 I4 R4 K4 O5 H4
    go_wp2_with (first | ((with_reducible show wpList _ _ _ (Oper.mk none (Op.store 30 (.tmp 5) _) _ _ _ _ :: _) _ _); refine wpList_store_mid (by rfl) 30 (.tmp 5) (.tmp 10) (by rfl) w3.heap.size 0 R.toArray (by rfl) (by rfl) HTH.out (by rw [List.size_toArray, HRL.out]; kernel_rfl) (all_oneCell_toArray HRO.out) ?_; rw [show R.toArray.toList = R from rfl, ← HW4.out]) | ((with_reducible show wpList _ _ _ (Oper.mk none (Op.store 44 (.tmp 4) _) _ _ _ _ :: _) _ _); refine wpList_store_mid (by rfl) 44 (.tmp 4) (.tmp 16) (by rfl) w.heap.size 0 E.toArray (by rfl) (by rw [HE.out]; rfl) HT.out (by rw [List.size_toArray, HL.out]; kernel_rfl) (all_oneCell_toArray H1.out) ?_; rw [show E.toArray.toList = E from rfl]))
    exact bodyPost_ret (v := .agg E.toArray) (by simp [results, Tryd.results43]; exact load44 HR.out HL.out) rfl ⟨E, rfl, by rw [HOB.out]; exact HO.out⟩
end Go.Proofs.YtedbklipbfbmoaaDoor


namespace Go.Proofs.YtedbklipbfbmoaaDoor
open Go.RowKit

/-- Where a reference's parser may stand. -/
def Bs (b : Ps) : Prop := b.left = [] ∧ Okp b
theorem bs_pz (s : Nat) (h : s = 0 ∨ s = 3 ∨ s = 4) : Bs (pz s) := ⟨rfl, okp_pz s h⟩
/-- How a step of the reference's goes on. -/
def Rel (b : Ps) (R : B) (b' : Ps) (R' : B) (ev : Ev) (more : Bool) : Prop :=
  Bs b' ∧ ((more = true ∧ feed b R = thn ev (feed b' R') ∧ 2 * R'.length + st1 b' < 2 * R.length + st1 b ∧ (b'.st = 4 → R' = [])) ∨ (more = false ∧ feed b R = ({ b' with left := R' }, evs ev)))
def SOut (w : World) (o : Nat → Nat × Nat) (x P : Nat) (b : Ps) (R : B) (e : Ending) (w' : World) : Prop :=
  ∃ E b' R' ev more, e = .returned (.tuple #[.agg E.toArray, .bool more]) ∧ OutR w o x P b' R' ev E w' ∧ Rel b R b' R' ev more
/-- An event and a bool, handed back. -/
theorem res2r {W : World} {b : Nat} {E : List Value} {f : Func} {t : Array Value} {u : Value} (hf : f.results = #[.cell 2 44, .tmp 3]) (h4 : t[3]?.getD undef = u) (h5 : t[2]?.getD undef = .pointer (some ⟨b, 0, none⟩)) (hr : W.rangeAt b 0 E) (hl : E.length = 18) : (results f t).run Tryd.prog W = .ok (.tuple #[.agg E.toArray, u]) W := by
  simp [results, hf, h4, h5, asAddr, load44 hr hl]
/-- data on its way. -/
structure DatR (w : World) (o0 : Nat → Nat × Nat) (x P b : Nat) (p : Ps) (RS : B) (R : List Value) (W : World) (o : Nat → Nat × Nat) (ka : Option Addr) (kn kc : Nat) : Prop where
  fr : Fr (TX x) o0 o w W
  is : IsRf W o x P p RS ka kn kc
  res : Res W o w.heap.size
  rg : W.rangeAt b 0 R
  th : W.there b 0 9
  mark : o b = (8, 7)
  lt : b < W.heap.size
theorem DatR.up {w : World} {o0 : Nat → Nat × Nat} {x P b : Nat} {p p' : Ps} {RS RS' : B} {R : List Value} {W W' : World} {o o' : Nat → Nat × Nat} {ka ka' : Option Addr} {kn kc kn' kc' : Nat} (hx : x < 8) (h : DatR w o0 x P b p RS R W o ka kn kc) (f : Fr (TX x) o o' W W') (hI : IsRf W' o' x P p' RS' ka' kn' kc') : DatR w o0 x P b p' RS' R W' o' ka' kn' kc' := by
  have hb : ¬ TX x (o b) := by rw [h.mark]; exact fun e => by have : 8 = x := e; omega
  exact ⟨h.fr.trans f, hI, h.res.fr f (tx8 hx), range_fr h.rg f hb, there_fr h.th f hb h.lt, (f.lab b h.lt).trans h.mark, Nat.lt_of_lt_of_le h.lt f.size⟩
theorem DatR.below {w : World} {o0 : Nat → Nat × Nat} {x P b : Nat} {p : Ps} {RS : B} {R : List Value} {W W' : World} {o : Nat → Nat × Nat} {ka : Option Addr} {kn kc : Nat} (hx : x < 8) (h : DatR w o0 x P b p RS R W o ka kn kc) (bl : Below W.heap.size W W') : DatR w o0 x P b p RS R W' o ka kn kc := h.up hx (Fr.ofBelow _ _ bl) (h.is.below bl)
theorem DatR.start {w : World} {o : Nat → Nat × Nat} {x P : Nat} {q : Rq} {RS : B} {ka : Option Addr} {kn kc : Nat} (h : IsRf w o x P (pd [] q) RS ka kn kc) {W1 W3 : World} {R : List Value} (hR : R = q.cs (.slice ka kn kc)) (hW1 : W1 = w.alloc (.cells (Ev.none.cs (.slice none 0 0)).toArray 44)) (hW3 : W3 = (W1.alloc (.cells #[.int .i64 0, .slice none 0 0, .int .i64 0, .int .i64 0, .int .i64 0, .int .i64 0, .int .u64 0, .bool false, .string ⟨#[]⟩] 30)).setCells (w.heap.size + 1) 0 R) :
    W1.rangeAt P 1 R ∧ (W1.alloc (.cells #[.int .i64 0, .slice none 0 0, .int .i64 0, .int .i64 0, .int .i64 0, .int .i64 0, .int .u64 0, .bool false, .string ⟨#[]⟩] 30)).there (w.heap.size + 1) 0 9 ∧ ∃ o3, DatR w o x P (w.heap.size + 1) (pd [] q) RS R W3 o3 ka kn kc := by
  have F1 : Fr (fun _ => False) o (lab o w.heap.size (8, 8)) w W1 := by rw [hW1]; exact Fr.new _ _ _ _ _
  have R1 : Res W1 (lab o w.heap.size (8, 8)) w.heap.size := by rw [hW1]; exact Res.new44 _ _
  have I1 := h.fr F1 id id
  have hs : W1.heap.size = w.heap.size + 1 := by rw [hW1]; simp
  have rl : R.length = 9 := by rw [hR]; rfl
  have hW3' : W3 = (W1.alloc (.cells ZV.toArray 30)).setCells W1.heap.size 0 R := by rw [hs]; exact hW3
  obtain ⟨f4, g4, th4, m4⟩ := rq_lay (o := lab o w.heap.size (8, 8)) rl hW3'
  rw [hs] at g4 th4 m4
  refine ⟨fun j v hv => ?_, th4, _, ⟨(F1.mono (fun _ h => h.elim)).trans (f4.mono (fun _ h => h.elim)), I1.fr f4 id id, R1.fr f4 id, g4, ?_, by rw [hs]; exact m4, ?_⟩⟩
  · have hj : j < 9 := by rw [← rl]; exact (List.getElem?_eq_some_iff.1 hv).1
    refine I1.at_ (1 + j) v ?_
    rw [hR] at hv
    rw [← hv, Nat.add_comm]
    rcases j with _ | _ | _ | _ | _ | _ | _ | _ | _ | j
    all_goals first | rfl | omega
  · rw [hW3]; exact World.there_setCells th4 _ _ _
  · rw [hW3', size_setCells, size_alloc, hs]; omega
theorem DatR.data {w : World} {o0 : Nat → Nat × Nat} {x P b : Nat} {p : Ps} {RS : B} {R : List Value} {W : World} {o : Nat → Nat × Nat} {ka : Option Addr} {kn kc : Nat} (hx : x < 8) (h : DatR w o0 x P b p RS R W o ka kn kc) (hb : w.heap.size ≤ b) (hR : R.length = 9) (v : Value) :
    Fr (TX x) o0 o w (W.setCell ⟨b, 8, none⟩ v) ∧ IsRf (W.setCell ⟨b, 8, none⟩ v) o x P p RS ka kn kc ∧ Res (W.setCell ⟨b, 8, none⟩ v) o w.heap.size ∧ (W.setCell ⟨b, 8, none⟩ v).rangeAt b 0 (R.set 8 v) := by
  have fs : Fr (· = (8, 7)) o o W (W.setCell ⟨b, 8, none⟩ v) := Fr.set (a := ⟨b, 8, none⟩) h.mark _
  exact ⟨h.fr.setNew (a := ⟨b, 8, none⟩) hb _, h.is.fr fs (fun e => by injection e with e _; omega) (fun e => by cases e), h.res.fr fs (fun e => by cases e), range_set h.rg (by rw [hR]; omega)⟩
/-- Data that are short yet. -/
theorem short_1 {q : Rq} {R : B} (h : R.length ≤ q.bytes.toNat) : feed (pd [] q) R = (pd R q, []) := by
  have := feed_pd q R [] (by simpa using h)
  simpa using this
theorem split_n {R : B} {n : Nat} {c : UInt8} (h : R[n]? = some c) : R = R.take n ++ c :: R.drop (n + 1) ∧ (R.take n).length = n := by
  obtain ⟨h1, h2⟩ := List.getElem?_eq_some_iff.1 h
  refine ⟨?_, by rw [List.length_take]; omega⟩
  conv => lhs; rw [← List.take_append_drop n R]
  rw [List.drop_eq_getElem_cons h1, h2]
theorem short_2 {q : Rq} {R : B} (h : R.length = q.bytes.toNat + 1) (hc : R[q.bytes.toNat]? = some 13) : feed (pd [] q) R = (pd R q, []) := by
  obtain ⟨e, hl⟩ := split_n hc
  have e2 : R.drop (q.bytes.toNat + 1) = [] := List.drop_eq_nil_of_le (by omega)
  rw [e2] at e
  have h1 : feed (pd [] q) (R.take q.bytes.toNat) = (pd (R.take q.bytes.toNat) q, []) := by
    have := feed_pd q (R.take q.bytes.toNat) [] (by simp; omega)
    simpa using this
  conv => lhs; rw [e]
  rw [feed_go h1, feed_pd_13 q _ _ hl, feed_nil, ← e]
theorem bad_1 {q : Rq} {R : B} {c : UInt8} (hc : R[q.bytes.toNat]? = some c) (h13 : c ≠ 13) : feed (pd [] q) R = thn (ans 13 badData) (feed (pz 3) (R.drop q.bytes.toNat)) := by
  obtain ⟨e, hl⟩ := split_n hc
  have h1 : feed (pd [] q) (R.take q.bytes.toNat) = (pd (R.take q.bytes.toNat) q, []) := by
    have := feed_pd q (R.take q.bytes.toNat) [] (by simp; omega)
    simpa using this
  have e3 : R.drop q.bytes.toNat = c :: R.drop (q.bytes.toNat + 1) := by
    obtain ⟨h1, h2⟩ := List.getElem?_eq_some_iff.1 hc
    rw [List.drop_eq_getElem_cons h1, h2]
  rw [e3]
  conv => lhs; rw [e]
  rw [feed_go h1]
  exact feed_pd_bad q _ c _ (by omega) (by rw [if_pos hl]; exact h13)
theorem drop_two {R : B} {n : Nat} {c d : UInt8} (hc : R[n]? = some c) (hd : R[n + 1]? = some d) : R.drop n = c :: d :: R.drop (n + 2) := by
  obtain ⟨h1, h2⟩ := List.getElem?_eq_some_iff.1 hc
  obtain ⟨h3, h4⟩ := List.getElem?_eq_some_iff.1 hd
  rw [List.drop_eq_getElem_cons h1, h2, List.drop_eq_getElem_cons h3, h4]
theorem bad_2 {q : Rq} {R : B} {d : UInt8} (hc : R[q.bytes.toNat]? = some 13) (hd : R[q.bytes.toNat + 1]? = some d) (h10 : d ≠ 10) : feed (pd [] q) R = thn (ans 13 badData) (feed (pz 3) (R.drop q.bytes.toNat)) := by
  have e0 := drop_two hc hd
  have hl : (R.take q.bytes.toNat).length = q.bytes.toNat := (split_n hc).2
  have h1 : feed (pd [] q) (R.take q.bytes.toNat) = (pd (R.take q.bytes.toNat) q, []) := by
    have := feed_pd q (R.take q.bytes.toNat) [] (by simp; omega)
    simpa using this
  conv => lhs; rw [← List.take_append_drop q.bytes.toNat R, e0]
  rw [feed_go h1, feed_pd_13 q _ _ hl, feed_pd_bad q _ d _ (by rw [List.length_append, hl]; exact Nat.le_add_right _ _) (by rw [if_neg (by rw [List.length_append, hl]; exact Nat.succ_ne_self _)]; exact h10), e0, feed_cons (pz 3) 13, step_3, if_neg (by decide), thn_none]
theorem good_2 {q : Rq} {R : B} (hc : R[q.bytes.toNat]? = some 13) (hd : R[q.bytes.toNat + 1]? = some 10) : feed (pd [] q) R = thn (req q (R.take q.bytes.toNat)) (feed (pz 0) (R.drop (q.bytes.toNat + 2))) := by
  have e0 := drop_two hc hd
  have hl : (R.take q.bytes.toNat).length = q.bytes.toNat := (split_n hc).2
  have h1 : feed (pd [] q) (R.take q.bytes.toNat) = (pd (R.take q.bytes.toNat) q, []) := by
    have := feed_pd q (R.take q.bytes.toNat) [] (by simp; omega)
    simpa using this
  conv => lhs; rw [← List.take_append_drop q.bytes.toNat R, e0]
  rw [feed_go h1, feed_pd_13 q _ _ hl, feed_pd_10 q _ _ (by rw [List.length_append, hl]; rfl), List.take_append_of_le_length (Nat.le_of_eq hl.symm), List.take_of_length_le (Nat.le_of_eq hl)]
end Go.Proofs.YtedbklipbfbmoaaDoor


namespace Go.Proofs.YtedbklipbfbmoaaDoor
open Go.RowKit

set_option maxRecDepth 100000 in
set_option maxHeartbeats 2000000 in
theorem dataR_any {o : Nat → Nat × Nat} {x P : Nat} {q : Rq} {RS : B} {ka : Option Addr} {kn kc : Nat} (hx : x < 8) (hRS : RS.length ≤ 1000000) (nn : Nat) (hnn : q.bytes = (nn : Int)) (hn1 : nn ≤ 1048576) (hb : Bs (pd [] q)) (w : World) (h : IsRf w o x P (pd [] q) RS ka kn kc) :
    Calls Tryd.prog 42 #[.pointer (some ⟨P, 0, none⟩)] w fun e w' => SOut w o x P (pd [] q) RS e w' := by
  obtain ⟨R, hR⟩ : ∃ R, R = q.cs (.slice ka kn kc) := ⟨_, rfl⟩
  obtain ⟨W1, hW1⟩ : ∃ W1, W1 = w.alloc (.cells #[.int .i64 0, .slice none 0 0, .int .i64 0, .int .i64 0, .int .i64 0, .int .i64 0, .int .u64 0, .bool false, .string ⟨#[]⟩, .int .i64 0, .slice none 0 0, .bool false, .int .u64 0, .string ⟨#[]⟩, .int .i64 0, .int .i64 0, .int .i64 0, .int .i64 0] 44) := ⟨_, rfl⟩
  obtain ⟨W3, hW3⟩ : ∃ W3, W3 = (W1.alloc (.cells #[.int .i64 0, .slice none 0 0, .int .i64 0, .int .i64 0, .int .i64 0, .int .i64 0, .int .u64 0, .bool false, .string ⟨#[]⟩] 30)).setCells (w.heap.size + 1) 0 R := ⟨_, rfl⟩
  obtain ⟨g1, th1, o3, D3⟩ := DatR.start h hR hW1 hW3
  have HRR := Lib.hid hR
  have HRL : Hid (R.length = 9) := Lib.hid (by rw [hR]; rfl)
  have HRO : Hid (∀ u ∈ R, u.oneCell' = true) := Lib.hid (by rw [hR]; exact cs_one _ _ _ _)
  have HTH : Hid ((W1.alloc (.cells #[.int .i64 0, .slice none 0 0, .int .i64 0, .int .i64 0, .int .i64 0, .int .i64 0, .int .u64 0, .bool false, .string ⟨#[]⟩] 30)).there (w.heap.size + 1) 0 R.length) := Lib.hid (by rw [HRL.out]; exact th1)
  have HG1 := Lib.hid g1
  rw [hW1] at HTH HG1 hW3
  have HW3 := Lib.hid hW3
  have HD3 := Lib.hid D3
  obtain ⟨str, hstr⟩ : ∃ str, str = S RS := ⟨_, rfl⟩
  have hsz : str.size = RS.length := by rw [hstr, S_size]
  have hLs : L str = RS := by rw [hstr]; rfl
  have c0 : W3.cell? ⟨P, 0, none⟩ = some (.string str) := by rw [hstr]; exact D3.is.at_ 0 _ rfl
  have b4 : ∀ W : World, W.rangeAt (w.heap.size + 1) 0 R → W.cell? ⟨w.heap.size + 1, 4, none⟩ = some (.int .i64 (nn : Int)) := fun W hr => by
    have := hr 4 (.int .i64 (nn : Int)) (by rw [hR, ← hnn]; rfl)
    rwa [Nat.zero_add] at this
  have c4 := b4 _ D3.rg
  have HB4 := Lib.hid b4
  have HNN := Lib.hid hnn
  have HLE : Hid (q.bytes.toNat = nn) := Lib.hid (by rw [hnn]; rfl)
  have HSTR := Lib.hid hLs
  have HST2 := Lib.hid hstr
  obtain ⟨m, hm⟩ : ∃ m, str.size = m := ⟨_, rfl⟩
  have hmR : m = RS.length := by rw [← hm]; exact hsz
  have HM := Lib.hid hm
  clear hm
  have mb : m ≤ 1000000 := by omega
  have HMR := Lib.hid hmR
  have HBS := Lib.hid hb
  obtain ⟨z2, hz2⟩ : ∃ z2 : Int, z2 = (nn : Int) + 2 := ⟨_, rfl⟩
  have w2 : IntKind.i64.wrap ((nn : Int) + 2) = z2 := by rw [hz2, IntKind.wrap_i64]; omega
  have HZ2 := Lib.hid hz2
  clear hR hW3 hW1 g1 th1 D3 b4 hnn h hb hLs hsz hmR hz2 hstr hRS
  go_enter Tryd.func42, Tryd.ntmps42
  go_wp2_with (first | ((with_reducible show wpList _ _ _ (Oper.mk (some _) (Op.load 30 (.tmp 8)) _ _ _ _ :: _) _ _); refine wpList_load_mid (by rfl) 30 (.tmp 8) (by rfl) P 1 (by rfl) R _ HG1.out Tryd.underlying30 (by rfl) (by rw [HRL.out]; kernel_rfl) ?_) | ((with_reducible show wpList _ _ _ (Oper.mk none (Op.store 30 (.tmp 4) _) _ _ _ _ :: _) _ _); refine wpList_store_mid (by rfl) 30 (.tmp 4) (.tmp 9) (by rfl) (w.heap.size + 1) 0 R.toArray (by rfl) (by rfl) HTH.out (by rw [List.size_toArray, HRL.out]; kernel_rfl) (all_oneCell_toArray HRO.out) ?_; rw [show R.toArray.toList = R from rfl, ← HW3.out]))
  go_simp
  clear HG1 HTH HW3
  by_cases h1 : m ≤ nn
  · have t1 : decide ((str.size : Int) < z2) = true := by have := HZ2.out; have := HM.out; simp; omega
    have t2 : decide ((nn : Int) < (str.size : Int)) = false := by have := HM.out; simp; omega
    have t3 : decide (nn < str.size) = false := by have := HM.out; simp; omega
    go_big_quiet (fail)
    obtain ⟨W4, hW4⟩ : ∃ W4, W4 = W3.drewN nq := ⟨_, rfl⟩
    have D4 := HD3.out.below hx (W' := W4) (by rw [hW4]; exact below_drewN (Below.refl _ _) nq)
    rw [← hW4]
    have O6 := OutR.zero D4.is
    obtain ⟨E, hE⟩ : ∃ E, E = (Ev.none.cs (.slice none 0 0)) := ⟨_, rfl⟩
    have HE : Hid (E = [.int .i64 0, .slice none 0 0, .int .i64 0, .int .i64 0, .int .i64 0, .int .i64 0, .int .u64 0, .bool false, .string ⟨#[]⟩, .int .i64 0, .slice none 0 0, .bool false, .int .u64 0, .string ⟨#[]⟩, .int .i64 0, .int .i64 0, .int .i64 0, .int .i64 0]) := Lib.hid (by rw [hE]; rfl)
    rw [← hE] at O6
    obtain ⟨hl, ho, ht, hr, hq⟩ := chain_r hx D4.fr D4.res (Nat.le_refl _) O6
    have HL := Lib.hid hl
    have H1 := Lib.hid ho
    have HT := Lib.hid ht
    have HR := Lib.hid hr
    have HO := Lib.hid hq
    clear hl ho ht hr hq
    clear hE O6 D4 hW4
    go_wp2_with ((with_reducible show wpList _ _ _ (Oper.mk none (Op.store 44 (.tmp 2) _) _ _ _ _ :: _) _ _); refine wpList_store_mid (by rfl) 44 (.tmp 2) (.tmp 40) (by rfl) w.heap.size 0 E.toArray (by rfl) (by rw [HE.out]; rfl) HT.out (by rw [List.size_toArray, HL.out]; kernel_rfl) (all_oneCell_toArray H1.out) ?_; rw [show E.toArray.toList = E from rfl])
    exact bodyPost_ret (v := .tuple #[.agg E.toArray, .bool false]) (res2r Tryd.results42 (by rfl) (by rfl) HR.out HL.out) rfl ⟨E, pd [] q, RS, Ev.none, false, rfl, HO.out, ⟨HBS.out, .inr ⟨rfl, by rw [short_1 (by rw [HLE.out]; have := HMR.out; omega)]; rfl⟩⟩⟩
  · have t2 : decide ((nn : Int) < (str.size : Int)) = true := by have := HM.out; simp; omega
    have t3 : decide (nn < str.size) = true := by have := HM.out; simp; omega
    have sb : str.size ≤ 1000000 := by have := HM.out; omega
    obtain ⟨c, hc⟩ : ∃ c, RS[nn]? = some c := ⟨_, List.getElem?_eq_getElem (by have := HMR.out; omega)⟩
    have ix : ∀ w : World, (Instr.index 9 (.string str) (.int .i64 (nn : Int))).run Tryd.prog w = .ok (.int .u8 ((c.toNat : Nat) : Int)) w := fun w => str_at (s := str) (q := nn) (c := c) (by rw [HSTR.out]; exact hc) w
    obtain ⟨xx, hxx⟩ : ∃ xx : Int, xx = ((c.toNat : Nat) : Int) := ⟨_, rfl⟩
    rw [← hxx] at ix
    have HXX := Lib.hid hxx
    have HC := Lib.hid hc
    clear hxx hc
    by_cases h2 : m = nn + 1 ∧ xx = 13
    · obtain ⟨h2a, h2b⟩ := h2
      have t1 : decide ((str.size : Int) < z2) = true := by have := HZ2.out; have := HM.out; simp; omega
      go_big_quiet (fail)
      obtain ⟨W4, hW4⟩ : ∃ W4, W4 = W3.drewN nq := ⟨_, rfl⟩
      have D4 := HD3.out.below hx (W' := W4) (by rw [hW4]; exact below_drewN (Below.refl _ _) nq)
      rw [← hW4]
      have O6 := OutR.zero D4.is
      obtain ⟨E, hE⟩ : ∃ E, E = (Ev.none.cs (.slice none 0 0)) := ⟨_, rfl⟩
      have HE : Hid (E = [.int .i64 0, .slice none 0 0, .int .i64 0, .int .i64 0, .int .i64 0, .int .i64 0, .int .u64 0, .bool false, .string ⟨#[]⟩, .int .i64 0, .slice none 0 0, .bool false, .int .u64 0, .string ⟨#[]⟩, .int .i64 0, .int .i64 0, .int .i64 0, .int .i64 0]) := Lib.hid (by rw [hE]; rfl)
      rw [← hE] at O6
      obtain ⟨hl, ho, ht, hr, hq⟩ := chain_r hx D4.fr D4.res (Nat.le_refl _) O6
      have HL := Lib.hid hl
      have H1 := Lib.hid ho
      have HT := Lib.hid ht
      have HR := Lib.hid hr
      have HO := Lib.hid hq
      clear hl ho ht hr hq
      clear hE O6 D4 hW4
      go_wp2_with ((with_reducible show wpList _ _ _ (Oper.mk none (Op.store 44 (.tmp 2) _) _ _ _ _ :: _) _ _); refine wpList_store_mid (by rfl) 44 (.tmp 2) (.tmp 40) (by rfl) w.heap.size 0 E.toArray (by rfl) (by rw [HE.out]; rfl) HT.out (by rw [List.size_toArray, HL.out]; kernel_rfl) (all_oneCell_toArray H1.out) ?_; rw [show E.toArray.toList = E from rfl])
      exact bodyPost_ret (v := .tuple #[.agg E.toArray, .bool false]) (res2r Tryd.results42 (by rfl) (by rfl) HR.out HL.out) rfl ⟨E, pd [] q, RS, Ev.none, false, rfl, HO.out, ⟨HBS.out, .inr ⟨rfl, by rw [short_2 (by rw [HLE.out]; have := HMR.out; omega) (by rw [HLE.out, HC.out]; have := HXX.out; rw [show c = 13 from UInt8.toNat_inj.1 (show c.toNat = 13 by omega)])]; rfl⟩⟩⟩
    · -- it goes on
      have h2' : m = nn + 1 → xx ≠ 13 := fun e1 e2 => h2 ⟨e1, e2⟩
      have HH2 := Lib.hid h2'
      clear h2 h2'
      by_cases h3 : m = nn + 1
      case' pos =>
        have t1 : decide ((str.size : Int) < z2) = true := by have := HZ2.out; have := HM.out; simp; omega
        have n13 : ¬ xx = 13 := HH2.out h3
        have n13b : (xx != 13) = true := bne_iff_ne.2 n13
        have n13c : decide (xx = 13) = false := decide_eq_false n13
        go_big_quiet (fail)
      case' neg =>
        have t1 : decide ((str.size : Int) < z2) = false := by have := HZ2.out; have := HM.out; simp; omega
        go_big_quiet (fail)
      all_goals
        obtain ⟨W4, hW4⟩ : ∃ W4, W4 = W3.drewN nq := ⟨_, rfl⟩
        have D4 := HD3.out.below hx (W' := W4) (by rw [hW4]; exact below_drewN (Below.refl _ _) nq)
        rw [← hW4]
        obtain ⟨I5, F5⟩ := D4.is.wait hx (Ks.nil _ _) (r := Rq.none) (b' := pz 0) ⟨rfl, rfl, rfl, rfl⟩
        obtain ⟨W5, hW5⟩ : ∃ W5, W5 = W4.setCells P 1 (Rq.none.cs (.slice none 0 0)) := ⟨_, rfl⟩
        rw [← hW5] at I5 F5
        have D5 := D4.up hx F5 I5
        have HTP : Hid (W4.there P 1 9) := Lib.hid (fun j hj => by
          have := D4.is.there (1 + j) (by omega)
          rwa [Nat.zero_add] at this)
        have HD5 := Lib.hid D5
        have HW5 := Lib.hid hW5
        have HK5 : Hid (Ks W5 o3 (.slice ka kn kc) q.keys) := Lib.hid ((HD3.out.is.keys.fr (Fr.ofBelow (fun _ => False) o3 (w' := W4) (by rw [hW4]; exact below_drewN (Below.refl _ _) nq)) id).fr F5 (tx9 hx))
        clear D4 I5 F5 D5 hW4 hW5 c0 c4 ix t1
        go_wp2_with ((with_reducible show wpList _ _ _ (Oper.mk none (Op.store 30 (.tmp 44) _) _ _ _ _ :: _) _ _); refine wpList_store_mid (by rfl) 30 (.tmp 44) (.tmp 42) (by rfl) P 1 #[.int .i64 0, .slice none 0 0, .int .i64 0, .int .i64 0, .int .i64 0, .int .i64 0, .int .u64 0, .bool false, .string ⟨#[]⟩] (by rfl) (by rfl) HTP.out (by kernel_rfl) (all_oneCell_toArray zv_one) ?_; rw [show (#[Value.int .i64 0, .slice none 0 0, .int .i64 0, .int .i64 0, .int .i64 0, .int .i64 0, .int .u64 0, .bool false, .string ⟨#[]⟩] : Array Value).toList = Rq.none.cs (.slice none 0 0) from rfl, ← HW5.out])
        go_simp
        have c0 : W5.cell? ⟨P, 0, none⟩ = some (.string str) := by rw [HST2.out]; exact HD5.out.is.at_ 0 _ rfl
        have c4 := HB4.out _ HD5.out.rg
        have sl1 := str_hi str nn (by have := HM.out; omega)
        rw [HSTR.out] at sl1
        go_quiet (fail)
        go_wp2_with fail
        obtain ⟨W6, hW6⟩ : ∃ W6, W6 = W5.drewN nq := ⟨_, rfl⟩
        rw [← hW6]
        have D6 := HD5.out.below hx (W' := W6) (by rw [hW6]; exact below_drewN (Below.refl _ _) nq)
        have D7 := D6.below hx (W' := W6.drew) (below_drewN (Below.refl _ _) 1)
        have d0 : W6.cell? ⟨P, 0, none⟩ = some (.string str) := by rw [HST2.out]; exact D6.is.at_ 0 _ rfl
        have d4 := HB4.out _ D6.rg
        have z0 := D6.is.fz 0
        have sl2 := str_lo str nn (by have := HM.out; omega)
        rw [HSTR.out] at sl2
        obtain ⟨I8, F8⟩ := D7.is.set (b' := pz 0) (R' := RS.drop nn) hx 0 (.string (S (RS.drop nn))) (by omega) rfl rfl
        have HD8 := Lib.hid (D7.up hx F8 I8)
        have HK8 := Lib.hid (((HK5.out.fr (Fr.ofBelow (fun _ => False) o3 (w' := W6) (by rw [hW6]; exact below_drewN (Below.refl _ _) nq)) id).fr (Fr.drew1 (fun _ => False) o3 W6) id).fr F8 (tx9 hx))
        clear D6 D7 I8 F8 hW6 c0 c4 sl1
        go_region_law (fail)
        all_goals
          obtain ⟨W8, hW8⟩ : ∃ W8, W8 = W6.drew.setCell ⟨P, 0, none⟩ (.string (S (RS.drop nn))) := ⟨_, rfl⟩
          rw [show (W6.setCell ⟨P, 0, none⟩ (.string (S (RS.drop nn)))).drew = W8 by rw [hW8]; rfl]
          rw [← hW8] at HD8 HK8
          clear d0 d4 z0 sl2 hW8
          obtain ⟨str2, hstr2⟩ : ∃ str2, str2 = S (RS.drop nn) := ⟨_, rfl⟩
          have e0 : W8.cell? ⟨P, 0, none⟩ = some (.string str2) := by rw [hstr2]; exact HD8.out.is.at_ 0 _ rfl
          have hs2 : str2.size = m - nn := by rw [hstr2, S_size, List.length_drop]; have := HMR.out; omega
          have jx0 : ∀ w : World, (Instr.index 9 (.string str2) (.int .i64 0)).run Tryd.prog w = .ok (.int .u8 xx) w := fun w => by
            rw [HXX.out]
            exact str_at (s := str2) (q := 0) (c := c) (by rw [hstr2, L_S, List.getElem?_drop]; exact HC.out) w
          have HS2 := Lib.hid hs2
          have HSS2 := Lib.hid hstr2
          rw [← hstr2]
          clear hs2 hstr2
          have BAD : Hid (xx ≠ 13 ∨ (∃ d, RS[nn + 1]? = some d ∧ d ≠ 10) → feed (pd [] q) RS = thn (ans 13 badData) (feed (pz 3) (RS.drop nn))) := Lib.hid (fun h => by
            by_cases h13 : c = 13
            · rcases h with h | ⟨d, h1, h2⟩
              · exact absurd (by rw [HXX.out, h13]; rfl) h
              · have := bad_2 (q := q) (R := RS) (by rw [HLE.out, HC.out, h13]) (by rw [HLE.out]; exact h1) h2
                rw [HLE.out] at this
                exact this
            · have := bad_1 (q := q) (R := RS) (by rw [HLE.out]; exact HC.out) h13
              rw [HLE.out] at this
              exact this)
          by_cases g1 : m - nn < 2
          · first
            | (exfalso; clear BAD HH2; omega)
            | skip
            all_goals
              have u1 : decide ((str2.size : Int) < 2) = true := by have := HS2.out; simp; omega
              have hne : xx ≠ 13 := HH2.out (by omega)
              have HBD := Lib.hid (BAD.out (.inl hne))
              have q11 : W8.cell? ⟨P, 11, none⟩ = some (.bool false) := HD8.out.is.at_ 11 _ rfl
              have z11 := HD8.out.is.fz 11
              obtain ⟨I9, F9⟩ := HD8.out.is.set (b' := pz 3) (R' := RS.drop nn) hx 11 (.bool true) (by omega) rfl rfl
              have HD9 := Lib.hid (HD8.out.up hx F9 I9)
              clear I9 F9
              go_wp2_with fail
              refine (client_any badData ⟨#[98, 97, 100, 32, 100, 97, 116, 97, 32, 99, 104, 117, 110, 107]⟩ rfl _).mono ?_
              rintro e w10 ⟨rfl, b10⟩
              have D10 := HD9.out.below hx b10
              have O6 := OutR.say HD9.out.is b10 13 badData
              obtain ⟨E, hE⟩ : ∃ E, E = (ans 13 badData).cs (.slice none 0 0) := ⟨_, rfl⟩
              rw [← hE] at O6 ⊢
              obtain ⟨hl, ho, ht, hr, hq⟩ := chain_r hx HD9.out.fr HD9.out.res (Nat.le_refl _) O6
              have HL := Lib.hid hl
              have H1 := Lib.hid ho
              have HT := Lib.hid ht
              have HR := Lib.hid hr
              have HO := Lib.hid hq
              clear hl ho ht hr hq
              clear hE O6 D10 b10
              go_wp2_with ((with_reducible show wpList _ _ _ (Oper.mk none (Op.store 44 (.tmp 2) _) _ _ _ _ :: _) _ _); refine wpList_store_mid (by rfl) 44 (.tmp 2) (.tmp 87) (by rfl) w.heap.size 0 E.toArray (by rfl) (by rfl) HT.out (by rw [List.size_toArray, HL.out]; kernel_rfl) (all_oneCell_toArray H1.out) ?_; rw [show E.toArray.toList = E from rfl])
              exact bodyPost_ret (v := .tuple #[.agg E.toArray, .bool true]) (res2r Tryd.results42 (by rfl) (by rfl) HR.out HL.out) rfl ⟨E, pz 3, RS.drop nn, ans 13 badData, true, rfl, HO.out, ⟨bs_pz 3 (.inr (.inl rfl)), .inl ⟨rfl, HBD.out, by rw [List.length_drop]; show 2 * _ + 0 < 2 * _ + 1; omega, fun h => absurd h (by decide)⟩⟩⟩
          · first
            | (exfalso; clear BAD HH2; omega)
            | skip
            all_goals
              have u1 : decide ((str2.size : Int) < 2) = false := by have := HS2.out; simp; omega
              have u0 : 2 ≤ str2.size := by have := HS2.out; omega
              by_cases g2 : xx = 13
              · obtain ⟨d, hd⟩ : ∃ d, RS[nn + 1]? = some d := ⟨_, List.getElem?_eq_getElem (by have := HMR.out; omega)⟩
                obtain ⟨yy, hyy⟩ : ∃ yy : Int, yy = ((d.toNat : Nat) : Int) := ⟨_, rfl⟩
                have jx1 : ∀ w : World, (Instr.index 9 (.string str2) (.int .i64 1)).run Tryd.prog w = .ok (.int .u8 yy) w := fun w => by
                  rw [hyy]
                  exact str_at (s := str2) (q := 1) (c := d) (by rw [HSS2.out, L_S, List.getElem?_drop]; exact hd) w
                have HYY := Lib.hid hyy
                have HDD := Lib.hid hd
                clear hyy hd
                by_cases g3 : yy = 10
                · have HGD := Lib.hid (good_2 (q := q) (R := RS) (by rw [HLE.out, HC.out]; rw [show c = 13 from UInt8.toNat_inj.1 (show c.toNat = 13 by have := HXX.out; omega)]) (by rw [HLE.out, HDD.out]; rw [show d = 10 from UInt8.toNat_inj.1 (show d.toNat = 10 by have := HYY.out; omega)]))
                  rw [HLE.out] at HGD
                  have z0 := HD8.out.is.fz 0
                  have sl3 := str_lo str2 2 u0
                  rw [show (L str2).drop 2 = RS.drop (nn + 2) by rw [HSS2.out, L_S, List.drop_drop]] at sl3
                  rw [show ((2 : Nat) : Int) = 2 from rfl] at sl3
                  obtain ⟨I9, F9⟩ := HD8.out.is.set (b' := pz 0) (R' := RS.drop (nn + 2)) hx 0 (.string (S (RS.drop (nn + 2)))) (by omega) rfl rfl
                  have D9 := HD8.out.up hx F9 I9
                  have q8 : (W8.setCell ⟨P, 0, none⟩ (.string (S (RS.drop (nn + 2))))).cell? ⟨w.heap.size + 1, 8, none⟩ = some (.string ⟨#[]⟩) := by
                    have := D9.rg 8 (.string ⟨#[]⟩) (by rw [HRR.out]; rfl)
                    rwa [Nat.zero_add] at this
                  have z8 : (W8.setCell ⟨P, 0, none⟩ (.string (S (RS.drop (nn + 2))))).frozen? ⟨w.heap.size + 1, 8, none⟩ = false := by
                    have := (D9.th 8 (by omega)).2
                    rwa [Nat.zero_add] at this
                  obtain ⟨F11, I11, R11, G11⟩ := D9.data hx (by omega) HRL.out (.string (S (RS.take nn)))
                  obtain ⟨W11, hW11⟩ : ∃ W11, W11 = (W8.setCell ⟨P, 0, none⟩ (.string (S (RS.drop (nn + 2))))).setCell ⟨w.heap.size + 1, 8, none⟩ (.string (S (RS.take nn))) := ⟨_, rfl⟩
                  rw [← hW11] at F11 I11 R11 G11
                  have k11 : Ks W11 o3 (.slice ka kn kc) q.keys := by rw [hW11]; exact (HK8.out.fr F9 (tx9 hx)).fr (Fr.set (T := (· = (8, 7))) (a := ⟨w.heap.size + 1, 8, none⟩) D9.mark _) (fun e => by cases e)
                  rw [HRR.out] at G11
                  rw [show (q.cs (.slice ka kn kc)).set 8 (.string (S (RS.take nn))) = [.int .i64 ((q.verb : Nat) : Int), .slice ka kn kc, .int .i64 q.flags, .int .i64 q.exp, .int .i64 (nn : Int), .int .i64 q.cas, .int .u64 ((q.delta : Nat) : Int), .bool q.quiet, .string (S (RS.take nn))] by rw [← HNN.out]; rfl] at G11
                  have O6 : OutR W11 o3 x P (pz 0) (RS.drop (nn + 2)) (req q (RS.take nn)) ((req q (RS.take nn)).cs (.slice ka kn kc)) W11 := ⟨o3, none, 0, 0, ⟨ka, kn, kc, rfl, k11⟩, I11, Fr.refl _ _ _⟩
                  obtain ⟨E, hE⟩ : ∃ E, E = (req q (RS.take nn)).cs (.slice ka kn kc) := ⟨_, rfl⟩
                  have HE : Hid (E = [.int .i64 ((q.verb : Nat) : Int), .slice ka kn kc, .int .i64 q.flags, .int .i64 q.exp, .int .i64 (nn : Int), .int .i64 q.cas, .int .u64 ((q.delta : Nat) : Int), .bool q.quiet, .string (S (RS.take nn)), .int .i64 0, .slice none 0 0, .bool false, .int .u64 0, .string ⟨#[]⟩, .int .i64 0, .int .i64 0, .int .i64 0, .int .i64 0]) := Lib.hid (by rw [hE, ← HNN.out]; rfl)
                  rw [← hE] at O6
                  obtain ⟨hl, ho, ht, hr, hq⟩ := chain_r hx F11 R11 (Nat.le_refl _) O6
                  have HL := Lib.hid hl
                  have H1 := Lib.hid ho
                  have HT := Lib.hid ht
                  have HR := Lib.hid hr
                  have HO := Lib.hid hq
                  clear hl ho ht hr hq
                  obtain ⟨R9, hR9⟩ : ∃ R9, R9 = ([.int .i64 ((q.verb : Nat) : Int), .slice ka kn kc, .int .i64 q.flags, .int .i64 q.exp, .int .i64 (nn : Int), .int .i64 q.cas, .int .u64 ((q.delta : Nat) : Int), .bool q.quiet, .string (S (RS.take nn))] : List Value) := ⟨_, rfl⟩
                  rw [← hR9] at G11
                  have HG11 := Lib.hid G11
                  have HR9 := Lib.hid hR9
                  have HR9L : Hid (R9.length = 9) := Lib.hid (by rw [hR9]; rfl)
                  have HW11 := Lib.hid hW11
                  clear hE O6 D9 I9 F9 F11 I11 R11 G11 k11 hR9 hW11
                  go_wp2_with (first
                    | ((with_reducible show wpList _ _ _ (Oper.mk (some _) (Op.load 30 (.tmp 4)) _ _ _ _ :: _) _ _); rw [← HW11.out]; refine wpList_load_mid (by rfl) 30 (.tmp 4) (by rfl) (w.heap.size + 1) 0 (by rfl) R9 _ HG11.out Tryd.underlying30 (by rfl) (by rw [HR9L.out]; kernel_rfl) ?_; rw [HR9.out])
                    | ((with_reducible show wpList _ _ _ (Oper.mk none (Op.store 44 (.tmp 2) _) _ _ _ _ :: _) _ _); refine wpList_store_mid (by rfl) 44 (.tmp 2) (.tmp 99) (by rfl) w.heap.size 0 E.toArray (by rfl) (by rw [HE.out]; rfl) HT.out (by rw [List.size_toArray, HL.out]; kernel_rfl) (all_oneCell_toArray H1.out) ?_; rw [show E.toArray.toList = E from rfl]))
                  exact bodyPost_ret (v := .tuple #[.agg E.toArray, .bool true]) (res2r Tryd.results42 (by rfl) (by rfl) HR.out HL.out) rfl ⟨E, pz 0, RS.drop (nn + 2), req q (RS.take nn), true, rfl, HO.out, ⟨bs_pz 0 (.inl rfl), .inl ⟨rfl, HGD.out, by rw [List.length_drop]; show 2 * _ + 0 < 2 * _ + 1; omega, fun h => absurd h (by decide)⟩⟩⟩
                · have HBD := Lib.hid (BAD.out (.inr ⟨d, HDD.out, fun e => g3 (by rw [HYY.out, e]; rfl)⟩))
                  have q11 : W8.cell? ⟨P, 11, none⟩ = some (.bool false) := HD8.out.is.at_ 11 _ rfl
                  have z11 := HD8.out.is.fz 11
                  obtain ⟨I9, F9⟩ := HD8.out.is.set (b' := pz 3) (R' := RS.drop nn) hx 11 (.bool true) (by omega) rfl rfl
                  have HD9 := Lib.hid (HD8.out.up hx F9 I9)
                  clear I9 F9
                  go_wp2_with fail
                  refine (client_any badData ⟨#[98, 97, 100, 32, 100, 97, 116, 97, 32, 99, 104, 117, 110, 107]⟩ rfl _).mono ?_
                  rintro e w10 ⟨rfl, b10⟩
                  have D10 := HD9.out.below hx b10
                  have O6 := OutR.say HD9.out.is b10 13 badData
                  obtain ⟨E, hE⟩ : ∃ E, E = (ans 13 badData).cs (.slice none 0 0) := ⟨_, rfl⟩
                  rw [← hE] at O6 ⊢
                  obtain ⟨hl, ho, ht, hr, hq⟩ := chain_r hx HD9.out.fr HD9.out.res (Nat.le_refl _) O6
                  have HL := Lib.hid hl
                  have H1 := Lib.hid ho
                  have HT := Lib.hid ht
                  have HR := Lib.hid hr
                  have HO := Lib.hid hq
                  clear hl ho ht hr hq
                  clear hE O6 D10 b10
                  go_wp2_with ((with_reducible show wpList _ _ _ (Oper.mk none (Op.store 44 (.tmp 2) _) _ _ _ _ :: _) _ _); refine wpList_store_mid (by rfl) 44 (.tmp 2) (.tmp 87) (by rfl) w.heap.size 0 E.toArray (by rfl) (by rfl) HT.out (by rw [List.size_toArray, HL.out]; kernel_rfl) (all_oneCell_toArray H1.out) ?_; rw [show E.toArray.toList = E from rfl])
                  exact bodyPost_ret (v := .tuple #[.agg E.toArray, .bool true]) (res2r Tryd.results42 (by rfl) (by rfl) HR.out HL.out) rfl ⟨E, pz 3, RS.drop nn, ans 13 badData, true, rfl, HO.out, ⟨bs_pz 3 (.inr (.inl rfl)), .inl ⟨rfl, HBD.out, by rw [List.length_drop]; show 2 * _ + 0 < 2 * _ + 1; omega, fun h => absurd h (by decide)⟩⟩⟩
              · have HBD := Lib.hid (BAD.out (.inl g2))
                have q11 : W8.cell? ⟨P, 11, none⟩ = some (.bool false) := HD8.out.is.at_ 11 _ rfl
                have z11 := HD8.out.is.fz 11
                obtain ⟨I9, F9⟩ := HD8.out.is.set (b' := pz 3) (R' := RS.drop nn) hx 11 (.bool true) (by omega) rfl rfl
                have HD9 := Lib.hid (HD8.out.up hx F9 I9)
                clear I9 F9
                go_wp2_with fail
                refine (client_any badData ⟨#[98, 97, 100, 32, 100, 97, 116, 97, 32, 99, 104, 117, 110, 107]⟩ rfl _).mono ?_
                rintro e w10 ⟨rfl, b10⟩
                have D10 := HD9.out.below hx b10
                have O6 := OutR.say HD9.out.is b10 13 badData
                obtain ⟨E, hE⟩ : ∃ E, E = (ans 13 badData).cs (.slice none 0 0) := ⟨_, rfl⟩
                rw [← hE] at O6 ⊢
                obtain ⟨hl, ho, ht, hr, hq⟩ := chain_r hx HD9.out.fr HD9.out.res (Nat.le_refl _) O6
                have HL := Lib.hid hl
                have H1 := Lib.hid ho
                have HT := Lib.hid ht
                have HR := Lib.hid hr
                have HO := Lib.hid hq
                clear hl ho ht hr hq
                clear hE O6 D10 b10
                go_wp2_with ((with_reducible show wpList _ _ _ (Oper.mk none (Op.store 44 (.tmp 2) _) _ _ _ _ :: _) _ _); refine wpList_store_mid (by rfl) 44 (.tmp 2) (.tmp 87) (by rfl) w.heap.size 0 E.toArray (by rfl) (by rfl) HT.out (by rw [List.size_toArray, HL.out]; kernel_rfl) (all_oneCell_toArray H1.out) ?_; rw [show E.toArray.toList = E from rfl])
                exact bodyPost_ret (v := .tuple #[.agg E.toArray, .bool true]) (res2r Tryd.results42 (by rfl) (by rfl) HR.out HL.out) rfl ⟨E, pz 3, RS.drop nn, ans 13 badData, true, rfl, HO.out, ⟨bs_pz 3 (.inr (.inl rfl)), .inl ⟨rfl, HBD.out, by rw [List.length_drop]; show 2 * _ + 0 < 2 * _ + 1; omega, fun h => absurd h (by decide)⟩⟩⟩
end Go.Proofs.YtedbklipbfbmoaaDoor
