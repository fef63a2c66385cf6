/-
  line of the reference: what a line makes.
-/
import Derived.Test.YtedbklipbfbmoaaDoorQMem
import Derived.Test.YtedbklipbfbmoaaDoorRLine
namespace Go.Proofs.YtedbklipbfbmoaaDoor
open Go.RowKit

set_option maxRecDepth 100000 in
theorem rstoring_c (V : Int) (b : Bool) (hb : (decide ((3 : Int) ≤ V) && decide (V ≤ 8)) = b) (w : World) : Calls Tryd.prog 59 #[.int .i64 V] w fun e w' => e = .returned (.bool b) ∧ w = w' := by
  subst hb
  by_cases h1 : 3 ≤ V
  · have e1 : decide ((3 : Int) ≤ V) = true := by simp; omega
    rw [e1]
    go_enter Tryd.func59, Tryd.ntmps59
    go_wp2_with fail
    go_ret
    exact ⟨rfl, rfl⟩
  · have e1 : decide ((3 : Int) ≤ V) = false := by simp; omega
    rw [e1]
    go_enter Tryd.func59, Tryd.ntmps59
    go_wp2_with fail
    go_ret
    exact ⟨rfl, rfl⟩
/-- What is left behind a line. -/
def lft (p : Ps) (R : B) : B := if p.st = 4 then [] else R
set_option maxRecDepth 100000 in
set_option maxHeartbeats 2000000 in
theorem lineR_any {o : Nat → Nat × Nat} {x P : Nat} {RR : B} {ka : Option Addr} {kn kc : Nat} (hx : x < 8) (s : ByteArray) (hs : s.size ≤ 100000) (w : World) (h : IsRf w o x P (pz 0) RR ka kn kc) :
    Calls Tryd.prog 43 #[.pointer (some ⟨P, 0, none⟩), .string s] w fun e w' => ∃ E, e = .returned (.agg E.toArray) ∧ OutR w o x P (obey (L s)).1 (lft (obey (L s)).1 RR) (obey (L s)).2 E w' := by
  have LA := Lib.hid (fun (w : World) => rline_any s hs w)
  have LB := Lib.hid (line_bytes (L s))
  have LE := Lib.hid (line_err (L s))
  unfold obey
  generalize line (L s) = LN at *
  obtain ⟨r, er⟩ := LN
  obtain ⟨w2, hw2⟩ : ∃ W1, W1 = w.alloc (.cells #[.int .i64 0, .slice none 0 0, .int .i64 0, .int .i64 0, .int .i64 0, .int .i64 0, .int .u64 0, .bool false, .string ⟨#[]⟩, .int .i64 0, .slice none 0 0, .bool false, .int .u64 0, .string ⟨#[]⟩, .int .i64 0, .int .i64 0, .int .i64 0, .int .i64 0] 44) := ⟨_, rfl⟩
  obtain ⟨o1, ho1⟩ : ∃ o1, o1 = lab o w.heap.size (8, 8) := ⟨_, rfl⟩
  have F1 : Fr (fun _ => False) o o1 w w2 := by rw [hw2, ho1]; exact Fr.new _ _ _ _ _
  have R1 : Res w2 o1 w.heap.size := by rw [hw2, ho1]; exact Res.new44 _ _
  have I1 := h.fr F1 id id
  have F1x : Fr (TX x) o o1 w w2 := F1.mono (fun _ h => h.elim)
  have H := Lib.hid (And.intro F1x (And.intro I1 R1))
  have HW2 := Lib.hid hw2
  clear F1 R1 I1 h ho1 F1x hw2
  go_enter Tryd.func43, Tryd.ntmps43
  go_wp2_with fail
  rw [← HW2.out]
  refine (LA.out w2).mono ?_
  rintro e w3 ⟨la, ln, lc, rfl, S3, b3, n3⟩
  clear HW2
  simp only at S3 LB LE ⊢
  obtain ⟨R, hR⟩ : ∃ R, R = r.cs (.slice la ln lc) := ⟨_, rfl⟩
  rw [show r.v (.slice la ln lc) = .agg R.toArray by rw [hR]; rfl]
  obtain ⟨W4, hW4⟩ : ∃ W4, W4 = (w3.alloc (.cells #[.int .i64 0, .slice none 0 0, .int .i64 0, .int .i64 0, .int .i64 0, .int .i64 0, .int .u64 0, .bool false, .string ⟨#[]⟩] 30)).setCells w3.heap.size 0 R := ⟨_, rfl⟩
  have rl : R.length = 9 := by rw [hR]; rfl
  have f3 := Fr.over (TX x) o1 b3 (9, 9)
  obtain ⟨f4, g4, th4, m4⟩ := rq_lay (o := over o1 w2.heap.size (9, 9)) rl hW4
  have k3 := S3.ks (o := o1) b3 n3
  obtain ⟨o4, ho4⟩ : ∃ o4, o4 = lab (over o1 w2.heap.size (9, 9)) w3.heap.size (8, 7) := ⟨_, rfl⟩
  rw [← ho4] at f4 m4
  obtain ⟨F2, I2, R2⟩ := H.out
  have H4 : Hid (Fr (TX x) o o4 w W4 ∧ IsRf W4 o4 x P (pz 0) RR ka kn kc ∧ Res W4 o4 w.heap.size ∧ Ks W4 o4 (.slice la ln lc) r.keys) := Lib.hid ⟨(F2.trans f3).trans (f4.mono (fun _ h => h.elim)), (I2.fr (Fr.over (fun _ => False) o1 b3 (9, 9)) id id).fr f4 id id, (R2.fr f3 (tx8 hx)).fr f4 id, k3.fr f4 id⟩
  have HG := Lib.hid g4
  have c0 : W4.cell? ⟨w3.heap.size, 0, none⟩ = some (.int .i64 ((r.verb : Nat) : Int)) := by
    have := g4 0 (.int .i64 ((r.verb : Nat) : Int)) (by rw [hR]; rfl)
    rwa [Nat.zero_add] at this
  have c4 : W4.cell? ⟨w3.heap.size, 4, none⟩ = some (.int .i64 r.bytes) := by
    have := g4 4 (.int .i64 r.bytes) (by rw [hR]; rfl)
    rwa [Nat.zero_add] at this
  have HM := Lib.hid m4
  have HRL := Lib.hid rl
  have HRR := Lib.hid hR
  have HRO : Hid (∀ u ∈ R, u.oneCell' = true) := Lib.hid (by rw [hR]; exact cs_one _ _ _ _)
  have HTH : Hid ((w3.alloc (.cells ZV.toArray 30)).there w3.heap.size 0 R.length) := Lib.hid (by rw [rl]; exact th4)
  have HW4 := Lib.hid hW4
  clear hR hW4 rl f3 f4 g4 th4 m4 k3 F2 I2 R2 H b3 n3 S3 ho4 LA
  obtain ⟨V, hV⟩ : ∃ V : Int, V = ((r.verb : Nat) : Int) := ⟨_, rfl⟩
  rw [← hV] at c0
  have HV := Lib.hid hV
  clear hV
  obtain ⟨by_, hby⟩ : ∃ by_, by_ = r.bytes := ⟨_, rfl⟩
  rw [← hby] at c4
  have lb0 : 0 ≤ by_ := by rw [hby]; exact LB.out.1
  have lb1 : by_ ≤ 2147483647 := by rw [hby]; exact LB.out.2
  have HBY := Lib.hid hby
  clear hby
  rcases LE.out with he | he | he
  · subst he
    rw [show ((0 : Nat) : Int) = 0 from rfl]
    by_cases h17 : V = 17
    · have HOB : Hid (obeyR (r, 0) = (pz 4, ans 15 [])) := Lib.hid (obey_17 (by have := HV.out; omega))
      subst h17
      obtain ⟨F4, I4, R4, K4⟩ := H4.out
      have p0 : W4.cell? ⟨P, 0, none⟩ = some (.string (S RR)) := I4.at_ 0 _ rfl
      have p12 : W4.cell? ⟨P, 12, none⟩ = some (.bool false) := I4.at_ 12 _ rfl
      have z0 := I4.fz 0
      have z12 := I4.fz 12
      obtain ⟨I5, F5⟩ := I4.set (b' := pz 4) (R' := RR) hx 12 (.bool true) (by omega) rfl rfl
      obtain ⟨I6, F6⟩ := I5.set (b' := pz 4) (R' := []) hx 0 (.string ⟨#[]⟩) (by omega) rfl rfl
      have O6 : OutR _ o4 x P (pz 4) [] (ans 15 []) ((ans 15 []).cs (.slice none 0 0)) _ := OutR.say I6 (Below.refl _ _) 15 []
      obtain ⟨E, hE⟩ : ∃ E, E = (ans 15 []).cs (.slice none 0 0) := ⟨_, rfl⟩
      have HE : Hid (E = [.int .i64 0, .slice none 0 0, .int .i64 0, .int .i64 0, .int .i64 0, .int .i64 0, .int .u64 0, .bool false, .string ⟨#[]⟩, .int .i64 15, .slice none 0 0, .bool false, .int .u64 0, .string ⟨#[]⟩, .int .i64 0, .int .i64 0, .int .i64 0, .int .i64 0]) := Lib.hid (by rw [hE]; rfl)
      rw [← hE] at O6
      obtain ⟨hl, ho, ht, hr, hq⟩ := chain_r hx (F4.trans (F5.trans F6)) ((R4.fr F5 (tx8 hx)).fr F6 (tx8 hx)) (Nat.le_refl _) O6
      have HL := Lib.hid hl
      have H1 := Lib.hid ho
      have HT := Lib.hid ht
      have HR := Lib.hid hr
      have HO := Lib.hid hq
      clear hl ho ht hr hq
      clear F4 I4 R4 K4 I5 F5 I6 F6 O6 H4 hE c4
      go_wp2_with (first | ((with_reducible show wpList _ _ _ (Oper.mk none (Op.store 30 (.tmp 5) _) _ _ _ _ :: _) _ _); refine wpList_store_mid (by rfl) 30 (.tmp 5) (.tmp 10) (by rfl) w3.heap.size 0 R.toArray (by rfl) (by rfl) HTH.out (by rw [List.size_toArray, HRL.out]; kernel_rfl) (all_oneCell_toArray HRO.out) ?_; rw [show R.toArray.toList = R from rfl, ← HW4.out]) | ((with_reducible show wpList _ _ _ (Oper.mk none (Op.store 44 (.tmp 4) _) _ _ _ _ :: _) _ _); refine wpList_store_mid (by rfl) 44 (.tmp 4) (.tmp 32) (by rfl) w.heap.size 0 E.toArray (by rfl) (by rw [HE.out]; rfl) HT.out (by rw [List.size_toArray, HL.out]; kernel_rfl) (all_oneCell_toArray H1.out) ?_; rw [show E.toArray.toList = E from rfl]))
      exact bodyPost_ret (v := .agg E.toArray) (by simp [results, Tryd.results43]; exact load44 HR.out HL.out) rfl ⟨E, rfl, by rw [HOB.out]; exact HO.out⟩
    · have hv17 : r.verb ≠ 17 := by have := HV.out; omega
      have HV17 := Lib.hid hv17
      clear hv17
      by_cases h38 : 3 ≤ V ∧ V ≤ 8
      · have HOB : Hid (obeyR (r, 0) = awt r) := Lib.hid (obey_st HV17.out (by have := HV.out; omega))
        have HSB : Hid ((decide ((3 : Int) ≤ V) && decide (V ≤ 8)) = true) := Lib.hid (by simp; omega)
        by_cases hbig : by_ ≤ 1048576
        · have hb2 : decide ((1048576 : Int) < by_) = false := by simp; omega
          have HAW : Hid (awt r = (pd [] r, Ev.none)) := Lib.hid (by unfold awt; rw [if_pos (by rw [← HBY.out]; exact hbig)])
          obtain ⟨F4, I4, R4, K4⟩ := H4.out
          obtain ⟨I5, F5⟩ := I4.wait hx K4 (b' := pd [] r) ⟨rfl, rfl, rfl, rfl⟩
          rw [← HRR.out] at I5 F5
          obtain ⟨W5, hW5⟩ : ∃ W5, W5 = W4.setCells P 1 R := ⟨_, rfl⟩
          have HTP : Hid (W4.there P 1 R.length) := Lib.hid (fun j hj => by
            have := I4.there (1 + j) (by rw [HRL.out] at hj; omega)
            rwa [Nat.zero_add] at this)
          rw [← hW5] at I5 F5
          have O6 := OutR.zero I5
          obtain ⟨E, hE⟩ : ∃ E, E = (Ev.none.cs (.slice none 0 0)) := ⟨_, rfl⟩
          have HE : Hid (E = [.int .i64 0, .slice none 0 0, .int .i64 0, .int .i64 0, .int .i64 0, .int .i64 0, .int .u64 0, .bool false, .string ⟨#[]⟩, .int .i64 0, .slice none 0 0, .bool false, .int .u64 0, .string ⟨#[]⟩, .int .i64 0, .int .i64 0, .int .i64 0, .int .i64 0]) := Lib.hid (by rw [hE]; rfl)
          rw [← hE] at O6
          obtain ⟨hl, ho, ht, hr, hq⟩ := chain_r hx (F4.trans F5) (R4.fr F5 (tx8 hx)) (Nat.le_refl _) O6
          have HL := Lib.hid hl
          have H1 := Lib.hid ho
          have HT := Lib.hid ht
          have HR := Lib.hid hr
          have HO := Lib.hid hq
          clear hl ho ht hr hq
          have HW5 := Lib.hid hW5
          clear F4 I4 R4 K4 I5 F5 O6 H4 hE hW5
          go_wp2_with ((with_reducible show wpList _ _ _ (Oper.mk none (Op.store 30 (.tmp 5) _) _ _ _ _ :: _) _ _); refine wpList_store_mid (by rfl) 30 (.tmp 5) (.tmp 10) (by rfl) w3.heap.size 0 R.toArray (by rfl) (by rfl) HTH.out (by rw [List.size_toArray, HRL.out]; kernel_rfl) (all_oneCell_toArray HRO.out) ?_; rw [show R.toArray.toList = R from rfl, ← HW4.out])
          refine (rstoring_c V true HSB.out _).mono ?_
          rintro e w5 ⟨rfl, rfl⟩
          go_wp2_with fail
          refine (rstoring_c V true HSB.out _).mono ?_
          rintro e w5 ⟨rfl, rfl⟩
          go_wp2_with (first
            | ((with_reducible show wpList _ _ _ (Oper.mk (some _) (Op.load 30 (.tmp 5)) _ _ _ _ :: _) _ _); refine wpList_load_mid (by rfl) 30 (.tmp 5) (by rfl) w3.heap.size 0 (by rfl) R _ HG.out Tryd.underlying30 (by rfl) (by rw [HRL.out]; kernel_rfl) ?_)
            | ((with_reducible show wpList _ _ _ (Oper.mk none (Op.store 30 (.tmp 60) _) _ _ _ _ :: _) _ _); refine wpList_store_mid (by rfl) 30 (.tmp 60) (.tmp 58) (by rfl) P 1 R.toArray (by rfl) (by rfl) HTP.out (by rw [List.size_toArray, HRL.out]; kernel_rfl) (all_oneCell_toArray HRO.out) ?_; rw [show R.toArray.toList = R from rfl, ← HW5.out])
            | ((with_reducible show wpList _ _ _ (Oper.mk none (Op.store 44 (.tmp 4) _) _ _ _ _ :: _) _ _); refine wpList_store_mid (by rfl) 44 (.tmp 4) (.tmp 61) (by rfl) w.heap.size 0 E.toArray (by rfl) (by rw [HE.out]; rfl) HT.out (by rw [List.size_toArray, HL.out]; kernel_rfl) (all_oneCell_toArray H1.out) ?_; rw [show E.toArray.toList = E from rfl]))
          exact bodyPost_ret (v := .agg E.toArray) (by simp [results, Tryd.results43]; exact load44 HR.out HL.out) rfl ⟨E, rfl, by rw [HOB.out, HAW.out]; exact HO.out⟩
        · have hb2 : decide ((1048576 : Int) < by_) = true := by simp; omega
          have HAW : Hid (awt r = (pp (by_ + 2).toNat, if r.quiet = true then Ev.none else ans 14 tooLarge)) := Lib.hid (by unfold awt; rw [if_neg (by rw [← HBY.out]; exact hbig), HBY.out])
          obtain ⟨F4, I4, R4, K4⟩ := H4.out
          obtain ⟨I5, F5⟩ := I4.set (b' := pp (by_ + 2).toNat) (R' := RR) hx 10 (.int .i64 (by_ + 2)) (by omega) rfl (by
            simp only [rcs, pp, pz, List.set_cons_succ, List.set_cons_zero]
            rw [show (((by_ + 2).toNat : Nat) : Int) = by_ + 2 by omega]
            rfl)
          have p10 : W4.cell? ⟨P, 10, none⟩ = some (.int .i64 0) := I4.at_ 10 _ rfl
          have z10 := I4.fz 10
          have d7 : (W4.setCell ⟨P, 10, none⟩ (.int .i64 (by_ + 2))).cell? ⟨w3.heap.size, 7, none⟩ = some (.bool r.quiet) := by
            refine F5.cell ?_ (by rw [HM.out]; exact fun e => by have : 8 = x := e; omega)
            have := HG.out 7 (.bool r.quiet) (by rw [HRR.out]; rfl)
            rwa [Nat.zero_add] at this
          obtain ⟨qu, hqu⟩ : ∃ qu, qu = r.quiet := ⟨_, rfl⟩
          rw [← hqu] at d7 HAW
          clear hqu
          cases qu with
          | true =>
            have O6 := OutR.zero I5
            obtain ⟨E, hE⟩ : ∃ E, E = (Ev.none.cs (.slice none 0 0)) := ⟨_, rfl⟩
            have HE : Hid (E = [.int .i64 0, .slice none 0 0, .int .i64 0, .int .i64 0, .int .i64 0, .int .i64 0, .int .u64 0, .bool false, .string ⟨#[]⟩, .int .i64 0, .slice none 0 0, .bool false, .int .u64 0, .string ⟨#[]⟩, .int .i64 0, .int .i64 0, .int .i64 0, .int .i64 0]) := Lib.hid (by rw [hE]; rfl)
            rw [← hE] at O6
            obtain ⟨hl, ho, ht, hr, hq⟩ := chain_r hx (F4.trans F5) (R4.fr F5 (tx8 hx)) (Nat.le_refl _) O6
            have HL := Lib.hid hl
            have H1 := Lib.hid ho
            have HT := Lib.hid ht
            have HR := Lib.hid hr
            have HO := Lib.hid hq
            clear hl ho ht hr hq
            clear F4 I4 R4 K4 I5 F5 O6 H4 hE
            go_wp2_with ((with_reducible show wpList _ _ _ (Oper.mk none (Op.store 30 (.tmp 5) _) _ _ _ _ :: _) _ _); refine wpList_store_mid (by rfl) 30 (.tmp 5) (.tmp 10) (by rfl) w3.heap.size 0 R.toArray (by rfl) (by rfl) HTH.out (by rw [List.size_toArray, HRL.out]; kernel_rfl) (all_oneCell_toArray HRO.out) ?_; rw [show R.toArray.toList = R from rfl, ← HW4.out])
            refine (rstoring_c V true HSB.out _).mono ?_
            rintro e w5 ⟨rfl, rfl⟩
            go_wp2_with ((with_reducible show wpList _ _ _ (Oper.mk none (Op.store 44 (.tmp 4) _) _ _ _ _ :: _) _ _); refine wpList_store_mid (by rfl) 44 (.tmp 4) (.tmp 50) (by rfl) w.heap.size 0 E.toArray (by rfl) (by rw [HE.out]; rfl) HT.out (by rw [List.size_toArray, HL.out]; kernel_rfl) (all_oneCell_toArray H1.out) ?_; rw [show E.toArray.toList = E from rfl])
            exact bodyPost_ret (v := .agg E.toArray) (by simp [results, Tryd.results43]; exact load44 HR.out HL.out) rfl ⟨E, rfl, by rw [HOB.out, HAW.out]; exact HO.out⟩
          | false =>
            have O6 := OutR.say I5 (Below.refl _ _) 14 tooLarge
            obtain ⟨E, hE⟩ : ∃ E, E = (ans 14 tooLarge).cs (.slice none 0 0) := ⟨_, rfl⟩
            have HE : Hid (E = [.int .i64 0, .slice none 0 0, .int .i64 0, .int .i64 0, .int .i64 0, .int .i64 0, .int .u64 0, .bool false, .string ⟨#[]⟩, .int .i64 14, .slice none 0 0, .bool false, .int .u64 0, .string ⟨#[111, 98, 106, 101, 99, 116, 32, 116, 111, 111, 32, 108, 97, 114, 103, 101, 32, 102, 111, 114, 32, 99, 97, 99, 104, 101]⟩, .int .i64 0, .int .i64 0, .int .i64 0, .int .i64 0]) := Lib.hid (by rw [hE]; rfl)
            rw [← hE] at O6
            obtain ⟨hl, ho, ht, hr, hq⟩ := chain_r hx (F4.trans F5) (R4.fr F5 (tx8 hx)) (Nat.le_refl _) O6
            have HL := Lib.hid hl
            have H1 := Lib.hid ho
            have HT := Lib.hid ht
            have HR := Lib.hid hr
            have HO := Lib.hid hq
            clear hl ho ht hr hq
            clear F4 I4 R4 K4 I5 F5 O6 H4 hE
            go_wp2_with ((with_reducible show wpList _ _ _ (Oper.mk none (Op.store 30 (.tmp 5) _) _ _ _ _ :: _) _ _); refine wpList_store_mid (by rfl) 30 (.tmp 5) (.tmp 10) (by rfl) w3.heap.size 0 R.toArray (by rfl) (by rfl) HTH.out (by rw [List.size_toArray, HRL.out]; kernel_rfl) (all_oneCell_toArray HRO.out) ?_; rw [show R.toArray.toList = R from rfl, ← HW4.out])
            refine (rstoring_c V true HSB.out _).mono ?_
            rintro e w5 ⟨rfl, rfl⟩
            go_wp2_with ((with_reducible show wpList _ _ _ (Oper.mk none (Op.store 44 (.tmp 4) _) _ _ _ _ :: _) _ _); refine wpList_store_mid (by rfl) 44 (.tmp 4) (.tmp 52) (by rfl) w.heap.size 0 E.toArray (by rfl) (by rw [HE.out]; rfl) HT.out (by rw [List.size_toArray, HL.out]; kernel_rfl) (all_oneCell_toArray H1.out) ?_; rw [show E.toArray.toList = E from rfl])
            exact bodyPost_ret (v := .agg E.toArray) (by simp [results, Tryd.results43]; exact load44 HR.out HL.out) rfl ⟨E, rfl, by rw [HOB.out, HAW.out]; exact HO.out⟩
      · have HOB : Hid (obeyR (r, 0) = (pz 0, req r [])) := Lib.hid (obey_no HV17.out (by have := HV.out; omega))
        have HSB : Hid ((decide ((3 : Int) ≤ V) && decide (V ≤ 8)) = false) := Lib.hid (by simp; omega)
        obtain ⟨F4, I4, R4, K4⟩ := H4.out
        have O5 : OutR W4 o4 x P (pz 0) RR (req r []) ((req r []).cs (.slice la ln lc)) W4 := ⟨o4, ka, kn, kc, ⟨la, ln, lc, rfl, K4⟩, I4, Fr.refl _ _ _⟩
        obtain ⟨E, hE⟩ : ∃ E, E = (req r []).cs (.slice la ln lc) := ⟨_, rfl⟩
        rw [← hE] at O5
        have HE := Lib.hid hE
        obtain ⟨hl, ho, ht, hr, hq⟩ := chain_r hx F4 R4 (Nat.le_refl _) O5
        have HL := Lib.hid hl
        have H1 := Lib.hid ho
        have HT := Lib.hid ht
        have HR := Lib.hid hr
        have HO := Lib.hid hq
        clear hl ho ht hr hq
        clear F4 I4 R4 K4 O5 H4 hE
        go_wp2_with ((with_reducible show wpList _ _ _ (Oper.mk none (Op.store 30 (.tmp 5) _) _ _ _ _ :: _) _ _); refine wpList_store_mid (by rfl) 30 (.tmp 5) (.tmp 10) (by rfl) w3.heap.size 0 R.toArray (by rfl) (by rfl) HTH.out (by rw [List.size_toArray, HRL.out]; kernel_rfl) (all_oneCell_toArray HRO.out) ?_; rw [show R.toArray.toList = R from rfl, ← HW4.out])
        refine (rstoring_c V false HSB.out _).mono ?_
        rintro e w5 ⟨rfl, rfl⟩
        go_wp2_with fail
        refine (rstoring_c V false HSB.out _).mono ?_
        rintro e w5 ⟨rfl, rfl⟩
        go_wp2_with (first
          | ((with_reducible show wpList _ _ _ (Oper.mk (some _) (Op.load 30 (.tmp 5)) _ _ _ _ :: _) _ _); refine wpList_load_mid (by rfl) 30 (.tmp 5) (by rfl) w3.heap.size 0 (by rfl) R _ HG.out Tryd.underlying30 (by rfl) (by rw [HRL.out]; kernel_rfl) ?_; rw [HRR.out]; simp only [Rq.cs])
          | ((with_reducible show wpList _ _ _ (Oper.mk none (Op.store 44 (.tmp 4) _) _ _ _ _ :: _) _ _); refine wpList_store_mid (by rfl) 44 (.tmp 4) (.tmp 63) (by rfl) w.heap.size 0 E.toArray (by rfl) (by rw [HE.out]; rfl) HT.out (by rw [List.size_toArray, HL.out]; kernel_rfl) (all_oneCell_toArray H1.out) ?_; rw [show E.toArray.toList = E from rfl]))
        exact bodyPost_ret (v := .agg E.toArray) (by simp [results, Tryd.results43]; exact load44 HR.out HL.out) rfl ⟨E, rfl, by rw [HOB.out]; exact HO.out⟩
  · subst he
    have HOB : Hid (obeyR (r, 1) = (pz 0, ans 13 badLine)) := Lib.hid obey_1
    rw [show ((1 : Nat) : Int) = 1 from rfl]
    go_wp2_with ((with_reducible show wpList _ _ _ (Oper.mk none (Op.store 30 (.tmp 5) _) _ _ _ _ :: _) _ _); refine wpList_store_mid (by rfl) 30 (.tmp 5) (.tmp 10) (by rfl) w3.heap.size 0 R.toArray (by rfl) (by rfl) HTH.out (by rw [List.size_toArray, HRL.out]; kernel_rfl) (all_oneCell_toArray HRO.out) ?_; rw [show R.toArray.toList = R from rfl, ← HW4.out])
    refine (client_any badLine ⟨#[98, 97, 100, 32, 99, 111, 109, 109, 97, 110, 100, 32, 108, 105, 110, 101, 32, 102, 111, 114, 109, 97, 116]⟩ rfl _).mono ?_
    rintro e w5 ⟨rfl, b5⟩
    obtain ⟨F4, I4, R4, K4⟩ := H4.out
    have O5 := OutR.say I4 b5 13 badLine
    obtain ⟨E, hE⟩ : ∃ E, E = (ans 13 badLine).cs (.slice none 0 0) := ⟨_, rfl⟩
    rw [← hE] at O5 ⊢
    obtain ⟨hl, ho, ht, hr, hq⟩ := chain_r hx F4 R4 (Nat.le_refl _) O5
    have HL := Lib.hid hl
    have H1 := Lib.hid ho
    have HT := Lib.hid ht
    have HR := Lib.hid hr
    have HO := Lib.hid hq
    clear hl ho ht hr hq
    clear hE F4 I4 R4 K4 O5 b5 H4
    go_wp2_with ((with_reducible show wpList _ _ _ (Oper.mk none (Op.store 44 (.tmp 4) _) _ _ _ _ :: _) _ _); refine wpList_store_mid (by rfl) 44 (.tmp 4) (.tmp 20) (by rfl) w.heap.size 0 E.toArray (by rfl) (by rfl) HT.out (by rw [List.size_toArray, HL.out]; kernel_rfl) (all_oneCell_toArray H1.out) ?_; rw [show E.toArray.toList = E from rfl])
    exact bodyPost_ret (v := .agg E.toArray) (by simp [results, Tryd.results43]; exact load44 HR.out HL.out) rfl ⟨E, rfl, by rw [HOB.out]; exact HO.out⟩
  · subst he
    have HOB : Hid (obeyR (r, 4) = (pz 0, ans 12 [])) := Lib.hid obey_4
    rw [show ((4 : Nat) : Int) = 4 from rfl]
    obtain ⟨F4, I4, R4, K4⟩ := H4.out
    have O5 := OutR.say I4 (Below.refl _ _) 12 []
    obtain ⟨E, hE⟩ : ∃ E, E = (ans 12 []).cs (.slice none 0 0) := ⟨_, rfl⟩
    have HE : Hid (E = [.int .i64 0, .slice none 0 0, .int .i64 0, .int .i64 0, .int .i64 0, .int .i64 0, .int .u64 0, .bool false, .string ⟨#[]⟩, .int .i64 12, .slice none 0 0, .bool false, .int .u64 0, .string ⟨#[]⟩, .int .i64 0, .int .i64 0, .int .i64 0, .int .i64 0]) := Lib.hid (by rw [hE]; rfl)
    rw [← hE] at O5
    obtain ⟨hl, ho, ht, hr, hq⟩ := chain_r hx F4 R4 (Nat.le_refl _) O5
    have HL := Lib.hid hl
    have H1 := Lib.hid ho
    have HT := Lib.hid ht
    have HR := Lib.hid hr
    have HO := Lib.hid hq
    clear hl ho ht hr hq
    clear hE F4 I4 R4 K4 O5 H4
    go_wp2_with (first | ((with_reducible show wpList _ _ _ (Oper.mk none (Op.store 30 (.tmp 5) _) _ _ _ _ :: _) _ _); refine wpList_store_mid (by rfl) 30 (.tmp 5) (.tmp 10) (by rfl) w3.heap.size 0 R.toArray (by rfl) (by rfl) HTH.out (by rw [List.size_toArray, HRL.out]; kernel_rfl) (all_oneCell_toArray HRO.out) ?_; rw [show R.toArray.toList = R from rfl, ← HW4.out]) | ((with_reducible show wpList _ _ _ (Oper.mk none (Op.store 44 (.tmp 4) _) _ _ _ _ :: _) _ _); refine wpList_store_mid (by rfl) 44 (.tmp 4) (.tmp 16) (by rfl) w.heap.size 0 E.toArray (by rfl) (by rw [HE.out]; rfl) HT.out (by rw [List.size_toArray, HL.out]; kernel_rfl) (all_oneCell_toArray H1.out) ?_; rw [show E.toArray.toList = E from rfl]))
    exact bodyPost_ret (v := .agg E.toArray) (by simp [results, Tryd.results43]; exact load44 HR.out HL.out) rfl ⟨E, rfl, by rw [HOB.out]; exact HO.out⟩
end Go.Proofs.YtedbklipbfbmoaaDoor
