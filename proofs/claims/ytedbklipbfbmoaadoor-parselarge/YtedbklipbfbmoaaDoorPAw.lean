/-
  await: a request's data, or past them.
-/
import Derived.Test.YtedbklipbfbmoaaDoorPPl
namespace Go.Proofs.YtedbklipbfbmoaaDoor
open Go.RowKit

/-- What a request whose data come makes. -/
def awt (r : Rq) : Ps × Ev := if r.bytes ≤ 1048576 then (pd [] r, Ev.none) else (pp (r.bytes + 2).toNat, if r.quiet = true then Ev.none else ans 14 tooLarge)
theorem under30 : ∃ d, Tryd.prog.underlying 30 = some d ∧ d.isRow = true := ⟨_, Tryd.underlying30, rfl⟩
theorem rq_new (w : World) (R : List Value) : (w.alloc (.cells R.toArray 30)).rangeAt w.heap.size 0 R := fun j v hv => by rw [Nat.zero_add, World.cell?_alloc_new, List.getElem?_toArray]; exact hv
theorem range_fr {T : Nat × Nat → Prop} {w w' : World} {o o' : Nat → Nat × Nat} {b : Nat} {cs : List Value} (h : w.rangeAt b 0 cs) (f : Fr T o o' w w') (hb : ¬ T (o b)) : w'.rangeAt b 0 cs := fun j v hv => f.cell (h j v hv) hb
/-- A request's block and an event's, new. -/
theorem two_new {w : World} {o : Nat → Nat × Nat} {x P : Nat} {p : Ps} {a : Option Addr} {n c : Nat} {ka : Option Addr} {kn kc : Nat} (h : IsP w o x P p a n c ka kn kc) (R : List Value) {W : World} (hW : W = (w.alloc (.cells R.toArray 30)).alloc (.cells (Ev.none.cs (.slice none 0 0)).toArray 36)) :
    ∃ o1, Fr (fun _ => False) o o1 w W ∧ IsP W o1 x P p a n c ka kn kc ∧ Res W o1 (w.heap.size + 1) ∧ W.rangeAt w.heap.size 0 R ∧ o1 w.heap.size = (8, 7) ∧ w.heap.size < W.heap.size := by
  have F1 : Fr (fun _ => False) o (lab o w.heap.size (8, 7)) w (w.alloc (.cells R.toArray 30)) := Fr.new _ _ _ _ _
  have F2 : Fr (fun _ => False) (lab o w.heap.size (8, 7)) (lab (lab o w.heap.size (8, 7)) (w.alloc (.cells R.toArray 30)).heap.size (8, 8)) (w.alloc (.cells R.toArray 30)) W := by rw [hW]; exact Fr.new _ _ _ _ _
  have r2 := Res.new (w.alloc (.cells R.toArray 30)) (lab o w.heap.size (8, 7))
  rw [← hW] at r2
  have hlt : w.heap.size < (w.alloc (.cells R.toArray 30)).heap.size := by simp
  refine ⟨_, F1.trans F2, h.fr (F1.trans F2) id id id, ?_, range_fr (rq_new w R) F2 id, (F2.lab _ hlt).trans (lab_same _ _ _), Nat.lt_of_lt_of_le hlt F2.size⟩
  rw [size_alloc] at r2 ⊢
  exact r2
set_option maxRecDepth 100000 in
set_option maxHeartbeats 1000000 in
theorem await_any {o : Nat → Nat × Nat} {x P : Nat} {p : Ps} {a : Option Addr} {n c : Nat} {ka : Option Addr} {kn kc : Nat} (hx : x < 8) (r : Rq) (ra : Option Addr) (rn rc : Nat) (h0 : 0 ≤ r.bytes) (h1 : r.bytes ≤ 2147483647) (w : World) (h : IsP w o x P p a n c ka kn kc) (hk : Ks w o (.slice ra rn rc) r.keys) :
    Calls Tryd.prog 56 #[.pointer (some ⟨P, 0, none⟩), .agg (r.cs (.slice ra rn rc)).toArray] w fun e w' => ∃ E, e = .returned (.agg E.toArray) ∧ OutE w o x P (awt r).1 (awt r).2 E w' := by
  obtain ⟨R, hR⟩ : ∃ R, R = r.cs (.slice ra rn rc) := ⟨_, rfl⟩
  obtain ⟨W1, hW1⟩ : ∃ W1, W1 = (w.alloc (.cells R.toArray 30)).alloc (.cells (Ev.none.cs (.slice none 0 0)).toArray 36) := ⟨_, rfl⟩
  obtain ⟨o1, F1, I1, R1, G1, M1, L1⟩ := two_new h R hW1
  have k1 := hk.fr F1 id
  have HW1 := Lib.hid hW1
  have HRR := Lib.hid hR
  have HRL : Hid (R.length = 9) := Lib.hid (by rw [hR]; rfl)
  have HRO : Hid (∀ u ∈ R, u.oneCell' = true) := Lib.hid (by rw [hR]; exact cs_one _ _ _ _)
  have c4 : W1.cell? ⟨w.heap.size, 4, none⟩ = some (.int .i64 r.bytes) := by
    have := G1 4 (.int .i64 r.bytes) (by rw [hR]; rfl)
    rwa [Nat.zero_add] at this
  have G7 : W1.cell? ⟨w.heap.size, 7, none⟩ = some (.bool r.quiet) := by
    have := G1 7 (.bool r.quiet) (by rw [hR]; rfl)
    rwa [Nat.zero_add] at this
  have F1x : Fr (TX x) o o1 w W1 := F1.mono (fun _ h => h.elim)
  have HH := Lib.hid (And.intro F1x (And.intro I1 (And.intro R1 (And.intro G1 (And.intro M1 (And.intro L1 k1))))))
  rw [← hR]
  clear c4
  have c4 : R[4]? = some (.int .i64 r.bytes) := by rw [hR]; rfl
  clear hR hW1 h hk F1 I1 R1 G1 M1 L1 k1 F1x
  obtain ⟨by_, hby⟩ : ∃ by_, by_ = r.bytes := ⟨_, rfl⟩
  rw [← hby] at c4 h0 h1
  have HBY := Lib.hid hby
  clear hby
  by_cases hb : by_ ≤ 1048576
  · have HA : Hid (awt r = (pd [] r, Ev.none)) := Lib.hid (by unfold awt; rw [if_pos (by rw [← HBY.out]; exact hb)])
    rw [HA.out]
    clear HA
    go_enter Tryd.func56, Tryd.ntmps56
    go_wp2_with fail
    obtain ⟨F1, I1, R1, G1, M1, L1, k1⟩ := HH.out
    obtain ⟨I2, F2⟩ := I1.begin 1
    obtain ⟨W2, hW2⟩ : ∃ W2, W2 = W1.setCells P 0 ((pz 1).cs (.slice none 0 0) (.slice none 0 0)) := ⟨_, rfl⟩
    have TH := Lib.hid I1.there
    rw [HW1.out] at TH
    refine (begin_any P 1 _ TH.out).mono ?_
    rintro e w2 ⟨rfl, hw2⟩
    have hw2' : w2 = W2 := by rw [hw2, hW2, HW1.out]
    rw [← hW2] at I2 F2
    subst hw2'
    have R2 := R1.fr F2 (tx8 hx)
    have G2 := range_fr G1 F2 (by rw [M1]; exact fun e => by have : 8 = x := e; omega)
    have k2 := k1.fr F2 (tx9 hx)
    obtain ⟨I3, F3⟩ := I2.ask (by omega) k2
    rw [← HRR.out] at I3 F3
    have R3 := R2.fr F3 (tx8 hx)
    obtain ⟨W3, hW3⟩ : ∃ W3, W3 = w2.setCells P 2 R := ⟨_, rfl⟩
    rw [← hW3] at I3 F3 R3
    have HW3 := Lib.hid hW3
    have HG2 := Lib.hid G2
    have HTH2 : Hid (w2.there P 2 R.length) := Lib.hid (fun j hj => by
      have := I2.there (2 + j) (by rw [HRL.out] at hj; omega)
      rwa [Nat.zero_add] at this)
    obtain ⟨E, hE⟩ : ∃ E, E = (Ev.none.cs (.slice none 0 0)) := ⟨_, rfl⟩
    have HE : Hid (E = [.int .i64 0, .slice none 0 0, .int .i64 0, .int .i64 0, .int .i64 0, .int .i64 0, .int .u64 0, .bool false, .string ⟨#[]⟩, .int .i64 0, .slice none 0 0, .bool false, .int .u64 0, .string ⟨#[]⟩, .int .i64 0, .int .i64 0, .int .i64 0, .int .i64 0]) := Lib.hid (by rw [hE]; rfl)
    have EV : EvV W3 o1 E Ev.none := by rw [hE]; exact EvV.no _ _
    obtain ⟨rg, OUT⟩ := fin_e hx (F1.trans (F2.trans F3)) I3 EV R3 (by omega)
    have HT : Hid ((W3).there (w.heap.size + 1) 0 E.length) := Lib.hid (by rw [EV.len]; exact R3.th)
    have HR := Lib.hid rg
    have HO := Lib.hid OUT
    have HL := Lib.hid EV.len
    have H1 := Lib.hid EV.one
    clear hE rg OUT I1 I2 I3 F1 F2 F3 R1 R2 R3 G1 G2 M1 L1 k1 k2 HH hw2 hW2 hW3 TH EV
    go_wp2_with (first
      | ((with_reducible show wpList _ _ _ (Oper.mk (some _) (Op.load 30 (.tmp 3)) _ _ _ _ :: _) _ _); refine wpList_load_mid (by rfl) 30 (.tmp 3) (by rfl) w.heap.size 0 (by rfl) R _ HG2.out Tryd.underlying30 (by rfl) (by rw [HRL.out]; kernel_rfl) ?_)
      | ((with_reducible show wpList _ _ _ (Oper.mk none (Op.store 30 (.tmp 13) _) _ _ _ _ :: _) _ _); refine wpList_store_mid (by rfl) 30 (.tmp 13) (.tmp 11) (by rfl) P 2 R.toArray (by rfl) (by rfl) HTH2.out (by rw [List.size_toArray, HRL.out]; kernel_rfl) (all_oneCell_toArray HRO.out) ?_; rw [show R.toArray.toList = R from rfl, ← HW3.out])
      | ((with_reducible show wpList _ _ _ (Oper.mk none (Op.store 36 (.tmp 4) _) _ _ _ _ :: _) _ _); refine wpList_store_mid (by rfl) 36 (.tmp 4) (.tmp 14) (by rfl) (w.heap.size + 1) 0 E.toArray (by rfl) (by rw [HE.out]; rfl) HT.out (by rw [List.size_toArray, HL.out]; kernel_rfl) (all_oneCell_toArray H1.out) ?_; rw [show E.toArray.toList = E from rfl]))
    exact bodyPost_ret (v := .agg E.toArray) (by simp [results, Tryd.results56]; exact load36 HR.out HL.out) rfl ⟨E, rfl, HO.out⟩
  · have hb' : decide (by_ ≤ 1048576) = false := by simp; omega
    have HA : Hid (awt r = (pp (by_ + 2).toNat, if r.quiet = true then Ev.none else ans 14 tooLarge)) := Lib.hid (by unfold awt; rw [if_neg (by rw [← HBY.out]; exact hb), HBY.out])
    rw [HA.out]
    clear HA
    obtain ⟨qu, hqu⟩ : ∃ qu, qu = r.quiet := ⟨_, rfl⟩
    rw [← hqu] at G7 ⊢
    clear hqu
    go_enter Tryd.func56, Tryd.ntmps56
    go_wp2_with fail
    obtain ⟨F1, I1, R1, G1, M1, L1, k1⟩ := HH.out
    obtain ⟨I2, F2⟩ := I1.begin 2
    obtain ⟨W2, hW2⟩ : ∃ W2, W2 = W1.setCells P 0 ((pz 2).cs (.slice none 0 0) (.slice none 0 0)) := ⟨_, rfl⟩
    have TH := Lib.hid I1.there
    rw [HW1.out] at TH
    refine (begin_any P 2 _ TH.out).mono ?_
    rintro e w2 ⟨rfl, hw2⟩
    have hw2' : w2 = W2 := by rw [hw2, hW2, HW1.out]
    rw [← hW2] at I2 F2
    subst hw2'
    have R2 := R1.fr F2 (tx8 hx)
    have nT : ¬ TX x (o1 w.heap.size) := by rw [M1]; exact fun e => by have : 8 = x := e; omega
    have G2 := range_fr G1 F2 nT
    have nT2 : ¬ TX x (o1 w.heap.size) := nT
    obtain ⟨I3, F3⟩ := I2.set (p' := pp (by_ + 2).toNat) (by omega) 11 (.int .i64 (by_ + 2)) (by omega) rfl rfl (by
      show _ = (pp (by_ + 2).toNat).cs _ _
      simp only [Ps.cs, pp, pz, List.set_cons_succ, List.set_cons_zero]
      rw [show (((by_ + 2).toNat : Nat) : Int) = by_ + 2 by omega])
    have R3 := R2.fr F3 (tx8 hx)
    have d4 : w2.cell? ⟨w.heap.size, 4, none⟩ = some (.int .i64 by_) := by
      have := G2 4 (.int .i64 by_) (by rw [HRR.out, HBY.out]; rfl)
      rwa [Nat.zero_add] at this
    have d7 : (w2.setCell ⟨P, 11, none⟩ (.int .i64 (by_ + 2))).cell? ⟨w.heap.size, 7, none⟩ = some (.bool qu) := F3.cell (F2.cell G7 nT) nT
    have d11 : w2.cell? ⟨P, 11, none⟩ = some (.int .i64 0) := I2.at_ 11 _ rfl
    have z11 := I2.fz 11
    cases qu with
    | true =>
      obtain ⟨W3, hW3⟩ : ∃ W3, W3 = w2.setCell ⟨P, 11, none⟩ (.int .i64 (by_ + 2)) := ⟨_, rfl⟩
      rw [← hW3] at I3 F3 R3
      obtain ⟨E, hE⟩ : ∃ E, E = (Ev.none.cs (.slice none 0 0)) := ⟨_, rfl⟩
      have HE : Hid (E = [.int .i64 0, .slice none 0 0, .int .i64 0, .int .i64 0, .int .i64 0, .int .i64 0, .int .u64 0, .bool false, .string ⟨#[]⟩, .int .i64 0, .slice none 0 0, .bool false, .int .u64 0, .string ⟨#[]⟩, .int .i64 0, .int .i64 0, .int .i64 0, .int .i64 0]) := Lib.hid (by rw [hE]; rfl)
      have EV : EvV W3 o1 E Ev.none := by rw [hE]; exact EvV.no _ _
      obtain ⟨rg, OUT⟩ := fin_e hx (F1.trans (F2.trans F3)) I3 EV R3 (by omega)
      have HT : Hid ((W3).there (w.heap.size + 1) 0 E.length) := Lib.hid (by rw [EV.len]; exact R3.th)
      have HR := Lib.hid rg
      have HO := Lib.hid OUT
      have HL := Lib.hid EV.len
      have H1 := Lib.hid EV.one
      rw [hW3] at HT HR HO
      clear hE rg OUT I1 I2 I3 F1 F2 F3 R1 R2 R3 G1 G2 M1 L1 k1 HH hw2 hW2 hW3 TH EV nT nT2 G7
      go_wp2_with ((with_reducible show wpList _ _ _ (Oper.mk none (Op.store 36 (.tmp 4) _) _ _ _ _ :: _) _ _); refine wpList_store_mid (by rfl) 36 (.tmp 4) (.tmp 25) (by rfl) (w.heap.size + 1) 0 E.toArray (by rfl) (by rw [HE.out]; rfl) HT.out (by rw [List.size_toArray, HL.out]; kernel_rfl) (all_oneCell_toArray H1.out) ?_; rw [show E.toArray.toList = E from rfl])
      exact bodyPost_ret (v := .agg E.toArray) (by simp [results, Tryd.results56]; exact load36 HR.out HL.out) rfl ⟨E, rfl, HO.out⟩
    | false =>
      have H3 := Lib.hid (And.intro (F1.trans (F2.trans F3)) (And.intro I3 R3))
      clear I1 I2 I3 F1 F2 F3 R1 R2 R3 G1 G2 M1 L1 k1 HH hw2 hW2 TH nT nT2 G7
      go_wp2_with fail
      refine (say_any 14 tooLarge 14 _ rfl rfl _).mono ?_
      rintro e w4 ⟨rfl, b4⟩
      obtain ⟨F3, I3, R3⟩ := H3.out
      obtain ⟨E, hE⟩ : ∃ E, E = (ans 14 tooLarge).cs (.slice none 0 0) := ⟨_, rfl⟩
      rw [← hE]
      have EV : EvV w4 o1 E (ans 14 tooLarge) := by rw [hE]; exact EvV.ans _ _ _ _
      have f4 := Fr.ofBelow (TX x) o1 b4
      have R4 := R3.fr f4 (tx8 hx)
      have I4 := I3.below b4
      obtain ⟨rg, OUT⟩ := fin_e hx (F3.trans f4) I4 EV R4 (by omega)
      have HT : Hid ((w4).there (w.heap.size + 1) 0 E.length) := Lib.hid (by rw [EV.len]; exact R4.th)
      have HR := Lib.hid rg
      have HO := Lib.hid OUT
      have HL := Lib.hid EV.len
      have H1 := Lib.hid EV.one
      clear hE EV f4 rg OUT F3 I3 R3 I4 R4 H3 b4
      go_wp2_with ((with_reducible show wpList _ _ _ (Oper.mk none (Op.store 36 (.tmp 4) _) _ _ _ _ :: _) _ _); refine wpList_store_mid (by rfl) 36 (.tmp 4) (.tmp 26) (by rfl) (w.heap.size + 1) 0 E.toArray (by rfl) (by rfl) HT.out (by rw [List.size_toArray, HL.out]; kernel_rfl) (all_oneCell_toArray H1.out) ?_; rw [show E.toArray.toList = E from rfl])
      exact bodyPost_ret (v := .agg E.toArray) (by simp [results, Tryd.results56]; exact load36 HR.out HL.out) rfl ⟨E, rfl, HO.out⟩
end Go.Proofs.YtedbklipbfbmoaaDoor
