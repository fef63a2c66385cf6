/-
  obey: what a line makes.
-/
import Derived.Test.YtedbklipbfbmoaaDoorPAw
import Derived.Test.YtedbklipbfbmoaaDoorRNum
namespace Go.Proofs.YtedbklipbfbmoaaDoor
open Go.RowKit

theorem OutE.say {W W' : World} {o : Nat → Nat × Nat} {x P : Nat} {p : Ps} {a : Option Addr} {n c : Nat} {ka : Option Addr} {kn kc : Nat} (h : IsP W o x P p a n c ka kn kc) (b : Below W.heap.size W W') (k : Nat) (t : B) : OutE W o x P p (ans k t) ((ans k t).cs (.slice none 0 0)) W' :=
  ⟨o, a, n, c, ka, kn, kc, EvV.ans _ _ _ _, h.below b, Fr.ofBelow _ _ b⟩
theorem OutE.zero {W : World} {o : Nat → Nat × Nat} {x P : Nat} {p : Ps} {a : Option Addr} {n c : Nat} {ka : Option Addr} {kn kc : Nat} (h : IsP W o x P p a n c ka kn kc) : OutE W o x P p Ev.none (Ev.none.cs (.slice none 0 0)) W :=
  ⟨o, a, n, c, ka, kn, kc, EvV.no _ _, h, Fr.refl _ _ _⟩
/-- An event that comes out of a call, stored where it is handed back from. -/
theorem chain_e {w W W' : World} {o0 o : Nat → Nat × Nat} {x P b : Nat} {p' : Ps} {E : List Value} {ev : Ev} (hx : x < 8) (hF : Fr (TX x) o0 o w W) (hR : Res W o b) (hn : w.heap.size ≤ b) (h : OutE W o x P p' ev E W') :
    E.length = 18 ∧ (∀ u ∈ E, u.oneCell' = true) ∧ W'.there b 0 E.length ∧ (W'.setCells b 0 E).rangeAt b 0 E ∧ OutE w o0 x P p' ev E (W'.setCells b 0 E) := by
  obtain ⟨o', a, n, c, ka, kn, kc, hE, hI, f⟩ := h
  have hR' := hR.fr f (tx8 hx)
  obtain ⟨h1, h2⟩ := fin_e hx (hF.trans f) hI hE hR' hn
  exact ⟨hE.len, hE.one, by rw [hE.len]; exact hR'.th, h1, h2⟩
/-- The verbs' table, in a block that nothing turns. -/
def Tb (w : World) (o : Nat → Nat × Nat) : Prop := HasTab w ∧ o 0 = (9, 9)
theorem Tb.fr {T : Nat × Nat → Prop} {w w' : World} {o o' : Nat → Nat × Nat} (h : Tb w o) (f : Fr T o o' w w') (hT : ¬ T (9, 9)) : Tb w' o' := by
  have hlt : 0 < w.heap.size := World.block_lt_of_cell? _ _ (h.1 0 [] rfl)
  exact ⟨fun i x hx => f.cell (h.1 i x hx) (by rw [h.2]; exact hT), (f.lab 0 hlt).trans h.2⟩
/-- A request in a block of its own. -/
theorem rq_lay {w : World} {o : Nat → Nat × Nat} {R : List Value} (hl : R.length = 9) {W : World} (hW : W = (w.alloc (.cells ZV.toArray 30)).setCells w.heap.size 0 R) :
    Fr (fun _ => False) o (lab o w.heap.size (8, 7)) w W ∧ W.rangeAt w.heap.size 0 R ∧ (w.alloc (.cells ZV.toArray 30)).there w.heap.size 0 9 ∧ lab o w.heap.size (8, 7) w.heap.size = (8, 7) := by
  have ht : (w.alloc (.cells ZV.toArray 30)).there w.heap.size 0 9 := fun j hj => by
    obtain ⟨v, hv⟩ : ∃ v, ZV[j]? = some v := ⟨_, List.getElem?_eq_getElem (show j < ZV.length from hj)⟩
    rw [Nat.zero_add, World.cell?_alloc_new, World.frozen?_alloc_new, List.getElem?_toArray, hv]
    exact ⟨rfl, rfl⟩
  subst hW
  exact ⟨(Fr.new _ o w _ _).setsNew (Nat.le_refl _) _ _, World.rangeAt_setCells_same _ _ _ _ (by rw [hl]; exact ht), ht, lab_same _ _ _⟩
theorem storing_c (V : Int) (b : Bool) (hb : (decide ((3 : Int) ≤ V) && decide (V ≤ 8)) = b) (w : World) : Calls Tryd.prog 19 #[.int .i64 V] w fun e w' => e = .returned (.bool b) ∧ w = w' := by
  subst hb
  exact storing_any V w
theorem obey_4 {r : Rq} : obeyR (r, 4) = (pz 0, ans 12 []) := rfl
theorem obey_1 {r : Rq} : obeyR (r, 1) = (pz 0, ans 13 badLine) := rfl
theorem obey_17 {r : Rq} (h : r.verb = 17) : obeyR (r, 0) = (pz 4, ans 15 []) := by unfold obeyR; rw [if_neg (by simp), if_neg (by simp), if_pos h]
theorem obey_st {r : Rq} (h : r.verb ≠ 17) (h3 : 3 ≤ r.verb ∧ r.verb ≤ 8) : obeyR (r, 0) = awt r := by
  unfold obeyR awt; rw [if_neg (by simp), if_neg (by simp), if_neg h, if_pos h3]; rfl
theorem obey_no {r : Rq} (h : r.verb ≠ 17) (h3 : ¬ (3 ≤ r.verb ∧ r.verb ≤ 8)) : obeyR (r, 0) = (pz 0, req r []) := by
  unfold obeyR; rw [if_neg (by simp), if_neg (by simp), if_neg h, if_neg h3]
set_option maxRecDepth 100000 in
set_option maxHeartbeats 2000000 in
theorem obey_any {o : Nat → Nat × Nat} {x P : Nat} {p : Ps} {a : Option Addr} {n c : Nat} {ka : Option Addr} {kn kc : Nat} (hx : x < 8) (s : ByteArray) (hs : s.size ≤ 100000) (w : World) (h : IsP w o x P p a n c ka kn kc) (ht : Tb w o) :
    Calls Tryd.prog 40 #[.pointer (some ⟨P, 0, none⟩), .string s] w fun e w' => ∃ E, e = .returned (.agg E.toArray) ∧ OutE w o x P (obey (L s)).1 (obey (L s)).2 E w' := by
  have LA := Lib.hid (fun (w : World) (ht : HasTab w) => line_any s hs w ht)
  have LB := Lib.hid (line_bytes (L s))
  have LE := Lib.hid (line_err (L s))
  unfold obey
  generalize line (L s) = LN at *
  obtain ⟨r, er⟩ := LN
  obtain ⟨W1, hW1⟩ : ∃ W1, W1 = w.alloc (.cells (Ev.none.cs (.slice none 0 0)).toArray 36) := ⟨_, rfl⟩
  obtain ⟨o1, ho1⟩ : ∃ o1, o1 = lab o w.heap.size (8, 8) := ⟨_, rfl⟩
  have F1 : Fr (fun _ => False) o o1 w W1 := by rw [hW1, ho1]; exact Fr.new _ _ _ _ _
  have R1 : Res W1 o1 w.heap.size := by rw [hW1, ho1]; exact Res.new _ _
  have I1 := h.fr F1 id id id
  have T1 := ht.fr F1 id
  obtain ⟨I2, F2⟩ := I1.begin 0
  obtain ⟨W2, hW2⟩ : ∃ W2, W2 = W1.setCells P 0 ((pz 0).cs (.slice none 0 0) (.slice none 0 0)) := ⟨_, rfl⟩
  rw [← hW2] at I2 F2
  have R2 := R1.fr F2 (tx8 hx)
  have T2 := T1.fr F2 (tx9 hx)
  have TH := Lib.hid I1.there
  rw [hW1] at TH
  have F12 : Fr (TX x) o o1 w W2 := (F1.mono (fun _ h => h.elim)).trans F2
  have H := Lib.hid (And.intro F12 (And.intro I2 (And.intro R2 T2)))
  rw [hW1] at hW2
  have HW2 := Lib.hid hW2
  clear F1 R1 I1 T1 I2 F2 R2 T2 h ht ho1 F12 hW2 hW1
  go_enter Tryd.func40, Tryd.ntmps40
  go_wp2_with fail
  refine (begin_any P 0 _ TH.out).mono ?_
  rintro e w2 ⟨rfl, hw2⟩
  have hw2' : w2 = W2 := by rw [hw2, HW2.out]
  clear hw2 HW2
  subst hw2'
  clear TH
  go_wp2_with fail
  refine (LA.out w2 H.out.2.2.2.1).mono ?_
  rintro e w3 ⟨la, ln, lc, rfl, S3, b3, n3⟩
  simp only at S3 LB LE ⊢
  obtain ⟨R, hR⟩ : ∃ R, R = r.cs (.slice la ln lc) := ⟨_, rfl⟩
  rw [show r.v (.slice la ln lc) = .agg R.toArray by rw [hR]; rfl]
  obtain ⟨W4, hW4⟩ : ∃ W4, W4 = (w3.alloc (.cells #[.int .i64 0, .slice none 0 0, .int .i64 0, .int .i64 0, .int .i64 0, .int .i64 0, .int .u64 0, .bool false, .string ⟨#[]⟩] 30)).setCells w3.heap.size 0 R := ⟨_, rfl⟩
  have rl : R.length = 9 := by rw [hR]; rfl
  have f3 := Fr.over (TX x) o1 b3 (9, 9)
  obtain ⟨f4, g4, th4, m4⟩ := rq_lay (o := over o1 w2.heap.size (9, 9)) rl hW4
  have k3 := S3.ks (o := o1) b3 n3
  obtain ⟨o4, ho4⟩ : ∃ o4, o4 = lab (over o1 w2.heap.size (9, 9)) w3.heap.size (8, 7) := ⟨_, rfl⟩
  rw [← ho4] at f4 m4
  obtain ⟨F2, I2, R2, T2⟩ := H.out
  have H4 : Hid (Fr (TX x) o o4 w W4 ∧ IsP W4 o4 x P (pz 0) none 0 0 none 0 0 ∧ Res W4 o4 w.heap.size ∧ Ks W4 o4 (.slice la ln lc) r.keys) := Lib.hid ⟨(F2.trans f3).trans (f4.mono (fun _ h => h.elim)), (I2.fr (Fr.over (fun _ => False) o1 b3 (9, 9)) id id id).fr f4 id id id, (R2.fr f3 (tx8 hx)).fr f4 id, k3.fr f4 id⟩
  have c0 : W4.cell? ⟨w3.heap.size, 0, none⟩ = some (.int .i64 ((r.verb : Nat) : Int)) := by
    have := g4 0 (.int .i64 ((r.verb : Nat) : Int)) (by rw [hR]; rfl)
    rwa [Nat.zero_add] at this
  have HG := Lib.hid g4
  have HM := Lib.hid m4
  have HRL := Lib.hid rl
  have HRR := Lib.hid hR
  have HRO : Hid (∀ u ∈ R, u.oneCell' = true) := Lib.hid (by rw [hR]; exact cs_one _ _ _ _)
  have HTH : Hid ((w3.alloc (.cells ZV.toArray 30)).there w3.heap.size 0 R.length) := Lib.hid (by rw [rl]; exact th4)
  have HW4 := Lib.hid hW4
  clear hR hW4 rl f3 f4 g4 th4 m4 k3 F2 I2 R2 T2 H b3 n3 S3 ho4 LA
  have ARM : Hid True := Lib.hid trivial
  clear ARM
  rcases LE.out with he | he | he
  · subst he
    rw [show ((0 : Nat) : Int) = 0 from rfl]
    obtain ⟨V, hV⟩ : ∃ V : Int, V = ((r.verb : Nat) : Int) := ⟨_, rfl⟩
    rw [← hV] at c0
    have HV := Lib.hid hV
    clear hV
    by_cases h17 : V = 17
    · have HOB : Hid (obeyR (r, 0) = (pz 4, ans 15 [])) := Lib.hid (obey_17 (by have := HV.out; omega))
      subst h17
      go_wp2_with ((with_reducible show wpList _ _ _ (Oper.mk none (Op.store 30 (.tmp 5) _) _ _ _ _ :: _) _ _); refine wpList_store_mid (by rfl) 30 (.tmp 5) (.tmp 12) (by rfl) w3.heap.size 0 R.toArray (by rfl) (by rfl) HTH.out (by rw [List.size_toArray, HRL.out]; kernel_rfl) (all_oneCell_toArray HRO.out) ?_; rw [show R.toArray.toList = R from rfl, ← HW4.out])
      refine (end_any hx W4 H4.out.2.1).mono ?_
      rintro e w5 ⟨E, rfl, O5⟩
      obtain ⟨F4, I4, R4, K4⟩ := H4.out
      obtain ⟨hl, ho, ht, hr, hq⟩ := chain_e hx F4 R4 (Nat.le_refl _) O5
      have HL := Lib.hid hl
      have H1 := Lib.hid ho
      have HT := Lib.hid ht
      have HR := Lib.hid hr
      have HO := Lib.hid hq
      clear hl ho ht hr hq
      clear F4 I4 R4 K4 O5 H4
      go_wp2_with ((with_reducible show wpList _ _ _ (Oper.mk none (Op.store 36 (.tmp 4) _) _ _ _ _ :: _) _ _); refine wpList_store_mid (by rfl) 36 (.tmp 4) (.tmp 27) (by rfl) w.heap.size 0 E.toArray (by rfl) (by rfl) HT.out (by rw [List.size_toArray, HL.out]; kernel_rfl) (all_oneCell_toArray H1.out) ?_; rw [show E.toArray.toList = E from rfl])
      exact bodyPost_ret (v := .agg E.toArray) (by simp [results, Tryd.results40]; exact load36 HR.out HL.out) rfl ⟨E, rfl, by rw [HOB.out]; exact HO.out⟩
    · have h17' : ¬ ((V : Int) = 17) := h17
      have hv17 : r.verb ≠ 17 := by have := HV.out; omega
      have HV17 := Lib.hid hv17
      clear hv17
      by_cases h38 : 3 ≤ V ∧ V ≤ 8
      · have HOB : Hid (obeyR (r, 0) = awt r) := Lib.hid (obey_st HV17.out (by have := HV.out; omega))
        have sb : (decide ((3 : Int) ≤ V) && decide (V ≤ 8)) = true := by simp; omega
        have HSB := Lib.hid sb
        clear sb
        go_wp2_with ((with_reducible show wpList _ _ _ (Oper.mk none (Op.store 30 (.tmp 5) _) _ _ _ _ :: _) _ _); refine wpList_store_mid (by rfl) 30 (.tmp 5) (.tmp 12) (by rfl) w3.heap.size 0 R.toArray (by rfl) (by rfl) HTH.out (by rw [List.size_toArray, HRL.out]; kernel_rfl) (all_oneCell_toArray HRO.out) ?_; rw [show R.toArray.toList = R from rfl, ← HW4.out])
        refine (storing_c V true HSB.out _).mono ?_
        rintro e w5 ⟨rfl, rfl⟩
        go_wp2_with ((with_reducible show wpList _ _ _ (Oper.mk (some _) (Op.load 30 (.tmp 5)) _ _ _ _ :: _) _ _); refine wpList_load_mid (by rfl) 30 (.tmp 5) (by rfl) w3.heap.size 0 (by rfl) R _ HG.out Tryd.underlying30 (by rfl) (by rw [HRL.out]; kernel_rfl) ?_)
        rw [HRR.out]
        refine (await_any hx r la ln lc LB.out.1 LB.out.2 W4 H4.out.2.1 H4.out.2.2.2).mono ?_
        rintro e w5 ⟨E, rfl, O5⟩
        obtain ⟨F4, I4, R4, K4⟩ := H4.out
        obtain ⟨hl, ho, ht, hr, hq⟩ := chain_e hx F4 R4 (Nat.le_refl _) O5
        have HL := Lib.hid hl
        have H1 := Lib.hid ho
        have HT := Lib.hid ht
        have HR := Lib.hid hr
        have HO := Lib.hid hq
        clear hl ho ht hr hq
        clear F4 I4 R4 K4 O5 H4
        go_wp2_with ((with_reducible show wpList _ _ _ (Oper.mk none (Op.store 36 (.tmp 4) _) _ _ _ _ :: _) _ _); refine wpList_store_mid (by rfl) 36 (.tmp 4) (.tmp 34) (by rfl) w.heap.size 0 E.toArray (by rfl) (by rfl) HT.out (by rw [List.size_toArray, HL.out]; kernel_rfl) (all_oneCell_toArray H1.out) ?_; rw [show E.toArray.toList = E from rfl])
        exact bodyPost_ret (v := .agg E.toArray) (by simp [results, Tryd.results40]; exact load36 HR.out HL.out) rfl ⟨E, rfl, by rw [HOB.out]; exact HO.out⟩
      · have HOB : Hid (obeyR (r, 0) = (pz 0, req r [])) := Lib.hid (obey_no HV17.out (by have := HV.out; omega))
        have sb : (decide ((3 : Int) ≤ V) && decide (V ≤ 8)) = false := by simp; omega
        have HSB := Lib.hid sb
        clear sb
        obtain ⟨F4, I4, R4, K4⟩ := H4.out
        have O5 : OutE W4 o4 x P (pz 0) (req r []) ((req r []).cs (.slice la ln lc)) W4 := ⟨o4, none, 0, 0, none, 0, 0, ⟨la, ln, lc, rfl, K4⟩, I4, Fr.refl _ _ _⟩
        obtain ⟨E, hE⟩ : ∃ E, E = (req r []).cs (.slice la ln lc) := ⟨_, rfl⟩
        rw [← hE] at O5
        have HE := Lib.hid hE
        obtain ⟨hl, ho, ht, hr, hq⟩ := chain_e hx F4 R4 (Nat.le_refl _) O5
        have HL := Lib.hid hl
        have H1 := Lib.hid ho
        have HT := Lib.hid ht
        have HR := Lib.hid hr
        have HO := Lib.hid hq
        clear hl ho ht hr hq
        clear F4 I4 R4 K4 O5 H4 hE
        go_wp2_with ((with_reducible show wpList _ _ _ (Oper.mk none (Op.store 30 (.tmp 5) _) _ _ _ _ :: _) _ _); refine wpList_store_mid (by rfl) 30 (.tmp 5) (.tmp 12) (by rfl) w3.heap.size 0 R.toArray (by rfl) (by rfl) HTH.out (by rw [List.size_toArray, HRL.out]; kernel_rfl) (all_oneCell_toArray HRO.out) ?_; rw [show R.toArray.toList = R from rfl, ← HW4.out])
        refine (storing_c V false HSB.out _).mono ?_
        rintro e w5 ⟨rfl, rfl⟩
        go_wp2_with (first
          | ((with_reducible show wpList _ _ _ (Oper.mk (some _) (Op.load 30 (.tmp 5)) _ _ _ _ :: _) _ _); refine wpList_load_mid (by rfl) 30 (.tmp 5) (by rfl) w3.heap.size 0 (by rfl) R _ HG.out Tryd.underlying30 (by rfl) (by rw [HRL.out]; kernel_rfl) ?_; rw [HRR.out]; simp only [Rq.cs])
          | ((with_reducible show wpList _ _ _ (Oper.mk none (Op.store 36 (.tmp 4) _) _ _ _ _ :: _) _ _); refine wpList_store_mid (by rfl) 36 (.tmp 4) (.tmp 36) (by rfl) w.heap.size 0 E.toArray (by rfl) (by rw [HE.out]; rfl) HT.out (by rw [List.size_toArray, HL.out]; kernel_rfl) (all_oneCell_toArray H1.out) ?_; rw [show E.toArray.toList = E from rfl]))
        exact bodyPost_ret (v := .agg E.toArray) (by simp [results, Tryd.results40]; exact load36 HR.out HL.out) rfl ⟨E, rfl, by rw [HOB.out]; exact HO.out⟩
  · subst he
    have HOB : Hid (obeyR (r, 1) = (pz 0, ans 13 badLine)) := Lib.hid obey_1
    rw [show ((1 : Nat) : Int) = 1 from rfl]
    go_wp2_with ((with_reducible show wpList _ _ _ (Oper.mk none (Op.store 30 (.tmp 5) _) _ _ _ _ :: _) _ _); refine wpList_store_mid (by rfl) 30 (.tmp 5) (.tmp 12) (by rfl) w3.heap.size 0 R.toArray (by rfl) (by rfl) HTH.out (by rw [List.size_toArray, HRL.out]; kernel_rfl) (all_oneCell_toArray HRO.out) ?_; rw [show R.toArray.toList = R from rfl, ← HW4.out])
    refine (say_any 13 badLine 13 ⟨#[98, 97, 100, 32, 99, 111, 109, 109, 97, 110, 100, 32, 108, 105, 110, 101, 32, 102, 111, 114, 109, 97, 116]⟩ rfl rfl _).mono ?_
    rintro e w5 ⟨rfl, b5⟩
    obtain ⟨F4, I4, R4, K4⟩ := H4.out
    have O5 := OutE.say I4 b5 13 badLine
    obtain ⟨E, hE⟩ : ∃ E, E = (ans 13 badLine).cs (.slice none 0 0) := ⟨_, rfl⟩
    rw [← hE] at O5 ⊢
    obtain ⟨hl, ho, ht, hr, hq⟩ := chain_e hx F4 R4 (Nat.le_refl _) O5
    have HL := Lib.hid hl
    have H1 := Lib.hid ho
    have HT := Lib.hid ht
    have HR := Lib.hid hr
    have HO := Lib.hid hq
    clear hl ho ht hr hq
    clear hE F4 I4 R4 K4 O5 b5 H4
    go_wp2_with ((with_reducible show wpList _ _ _ (Oper.mk none (Op.store 36 (.tmp 4) _) _ _ _ _ :: _) _ _); refine wpList_store_mid (by rfl) 36 (.tmp 4) (.tmp 21) (by rfl) w.heap.size 0 E.toArray (by rfl) (by rfl) HT.out (by rw [List.size_toArray, HL.out]; kernel_rfl) (all_oneCell_toArray H1.out) ?_; rw [show E.toArray.toList = E from rfl])
    exact bodyPost_ret (v := .agg E.toArray) (by simp [results, Tryd.results40]; exact load36 HR.out HL.out) rfl ⟨E, rfl, by rw [HOB.out]; exact HO.out⟩
  · subst he
    have HOB : Hid (obeyR (r, 4) = (pz 0, ans 12 [])) := Lib.hid obey_4
    rw [show ((4 : Nat) : Int) = 4 from rfl]
    go_wp2_with ((with_reducible show wpList _ _ _ (Oper.mk none (Op.store 30 (.tmp 5) _) _ _ _ _ :: _) _ _); refine wpList_store_mid (by rfl) 30 (.tmp 5) (.tmp 12) (by rfl) w3.heap.size 0 R.toArray (by rfl) (by rfl) HTH.out (by rw [List.size_toArray, HRL.out]; kernel_rfl) (all_oneCell_toArray HRO.out) ?_; rw [show R.toArray.toList = R from rfl, ← HW4.out])
    refine (say_any 12 [] 12 ⟨#[]⟩ rfl rfl _).mono ?_
    rintro e w5 ⟨rfl, b5⟩
    obtain ⟨F4, I4, R4, K4⟩ := H4.out
    have O5 := OutE.say I4 b5 12 []
    obtain ⟨E, hE⟩ : ∃ E, E = (ans 12 []).cs (.slice none 0 0) := ⟨_, rfl⟩
    rw [← hE] at O5 ⊢
    obtain ⟨hl, ho, ht, hr, hq⟩ := chain_e hx F4 R4 (Nat.le_refl _) O5
    have HL := Lib.hid hl
    have H1 := Lib.hid ho
    have HT := Lib.hid ht
    have HR := Lib.hid hr
    have HO := Lib.hid hq
    clear hl ho ht hr hq
    clear hE F4 I4 R4 K4 O5 b5 H4
    go_wp2_with ((with_reducible show wpList _ _ _ (Oper.mk none (Op.store 36 (.tmp 4) _) _ _ _ _ :: _) _ _); refine wpList_store_mid (by rfl) 36 (.tmp 4) (.tmp 17) (by rfl) w.heap.size 0 E.toArray (by rfl) (by rfl) HT.out (by rw [List.size_toArray, HL.out]; kernel_rfl) (all_oneCell_toArray H1.out) ?_; rw [show E.toArray.toList = E from rfl])
    exact bodyPost_ret (v := .agg E.toArray) (by simp [results, Tryd.results40]; exact load36 HR.out HL.out) rfl ⟨E, rfl, by rw [HOB.out]; exact HO.out⟩
end Go.Proofs.YtedbklipbfbmoaaDoor
