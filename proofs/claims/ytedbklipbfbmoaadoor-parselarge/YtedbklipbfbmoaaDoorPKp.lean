/-
  none, end, keep, passBytes, passLine.
-/
import Derived.Test.YtedbklipbfbmoaaDoorPEv
import Derived.Test.YtedbklipbfbmoaaDoorShelfI
namespace Go.Proofs.YtedbklipbfbmoaaDoor
open Go.RowKit

/-- Is an event none? -/
def isn (ev : Ev) : Bool := ((ev.rq.verb : Int) == 0) && ((ev.kind : Int) == 0)
theorem isn_yes {ev : Ev} (h : isn ev = true) : evs ev = [] := by
  simp [isn] at h
  unfold evs
  rw [if_pos (by omega)]
theorem isn_no {ev : Ev} (h : isn ev = false) : evs ev = [ev] := by
  unfold evs
  rw [if_neg]
  rintro ⟨h1, h2⟩
  simp [isn, h1, h2] at h
set_option maxRecDepth 100000 in
theorem none_any {o : Nat → Nat × Nat} {E : List Value} {ev : Ev} (w : World) (h : EvV w o E ev) (b : Bool) (hb : isn ev = b) : Calls Tryd.prog 24 #[.agg E.toArray] w fun e w' => e = .returned (.bool b) ∧ Below w.heap.size w w' := by
  obtain ⟨ea, en, ec, hE, _⟩ := h
  have c0 : (w.alloc (.cells E.toArray 36)).cell? ⟨w.heap.size, 0, none⟩ = some (.int .i64 ((ev.rq.verb : Nat) : Int)) := by
    rw [World.cell?_alloc_new, List.getElem?_toArray, hE]; rfl
  have c9 : (w.alloc (.cells E.toArray 36)).cell? ⟨w.heap.size, 9, none⟩ = some (.int .i64 ((ev.kind : Nat) : Int)) := by
    rw [World.cell?_alloc_new, List.getElem?_toArray, hE]; rfl
  have HB : Hid (Below w.heap.size w (w.alloc (.cells E.toArray 36))) := Lib.hid ((Below.refl _ _).alloc (Nat.le_refl _) _)
  unfold isn at hb
  clear hE
  obtain ⟨V, hV⟩ : ∃ V : Int, V = ((ev.rq.verb : Nat) : Int) := ⟨_, rfl⟩
  obtain ⟨K, hK⟩ : ∃ K : Int, K = ((ev.kind : Nat) : Int) := ⟨_, rfl⟩
  rw [← hV] at hb c0
  rw [← hK] at hb c9
  clear hV hK
  subst hb
  cases hv : (V == 0) with
  | false =>
    go_enter Tryd.func24, Tryd.ntmps24
    go_wp2_with fail
    go_ret
    exact ⟨rfl, HB.out⟩
  | true =>
    go_enter Tryd.func24, Tryd.ntmps24
    go_wp2_with fail
    go_ret
    exact ⟨rfl, HB.out⟩
set_option maxRecDepth 100000 in
set_option maxHeartbeats 1000000 in
theorem end_any {o : Nat → Nat × Nat} {x P : Nat} {p : Ps} {a : Option Addr} {n c : Nat} {ka : Option Addr} {kn kc : Nat} (hx : x < 8) (w : World) (h : IsP w o x P p a n c ka kn kc) : Calls Tryd.prog 37 #[.pointer (some ⟨P, 0, none⟩)] w fun e w' => ∃ E, e = .returned (.agg E.toArray) ∧ OutE w o x P (pz 4) (ans 15 []) E w' := by
  have F1 : Fr (TX x) o (lab o w.heap.size (8, 8)) w (w.alloc (.cells (Ev.none.cs (.slice none 0 0)).toArray 36)) := Fr.new _ _ _ _ _
  have R1 := Res.new w o
  have I1 := h.fr (Fr.new (fun _ => False) o w (.cells (Ev.none.cs (.slice none 0 0)).toArray 36) (8, 8)) id id id
  obtain ⟨I2, F2⟩ := I1.begin 4
  have R2 := R1.fr F2 (tx8 hx)
  have TH := Lib.hid I1.there
  have H := Lib.hid (And.intro (F1.trans F2) (And.intro I2 R2))
  clear F1 R1 I1 I2 F2 R2 h
  go_enter Tryd.func37, Tryd.ntmps37
  go_wp2_with fail
  refine (begin_any P 4 _ TH.out).mono ?_
  rintro e w2 ⟨rfl, hw2⟩
  obtain ⟨F2, I2, R2⟩ := H.out
  have H2 : Hid (Fr (TX x) o (lab o w.heap.size (8, 8)) w w2 ∧ IsP w2 (lab o w.heap.size (8, 8)) x P (pz 4) none 0 0 none 0 0 ∧ Res w2 (lab o w.heap.size (8, 8)) w.heap.size) := Lib.hid (by rw [hw2]; exact H.out)
  clear hw2 F2 I2 R2 H TH
  go_wp2_with fail
  refine (say_any 15 [] 15 ⟨#[]⟩ rfl rfl _).mono ?_
  rintro e w3 ⟨rfl, b3⟩
  obtain ⟨F2, I2, R2⟩ := H2.out
  obtain ⟨E, hE⟩ : ∃ E, E = (ans 15 []).cs (.slice none 0 0) := ⟨_, rfl⟩
  rw [← hE]
  have EV : EvV w3 (lab o w.heap.size (8, 8)) E (ans 15 []) := by rw [hE]; exact EvV.ans _ _ _ _
  have f3 := Fr.ofBelow (TX x) (lab o w.heap.size (8, 8)) b3
  obtain ⟨rg, OUT⟩ := fin_e hx (F2.trans f3) (I2.below b3) EV (R2.fr f3 (tx8 hx)) (Nat.le_refl _)
  have HT : Hid (w3.there w.heap.size 0 E.length) := Lib.hid (by rw [EV.len]; exact (R2.fr f3 (tx8 hx)).th)
  have HR := Lib.hid rg
  have HO := Lib.hid OUT
  have HL := Lib.hid EV.len
  have H1 := Lib.hid EV.one
  clear hE EV f3 rg OUT F2 I2 R2 H2 b3
  go_wp2_with ((with_reducible show wpList _ _ _ (Oper.mk none (Op.store 36 (.tmp 2) _) _ _ _ _ :: _) _ _); refine wpList_store_mid (by rfl) 36 (.tmp 2) (.tmp 5) (by rfl) w.heap.size 0 E.toArray (by rfl) (by rfl) HT.out (by rw [List.size_toArray, HL.out]; kernel_rfl) (all_oneCell_toArray H1.out) ?_; rw [show E.toArray.toList = E from rfl])
  exact bodyPost_ret (v := .agg E.toArray) (by simp [results, Tryd.results37]; exact load36 HR.out HL.out) rfl ⟨E, rfl, HO.out⟩
theorem str_hi (s : ByteArray) (m : Nat) (h : m ≤ s.size) (w : World) : (Instr.sliceAt 9 (.string s) none (some (.int .i64 (m : Int))) none).run Tryd.prog w = .ok (.string (S ((L s).take m))) w := by
  rw [run_sliceAt_string _ _ _ _ _ _ under9, run_slice_string_h _ _ _ under9 _ _ (by omega) (by omega)]
  rw [show s.extract 0 ((m : Int)).toNat = S ((L s).take m) from L_inj (by rw [L_extract]; rfl)]
theorem str_lo (s : ByteArray) (m : Nat) (h : m ≤ s.size) (w : World) : (Instr.sliceAt 9 (.string s) (some (.int .i64 (m : Int))) none none).run Tryd.prog w = .ok (.string (S ((L s).drop m))) w := by
  rw [run_sliceAt_string _ _ _ _ _ _ under9, run_slice_string_l _ _ _ under9 _ _ (by omega) (by omega)]
  rw [show s.extract ((m : Int)).toNat s.size = S ((L s).drop m) from L_inj (by rw [L_extract, ← L_len, List.take_length]; rfl)]
theorem step_app {P : Program} {ops : Array Oper} {o : Oper} {a : Act} {w w' : World} {K : Act → World → Prop} {Q : Exit → Act → World → Prop} {E : Prop} (hgd : o.guard = none) (s x : Operand) (t tx : TypeId)
    (ho : o.op = .call { callee := .builtin .append, args := #[s, x], argTypes := #[t, tx] }) (v xv v' : Value) (hs : a.eval s = v) (hx : a.eval x = xv)
    (hr : (Builtin.append_ #[t, tx] o.type #[v, xv]).run P w = .ok v' w') (h : K (a.put o.dst v') w') :
    if Region.wanted o (yielded ops a.tmps) = true then Oper.wp P o a w K Q else E := by
  rw [if_pos (by simp [Region.wanted, hgd])]
  unfold Oper.wp execOp
  simp only [ho, resolve, invoke, builtin, Sem.run_bind, Sem.run_pure, Result.andThen_ok, List.map_toArray, List.map_cons, List.map_nil, hs, hx, hr]
  exact h
/-- append as a step of a region that draws, its run given ahead: it names the world. -/
theorem step_app5 {P : Program} {ops : Array Oper} {o : Oper} {a : Act} {w : World} {K : Act → World → Prop} {Q : Exit → Act → World → Prop} {E : Prop} {X w' : World} {v xv v' : Value} {t tx : TypeId} (hr : (Builtin.append_ #[t, tx] t #[v, xv]).run P X = .ok v' w') (s x : Operand)
    (hw : w = X) (hgd : o.guard = none) (ho : o.op = .call { callee := .builtin .append, args := #[s, x], argTypes := #[t, tx] }) (ht : o.type = t) (hs : a.eval s = v) (hx : a.eval x = xv) (hk : K (a.put o.dst v') w') :
    if Region.wanted o (yielded ops a.tmps) = true then Oper.wp P o a w K Q else E := by
  subst hw
  exact step_app hgd s x t tx ho v xv v' hs hx (by rw [ht]; exact hr) hk
set_option maxRecDepth 100000 in
set_option maxHeartbeats 1000000 in
theorem keep_any {o : Nat → Nat × Nat} {x P : Nat} {p : Ps} {a : Option Addr} {n c : Nat} {ka : Option Addr} {kn kc : Nat} (hx : x < 8) (s : ByteArray) (N : Int) (m : Nat) (hm : min N (s.size : Int) = (m : Int)) (hb : n + s.size ≤ 1000000000000) (w : World) (h : IsP w o x P p a n c ka kn kc) :
    Calls Tryd.prog 38 #[.pointer (some ⟨P, 0, none⟩), .string s, .int .i64 N] w fun e w' => ∃ o' a' c', e = .returned (.string (S ((L s).drop m))) ∧ IsP w' o' x P { p with left := p.left ++ (L s).take m } a' (n + m) c' ka kn kc ∧ Fr (TX x) o o' w w' := by
  have h1 := h.fr (Fr.drew1 (fun _ => False) o w) id id id
  have hms : m ≤ s.size := by omega
  have hle := h.len
  have sz : (S ((L s).take m)).size = m := by rw [S_size, List.length_take, L_len]; omega
  obtain ⟨a', c', w2, o2, hrun, O2, F2⟩ := app_bytes (w := w.drew) (o := o) (l := p.left) h1.own (S ((L s).take m)) (by rw [sz]; omega)
  rw [L_S] at O2
  rw [sz, ← hle] at hrun O2
  obtain ⟨I3, F3⟩ := h1.lay (p' := { p with left := p.left ++ (L s).take m }) (by omega) F2 O2 (by rw [List.length_append, List.length_take, L_len, hle]; omega) rfl
  have c1 : w.cell? ⟨P, 1, none⟩ = some (.slice a n c) := h.at_ 1 _ rfl
  have hP : ¬ (o P = (x, 1)) := by rw [h.mark]; intro e; injection e with _ e; cases e
  have c2 := F2.cell (h1.at_ 1 _ rfl) hP
  have f2 := (F2.frozen (off := 1) h1.lt hP).trans (h1.fz 1)
  have s1 := str_hi s m hms
  have s2 := str_lo s m hms
  have H := Lib.hid (And.intro I3 ((Fr.drew1 (TX x) o w).trans F3))
  clear h h1 O2 F2 I3 F3 hP sz hle
  go_enter Tryd.func38, Tryd.ntmps38
  go_wp2_with fail
  go_region_law (refine step_app5 hrun (.tmp 15) (.tmp 18) (by rfl) (by rfl) (by rfl) (by rfl) (by rfl) (by rfl) ?_)
  all_goals
    go_wp2_with fail
    go_ret
    exact ⟨o2, a', c', rfl, H.out⟩
set_option maxRecDepth 100000 in
set_option maxHeartbeats 1000000 in
theorem pass_bytes {o : Nat → Nat × Nat} {x P k : Nat} {a : Option Addr} {n c : Nat} {ka : Option Addr} {kn kc : Nat} (hx : x < 8) (s : ByteArray) (m : Nat) (hm : min (k : Int) (s.size : Int) = (m : Int)) (hk1 : k ≤ 2147483649) (w : World) (h : IsP w o x P (pp k) a n c ka kn kc) :
    Calls Tryd.prog 20 #[.pointer (some ⟨P, 0, none⟩), .string s] w fun e w' => ∃ o' a' n' c' ka' kn' kc', e = .returned (.string (S ((L s).drop m))) ∧ IsP w' o' x P (if k - m = 0 then pz 0 else pp (k - m)) a' n' c' ka' kn' kc' ∧ Fr (TX x) o o' w w' := by
  have hms : m ≤ s.size := by omega
  have hmk : m ≤ k := by omega
  have c11 : w.cell? ⟨P, 11, none⟩ = some (.int .i64 (k : Int)) := h.at_ 11 _ rfl
  have z11 := h.fz 11
  have s2 := str_lo s m hms
  obtain ⟨I1, F1⟩ := h.set (p' := pp (k - m)) (by omega) 11 (.int .i64 ((k : Int) - (m : Int))) (by omega) rfl rfl (by
    show _ = (pp (k - m)).cs _ _
    simp only [Ps.cs, pp, List.set_cons_succ, List.set_cons_zero]
    rw [show (((k - m : Nat)) : Int) = (k : Int) - (m : Int) by omega])
  by_cases e0 : k - m = 0
  · rw [if_pos e0]
    have e1 : (k : Int) - (m : Int) = 0 := by omega
    obtain ⟨I2, F2⟩ := I1.begin 0
    rw [e1] at I1 I2 F1 F2
    have TH := Lib.hid I1.there
    have H := Lib.hid (And.intro I2 (F1.trans F2))
    clear I1 I2 F1 F2 h e0
    go_enter Tryd.func20, Tryd.ntmps20
    go_wp2_with fail
    refine (begin_any P 0 _ TH.out).mono ?_
    rintro e w2 ⟨rfl, hw2⟩
    have H2 : Hid (IsP w2 o x P (pz 0) none 0 0 none 0 0 ∧ Fr (TX x) o o w w2) := Lib.hid (by rw [hw2]; exact H.out)
    clear hw2 TH H
    go_wp2_with fail
    go_ret
    exact ⟨o, none, 0, 0, none, 0, 0, rfl, H2.out⟩
  · rw [if_neg e0]
    have e1 : ¬ ((k : Int) - (m : Int) = 0) := by omega
    have H := Lib.hid (And.intro I1 F1)
    clear I1 F1 h e0
    go_enter Tryd.func20, Tryd.ntmps20
    go_wp2_with fail
    go_ret
    exact ⟨o, a, n, c, ka, kn, kc, rfl, H.out⟩
end Go.Proofs.YtedbklipbfbmoaaDoor
