/-
  ParseTells: books.
-/
import Derived.Test.YtedbklipbfbmoaaDoorQFw
import Derived.Test.YtedbklipbfbmoaaDoorPCu
import Derived.StillTailTactics
import Derived.Deep.RegionWith
namespace Go.Proofs.YtedbklipbfbmoaaDoor
open Go.RowKit

theorem kp_feed1 : ∀ (b : B) {p : Ps}, Kp p → Kp (feed p b).1
  | [], _, h => h
  | c :: b, p, h => by
    rw [feed_cons]
    exact kp_feed1 b (kp_step h c).1
theorem left_step (p : Ps) (c : UInt8) : (step p c).1.left.length ≤ p.left.length + 1 := by
  unfold step
  split
  · split
    · show (obey _).1.left.length ≤ _
      unfold obey obeyR
      repeat' split
      all_goals simp [pz]
    · split
      · simp
      · simp [pz]
  · split
    · unfold stepD
      repeat' split
      all_goals simp [pz]
    · repeat' split
      all_goals simp [pz]
theorem left_feed : ∀ (b : B) (p : Ps), (feed p b).1.left.length ≤ p.left.length + b.length
  | [], p => by rw [feed_nil]; simp
  | c :: b, p => by
    rw [feed_cons]
    have h1 := left_feed b (step p c).1
    have h2 := left_step p c
    show (feed (step p c).1 b).1.left.length ≤ p.left.length + (c :: b).length
    rw [List.length_cons]; omega
theorem okp_shut {p : Ps} (h : Okp p) (e : (bse p).st = 4) : p.left = [] := by
  have h4 : p.st = 4 := e
  rcases h.1 with ⟨_, e⟩ | ⟨h3, h8, b0, b1, _, e⟩ | ⟨k1, k2, e⟩ | e | e
  · rw [e] at h4; cases h4
  · rw [e] at h4; cases h4
  · rw [e] at h4; cases h4
  · rw [e] at h4; cases h4
  · rw [e]; rfl
/-- Program and reference side by side, ahead of a piece. -/
structure Tl (w : World) (P Q : Nat) (n : Nat) (wr : World) (p : Ps) (o : Nat → Nat × Nat) : Prop where
  ok : Okp p
  kp : Kp p
  ln : p.left.length ≤ n
  ip : ∃ a n c ka kn kc, IsP wr o 1 P p a n c ka kn kc
  iq : ∃ ka kn kc, IsRf wr o 2 Q (bse p) p.left ka kn kc
  tb : Tb wr o
  fr : Fr (· ≠ (9, 9)) on9 o w wr
/-- The reference was fed; its events are on their way into a row of the program's type. -/
structure Tw (w : World) (P Q : Nat) (p : Ps) (f : Ps × List Ev) (vl : Value) (wr : World) (k : Nat) (wv : Value) (o : Nat → Nat × Nat) : Prop where
  el : Evs wr o (7, 2) vl f.2
  ew : Evs wr o (7, 3) wv (f.2.take k)
  ip : ∃ a n c ka kn kc, IsP wr o 1 P p a n c ka kn kc
  iq : ∃ ka kn kc, IsRf wr o 2 Q (bse f.1) f.1.left ka kn kc
  tb : Tb wr o
  fr : Fr (· ≠ (9, 9)) on9 o w wr
theorem Tl.below {w : World} {P Q n : Nat} {wr : World} {p : Ps} {o : Nat → Nat × Nat} (h : Tl w P Q n wr p o) : Below w.heap.size w wr := below_9 h.fr
theorem Tw.below {w : World} {P Q : Nat} {p : Ps} {f : Ps × List Ev} {vl : Value} {wr : World} {k : Nat} {wv : Value} {o : Nat → Nat × Nat} (h : Tw w P Q p f vl wr k wv o) : Below w.heap.size w wr := below_9 h.fr
/-- Behind the reference's Feed. -/
theorem Tl.feed {w : World} {P Q n : Nat} {wr w2 : World} {p : Ps} {o : Nat → Nat × Nat} (h : Tl w P Q n wr p o) {s : B} {v : Value} (hF : FOutR wr o 2 Q (7, 2) (feed (bse p) (p.left ++ s)) v w2) : ∃ o2 la lc, v = .slice la (feed p s).2.length lc ∧ Tw w P Q p (feed p s) v w2 0 (.slice none 0 0) o2 := by
  rw [← feed_base h.ok] at hF
  obtain ⟨o2, ka, kn, kc, E2, I2, F2⟩ := hF
  obtain ⟨a, n, c, qa, qn, qc, ip⟩ := h.ip
  obtain ⟨la, lc, e⟩ := E2.form
  exact ⟨o2, la, lc, e, E2, Evs.nil _ _ _, ⟨a, n, c, qa, qn, qc, ip.fr F2 (tf_no (by decide) (by decide)) (tf_no (by decide) (by decide)) (tf_no (by decide) (by decide))⟩, ⟨ka, kn, kc, I2⟩, h.tb.fr F2 (tf_no (by decide) (by decide)), h.fr.trans (F2.mono (nine (by decide) rfl))⟩
/-- Nothing has turned: only new memory. -/
theorem Tw.up {w : World} {P Q : Nat} {p : Ps} {f : Ps × List Ev} {vl : Value} {wr wr' : World} {k : Nat} {wv : Value} {o : Nat → Nat × Nat} (h : Tw w P Q p f vl wr k wv o) (b : Below wr.heap.size wr wr') : Tw w P Q p f vl wr' k wv o := by
  have F := Fr.ofBelow (fun _ => False) o b
  obtain ⟨a, n, c, qa, qn, qc, ip⟩ := h.ip
  obtain ⟨ka, kn, kc, iq⟩ := h.iq
  exact ⟨h.el.fr F id id, h.ew.fr F id id, ⟨_, _, _, _, _, _, ip.fr F id id id⟩, ⟨_, _, _, iq.fr F id id⟩, h.tb.fr F id, h.fr.trans (F.mono (fun _ h => h.elim))⟩
/-- One event more. -/
theorem Tw.step {w : World} {P Q : Nat} {p : Ps} {f : Ps × List Ev} {vl : Value} {wr : World} {k : Nat} {wv : Value} {o : Nat → Nat × Nat} (h : Tw w P Q p f vl wr k wv o) (hf : f.2.length ≤ 1000000000) {ev : Ev} (hk : f.2[k]? = some ev) {E : List Value} (hE : EvV wr o E ev) :
    ∃ a c w' o', (Builtin.append_ #[24, 24] 24 #[wv, .slice (some ⟨wr.heap.size, 0, none⟩) 1 1]).run Tryd.prog (wr.alloc (.cells E.toArray 36)) = .ok (.slice a (k + 1) c) w' ∧ Tw w P Q p f vl w' (k + 1) (.slice a (k + 1) c) o' := by
  have hkl : k < f.2.length := (List.getElem?_eq_some_iff.1 hk).1
  obtain ⟨a, c, w', o', hr, E', F⟩ := h.ew.app (by decide) hE (by rw [List.length_take]; omega)
  have el : (f.2.take k).length = k := by rw [List.length_take]; omega
  rw [el] at hr E'
  obtain ⟨a1, n1, c1, qa, qn, qc, ip⟩ := h.ip
  obtain ⟨ka, kn, kc, iq⟩ := h.iq
  refine ⟨a, c, w', o', hr, h.el.fr F (by decide) (by decide), ?_, ⟨_, _, _, _, _, _, ip.fr F (by decide) (by decide) (by decide)⟩, ⟨_, _, _, iq.fr F (by decide) (by decide)⟩, h.tb.fr F (by decide), h.fr.trans (F.mono (fun t h e => by rw [h] at e; cases e))⟩
  rw [List.take_add_one, hk]
  exact E'
/-- Behind the program's Feed. -/
theorem Tw.fed {w : World} {P Q : Nat} {p : Ps} {f : Ps × List Ev} {vl : Value} {wr w5 : World} {k n : Nat} {wv : Value} {o : Nat → Nat × Nat} (h : Tw w P Q p f vl wr k wv o) (hk : k = f.2.length) (hp : Okp p) (hkp : Kp p) (hl : p.left.length ≤ n) {s : B} (hf : f = feed p s) {v : Value} (hF : FOut wr o 1 P (7, 1) p s v w5) :
    ∃ o5 a5 c5, v = .slice a5 k c5 ∧ Evs w5 o5 (7, 1) (.slice a5 k c5) f.2 ∧ Evs w5 o5 (7, 3) wv f.2 ∧ Tl w P Q (n + s.length) w5 f.1 o5 := by
  obtain ⟨o5, a, m, c, ka, kn, kc, E5, I5, F5, T5⟩ := hF
  rw [← hf] at E5 I5
  obtain ⟨a5, c5, e⟩ := E5.form
  rw [← hk] at e
  subst e
  obtain ⟨ka2, kn2, kc2, iq⟩ := h.iq
  refine ⟨o5, a5, c5, rfl, E5, ?_, by rw [hf]; exact okp_feed _ hp, by rw [hf]; exact kp_feed1 _ hkp, ?_, ⟨_, _, _, _, _, _, I5⟩, ⟨_, _, _, iq.fr F5 (tf_no (by decide) (by decide)) (tf_no (by decide) (by decide))⟩, T5, h.fr.trans (F5.mono (nine (by decide) rfl))⟩
  · have := h.ew
    rw [hk, List.take_length] at this
    exact this.fr F5 (tf_no (by decide) (by decide)) (tf_no (by decide) (by decide))
  · rw [hf]
    have := left_feed s p
    omega
theorem Tl.up {w : World} {P Q n : Nat} {wr wr' : World} {p : Ps} {o : Nat → Nat × Nat} (h : Tl w P Q n wr p o) (b : Below wr.heap.size wr wr') : Tl w P Q n wr' p o := by
  have F := Fr.ofBelow (fun _ => False) o b
  obtain ⟨a, m, c, qa, qn, qc, ip⟩ := h.ip
  obtain ⟨ka, kn, kc, iq⟩ := h.iq
  exact ⟨h.ok, h.kp, h.ln, ⟨_, _, _, _, _, _, ip.fr F id id id⟩, ⟨_, _, _, iq.fr F id id⟩, h.tb.fr F id, h.fr.trans (F.mono (fun _ h => h.elim))⟩
theorem Tl.mono {w : World} {P Q n m : Nat} {wr : World} {p : Ps} {o : Nat → Nat × Nat} (h : Tl w P Q n wr p o) (hm : n ≤ m) : Tl w P Q m wr p o := ⟨h.ok, h.kp, Nat.le_trans h.ln hm, h.ip, h.iq, h.tb, h.fr⟩
/-- The two of them, new. -/
theorem Tl.new (w : World) (ht : HasTab w) {W1 W2 : World} (hW1 : W1 = w.alloc (.cells ((pz 0).cs (.slice none 0 0) (.slice none 0 0)).toArray 60)) (hW2 : W2 = W1.alloc (.cells (rcs (pz 0) [] (.slice none 0 0)).toArray 41)) : ∃ o, Tl w w.heap.size W1.heap.size 0 W2 (pz 0) o := by
  have i1 : IsP W1 (lab on9 w.heap.size (1, 0)) 1 w.heap.size (pz 0) none 0 0 none 0 0 := by rw [hW1]; exact IsP.new _ _ _
  have f1 : Fr (fun _ => False) on9 (lab on9 w.heap.size (1, 0)) w W1 := by rw [hW1]; exact Fr.new _ _ _ _ _
  have i2 : IsRf W2 (lab (lab on9 w.heap.size (1, 0)) W1.heap.size (2, 0)) 2 W1.heap.size (pz 0) [] none 0 0 := by
    refine ⟨fun j v hv => ?_, fun j => by rw [hW2, World.frozen?_alloc_new], lab_same _ _ _, Ks.nil _ _⟩
    rw [Nat.zero_add, hW2, World.cell?_alloc_new, List.getElem?_toArray]
    exact hv
  have f2 : Fr (fun _ => False) (lab on9 w.heap.size (1, 0)) (lab (lab on9 w.heap.size (1, 0)) W1.heap.size (2, 0)) W1 W2 := by rw [hW2]; exact Fr.new _ _ _ _ _
  have T0 : Tb w on9 := ⟨ht, rfl⟩
  exact ⟨_, okp_pz 0 (.inl rfl), kp_none, Nat.le_refl _, ⟨_, _, _, _, _, _, i1.fr f2 id id id⟩, ⟨_, _, _, i2⟩, (T0.fr f1 id).fr f2 id, (f1.trans f2).mono (fun _ h => h.elim)⟩
/-- Behind a region: its frame, by two letters, and what is known of its world; no other end. -/
def JoinE (F : Option Addr → Nat → Act) (R : World → Prop) : Exit → Act → World → Prop
  | .normal, a', w' => ∃ x c, a' = F x c ∧ R w'
  | _, _, _ => False
theorem joinE {F : Option Addr → Nat → Act} {R : World → Prop} {a' : Act} {w' : World} (x : Option Addr) (c : Nat) (h1 : a' = F x c) (h2 : R w') : JoinE F R .normal a' w' := ⟨x, c, h1, h2⟩
theorem wp_joinE {P : Program} {c : Code} {Q' : Exit → Act → World → Prop} {a : Act} {w : World} (F : Option Addr → Nat → Act) (R : World → Prop)
    (h : c.wp P (JoinE F R) a w) (hq : ∀ x n w', R w' → Q' Exit.normal (F x n) w') : c.wp P Q' a w :=
  wp_mono h (fun e _ w' h => by
    cases e <;> first | exact (h : False).elim | (obtain ⟨x, n, h2, h3⟩ := h; subst h2; exact hq x n w' h3))
/-- A struct that is read whole, as a step of a region that draws. -/
theorem step_ld {P : Program} {ops : Array Oper} {op : Oper} {a : Act} {w : World} {K : Act → World → Prop} {Q : Exit → Act → World → Prop} {E : Prop} {X : World} {v : Value} {p : Value} {ty : TypeId} (hl : (Instr.loadAt ty p).run P X = .ok v X) (x : Operand) (hw : w = X) (hgd : op.guard = none) (ho : op.op = .load ty x)
    (hx : a.eval x = p) (hk : K (a.put op.dst v) X) :
    if Region.wanted op (yielded ops a.tmps) = true then Oper.wp P op a w K Q else E := by
  subst hw
  rw [if_pos (by simp [Region.wanted, hgd])]
  unfold Oper.wp execOp
  simp only [ho, hx, Sem.run_bind, hl, Result.andThen_ok, Sem.run_pure]
  exact hk
theorem loadAt_mid {w : World} {b off ty : Nat} {u : TypeDesc} {E : List Value} (h : w.rangeAt b off E) (hu : Tryd.prog.underlying ty = some u) (hk : u.isRow = true) (hl : (Tryd.prog.info? ty).map (·.size) = some E.length) : (Instr.loadAt ty (.pointer (some ⟨b, off, none⟩))).run Tryd.prog w = .ok (.agg E.toArray) w := by
  simp only [Instr.loadAt, Instr.sureAddr, Sem.run_bind, Sem.run_pure, Result.andThen_ok]
  exact run_loadVar_mid w b off ty E _ h hu hk hl
end Go.Proofs.YtedbklipbfbmoaaDoor


namespace Go.Proofs.YtedbklipbfbmoaaDoor
open Go.RowKit

theorem st_int (n : Nat) : ((((n : Nat) : Int)) == 4) = (n == 4) := by
  by_cases h : n = 4
  · subst h; rfl
  · rw [beq_eq_false_iff_ne.2 h]
    rw [beq_eq_false_iff_ne]
    omega
set_option maxRecDepth 100000 in
set_option maxHeartbeats 4000000 in
theorem tells_walk (sa : Option Addr) (len cap : Nat) (T : Nat → ByteArray) (_hlen : len ≤ 9223372036854775807) (w : World) (hC : StrF w sa T len) (ht : HasTab w) :
    Calls Tryd.prog 4 #[.slice sa len cap] w fun e w' => e = .returned (.bool true) ∧ Below w.heap.size w w' := by
  have HC := Lib.hid hC
  obtain ⟨W1, hW1⟩ : ∃ W, W = w.alloc (.cells ((pz 0).cs (.slice none 0 0) (.slice none 0 0)).toArray 60) := ⟨_, rfl⟩
  obtain ⟨W2, hW2⟩ : ∃ W, W = W1.alloc (.cells (rcs (pz 0) [] (.slice none 0 0)).toArray 41) := ⟨_, rfl⟩
  obtain ⟨o2, H2⟩ := Tl.new w ht hW1 hW2
  have H2 := Lib.hid H2
  have HW1 := Lib.hid hW1
  have HW2 : Hid (W2 = W1.alloc (.cells #[.string ⟨#[]⟩, .int .i64 0, .slice none 0 0, .int .i64 0, .int .i64 0, .int .i64 0, .int .i64 0, .int .u64 0, .bool false, .string ⟨#[]⟩, .int .i64 0, .bool false, .bool false] 41)) := Lib.hid (by rw [hW2]; rfl)
  clear hW1 hW2 ht hC
  go_enter Tryd.func4, Tryd.ntmps4
  go_wp2_with fail
  refine (new_any w).mono ?_
  rintro e w1 ⟨rfl, hw1⟩
  have : w1 = W1 := by rw [hw1, HW1.out]
  clear hw1
  subst this
  obtain ⟨P, hP⟩ : ∃ P, P = w.heap.size := ⟨_, rfl⟩
  obtain ⟨Q, hQ⟩ : ∃ Q, Q = w1.heap.size := ⟨_, rfl⟩
  rw [← hP, ← hQ] at H2
  rw [← hP]
  clear HW1 hP
  have ep := eqp P
  go_wp2_with fail
  rw [← hQ, ← HW2.out]
  clear hQ HW2 ep
  go_loopw [5] (fun iv wr => ∃ (i : Nat) (p : Ps) (o : Nat → Nat × Nat), iv = .int .i64 (i : Int) ∧ i ≤ 30 ∧ Hid (Tl w P Q (i * 3000) wr p o)) (fun iv _ => 30 - (intOf iv).toNat)
  case atStart => exact ⟨0, pz 0, o2, rfl, by omega, H2⟩
  case round =>
    obtain ⟨i, p, o, rfl, hi, HL⟩ := hrel
    clear H2
    by_cases hgo : i < len ∧ i < 30
    · obtain ⟨h1, h2⟩ := hgo
      have g1 : (i : Int) < (len : Int) := by omega
      have g2 : (i : Int) < 30 := by omega
      obtain ⟨cp, coff, rfl, hcc⟩ : ∃ p off, sa = some ⟨p, off, none⟩ ∧ ∀ j, j < len → wr.cell? ⟨p, off + j, none⟩ = some (.string (T j)) := by
        rcases (HC.out.below HL.out.below) with h | h
        · omega
        · exact h
      have hci := hcc i h1
      clear hcc
      obtain ⟨s0, hs0⟩ : ∃ s0, s0 = T i := ⟨_, rfl⟩
      rw [← hs0] at hci
      clear hs0
      by_cases hbig : 3000 < s0.size
      case' pos =>
        have b1 : decide ((3000 : Int) < (s0.size : Int)) = true := by simp; omega
        have sl : ∀ w : World, (Instr.sliceAt 9 (.string s0) none (some (.int .i64 3000)) none).run Tryd.prog w = .ok (.string (S ((L s0).take 3000))) w := fun w => str_hi s0 3000 (by omega) w
        go_wp2_with fail
        obtain ⟨s, hss⟩ : ∃ s, s = S ((L s0).take 3000) := ⟨_, rfl⟩
        rw [← hss]
        have hs : s.size ≤ 3000 := by rw [hss, S_size, List.length_take]; omega
        clear hss sl b1 hbig hci
      case' neg =>
        have b1 : decide ((3000 : Int) < (s0.size : Int)) = false := by simp; omega
        go_wp2_with fail
        obtain ⟨s, hss⟩ : ∃ s, s = s0 := ⟨_, rfl⟩
        rw [← hss]
        have hs : s.size ≤ 3000 := by rw [hss]; omega
        clear hss b1 hbig hci
      all_goals
        obtain ⟨ka, kn, kc, iq⟩ := HL.out.iq
        refine (feedR_any (by decide) (7, 2) rfl (bs_base HL.out.ok) (okp_shut HL.out.ok) s (by have := HL.out.ln; omega) wr iq).mono ?_
        rintro e w2 ⟨vl, rfl, F2⟩
        obtain ⟨o3, la, lc, rfl, T3⟩ := HL.out.feed F2
        obtain ⟨f, hf⟩ : ∃ f, f = feed p (L s) := ⟨_, rfl⟩
        obtain ⟨m, hm⟩ : ∃ m, m = f.2.length := ⟨_, rfl⟩
        rw [← hf, ← hm] at T3 ⊢
        have hml : m ≤ 3000 := by rw [hm, hf]; have := feed_len (L s) p; rw [L_len] at this; omega
        have HF := Lib.hid hf
        have HM := Lib.hid hm
        have HT3 := Lib.hid T3
        have HO := Lib.hid (And.intro HL.out.ok (And.intro HL.out.kp HL.out.ln))
        clear F2 T3 iq hf hm HL
        obtain ⟨WR, hWR⟩ : ∃ WR, WR = wr := ⟨_, rfl⟩
        clear hWR
        go_wp2_with fail
        go_loopw [7, 9] (fun wv kv wr => ∃ (k cw : Nat) (aw : Option Addr) (o : Nat → Nat × Nat), kv = .int .i64 (k : Int) ∧ wv = .slice aw k cw ∧ k ≤ m ∧ Hid (Tw w P Q p f (.slice la m lc) wr k (.slice aw k cw) o)) (fun _ kv _ => m - (intOf kv).toNat)
        case atStart => exact ⟨0, 0, none, o3, rfl, rfl, by omega, HT3⟩
        case round =>
          obtain ⟨k, cw, aw, o4, rfl, rfl, hk, HT⟩ := hrel
          clear HT3
          by_cases hlt : k < m
          · have hi1 : (k : Int) < (m : Int) := by omega
            obtain ⟨ev, hev⟩ : ∃ ev, f.2[k]? = some ev := ⟨_, List.getElem?_eq_getElem (by rw [← HM.out]; exact hlt)⟩
            have TY : Tw w P Q p f (.slice la m lc) wr.drew k (.slice aw k cw) o4 := HT.out.up (below_drewN (Below.refl _ wr) 1)
            obtain ⟨g, E, rfl, hEV, hc⟩ := TY.el.cell hev
            obtain ⟨a5, c5, w5, o5, hr5, T5⟩ := TY.step (by rw [← HM.out]; omega) hev hEV
            have HT5 := Lib.hid T5
            obtain ⟨xa, xn, xc, hE, _⟩ := hEV
            obtain ⟨⟨vb_, ks, fl, ex, by_, ca_, de, qu⟩, da, ki, te⟩ := ev
            obtain ⟨V, hV⟩ : ∃ V : Int, V = ((vb_ : Nat) : Int) := ⟨_, rfl⟩
            obtain ⟨D, hD⟩ : ∃ D : Int, D = ((de : Nat) : Int) := ⟨_, rfl⟩
            obtain ⟨K, hK⟩ : ∃ K : Int, K = ((ki : Nat) : Int) := ⟨_, rfl⟩
            obtain ⟨dt, hdt⟩ : ∃ dt, dt = S da := ⟨_, rfl⟩
            obtain ⟨tx, htx⟩ : ∃ tx, tx = S te := ⟨_, rfl⟩
            simp only [Ev.cs] at hE
            rw [← hV, ← hD, ← hK, ← hdt, ← htx] at hE
            have p0 : wr.cell? ⟨g, k * 18, none⟩ = some (.int .i64 V) := hc 0 _ (by rw [hE]; rfl)
            have p1 : wr.cell? ⟨g, k * 18 + 1, none⟩ = some (.slice xa xn xc) := hc 1 _ (by rw [hE]; rfl)
            have p2 : wr.cell? ⟨g, k * 18 + 2, none⟩ = some (.int .i64 fl) := hc 2 _ (by rw [hE]; rfl)
            have p3 : wr.cell? ⟨g, k * 18 + 3, none⟩ = some (.int .i64 ex) := hc 3 _ (by rw [hE]; rfl)
            have p4 : wr.cell? ⟨g, k * 18 + 4, none⟩ = some (.int .i64 by_) := hc 4 _ (by rw [hE]; rfl)
            have p5 : wr.cell? ⟨g, k * 18 + 5, none⟩ = some (.int .i64 ca_) := hc 5 _ (by rw [hE]; rfl)
            have p6 : wr.cell? ⟨g, k * 18 + 6, none⟩ = some (.int .u64 D) := hc 6 _ (by rw [hE]; rfl)
            have p7 : wr.cell? ⟨g, k * 18 + 7, none⟩ = some (.bool qu) := hc 7 _ (by rw [hE]; rfl)
            have p8 : wr.cell? ⟨g, k * 18 + 8, none⟩ = some (.string dt) := hc 8 _ (by rw [hE]; rfl)
            have p9 : wr.cell? ⟨g, k * 18 + 9, none⟩ = some (.int .i64 K) := hc 9 _ (by rw [hE]; rfl)
            have p10 : wr.cell? ⟨g, k * 18 + 9 + 1, none⟩ = some (.slice none 0 0) := hc 10 _ (by rw [hE]; rfl)
            have p11 : wr.cell? ⟨g, k * 18 + 9 + 2, none⟩ = some (.bool false) := hc 11 _ (by rw [hE]; rfl)
            have p12 : wr.cell? ⟨g, k * 18 + 9 + 3, none⟩ = some (.int .u64 0) := hc 12 _ (by rw [hE]; rfl)
            have p13 : wr.cell? ⟨g, k * 18 + 9 + 4, none⟩ = some (.string tx) := hc 13 _ (by rw [hE]; rfl)
            have p14 : wr.cell? ⟨g, k * 18 + 9 + 5, none⟩ = some (.int .i64 0) := hc 14 _ (by rw [hE]; rfl)
            have p15 : wr.cell? ⟨g, k * 18 + 9 + 6, none⟩ = some (.int .i64 0) := hc 15 _ (by rw [hE]; rfl)
            have p16 : wr.cell? ⟨g, k * 18 + 9 + 7, none⟩ = some (.int .i64 0) := hc 16 _ (by rw [hE]; rfl)
            have p17 : wr.cell? ⟨g, k * 18 + 9 + 8, none⟩ = some (.int .i64 0) := hc 17 _ (by rw [hE]; rfl)
            rw [hE] at hr5
            clear hE hc hV hD hK hdt htx hev T5 TY HT
            go_wp2_with fail
            go_region_law (refine step_app5 hr5 (.tmp 43) (.tmp 55) (by rfl) (by rfl) (by rfl) (by rfl) (by rfl) (by rfl) ?_)
            all_goals go_wp2_with fail
            all_goals exact ⟨⟨k + 1, c5, a5, o5, by go_num, rfl, by omega, HT5⟩, by simp [intOf]; omega⟩
          · obtain rfl : k = m := by omega
            have hi1 : decide ((k : Int) < (k : Int)) = false := by simp
            have TY : Tw w P Q p f (.slice la k lc) wr.drew k (.slice aw k cw) o4 := HT.out.up (below_drewN (Below.refl _ wr) 1)
            obtain ⟨ia, inn, ic, ika, ikn, ikc, ip⟩ := TY.ip
            have HFD := Lib.hid (feed_any (by decide) (7, 1) rfl HO.out.1 s (by omega) wr.drew ip TY.tb)
            have HTY := Lib.hid TY
            have HLS : Hid ((L s).length ≤ 3000) := Lib.hid (by rw [L_len]; exact hs)
            obtain ⟨sb, hsb⟩ : ∃ sb, (f.1.st == 4) = sb := ⟨_, rfl⟩
            have HSB := Lib.hid hsb
            have nb : (sb != sb) = false := by simp
            obtain ⟨str, hstr⟩ : ∃ str, str = S f.1.left := ⟨_, rfl⟩
            have HSTR := Lib.hid hstr
            have ns : ((str.size : Int) != (str.size : Int)) = false := by simp
            clear TY ip hsb hstr HT
            go_wp2_with fail
            refine wp_joinE ?_ (fun w' => ∃ o', Hid (Tl w P Q (i * 3000 + (L s).length) w' f.1 o')) ?_ ?_
            rotate_left
            focus
              refine wp_region_any (by kernel_rfl) ?_
              change wpAny _ _ _ _ _ _ _ (World.drew _)
              refine wpAny_take (i := 0) (v := .pointer (some ⟨P, 0, none⟩)) rfl (by kernel_rfl) (by kernel_rfl) (by kernel_rfl) (fun _ _ _ h => (h : False).elim) (Or.inl ⟨by kernel_rfl, by intro w; go_simp⟩) ?_
              refine wpAny_take (i := 1) (v := .string s) rfl (by kernel_rfl) (by kernel_rfl) (by kernel_rfl) (fun _ _ _ h => (h : False).elim) (Or.inl ⟨by kernel_rfl, by intro w; go_simp⟩) ?_
              refine wpAny_take (i := 3) (v := .slice aw k cw) rfl (by kernel_rfl) (by kernel_rfl) (by kernel_rfl) (fun _ _ _ h => (h : False).elim) (Or.inl ⟨by kernel_rfl, by intro w; go_simp⟩) ?_
              refine wpAny_ready (rs := [2]) (by kernel_rfl) (by simp) ?_
              refine AllReady.cons rfl (fun K hK => ?_) AllReady.nil
              go_simp
              refine HFD.out.mono ?_
              rintro e w5 ⟨v5, rfl, F5⟩
              obtain ⟨o5, a5, c5, rfl, E5, G5, L5⟩ := HTY.out.fed HM.out HO.out.1 HO.out.2.1 HO.out.2.2 HF.out F5
              have HSM := Lib.hid (same_evs (by rw [HF.out]; exact kp_feed (L s) HO.out.2.1) (by rw [← HM.out]; omega) w5 E5 G5)
              have HL5 := Lib.hid L5
              clear F5 E5 G5 L5
              refine hK _ _ ?_
              clear hK K
              refine wpAny_ready (rs := [4]) (by kernel_rfl) (by simp) ?_
              refine AllReady.cons rfl (fun K hK => ?_) AllReady.nil
              go_simp
              refine HSM.out.mono ?_
              rintro e w7 ⟨rfl, b7⟩
              have L7 := HL5.out.up b7
              obtain ⟨ja, jn, jc, jka, jkn, jkc, ip7⟩ := L7.ip
              obtain ⟨qa, qn, qc, iq7⟩ := L7.iq
              have c12 : w7.cell? ⟨Q, 12, none⟩ = some (.bool sb) := by rw [← HSB.out]; exact iq7.at_ 12 _ rfl
              have c0 : w7.cell? ⟨Q, 0, none⟩ = some (.string str) := by rw [HSTR.out]; exact iq7.at_ 0 _ rfl
              have hjn : jn = str.size := by rw [HSTR.out, S_size]; exact ip7.len
              subst hjn
              have HIP7 := Lib.hid ip7
              have HL7 := Lib.hid L7
              have HST7 : Hid (((((f.1.st : Nat) : Int)) == 4) = sb) := Lib.hid (by rw [← HSB.out]; exact st_int _)
              clear b7 L7 ip7 iq7
              refine hK _ _ ?_
              clear hK K
              refine wpAny_take (i := 5) (v := .bool false) rfl (by kernel_rfl) (by kernel_rfl) (by kernel_rfl) (fun _ _ _ h => (h : False).elim) (Or.inl ⟨by kernel_rfl, by intro w; go_simp⟩) ?_
              refine wpAny_take (i := 6) (v := .bool false) rfl (by kernel_rfl) (by kernel_rfl) (by kernel_rfl) (fun _ _ _ h => (h : False).elim) (Or.inl ⟨by kernel_rfl, by intro w; go_simp⟩) ?_
              refine wpAny_take (i := 7) (v := .pointer (some ⟨P, 0, none⟩)) rfl (by kernel_rfl) (by kernel_rfl) (by kernel_rfl) (fun _ _ _ h => (h : False).elim) (Or.inl ⟨by kernel_rfl, by intro w; go_simp⟩) ?_
              refine wpAny_take (i := 9) (v := .pointer (some ⟨Q, 0, none⟩)) rfl (by kernel_rfl) (by kernel_rfl) (by kernel_rfl) (fun _ _ _ h => (h : False).elim) (Or.inl ⟨by kernel_rfl, by intro w; go_simp⟩) ?_
              refine wpAny_take (i := 10) (v := .pointer (some ⟨Q, 0, none⟩)) rfl (by kernel_rfl) (by kernel_rfl) (by kernel_rfl) (fun _ _ _ h => (h : False).elim) (Or.inl ⟨by kernel_rfl, by intro w; go_simp⟩) ?_
              refine wpAny_take (i := 11) (v := .pointer (some ⟨Q, 12, none⟩)) rfl (by kernel_rfl) (by kernel_rfl) (by kernel_rfl) (fun _ _ _ h => (h : False).elim) (Or.inl ⟨by kernel_rfl, by intro w; go_simp⟩) ?_
              refine wpAny_ready (rs := [8, 12]) (by kernel_rfl) (by simp) ?_
              refine AllReady.cons rfl (fun K hK => ?_) (AllReady.cons rfl (fun K hK => ?_) AllReady.nil)
              · rw [if_pos (by kernel_rfl)]
                go_simp
                refine (shut_any w7 HIP7.out sb HST7.out).mono ?_
                rintro e w8 ⟨rfl, rfl⟩
                refine hK _ _ ?_
                clear hK K
                refine wpAny_ready (rs := [12]) (by kernel_rfl) (by simp) ?_
                refine AllReady.cons rfl (fun K hK => ?_) AllReady.nil
                rw [if_pos (by kernel_rfl)]
                go_simp
                refine hK _ _ ?_
                clear hK K
                refine wpAny_take (i := 13) (v := .bool false) rfl (by kernel_rfl) (by kernel_rfl) (by kernel_rfl) (fun _ _ _ h => (h : False).elim) (Or.inl ⟨by kernel_rfl, by intro w; go_simp⟩) ?_
                refine wpAny_take (i := 14) (v := .bool false) rfl (by kernel_rfl) (by kernel_rfl) (by kernel_rfl) (fun _ _ _ h => (h : False).elim) (Or.inl ⟨by kernel_rfl, by intro w; go_simp⟩) ?_
                refine wpAny_take (i := 15) (v := .bool false) rfl (by kernel_rfl) (by kernel_rfl) (by kernel_rfl) (fun _ _ _ h => (h : False).elim) (Or.inl ⟨by kernel_rfl, by intro w; go_simp⟩) ?_
                refine wpAny_take (i := 16) (v := .pointer (some ⟨P, 0, none⟩)) rfl (by kernel_rfl) (by kernel_rfl) (by kernel_rfl) (fun _ _ _ h => (h : False).elim) (Or.inl ⟨by kernel_rfl, by intro w; go_simp⟩) ?_
                refine wpAny_take (i := 18) (v := .pointer (some ⟨Q, 0, none⟩)) rfl (by kernel_rfl) (by kernel_rfl) (by kernel_rfl) (fun _ _ _ h => (h : False).elim) (Or.inl ⟨by kernel_rfl, by intro w; go_simp⟩) ?_
                refine wpAny_take (i := 19) (v := .pointer (some ⟨Q, 0, none⟩)) rfl (by kernel_rfl) (by kernel_rfl) (by kernel_rfl) (fun _ _ _ h => (h : False).elim) (Or.inl ⟨by kernel_rfl, by intro w; go_simp⟩) ?_
                refine wpAny_take (i := 20) (v := .pointer (some ⟨Q, 0, none⟩)) rfl (by kernel_rfl) (by kernel_rfl) (by kernel_rfl) (fun _ _ _ h => (h : False).elim) (Or.inl ⟨by kernel_rfl, by intro w; go_simp⟩) ?_
                refine wpAny_ready (rs := [17, 21]) (by kernel_rfl) (by simp) ?_
                refine AllReady.cons rfl (fun K hK => ?_) (AllReady.cons rfl (fun K hK => ?_) AllReady.nil)
                · rw [if_pos (by kernel_rfl)]
                  go_simp
                  refine (left_any w7 HIP7.out).mono ?_
                  rintro e w8 ⟨rfl, rfl⟩
                  refine hK _ _ ?_
                  clear hK K
                  refine wpAny_ready (rs := [21]) (by kernel_rfl) (by simp) ?_
                  refine AllReady.cons rfl (fun K hK => ?_) AllReady.nil
                  rw [if_pos (by kernel_rfl)]
                  go_simp
                  refine hK _ _ ?_
                  clear hK K
                  refine wpAny_take (i := 22) (v := .int .i64 (str.size : Int)) rfl (by kernel_rfl) (by kernel_rfl) (by kernel_rfl) (fun _ _ _ h => (h : False).elim) (Or.inl ⟨by kernel_rfl, by intro w; go_simp⟩) ?_
                  refine wpAny_take (i := 23) (v := .bool false) rfl (by kernel_rfl) (by kernel_rfl) (by kernel_rfl) (fun _ _ _ h => (h : False).elim) (Or.inl ⟨by kernel_rfl, by intro w; go_simp⟩) ?_
                  refine wpAny_take (i := 24) (v := .bool false) rfl (by kernel_rfl) (by kernel_rfl) (by kernel_rfl) (fun _ _ _ h => (h : False).elim) (Or.inl ⟨by kernel_rfl, by intro w; go_simp⟩) ?_
                  refine wpAny_done (by kernel_rfl) ?_ _
                  exact joinE a5 c5 (by rfl) ⟨o5, HL7⟩
                · rw [if_pos (by kernel_rfl)]
                  go_simp
                  refine hK _ _ ?_
                  clear hK K
                  refine wpAny_take (i := 22) (v := .int .i64 (str.size : Int)) rfl (by kernel_rfl) (by kernel_rfl) (by kernel_rfl) (fun _ _ _ h => (h : False).elim) (Or.inl ⟨by kernel_rfl, by intro w; go_simp⟩) ?_
                  refine wpAny_ready (rs := [17]) (by kernel_rfl) (by simp) ?_
                  refine AllReady.cons rfl (fun K hK => ?_) AllReady.nil
                  rw [if_pos (by kernel_rfl)]
                  go_simp
                  refine (left_any w7 HIP7.out).mono ?_
                  rintro e w8 ⟨rfl, rfl⟩
                  refine hK _ _ ?_
                  clear hK K
                  refine wpAny_take (i := 23) (v := .bool false) rfl (by kernel_rfl) (by kernel_rfl) (by kernel_rfl) (fun _ _ _ h => (h : False).elim) (Or.inl ⟨by kernel_rfl, by intro w; go_simp⟩) ?_
                  refine wpAny_take (i := 24) (v := .bool false) rfl (by kernel_rfl) (by kernel_rfl) (by kernel_rfl) (fun _ _ _ h => (h : False).elim) (Or.inl ⟨by kernel_rfl, by intro w; go_simp⟩) ?_
                  refine wpAny_done (by kernel_rfl) ?_ _
                  exact joinE a5 c5 (by rfl) ⟨o5, HL7⟩
              · rw [if_pos (by kernel_rfl)]
                go_simp
                refine hK _ _ ?_
                clear hK K
                refine wpAny_ready (rs := [8]) (by kernel_rfl) (by simp) ?_
                refine AllReady.cons rfl (fun K hK => ?_) AllReady.nil
                rw [if_pos (by kernel_rfl)]
                go_simp
                refine (shut_any w7 HIP7.out sb HST7.out).mono ?_
                rintro e w8 ⟨rfl, rfl⟩
                refine hK _ _ ?_
                clear hK K
                refine wpAny_take (i := 13) (v := .bool false) rfl (by kernel_rfl) (by kernel_rfl) (by kernel_rfl) (fun _ _ _ h => (h : False).elim) (Or.inl ⟨by kernel_rfl, by intro w; go_simp⟩) ?_
                refine wpAny_take (i := 14) (v := .bool false) rfl (by kernel_rfl) (by kernel_rfl) (by kernel_rfl) (fun _ _ _ h => (h : False).elim) (Or.inl ⟨by kernel_rfl, by intro w; go_simp⟩) ?_
                refine wpAny_take (i := 15) (v := .bool false) rfl (by kernel_rfl) (by kernel_rfl) (by kernel_rfl) (fun _ _ _ h => (h : False).elim) (Or.inl ⟨by kernel_rfl, by intro w; go_simp⟩) ?_
                refine wpAny_take (i := 16) (v := .pointer (some ⟨P, 0, none⟩)) rfl (by kernel_rfl) (by kernel_rfl) (by kernel_rfl) (fun _ _ _ h => (h : False).elim) (Or.inl ⟨by kernel_rfl, by intro w; go_simp⟩) ?_
                refine wpAny_take (i := 18) (v := .pointer (some ⟨Q, 0, none⟩)) rfl (by kernel_rfl) (by kernel_rfl) (by kernel_rfl) (fun _ _ _ h => (h : False).elim) (Or.inl ⟨by kernel_rfl, by intro w; go_simp⟩) ?_
                refine wpAny_take (i := 19) (v := .pointer (some ⟨Q, 0, none⟩)) rfl (by kernel_rfl) (by kernel_rfl) (by kernel_rfl) (fun _ _ _ h => (h : False).elim) (Or.inl ⟨by kernel_rfl, by intro w; go_simp⟩) ?_
                refine wpAny_take (i := 20) (v := .pointer (some ⟨Q, 0, none⟩)) rfl (by kernel_rfl) (by kernel_rfl) (by kernel_rfl) (fun _ _ _ h => (h : False).elim) (Or.inl ⟨by kernel_rfl, by intro w; go_simp⟩) ?_
                refine wpAny_ready (rs := [17, 21]) (by kernel_rfl) (by simp) ?_
                refine AllReady.cons rfl (fun K hK => ?_) (AllReady.cons rfl (fun K hK => ?_) AllReady.nil)
                · rw [if_pos (by kernel_rfl)]
                  go_simp
                  refine (left_any w7 HIP7.out).mono ?_
                  rintro e w8 ⟨rfl, rfl⟩
                  refine hK _ _ ?_
                  clear hK K
                  refine wpAny_ready (rs := [21]) (by kernel_rfl) (by simp) ?_
                  refine AllReady.cons rfl (fun K hK => ?_) AllReady.nil
                  rw [if_pos (by kernel_rfl)]
                  go_simp
                  refine hK _ _ ?_
                  clear hK K
                  refine wpAny_take (i := 22) (v := .int .i64 (str.size : Int)) rfl (by kernel_rfl) (by kernel_rfl) (by kernel_rfl) (fun _ _ _ h => (h : False).elim) (Or.inl ⟨by kernel_rfl, by intro w; go_simp⟩) ?_
                  refine wpAny_take (i := 23) (v := .bool false) rfl (by kernel_rfl) (by kernel_rfl) (by kernel_rfl) (fun _ _ _ h => (h : False).elim) (Or.inl ⟨by kernel_rfl, by intro w; go_simp⟩) ?_
                  refine wpAny_take (i := 24) (v := .bool false) rfl (by kernel_rfl) (by kernel_rfl) (by kernel_rfl) (fun _ _ _ h => (h : False).elim) (Or.inl ⟨by kernel_rfl, by intro w; go_simp⟩) ?_
                  refine wpAny_done (by kernel_rfl) ?_ _
                  exact joinE a5 c5 (by rfl) ⟨o5, HL7⟩
                · rw [if_pos (by kernel_rfl)]
                  go_simp
                  refine hK _ _ ?_
                  clear hK K
                  refine wpAny_take (i := 22) (v := .int .i64 (str.size : Int)) rfl (by kernel_rfl) (by kernel_rfl) (by kernel_rfl) (fun _ _ _ h => (h : False).elim) (Or.inl ⟨by kernel_rfl, by intro w; go_simp⟩) ?_
                  refine wpAny_ready (rs := [17]) (by kernel_rfl) (by simp) ?_
                  refine AllReady.cons rfl (fun K hK => ?_) AllReady.nil
                  rw [if_pos (by kernel_rfl)]
                  go_simp
                  refine (left_any w7 HIP7.out).mono ?_
                  rintro e w8 ⟨rfl, rfl⟩
                  refine hK _ _ ?_
                  clear hK K
                  refine wpAny_take (i := 23) (v := .bool false) rfl (by kernel_rfl) (by kernel_rfl) (by kernel_rfl) (fun _ _ _ h => (h : False).elim) (Or.inl ⟨by kernel_rfl, by intro w; go_simp⟩) ?_
                  refine wpAny_take (i := 24) (v := .bool false) rfl (by kernel_rfl) (by kernel_rfl) (by kernel_rfl) (fun _ _ _ h => (h : False).elim) (Or.inl ⟨by kernel_rfl, by intro w; go_simp⟩) ?_
                  refine wpAny_done (by kernel_rfl) ?_ _
                  exact joinE a5 c5 (by rfl) ⟨o5, HL7⟩
            focus
              rintro x5 c5 w7 ⟨o5, HL7⟩
              go_wp2_with fail
              exact ⟨⟨i + 1, f.1, o5, by go_num, by omega, Lib.hid (HL7.out.mono (by have := HLS.out; omega))⟩, by simp [intOf]; omega⟩
    · have tst : i < len → ¬ i < 30 := fun h1 h2 => hgo ⟨h1, h2⟩
      clear hgo
      by_cases h1 : i < len
      case' pos =>
        have g1 : (i : Int) < (len : Int) := by omega
        have g2 : decide ((i : Int) < 30) = false := by have := tst h1; simp; omega
        go_wp2_with fail
      case' neg =>
        have g1 : decide ((i : Int) < (len : Int)) = false := by simp; omega
        go_wp2_with fail
      all_goals
        refine (runs_any wr HL.out.tb.1).mono ?_
        rintro e w8 ⟨rfl, b8⟩
        have HB8 : Hid (Below w.heap.size w w8) := Lib.hid (HL.out.below.trans (b8.mono HL.out.below.size))
        clear b8
        go_wp2_with fail
        go_ret
        exact ⟨rfl, HB8.out⟩
end Go.Proofs.YtedbklipbfbmoaaDoor
