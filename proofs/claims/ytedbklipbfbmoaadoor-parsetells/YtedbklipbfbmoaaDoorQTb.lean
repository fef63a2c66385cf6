/-
  ParseTells: books.
-/
import Derived.Test.YtedbklipbfbmoaaDoorQFw
import Derived.Test.YtedbklipbfbmoaaDoorPCu
import Derived.StillTailTactics
namespace Go.Proofs.YtedbklipbfbmoaaDoor
open Go.RowKit

theorem kp_feed1 : ∀ (b : B) {p : Ps}, Kp p → Kp (feed p b).1
  | [], _, h => h
  | c :: b, p, h => by
    rw [feed_cons]
    exact kp_feed1 b (kp_step h c).1
theorem left_step (p : Ps) (c : UInt8) : (step p c).1.left.length ≤ p.left.length + 1 := by
  unfold step
  split
  · split
    · show (obey _).1.left.length ≤ _
      unfold obey obeyR
      repeat' split
      all_goals simp [pz]
    · split
      · simp
      · simp [pz]
  · split
    · unfold stepD
      repeat' split
      all_goals simp [pz]
    · repeat' split
      all_goals simp [pz]
theorem left_feed : ∀ (b : B) (p : Ps), (feed p b).1.left.length ≤ p.left.length + b.length
  | [], p => by rw [feed_nil]; simp
  | c :: b, p => by
    rw [feed_cons]
    have h1 := left_feed b (step p c).1
    have h2 := left_step p c
    show (feed (step p c).1 b).1.left.length ≤ p.left.length + (c :: b).length
    rw [List.length_cons]; omega
theorem okp_shut {p : Ps} (h : Okp p) (e : (bse p).st = 4) : p.left = [] := by
  have h4 : p.st = 4 := e
  rcases h.1 with ⟨_, e⟩ | ⟨h3, h8, b0, b1, _, e⟩ | ⟨k1, k2, e⟩ | e | e
  · rw [e] at h4; cases h4
  · rw [e] at h4; cases h4
  · rw [e] at h4; cases h4
  · rw [e] at h4; cases h4
  · rw [e]; rfl
/-- Program and reference side by side, ahead of a piece. -/
structure Tl (w : World) (P Q : Nat) (n : Nat) (wr : World) (p : Ps) (o : Nat → Nat × Nat) : Prop where
  ok : Okp p
  kp : Kp p
  ln : p.left.length ≤ n
  ip : ∃ a n c ka kn kc, IsP wr o 1 P p a n c ka kn kc
  iq : ∃ ka kn kc, IsRf wr o 2 Q (bse p) p.left ka kn kc
  tb : Tb wr o
  fr : Fr (· ≠ (9, 9)) on9 o w wr
/-- The reference was fed; its events are on their way into a row of the program's type. -/
structure Tw (w : World) (P Q : Nat) (p : Ps) (f : Ps × List Ev) (vl : Value) (wr : World) (k : Nat) (wv : Value) (o : Nat → Nat × Nat) : Prop where
  el : Evs wr o (7, 2) vl f.2
  ew : Evs wr o (7, 3) wv (f.2.take k)
  ip : ∃ a n c ka kn kc, IsP wr o 1 P p a n c ka kn kc
  iq : ∃ ka kn kc, IsRf wr o 2 Q (bse f.1) f.1.left ka kn kc
  tb : Tb wr o
  fr : Fr (· ≠ (9, 9)) on9 o w wr
theorem Tl.below {w : World} {P Q n : Nat} {wr : World} {p : Ps} {o : Nat → Nat × Nat} (h : Tl w P Q n wr p o) : Below w.heap.size w wr := below_9 h.fr
theorem Tw.below {w : World} {P Q : Nat} {p : Ps} {f : Ps × List Ev} {vl : Value} {wr : World} {k : Nat} {wv : Value} {o : Nat → Nat × Nat} (h : Tw w P Q p f vl wr k wv o) : Below w.heap.size w wr := below_9 h.fr
/-- Behind the reference's Feed. -/
theorem Tl.feed {w : World} {P Q n : Nat} {wr w2 : World} {p : Ps} {o : Nat → Nat × Nat} (h : Tl w P Q n wr p o) {s : B} {v : Value} (hF : FOutR wr o 2 Q (7, 2) (feed (bse p) (p.left ++ s)) v w2) : ∃ o2 la lc, v = .slice la (feed p s).2.length lc ∧ Tw w P Q p (feed p s) v w2 0 (.slice none 0 0) o2 := by
  rw [← feed_base h.ok] at hF
  obtain ⟨o2, ka, kn, kc, E2, I2, F2⟩ := hF
  obtain ⟨a, n, c, qa, qn, qc, ip⟩ := h.ip
  obtain ⟨la, lc, e⟩ := E2.form
  exact ⟨o2, la, lc, e, E2, Evs.nil _ _ _, ⟨a, n, c, qa, qn, qc, ip.fr F2 (tf_no (by decide) (by decide)) (tf_no (by decide) (by decide)) (tf_no (by decide) (by decide))⟩, ⟨ka, kn, kc, I2⟩, h.tb.fr F2 (tf_no (by decide) (by decide)), h.fr.trans (F2.mono (nine (by decide) rfl))⟩
/-- Nothing has turned: only new memory. -/
theorem Tw.up {w : World} {P Q : Nat} {p : Ps} {f : Ps × List Ev} {vl : Value} {wr wr' : World} {k : Nat} {wv : Value} {o : Nat → Nat × Nat} (h : Tw w P Q p f vl wr k wv o) (b : Below wr.heap.size wr wr') : Tw w P Q p f vl wr' k wv o := by
  have F := Fr.ofBelow (fun _ => False) o b
  obtain ⟨a, n, c, qa, qn, qc, ip⟩ := h.ip
  obtain ⟨ka, kn, kc, iq⟩ := h.iq
  exact ⟨h.el.fr F id id, h.ew.fr F id id, ⟨_, _, _, _, _, _, ip.fr F id id id⟩, ⟨_, _, _, iq.fr F id id⟩, h.tb.fr F id, h.fr.trans (F.mono (fun _ h => h.elim))⟩
/-- One event more. -/
theorem Tw.step {w : World} {P Q : Nat} {p : Ps} {f : Ps × List Ev} {vl : Value} {wr : World} {k : Nat} {wv : Value} {o : Nat → Nat × Nat} (h : Tw w P Q p f vl wr k wv o) (hf : f.2.length ≤ 1000000000) {ev : Ev} (hk : f.2[k]? = some ev) {E : List Value} (hE : EvV wr o E ev) :
    ∃ a c w' o', (Builtin.append_ #[24, 24] 24 #[wv, .slice (some ⟨wr.heap.size, 0, none⟩) 1 1]).run Tryd.prog (wr.alloc (.cells E.toArray 36)) = .ok (.slice a (k + 1) c) w' ∧ Tw w P Q p f vl w' (k + 1) (.slice a (k + 1) c) o' := by
  have hkl : k < f.2.length := (List.getElem?_eq_some_iff.1 hk).1
  obtain ⟨a, c, w', o', hr, E', F⟩ := h.ew.app (by decide) hE (by rw [List.length_take]; omega)
  have el : (f.2.take k).length = k := by rw [List.length_take]; omega
  rw [el] at hr E'
  obtain ⟨a1, n1, c1, qa, qn, qc, ip⟩ := h.ip
  obtain ⟨ka, kn, kc, iq⟩ := h.iq
  refine ⟨a, c, w', o', hr, h.el.fr F (by decide) (by decide), ?_, ⟨_, _, _, _, _, _, ip.fr F (by decide) (by decide) (by decide)⟩, ⟨_, _, _, iq.fr F (by decide) (by decide)⟩, h.tb.fr F (by decide), h.fr.trans (F.mono (fun t h e => by rw [h] at e; cases e))⟩
  rw [List.take_add_one, hk]
  exact E'
/-- Behind the program's Feed. -/
theorem Tw.fed {w : World} {P Q : Nat} {p : Ps} {f : Ps × List Ev} {vl : Value} {wr w5 : World} {k n : Nat} {wv : Value} {o : Nat → Nat × Nat} (h : Tw w P Q p f vl wr k wv o) (hk : k = f.2.length) (hp : Okp p) (hkp : Kp p) (hl : p.left.length ≤ n) {s : B} (hf : f = feed p s) {v : Value} (hF : FOut wr o 1 P (7, 1) p s v w5) :
    ∃ o5 a5 c5, v = .slice a5 k c5 ∧ Evs w5 o5 (7, 1) (.slice a5 k c5) f.2 ∧ Evs w5 o5 (7, 3) wv f.2 ∧ Tl w P Q (n + s.length) w5 f.1 o5 := by
  obtain ⟨o5, a, m, c, ka, kn, kc, E5, I5, F5, T5⟩ := hF
  rw [← hf] at E5 I5
  obtain ⟨a5, c5, e⟩ := E5.form
  rw [← hk] at e
  subst e
  obtain ⟨ka2, kn2, kc2, iq⟩ := h.iq
  refine ⟨o5, a5, c5, rfl, E5, ?_, by rw [hf]; exact okp_feed _ hp, by rw [hf]; exact kp_feed1 _ hkp, ?_, ⟨_, _, _, _, _, _, I5⟩, ⟨_, _, _, iq.fr F5 (tf_no (by decide) (by decide)) (tf_no (by decide) (by decide))⟩, T5, h.fr.trans (F5.mono (nine (by decide) rfl))⟩
  · have := h.ew
    rw [hk, List.take_length] at this
    exact this.fr F5 (tf_no (by decide) (by decide)) (tf_no (by decide) (by decide))
  · rw [hf]
    have := left_feed s p
    omega
theorem Tl.up {w : World} {P Q n : Nat} {wr wr' : World} {p : Ps} {o : Nat → Nat × Nat} (h : Tl w P Q n wr p o) (b : Below wr.heap.size wr wr') : Tl w P Q n wr' p o := by
  have F := Fr.ofBelow (fun _ => False) o b
  obtain ⟨a, m, c, qa, qn, qc, ip⟩ := h.ip
  obtain ⟨ka, kn, kc, iq⟩ := h.iq
  exact ⟨h.ok, h.kp, h.ln, ⟨_, _, _, _, _, _, ip.fr F id id id⟩, ⟨_, _, _, iq.fr F id id⟩, h.tb.fr F id, h.fr.trans (F.mono (fun _ h => h.elim))⟩
theorem Tl.mono {w : World} {P Q n m : Nat} {wr : World} {p : Ps} {o : Nat → Nat × Nat} (h : Tl w P Q n wr p o) (hm : n ≤ m) : Tl w P Q m wr p o := ⟨h.ok, h.kp, Nat.le_trans h.ln hm, h.ip, h.iq, h.tb, h.fr⟩
/-- The two of them, new. -/
theorem Tl.new (w : World) (ht : HasTab w) {W1 W2 : World} (hW1 : W1 = w.alloc (.cells ((pz 0).cs (.slice none 0 0) (.slice none 0 0)).toArray 60)) (hW2 : W2 = W1.alloc (.cells (rcs (pz 0) [] (.slice none 0 0)).toArray 41)) : ∃ o, Tl w w.heap.size W1.heap.size 0 W2 (pz 0) o := by
  have i1 : IsP W1 (lab on9 w.heap.size (1, 0)) 1 w.heap.size (pz 0) none 0 0 none 0 0 := by rw [hW1]; exact IsP.new _ _ _
  have f1 : Fr (fun _ => False) on9 (lab on9 w.heap.size (1, 0)) w W1 := by rw [hW1]; exact Fr.new _ _ _ _ _
  have i2 : IsRf W2 (lab (lab on9 w.heap.size (1, 0)) W1.heap.size (2, 0)) 2 W1.heap.size (pz 0) [] none 0 0 := by
    refine ⟨fun j v hv => ?_, fun j => by rw [hW2, World.frozen?_alloc_new], lab_same _ _ _, Ks.nil _ _⟩
    rw [Nat.zero_add, hW2, World.cell?_alloc_new, List.getElem?_toArray]
    exact hv
  have f2 : Fr (fun _ => False) (lab on9 w.heap.size (1, 0)) (lab (lab on9 w.heap.size (1, 0)) W1.heap.size (2, 0)) W1 W2 := by rw [hW2]; exact Fr.new _ _ _ _ _
  have T0 : Tb w on9 := ⟨ht, rfl⟩
  exact ⟨_, okp_pz 0 (.inl rfl), kp_none, Nat.le_refl _, ⟨_, _, _, _, _, _, i1.fr f2 id id id⟩, ⟨_, _, _, i2⟩, (T0.fr f1 id).fr f2 id, (f1.trans f2).mono (fun _ h => h.elim)⟩
/-- Behind a region: its frame, by two letters, and what is known of its world; no other end. -/
def JoinE (F : Option Addr → Nat → Act) (R : World → Prop) : Exit → Act → World → Prop
  | .normal, a', w' => ∃ x c, a' = F x c ∧ R w'
  | _, _, _ => False
theorem joinE {F : Option Addr → Nat → Act} {R : World → Prop} {a' : Act} {w' : World} (x : Option Addr) (c : Nat) (h1 : a' = F x c) (h2 : R w') : JoinE F R .normal a' w' := ⟨x, c, h1, h2⟩
theorem wp_joinE {P : Program} {c : Code} {Q' : Exit → Act → World → Prop} {a : Act} {w : World} (F : Option Addr → Nat → Act) (R : World → Prop)
    (h : c.wp P (JoinE F R) a w) (hq : ∀ x n w', R w' → Q' Exit.normal (F x n) w') : c.wp P Q' a w :=
  wp_mono h (fun e _ w' h => by
    cases e <;> first | exact (h : False).elim | (obtain ⟨x, n, h2, h3⟩ := h; subst h2; exact hq x n w' h3))
/-- A struct that is read whole, as a step of a region that draws. -/
theorem step_ld {P : Program} {ops : Array Oper} {op : Oper} {a : Act} {w : World} {K : Act → World → Prop} {Q : Exit → Act → World → Prop} {E : Prop} {X : World} {v : Value} {p : Value} {ty : TypeId} (hl : (Instr.loadAt ty p).run P X = .ok v X) (x : Operand) (hw : w = X) (hgd : op.guard = none) (ho : op.op = .load ty x)
    (hx : a.eval x = p) (hk : K (a.put op.dst v) X) :
    if Region.wanted op (yielded ops a.tmps) = true then Oper.wp P op a w K Q else E := by
  subst hw
  rw [if_pos (by simp [Region.wanted, hgd])]
  unfold Oper.wp execOp
  simp only [ho, hx, Sem.run_bind, hl, Result.andThen_ok, Sem.run_pure]
  exact hk
theorem loadAt_mid {w : World} {b off ty : Nat} {u : TypeDesc} {E : List Value} (h : w.rangeAt b off E) (hu : Tryd.prog.underlying ty = some u) (hk : u.isRow = true) (hl : (Tryd.prog.info? ty).map (·.size) = some E.length) : (Instr.loadAt ty (.pointer (some ⟨b, off, none⟩))).run Tryd.prog w = .ok (.agg E.toArray) w := by
  simp only [Instr.loadAt, Instr.sureAddr, Sem.run_bind, Sem.run_pure, Result.andThen_ok]
  exact run_loadVar_mid w b off ty E _ h hu hk hl
end Go.Proofs.YtedbklipbfbmoaaDoor
