/-
  THE REFERENCE'S Alloc.
-/
import Derived.Test.YtbflcnghpkmcoaaRFree
import Derived.Test.YtbflcnghpkmcoaaAlloc
import Derived.Deep.RegionLaw
import Derived.Deep.CutRange
namespace Go.Proofs.Ytbflcnghpkmcoaa
open Go.RowKit

/-- The length of the list whose value lies at a. -/
def lenAt (w : World) (a : Addr) : Nat := match w.cell? a with | some (.slice _ n _) => n | _ => 0
theorem lenAt_of {w : World} {a : Addr} {x : Option Addr} {n c : Nat} (h : w.cell? a = some (.slice x n c)) : lenAt w a = n := by unfold lenAt; rw [h]
theorem under26' : Try.prog.underlying 26 = some (.slice 9) := by kernel_rfl
theorem info9' : (Try.prog.info? 9).map (fun i => (i.zero, i.size, i.bytes)) = some (some (.string ⟨#[]⟩), 1, 16) := by kernel_rfl
theorem under63 : Try.prog.underlying 63 = some (.slice 4) := by kernel_rfl
theorem info4 : (Try.prog.info? 4).map (fun i => (i.zero, i.size, i.bytes)) = some (some (.bool false), 1, 1) := by kernel_rfl
theorem sto_snoc (l : List ByteArray) (d : ByteArray) : sto (l ++ [d]) = sto l ++ [.string d] := by simp [sto]
theorem boc_snoc (l : List Bool) (b : Bool) : boc (l ++ [b]) = boc l ++ [.bool b] := by simp [boc]
/-- One chunk more: a text and a mark behind the two lists; the two rows stored. -/
theorem RT.more {w0 : World} {q0 : (Nat → Nat × Nat)} {x C i : Nat} {w wA wB : World} {o oA oB : (Nat → Nat × Nat)} {n : Nat} {fv dv lv dv' lv' : Value} {fl : List Nat} {dl : List ByteArray} {ll : List Bool} (h : RT w0 q0 x C i w o n fv fl dv dl lv ll)
    (FA : Fr (fun t => t = (x, 3 * i + 3)) o oA w wA) (OA : OwnK wA oA (x, 3 * i + 3) 1 dv' (dl.length + 1) (sto dl ++ [.string ⟨#[]⟩]))
    (FB : Fr (fun t => t = (x, 3 * i + 4)) oA oB wA wB) (OB : OwnK wB oB (x, 3 * i + 4) 1 lv' (ll.length + 1) (boc ll ++ [.bool false])) :
    RT w0 q0 x C i ((wB.setCell ⟨C, i * 5 + 3, none⟩ dv').setCell ⟨C, i * 5 + 4, none⟩ lv') oB n fv fl dv' (dl ++ [⟨#[]⟩]) lv' (ll ++ [false]) := by
  have FF : Fr (fun t => t = (x, 3 * i + 3) ∨ t = (x, 3 * i + 4)) o oB w wB := (FA.mono (fun t e => .inl e)).trans (FB.mono (fun t e => .inr e))
  have hf := h.ff.fr FF (fun e => by rcases e with e | e <;> injection e with _ e <;> omega)
  have hd : OwnK wB oB (x, 3 * i + 3) 1 dv' (dl ++ [(⟨#[]⟩ : ByteArray)]).length (sto (dl ++ [⟨#[]⟩])) := by
    rw [List.length_append, sto_snoc]; exact OA.fr FB (fun e => by injection e with _ e; omega)
  have hl : OwnK wB oB (x, 3 * i + 4) 1 lv' (ll ++ [false]).length (boc (ll ++ [false])) := by
    rw [List.length_append, boc_snoc]; exact OB
  have hC : ¬ (o C = (x, 3 * i + 3) ∨ o C = (x, 3 * i + 4)) := by rw [h.oC]; intro e; rcases e with e | e <;> injection e with _ e <;> omega
  have hlt := World.block_lt_of_cell? _ _ h.c1
  have hb := FF.block C hlt hC
  have oC' : oB C = (x, 1) := (FF.lab C hlt).trans h.oC
  have G : Fr (fun t => t = (x, 1)) oB oB wB ((wB.setCell ⟨C, i * 5 + 3, none⟩ dv').setCell ⟨C, i * 5 + 4, none⟩ lv') := (Fr.set (a := ⟨C, i * 5 + 3, none⟩) oC' _).trans (Fr.set (a := ⟨C, i * 5 + 4, none⟩) oC' _)
  have ne : ∀ k, k ≠ i * 5 + 3 → k ≠ i * 5 + 4 → ((wB.setCell ⟨C, i * 5 + 3, none⟩ dv').setCell ⟨C, i * 5 + 4, none⟩ lv').cell? ⟨C, k, none⟩ = w.cell? ⟨C, k, none⟩ := fun k h3 h4 =>
    ((World.cell?_setCell_other _ _ _ _ (fun e => h4 (by injection e with _ e; exact e.symm))).trans (World.cell?_setCell_other _ _ _ _ (fun e => h3 (by injection e with _ e; exact e.symm)))).trans (World.cell?_of_block (a := ⟨C, k, none⟩) hb)
  have c3 : ((wB.setCell ⟨C, i * 5 + 3, none⟩ dv').setCell ⟨C, i * 5 + 4, none⟩ lv').cell? ⟨C, i * 5 + 3, none⟩ = some dv' :=
    (World.cell?_setCell_other _ _ _ _ (fun e => by injection e with _ e; omega)).trans (World.cell?_setCell_same _ _ _ (FF.cell h.c3 hC))
  have c4 : ((wB.setCell ⟨C, i * 5 + 3, none⟩ dv').setCell ⟨C, i * 5 + 4, none⟩ lv').cell? ⟨C, i * 5 + 4, none⟩ = some lv' :=
    World.cell?_setCell_same _ _ _ ((World.cell?_setCell_other _ _ _ _ (fun e => by injection e with _ e; omega)).trans (FF.cell h.c4 hC))
  exact ⟨oC', (ne _ (by omega) (by omega)).trans h.c1, (ne _ (by omega) (by omega)).trans h.c2, c3, c4, fun k a b c d => (ne k c d).trans (h.oth k a b c d), fun k => by rw [World.frozen?_setCell, World.frozen?_setCell, World.frozen?_of_block (a := ⟨C, k, none⟩) hb]; exact h.frz k,
    hf.fr G (fun e => by injection e with _ e; omega), hd.fr G (fun e => by injection e with _ e; omega), hl.fr G (fun e => by injection e with _ e; omega), (h.fr.trans (FF.mono (fun t e => by rcases e with e | e; exact .inr (.inr (.inl e)); exact .inr (.inr (.inr e))))).trans (G.mono (fun t e => .inl e))⟩
/-- A cell in a block of its own, as what is appended. -/
theorem src_cell {T e : TypeId} (ht : Try.prog.underlying T = some (.slice e)) {X : World} {b : Nat} {v : Value} (h : X.cell? ⟨b, 0, none⟩ = some v) (h1 : v.oneCell' = true) : Src Try.prog 1 T (.slice (some ⟨b, 0, none⟩) 1 1) 1 [v] X := by
  refine Src.ofSlice _ ht _ 1 1 _ rfl (fun j u hu => ?_) (fun u hu => by simp at hu; subst hu; exact h1)
  have hj : j = 0 := by have := (List.getElem?_eq_some_iff.1 hu).1; simp at this; exact this
  subst hj
  have e : (⟨b, 0, none⟩ : Addr).add 0 = ⟨b, 0, none⟩ := by unfold Addr.add; split <;> simp_all
  rw [e, h]; simpa using hu
/-- What the walk is told of the two appends: the worlds, what the class's cells hold in them, the class behind the two stores. -/
structure Two (w0 : World) (q0 : (Nat → Nat × Nat)) (x C i : Nat) (Y : World) (n : Nat) (fv : Value) (fl : List Nat) (dv : Value) (dl : List ByteArray) (lv : Value) (ll : List Bool) (a : Option Addr) (c : Nat) (wA : World) (a' : Option Addr) (c' : Nat) (wB : World) : Prop where
  cA : C < wA.heap.size
  a4 : wA.cell? ⟨C, i * 5 + 4, none⟩ = some lv
  b3 : wB.cell? ⟨C, i * 5 + 3, none⟩ = some dv
  b4 : wB.cell? ⟨C, i * 5 + 4, none⟩ = some lv
  z3 : wB.frozen? ⟨C, i * 5 + 3, none⟩ = Y.frozen? ⟨C, i * 5 + 3, none⟩
  z4 : wB.frozen? ⟨C, i * 5 + 4, none⟩ = Y.frozen? ⟨C, i * 5 + 4, none⟩
  rt : ∃ oB, RT w0 q0 x C i ((wB.setCell ⟨C, i * 5 + 3, none⟩ (.slice a (dl.length + 1) c)).setCell ⟨C, i * 5 + 4, none⟩ (.slice a' (ll.length + 1) c')) oB n fv fl (.slice a (dl.length + 1) c) (dl ++ [⟨#[]⟩]) (.slice a' (ll.length + 1) c') (ll ++ [false])
theorem RT.two' {w0 : World} {q0 : (Nat → Nat × Nat)} {x C i : Nat} {Y wA wB : World} {o oA oB : (Nat → Nat × Nat)} {n : Nat} {fv dv lv : Value} {fl : List Nat} {dl : List ByteArray} {ll : List Bool} {a a' : Option Addr} {c c' : Nat} (h : RT w0 q0 x C i Y o n fv fl dv dl lv ll)
    (FA : Fr (fun t => t = (x, 3 * i + 3)) o oA Y wA) (OA : OwnK wA oA (x, 3 * i + 3) 1 (.slice a (dl.length + 1) c) (dl.length + 1) (sto dl ++ [.string ⟨#[]⟩]))
    (FB : Fr (fun t => t = (x, 3 * i + 4)) oA oB wA wB) (OB : OwnK wB oB (x, 3 * i + 4) 1 (.slice a' (ll.length + 1) c') (ll.length + 1) (boc ll ++ [.bool false])) : Two w0 q0 x C i Y n fv fl dv dl lv ll a c wA a' c' wB := by
  have hlt := World.block_lt_of_cell? _ _ h.c1
  have n3 : ¬ (o C = (x, 3 * i + 3)) := by rw [h.oC]; intro e; injection e with _ e; omega
  have n4 : ¬ (oA C = (x, 3 * i + 4)) := by rw [FA.lab C hlt, h.oC]; intro e; injection e with _ e; omega
  have hltA : C < wA.heap.size := Nat.lt_of_lt_of_le hlt FA.size
  exact ⟨hltA, FA.cell h.c4 n3, FB.cell (FA.cell h.c3 n3) n4, FB.cell (FA.cell h.c4 n3) n4, (FB.frozen hltA n4).trans (FA.frozen hlt n3), (FB.frozen hltA n4).trans (FA.frozen hlt n3), oB, h.more FA OA FB OB⟩
/-- First the one, then the other. -/
theorem RT.one {w0 : World} {q0 : (Nat → Nat × Nat)} {x C i : Nat} {Y : World} {o : (Nat → Nat × Nat)} {n : Nat} {fv dv lv : Value} {fl : List Nat} {dl : List ByteArray} {ll : List Bool} (h : RT w0 q0 x C i Y o n fv fl dv dl lv ll) (h1 : dl.length ≤ 100000) (h2 : ll.length ≤ 100000) :
    ∃ a c wA a' c' wB, (Builtin.append_ #[26, 26] 26 #[dv, .slice (some ⟨Y.heap.size, 0, none⟩) 1 1]).run Try.prog (Y.alloc (.cells #[.string ⟨#[]⟩] 9)) = .ok (.slice a (dl.length + 1) c) wA ∧
      (Builtin.append_ #[63, 63] 63 #[lv, .slice (some ⟨wA.heap.size, 0, none⟩) 1 1]).run Try.prog (wA.alloc (.cells #[.bool false] 4)) = .ok (.slice a' (ll.length + 1) c') wB ∧ Two w0 q0 x C i Y n fv fl dv dl lv ll a c wA a' c' wB := by
  obtain ⟨vA, wA, oA, rA, OA, FA⟩ := app_one 26 9 (.string ⟨#[]⟩) 16 under26' info9' (by kernel_rfl) h.dd [.string ⟨#[]⟩] rfl (fun x hx => by simp at hx; subst hx; rfl) (by omega) (by omega)
  obtain ⟨a, c, rfl, _⟩ := OA.form
  obtain ⟨vB, wB, oB, rB, OB, FB⟩ := app_one 63 4 (.bool false) 1 under63 info4 (by kernel_rfl) (h.lo.fr FA (fun e => by injection e with _ e; omega)) [.bool false] rfl (fun x hx => by simp at hx; subst hx; rfl) (by omega) (by omega)
  obtain ⟨a', c', rfl, _⟩ := OB.form
  exact ⟨a, c, wA, a', c', wB, rA, rB, h.two' FA OA FB OB⟩
/-- What is to be appended to both is there first, in Z. -/
theorem RT.both {w0 : World} {q0 : (Nat → Nat × Nat)} {x C i : Nat} (hx9 : x ≠ 9) {Y Z : World} {o oZ : (Nat → Nat × Nat)} {n : Nat} {fv dv lv : Value} {fl : List Nat} {dl : List ByteArray} {ll : List Bool} (h : RT w0 q0 x C i Y o n fv fl dv dl lv ll) (h1 : dl.length ≤ 100000) (h2 : ll.length ≤ 100000)
    (FZ : Fr (fun _ => False) o oZ Y Z) (bA bB : Nat) (cA : Z.cell? ⟨bA, 0, none⟩ = some (.string ⟨#[]⟩)) (cB : Z.cell? ⟨bB, 0, none⟩ = some (.bool false)) (oB : oZ bB = (9, 0)) :
    ∃ a c wA a' c' wB, (Builtin.append_ #[26, 26] 26 #[dv, .slice (some ⟨bA, 0, none⟩) 1 1]).run Try.prog Z = .ok (.slice a (dl.length + 1) c) wA ∧
      (Builtin.append_ #[63, 63] 63 #[lv, .slice (some ⟨bB, 0, none⟩) 1 1]).run Try.prog wA = .ok (.slice a' (ll.length + 1) c') wB ∧ Two w0 q0 x C i Y n fv fl dv dl lv ll a c wA a' c' wB := by
  obtain ⟨vA, wA, oA, rA, OA, FA⟩ := app_own 26 26 9 (.string ⟨#[]⟩) 16 under26' info9' (by kernel_rfl) (h.dd.fr FZ (fun x => x)) (src_cell under26' cA rfl) (by omega) (by omega)
  obtain ⟨a, c, rfl, _⟩ := OA.form
  have cB' := FA.cell cB (by rw [oB]; intro e; injection e with e _; exact hx9 e.symm)
  obtain ⟨vB, wB, oB', rB, OB, FB⟩ := app_own 63 63 4 (.bool false) 1 under63 info4 (by kernel_rfl) ((h.lo.fr FZ (fun x => x)).fr FA (fun e => by injection e with _ e; omega)) (src_cell under63 cB' rfl) (by omega) (by omega)
  obtain ⟨a', c', rfl, _⟩ := OB.form
  exact ⟨a, c, wA, a', c', wB, rA, rB, h.two' ((FZ.mono (fun _ h => h.elim)).trans FA) OA FB OB⟩
theorem RT.ab {w0 : World} {q0 : (Nat → Nat × Nat)} {x C i : Nat} (hx9 : x ≠ 9) {Y : World} {o : (Nat → Nat × Nat)} {n : Nat} {fv dv lv : Value} {fl : List Nat} {dl : List ByteArray} {ll : List Bool} (h : RT w0 q0 x C i Y o n fv fl dv dl lv ll) (h1 : dl.length ≤ 100000) (h2 : ll.length ≤ 100000) :
    ∃ a c wA a' c' wB, (Builtin.append_ #[26, 26] 26 #[dv, .slice (some ⟨Y.heap.size, 0, none⟩) 1 1]).run Try.prog ((Y.alloc (.cells #[.string ⟨#[]⟩] 9)).alloc (.cells #[.bool false] 4)) = .ok (.slice a (dl.length + 1) c) wA ∧
      (Builtin.append_ #[63, 63] 63 #[lv, .slice (some ⟨Y.heap.size + 1, 0, none⟩) 1 1]).run Try.prog wA = .ok (.slice a' (ll.length + 1) c') wB ∧ Two w0 q0 x C i Y n fv fl dv dl lv ll a c wA a' c' wB := by
  have sz : (Y.alloc (.cells #[.string ⟨#[]⟩] 9)).heap.size = Y.heap.size + 1 := by simp
  have FZ := (Fr.new (fun _ => False) o Y (.cells #[.string ⟨#[]⟩] 9) (9, 0)).trans (Fr.new (fun _ => False) _ (Y.alloc (.cells #[.string ⟨#[]⟩] 9)) (.cells #[.bool false] 4) (9, 0))
  refine h.both hx9 h1 h2 FZ Y.heap.size (Y.heap.size + 1) (cell_up ((Below.refl _ _).alloc (Nat.le_refl _) _) (by rw [World.cell?_alloc_new]; rfl)) ?_ ?_
  · rw [← sz, World.cell?_alloc_new]; rfl
  · rw [← sz]; exact lab_same _ _ _
theorem RT.ba {w0 : World} {q0 : (Nat → Nat × Nat)} {x C i : Nat} (hx9 : x ≠ 9) {Y : World} {o : (Nat → Nat × Nat)} {n : Nat} {fv dv lv : Value} {fl : List Nat} {dl : List ByteArray} {ll : List Bool} (h : RT w0 q0 x C i Y o n fv fl dv dl lv ll) (h1 : dl.length ≤ 100000) (h2 : ll.length ≤ 100000) :
    ∃ a c wA a' c' wB, (Builtin.append_ #[26, 26] 26 #[dv, .slice (some ⟨Y.heap.size + 1, 0, none⟩) 1 1]).run Try.prog ((Y.alloc (.cells #[.bool false] 4)).alloc (.cells #[.string ⟨#[]⟩] 9)) = .ok (.slice a (dl.length + 1) c) wA ∧
      (Builtin.append_ #[63, 63] 63 #[lv, .slice (some ⟨Y.heap.size, 0, none⟩) 1 1]).run Try.prog wA = .ok (.slice a' (ll.length + 1) c') wB ∧ Two w0 q0 x C i Y n fv fl dv dl lv ll a c wA a' c' wB := by
  have sz : (Y.alloc (.cells #[.bool false] 4)).heap.size = Y.heap.size + 1 := by simp
  have FZ := (Fr.new (fun _ => False) o Y (.cells #[.bool false] 4) (9, 0)).trans (Fr.new (fun _ => False) _ (Y.alloc (.cells #[.bool false] 4)) (.cells #[.string ⟨#[]⟩] 9) (9, 0))
  refine h.both hx9 h1 h2 FZ (Y.heap.size + 1) Y.heap.size ?_ (cell_up ((Below.refl _ _).alloc (Nat.le_refl _) _) (by rw [World.cell?_alloc_new]; rfl)) ?_
  · rw [← sz, World.cell?_alloc_new]; rfl
  · rw [lab_other _ _ _ (by rw [sz]; omega)]; exact lab_same _ _ _
/-- append as a step of a region that draws, its run given behind. -/
theorem step_app3 {P : Program} {ops : Array Oper} {o : Oper} {a : Act} {w : World} {K : Act → World → Prop} {Q : Exit → Act → World → Prop} {E : Prop} (hgd : o.guard = none) (s x : Operand) (t : TypeId)
    (ho : o.op = .call { callee := .builtin .append, args := #[s, x], argTypes := #[t, t] }) (ht : o.type = t)
    (h : ∃ X v xv v' w', w = X ∧ a.eval s = v ∧ a.eval x = xv ∧ (Builtin.append_ #[t, t] t #[v, xv]).run P X = .ok v' w' ∧ K (a.put o.dst v') w') :
    if Region.wanted o (yielded ops a.tmps) = true then Oper.wp P o a w K Q else E := by
  obtain ⟨X, v, xv, v', w', rfl, hs, hx, hr, hk⟩ := h
  exact step_app hgd s x t t ho v xv v' hs hx (by rw [ht]; exact hr) hk
/-- A cell behind an alloc. -/
theorem new_up {w : World} {b o : Nat} {v : Value} (c : Obj) (h : w.cell? ⟨b, o, none⟩ = some v) : (w.alloc c).cell? ⟨b, o, none⟩ = some v := cell_up ((Below.refl _ _).alloc (Nat.le_refl _) c) h
/-- append as a step of a region that draws, its run given ahead: it names the world. -/
theorem step_app4 {P : Program} {ops : Array Oper} {o : Oper} {a : Act} {w : World} {K : Act → World → Prop} {Q : Exit → Act → World → Prop} {E : Prop} {X w' : World} {v xv v' : Value} {t : TypeId} (hr : (Builtin.append_ #[t, t] t #[v, xv]).run P X = .ok v' w') (s x : Operand)
    (hw : w = X) (hgd : o.guard = none) (ho : o.op = .call { callee := .builtin .append, args := #[s, x], argTypes := #[t, t] }) (ht : o.type = t) (hs : a.eval s = v) (hx : a.eval x = xv) (hk : K (a.put o.dst v') w') :
    if Region.wanted o (yielded ops a.tmps) = true then Oper.wp P o a w K Q else E := by
  subst hw
  exact step_app hgd s x t t ho v xv v' hs hx (by rw [ht]; exact hr) hk
set_option maxHeartbeats 0 in
set_option maxRecDepth 100000 in
/-- The region that makes room for one chunk more. -/
theorem reg15 (x C i : Nat) (hx9 : x ≠ 9) (U : World) (oo o1 : (Nat → Nat × Nat)) (wr : World) (nq n1 m j : Nat) (fv : Value) (fl : List Nat) (da la : Option Addr) (dc lc : Nat) (dl : List ByteArray) (ll : List Bool) (hj : n1 + j ≤ 100000) (l1 : dl.length = n1 + j) (l2 : ll.length = n1 + j)
    (hz3 : wr.frozen? ⟨C, i * 5 + 3, none⟩ = false) (hz4 : wr.frozen? ⟨C, i * 5 + 4, none⟩ = false)
    (HRT : Hid (RT U oo x C i wr o1 m fv fl (.slice da (n1 + j) dc) dl (.slice la (n1 + j) lc) ll))
    (t0 t1 t2 t3 t4 t5 t6 t8 t9 t10 t11 t12 t13 t14 t15 t16 t17 t18 t19 t20 t21 t22 t23 t24 t25 t26 t27 t28 t29 t30 t31 t32 t33 t34 t35 t36 t37 t38 t39 t40 t41 t42 t43 t44 t45 t46 t47 t48 t49 t50 t51 t52 t53 t54 t55 t56 t57 t58 t59 t60 t61 t62 t63 t64 t65 t66 t67 t68 t69 t70 t71 t72 t73 t74 t75 t76 t77 t78 t79 t80 t81 t82 t83 t84 t85 t86 t87 t88 t89 t90 t91 t92 t93 t94 t95 t96 t97 t98 t99 t100 t101 t102 t103 t104 t105 t106 t107 t108 t109 t110 t111 t112 t113 t114 t115 t116 t117 t118 t119 t120 t121 t122 t123 t124 t125 t126 t127 t128 t129 t130 t131 t132 t133 t134 t135 t136 t137 t138 t139 t140 t141 t142 t143 t144 t145 t146 t147 t148 t149 t150 t151 t152 t153 t154 t155 t156 t157 : Value) :
    Code.wp Try.prog
    (Code.region 15
      #[{ dst := some 98, op := Op.move (Operand.tmp 7), type := 120, pos := "ref.go:68", after := #[], guard := none },
        { dst := some 99, op := Op.move (Operand.tmp 7), type := 120, pos := "ref.go:68",
          after := #[{ on := 16, ground := Ground.gcOnly Departure.lateStores }], guard := none },
        { dst := some 100, op := Op.move (Operand.tmp 7), type := 120, pos := "ref.go:68", after := #[], guard := none },
        { dst := some 101, op := Op.nilCheck (Operand.tmp 100), type := 0, pos := "ref.go:68",
          after := #[{ on := 2, ground := Ground.data }], guard := none },
        { dst := some 102, op := Op.fieldAddr 99 (Operand.tmp 101) 3, type := 0, pos := "ref.go:68",
          after := #[{ on := 3, ground := Ground.data }], guard := none },
        { dst := some 103, op := Op.load 26 (Operand.tmp 102), type := 26, pos := "ref.go:68",
          after := #[{ on := 4, ground := Ground.data }], guard := none },
        { dst := some 104, op := Op.buildSlice 26 1 #[(0, Operand.const (Value.string { data := #[] }))], type := 26,
          pos := "ref.go:68", after := #[], guard := none },
        { dst := some 105,
          op :=
            Op.call
              { callee := Callee.builtin Builtin.append, args := #[Operand.tmp 103, Operand.tmp 104],
                argTypes := #[26, 26] },
          type := 26, pos := "ref.go:68",
          after := #[{ on := 5, ground := Ground.data }, { on := 6, ground := Ground.data }], guard := none },
        { dst := some 106, op := Op.move (Operand.tmp 7), type := 120, pos := "ref.go:68", after := #[], guard := none },
        { dst := some 107, op := Op.nilCheck (Operand.tmp 106), type := 0, pos := "ref.go:68",
          after := #[{ on := 8, ground := Ground.data }], guard := none },
        { dst := some 108, op := Op.fieldAddr 99 (Operand.tmp 107) 4, type := 0, pos := "ref.go:68",
          after := #[{ on := 9, ground := Ground.data }], guard := none },
        { dst := some 109, op := Op.load 63 (Operand.tmp 108), type := 63, pos := "ref.go:68",
          after := #[{ on := 10, ground := Ground.data }], guard := none },
        { dst := some 110, op := Op.buildSlice 63 1 #[(0, Operand.const (Value.bool false))], type := 63,
          pos := "ref.go:68", after := #[], guard := none },
        { dst := some 111,
          op :=
            Op.call
              { callee := Callee.builtin Builtin.append, args := #[Operand.tmp 109, Operand.tmp 110],
                argTypes := #[63, 63] },
          type := 63, pos := "ref.go:68",
          after :=
            #[{ on := 11, ground := Ground.data }, { on := 12, ground := Ground.data },
              { on := 7, ground := Ground.chain }],
          guard := none },
        { dst := some 112, op := Op.nilCheck (Operand.tmp 98), type := 0, pos := "ref.go:68",
          after :=
            #[{ on := 0, ground := Ground.data }, { on := 0, ground := Ground.phase },
              { on := 1, ground := Ground.textOnly Departure.lateStores }, { on := 2, ground := Ground.phase },
              { on := 3, ground := Ground.phase }, { on := 4, ground := Ground.phase },
              { on := 5, ground := Ground.phase }, { on := 6, ground := Ground.phase },
              { on := 7, ground := Ground.phase }, { on := 8, ground := Ground.textOnly Departure.lateStores },
              { on := 9, ground := Ground.textOnly Departure.lateStoresUnsure },
              { on := 10, ground := Ground.textOnly Departure.lateStoresUnsure }, { on := 11, ground := Ground.phase },
              { on := 12, ground := Ground.textOnly Departure.lateStoresUnsure }, { on := 13, ground := Ground.phase }],
          guard := none },
        { dst := some 113, op := Op.fieldAddr 99 (Operand.tmp 112) 3, type := 0, pos := "ref.go:68",
          after :=
            #[{ on := 14, ground := Ground.data }, { on := 0, ground := Ground.phase },
              { on := 1, ground := Ground.textOnly Departure.lateStores }, { on := 2, ground := Ground.phase },
              { on := 3, ground := Ground.phase }, { on := 4, ground := Ground.phase },
              { on := 5, ground := Ground.phase }, { on := 6, ground := Ground.phase },
              { on := 7, ground := Ground.phase }, { on := 8, ground := Ground.textOnly Departure.lateStores },
              { on := 9, ground := Ground.textOnly Departure.lateStoresUnsure },
              { on := 10, ground := Ground.textOnly Departure.lateStoresUnsure }, { on := 11, ground := Ground.phase },
              { on := 12, ground := Ground.textOnly Departure.lateStoresUnsure }, { on := 13, ground := Ground.phase }],
          guard := none },
        { dst := none, op := Op.store 26 (Operand.tmp 113) (Operand.tmp 105), type := 0, pos := "ref.go:68",
          after :=
            #[{ on := 15, ground := Ground.data }, { on := 7, ground := Ground.data },
              { on := 13, ground := Ground.chain }, { on := 0, ground := Ground.phase },
              { on := 1, ground := Ground.textOnly Departure.lateStores }, { on := 2, ground := Ground.phase },
              { on := 3, ground := Ground.phase }, { on := 4, ground := Ground.phase },
              { on := 5, ground := Ground.phase }, { on := 6, ground := Ground.phase },
              { on := 7, ground := Ground.phase }, { on := 8, ground := Ground.textOnly Departure.lateStores },
              { on := 9, ground := Ground.textOnly Departure.lateStoresUnsure },
              { on := 10, ground := Ground.textOnly Departure.lateStoresUnsure }, { on := 11, ground := Ground.phase },
              { on := 12, ground := Ground.textOnly Departure.lateStoresUnsure }, { on := 13, ground := Ground.phase }],
          guard := none },
        { dst := some 114, op := Op.nilCheck (Operand.tmp 99), type := 0, pos := "ref.go:68",
          after :=
            #[{ on := 1, ground := Ground.data }, { on := 0, ground := Ground.phase },
              { on := 1, ground := Ground.phase }, { on := 2, ground := Ground.phase },
              { on := 3, ground := Ground.phase }, { on := 4, ground := Ground.phase },
              { on := 5, ground := Ground.phase }, { on := 6, ground := Ground.phase },
              { on := 7, ground := Ground.phase }, { on := 8, ground := Ground.phase },
              { on := 9, ground := Ground.phase }, { on := 10, ground := Ground.phase },
              { on := 11, ground := Ground.phase }, { on := 12, ground := Ground.phase },
              { on := 13, ground := Ground.phase }, { on := 14, ground := Ground.phase },
              { on := 15, ground := Ground.phase }, { on := 16, ground := Ground.phase }],
          guard := none },
        { dst := some 115, op := Op.fieldAddr 99 (Operand.tmp 114) 4, type := 0, pos := "ref.go:68",
          after :=
            #[{ on := 17, ground := Ground.data }, { on := 0, ground := Ground.phase },
              { on := 1, ground := Ground.phase }, { on := 2, ground := Ground.phase },
              { on := 3, ground := Ground.phase }, { on := 4, ground := Ground.phase },
              { on := 5, ground := Ground.phase }, { on := 6, ground := Ground.phase },
              { on := 7, ground := Ground.phase }, { on := 8, ground := Ground.phase },
              { on := 9, ground := Ground.phase }, { on := 10, ground := Ground.phase },
              { on := 11, ground := Ground.phase }, { on := 12, ground := Ground.phase },
              { on := 13, ground := Ground.phase }, { on := 14, ground := Ground.phase },
              { on := 15, ground := Ground.phase }, { on := 16, ground := Ground.phase }],
          guard := none },
        { dst := none, op := Op.store 63 (Operand.tmp 115) (Operand.tmp 111), type := 0, pos := "ref.go:68",
          after :=
            #[{ on := 18, ground := Ground.data }, { on := 13, ground := Ground.data },
              { on := 16, ground := Ground.chain }, { on := 0, ground := Ground.phase },
              { on := 1, ground := Ground.phase }, { on := 2, ground := Ground.phase },
              { on := 3, ground := Ground.phase }, { on := 4, ground := Ground.phase },
              { on := 5, ground := Ground.phase }, { on := 6, ground := Ground.phase },
              { on := 7, ground := Ground.phase }, { on := 8, ground := Ground.phase },
              { on := 9, ground := Ground.phase }, { on := 10, ground := Ground.phase },
              { on := 11, ground := Ground.phase }, { on := 12, ground := Ground.phase },
              { on := 13, ground := Ground.phase }, { on := 14, ground := Ground.phase },
              { on := 15, ground := Ground.phase }, { on := 16, ground := Ground.phase }],
          guard := none }]
      true)
    (fun e a wx => match e with | .normal => (∃ v98 v99 v100 v101 v102 v103 v104 v105 v106 v107 v108 v109 v110 v111 v112 v113 v114 v115, a = ⟨#[t0, t1, t2, t3, t4, t5, t6, Value.pointer (some { block := C, off := i * 5 }), t8, t9, t10, t11, t12, t13, t14, t15, t16, t17, t18, t19, t20, t21, t22, t23, t24, t25, t26, t27, t28, t29, t30, t31, t32, t33, t34, t35, t36, t37, t38, t39, t40, t41, t42, t43, t44, t45, t46, t47, t48, t49, t50, t51, t52, t53, t54, t55, t56, t57, t58, t59, t60, t61, t62, t63, t64, t65, t66, t67, t68, t69, t70, t71, t72, t73, t74, t75, t76, t77, t78, t79, t80, t81, t82, t83, t84, t85, t86, t87, t88, t89, t90, t91, t92, t93, t94, t95, t96, t97, v98, v99, v100, v101, v102, v103, v104, v105, v106, v107, v108, v109, v110, v111, v112, v113, v114, v115, t116, t117, t118, t119, t120, t121, t122, t123, t124, t125, t126, t127, t128, t129, t130, t131, t132, t133, t134, t135, t136, t137, t138, t139, t140, t141, t142, t143, t144, t145, t146, t147, t148, t149, t150, t151, t152, t153, t154, t155, t156, t157], []⟩) ∧ ∃ o' da' la' dc' lc', RT U oo x C i wx o' m fv fl (.slice da' (n1 + j + 1) dc') (dl ++ [⟨#[]⟩]) (.slice la' (n1 + j + 1) lc') (ll ++ [false]) | _ => False)
    ⟨#[t0, t1, t2, t3, t4, t5, t6, Value.pointer (some { block := C, off := i * 5 }), t8, t9, t10, t11, t12, t13, t14, t15, t16, t17, t18, t19, t20, t21, t22, t23, t24, t25, t26, t27, t28, t29, t30, t31, t32, t33, t34, t35, t36, t37, t38, t39, t40, t41, t42, t43, t44, t45, t46, t47, t48, t49, t50, t51, t52, t53, t54, t55, t56, t57, t58, t59, t60, t61, t62, t63, t64, t65, t66, t67, t68, t69, t70, t71, t72, t73, t74, t75, t76, t77, t78, t79, t80, t81, t82, t83, t84, t85, t86, t87, t88, t89, t90, t91, t92, t93, t94, t95, t96, t97, t98, t99, t100, t101, t102, t103, t104, t105, t106, t107, t108, t109, t110, t111, t112, t113, t114, t115, t116, t117, t118, t119, t120, t121, t122, t123, t124, t125, t126, t127, t128, t129, t130, t131, t132, t133, t134, t135, t136, t137, t138, t139, t140, t141, t142, t143, t144, t145, t146, t147, t148, t149, t150, t151, t152, t153, t154, t155, t156, t157], []⟩
    (wr.drewN nq) := by
  have D3 := HRT.out.c3
  have D4 := HRT.out.c4
  have rtY := HRT.out.up (w' := wr.drewN (nq + 1)) (below_drewN (Below.refl _ _) (nq + 1))
  obtain ⟨a1, c1, wA1, b1, e1, wB1, rA1, rB1, T1⟩ := rtY.one (by omega) (by omega)
  obtain ⟨a2, c2, wA2, b2', e2, wB2, rA2, rB2, T2⟩ := rtY.ab hx9 (by omega) (by omega)
  obtain ⟨a3, c3', wA3, b3, e3, wB3, rA3, rB3, T3⟩ := rtY.ba hx9 (by omega) (by omega)
  have hCr : C < wr.heap.size := World.block_lt_of_cell? _ _ D3
  have Z3 : (wr.drewN (nq + 1)).frozen? ⟨C, i * 5 + 3, none⟩ = false := ((below_drewN (Below.refl _ _) (nq + 1)).frozen (p := ⟨C, i * 5 + 3, none⟩) hCr).trans hz3
  have Z4 : (wr.drewN (nq + 1)).frozen? ⟨C, i * 5 + 4, none⟩ = false := ((below_drewN (Below.refl _ _) (nq + 1)).frozen (p := ⟨C, i * 5 + 4, none⟩) hCr).trans hz4
  have hA1 := T1.cA
  have hA2 := T2.cA
  have hA3 := T3.cA
  have x14 := T1.a4
  have x24 := T2.a4
  have x34 := T3.a4
  have y13 := T1.b3
  have y14 := T1.b4
  have y23 := T2.b3
  have y24 := T2.b4
  have y33 := T3.b3
  have y34 := T3.b4
  have v13 := T1.z3.trans Z3
  have v14 := T1.z4.trans Z4
  have v23 := T2.z3.trans Z3
  have v24 := T2.z4.trans Z4
  have v33 := T3.z3.trans Z3
  have v34 := T3.z4.trans Z4
  have R1 := T1.rt
  have R2 := T2.rt
  have R3 := T3.rt
  rw [l1] at rA1 rA2 rA3
  rw [l2] at rB1 rB2 rB3
  rw [l1, l2] at R1 R2 R3
  have Y3 : (wr.drewN (nq + 1)).cell? ⟨C, i * 5 + 3, none⟩ = some (.slice da (n1 + j) dc) := cell_up (below_drewN (Below.refl _ _) (nq + 1)) D3
  have Y4 : (wr.drewN (nq + 1)).cell? ⟨C, i * 5 + 4, none⟩ = some (.slice la (n1 + j) lc) := cell_up (below_drewN (Below.refl _ _) (nq + 1)) D4
  have Ya3 := new_up (.cells #[.string ⟨#[]⟩] 9) Y3
  have Ya4 := new_up (.cells #[.string ⟨#[]⟩] 9) Y4
  have Yb3 := new_up (.cells #[.bool false] 4) Y3
  have Yb4 := new_up (.cells #[.bool false] 4) Y4
  have Yab3 := new_up (.cells #[.bool false] 4) Ya3
  have Yab4 := new_up (.cells #[.bool false] 4) Ya4
  have Yba3 := new_up (.cells #[.string ⟨#[]⟩] 9) Yb3
  have Yba4 := new_up (.cells #[.string ⟨#[]⟩] 9) Yb4
  have xb14 := new_up (.cells #[.bool false] 4) x14
  have H1 : Hid _ := R1
  have H2 : Hid _ := R2
  have H3 : Hid _ := R3
  clear T1 T2 T3 HRT rtY l1 l2 R1 R2 R3 hz3 hz4 hj hx9
  go_region_law (first
    | (refine step_app4 rA1 (.tmp 103) (.tmp 104) (by with_reducible rfl) (by rfl) (by rfl) (by rfl) (by rfl) (by rfl) ?_)
    | (refine step_app4 rA2 (.tmp 103) (.tmp 104) (by with_reducible rfl) (by rfl) (by rfl) (by rfl) (by rfl) (by rfl) ?_)
    | (refine step_app4 rA3 (.tmp 103) (.tmp 104) (by with_reducible rfl) (by rfl) (by rfl) (by rfl) (by rfl) (by rfl) ?_)
    | (refine step_app4 rB1 (.tmp 109) (.tmp 110) (by with_reducible rfl) (by rfl) (by rfl) (by rfl) (by rfl) (by rfl) ?_)
    | (refine step_app4 rB2 (.tmp 109) (.tmp 110) (by with_reducible rfl) (by rfl) (by rfl) (by rfl) (by rfl) (by rfl) ?_)
    | (refine step_app4 rB3 (.tmp 109) (.tmp 110) (by with_reducible rfl) (by rfl) (by rfl) (by rfl) (by rfl) (by rfl) ?_))
  all_goals
    dsimp only
    refine ⟨⟨_, _, _, _, _, _, _, _, _, _, _, _, _, _, _, _, _, _, rfl⟩, ?_⟩
    first
      | exact (let ⟨oB, hB⟩ := H1.out; ⟨oB, a1, b1, c1, e1, hB⟩)
      | exact (let ⟨oB, hB⟩ := H2.out; ⟨oB, a2, b2', c2, e2, hB⟩)
      | exact (let ⟨oB, hB⟩ := H3.out; ⟨oB, a3, b3, c3', e3, hB⟩)
end Go.Proofs.Ytbflcnghpkmcoaa
