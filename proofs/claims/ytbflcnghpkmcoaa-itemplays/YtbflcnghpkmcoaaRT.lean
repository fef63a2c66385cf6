/-
  ONE CLASS OF THE REFERENCE'S S(Nat → Nat × Nat) ON ITS WAY: what its cells and its three lists hold; the steps.
-/
import Derived.Test.YtbflcnghpkmcoaaRef
namespace Go.Proofs.Ytbflcnghpkmcoaa
open Go.RowKit

/-- The marks of class i. -/
def TI (x i : Nat) (t : Nat × Nat) : Prop := t = (x, 1) ∨ t = (x, 3 * i + 2) ∨ t = (x, 3 * i + 3) ∨ t = (x, 3 * i + 4)
theorem TI_0 (x i : Nat) : ¬ TI x i (x, 0) := fun e => by rcases e with e | e | e | e <;> injection e with _ e <;> omega
theorem TI_x {x i : Nat} {t : Nat × Nat} (e : TI x i t) : t.1 = x := by rcases e with rfl | rfl | rfl | rfl <;> rfl
def boc (l : List Bool) : List Value := l.map fun b => .bool b
def sto (l : List ByteArray) : List Value := l.map fun s => .string s
/-- From the world w0 on class i alone has turned: how many chunks it counts, its lists. -/
structure RT (w0 : World) (q0 : (Nat → Nat × Nat)) (x C i : Nat) (w : World) (o : (Nat → Nat × Nat)) (n : Nat) (fv : Value) (fl : List Nat) (dv : Value) (dl : List ByteArray) (lv : Value) (ll : List Bool) : Prop where
  oC : o C = (x, 1)
  c1 : w.cell? ⟨C, i * 5 + 1, none⟩ = some (.int .i64 ((n : Nat) : Int))
  c2 : w.cell? ⟨C, i * 5 + 2, none⟩ = some fv
  c3 : w.cell? ⟨C, i * 5 + 3, none⟩ = some dv
  c4 : w.cell? ⟨C, i * 5 + 4, none⟩ = some lv
  oth : ∀ j, j ≠ i * 5 + 1 → j ≠ i * 5 + 2 → j ≠ i * 5 + 3 → j ≠ i * 5 + 4 → w.cell? ⟨C, j, none⟩ = w0.cell? ⟨C, j, none⟩
  frz : ∀ j, w.frozen? ⟨C, j, none⟩ = w0.frozen? ⟨C, j, none⟩
  ff : OwnK w o (x, 3 * i + 2) 1 fv fl.length (frc fl)
  dd : OwnK w o (x, 3 * i + 3) 1 dv dl.length (sto dl)
  lo : OwnK w o (x, 3 * i + 4) 1 lv ll.length (boc ll)
  fr : Fr (TI x i) q0 o w0 w
theorem RT.start {w : World} {o : (Nat → Nat × Nat)} {x C i : Nat} {s : St} {fv dv lv : Nat → Value} (h : RCls w o x C s fv dv lv) (hi : i < s.n) : RT w o x C i w o (s.ch i).length (fv i) (s.fr i) (dv i) ((s.ch i).map (·.2)) (lv i) ((s.ch i).map (·.1)) :=
  ⟨h.oC, h.c1 i hi, h.c2 i hi, h.c3 i hi, h.c4 i hi, fun _ _ _ _ _ => rfl, fun _ => rfl, h.ff i hi, by have := h.dd i hi; rw [List.length_map, sto, List.map_map]; exact this, by have := h.ll i hi; rw [List.length_map, boc, List.map_map]; exact this, Fr.refl _ _ _⟩
/-- Something else, or a list of its own, has turned. -/
theorem RT.keep {w0 : World} {q0 : (Nat → Nat × Nat)} {x C i : Nat} {w w' : World} {o o' : (Nat → Nat × Nat)} {n : Nat} {fv dv lv : Value} {fl : List Nat} {dl : List ByteArray} {ll : List Bool} (h : RT w0 q0 x C i w o n fv fl dv dl lv ll) {T : Nat × Nat → Prop} (f : Fr T o o' w w') (hT : ∀ t, T t → TI x i t) (h1 : ¬ T (x, 1)) {fl' : List Nat} {dl' : List ByteArray} {ll' : List Bool} {fw dw lw : Value}
    (hf : OwnK w' o' (x, 3 * i + 2) 1 fw fl'.length (frc fl')) (hd : OwnK w' o' (x, 3 * i + 3) 1 dw dl'.length (sto dl')) (hl : OwnK w' o' (x, 3 * i + 4) 1 lw ll'.length (boc ll')) (e1 : fw = fv) (e2 : dw = dv) (e3 : lw = lv) : RT w0 q0 x C i w' o' n fv fl' dv dl' lv ll' := by
  subst e1 e2 e3
  have hC : ¬ T (o C) := by rw [h.oC]; exact h1
  have hlt := World.block_lt_of_cell? _ _ h.c1
  have hb := f.block C hlt hC
  exact ⟨(f.lab C hlt).trans h.oC, f.cell h.c1 hC, f.cell h.c2 hC, f.cell h.c3 hC, f.cell h.c4 hC, fun j a b c d => (World.cell?_of_block (a := ⟨C, j, none⟩) hb).trans (h.oth j a b c d), fun j => (World.frozen?_of_block (a := ⟨C, j, none⟩) hb).trans (h.frz j), hf, hd, hl, h.fr.trans (f.mono hT)⟩
theorem RT.up {w0 : World} {q0 : (Nat → Nat × Nat)} {x C i : Nat} {w w' : World} {o : (Nat → Nat × Nat)} {n : Nat} {fv dv lv : Value} {fl : List Nat} {dl : List ByteArray} {ll : List Bool} (h : RT w0 q0 x C i w o n fv fl dv dl lv ll) (hb : Below w.heap.size w w') : RT w0 q0 x C i w' o n fv fl dv dl lv ll :=
  h.keep (Fr.ofBelow (fun _ => False) o hb) (fun _ e => e.elim) (fun e => e) (h.ff.below hb) (h.dd.below hb) (h.lo.below hb) rfl rfl rfl
theorem RT.drew {w0 : World} {q0 : (Nat → Nat × Nat)} {x C i : Nat} {w : World} {o : (Nat → Nat × Nat)} {n : Nat} {fv dv lv : Value} {fl : List Nat} {dl : List ByteArray} {ll : List Bool} (h : RT w0 q0 x C i w o n fv fl dv dl lv ll) : RT w0 q0 x C i w.drew o n fv fl dv dl lv ll := h.up (Below.refl _ _).drew
/-- A store into one of the class's four cells. -/
theorem RT.set {w0 : World} {q0 : (Nat → Nat × Nat)} {x C i : Nat} {w : World} {o : (Nat → Nat × Nat)} {n n' : Nat} {fv dv lv fv' dv' lv' : Value} {fl fl' : List Nat} {dl dl' : List ByteArray} {ll ll' : List Bool} (h : RT w0 q0 x C i w o n fv fl dv dl lv ll) (j : Nat) (v : Value)
    (hj : (j = 1 ∧ v = .int .i64 ((n' : Nat) : Int) ∧ fv' = fv ∧ dv' = dv ∧ lv' = lv) ∨ (j = 2 ∧ v = fv' ∧ n' = n ∧ dv' = dv ∧ lv' = lv) ∨ (j = 3 ∧ v = dv' ∧ n' = n ∧ fv' = fv ∧ lv' = lv) ∨ (j = 4 ∧ v = lv' ∧ n' = n ∧ fv' = fv ∧ dv' = dv))
    (hf : OwnK w o (x, 3 * i + 2) 1 fv' fl'.length (frc fl')) (hd : OwnK w o (x, 3 * i + 3) 1 dv' dl'.length (sto dl')) (hl : OwnK w o (x, 3 * i + 4) 1 lv' ll'.length (boc ll')) : RT w0 q0 x C i (w.setCell ⟨C, i * 5 + j, none⟩ v) o n' fv' fl' dv' dl' lv' ll' := by
  have F : Fr (· = (x, 1)) o o w (w.setCell ⟨C, i * 5 + j, none⟩ v) := Fr.set (a := ⟨C, i * 5 + j, none⟩) h.oC _
  have ne : ∀ k, k ≠ i * 5 + j → (w.setCell ⟨C, i * 5 + j, none⟩ v).cell? ⟨C, k, none⟩ = w.cell? ⟨C, k, none⟩ := fun k hk => World.cell?_setCell_other _ _ _ _ (fun e => hk (by injection e with _ e; exact e.symm))
  have K1 : (x, 3 * i + 2) ≠ (x, 1) := fun e => by injection e with _ e; omega
  have K2 : (x, 3 * i + 3) ≠ (x, 1) := fun e => by injection e with _ e; omega
  have K3 : (x, 3 * i + 4) ≠ (x, 1) := fun e => by injection e with _ e; omega
  have hfr : Fr (TI x i) q0 o w0 (w.setCell ⟨C, i * 5 + j, none⟩ v) := h.fr.trans (F.mono (fun t e => .inl e))
  have frz : ∀ k, (w.setCell ⟨C, i * 5 + j, none⟩ v).frozen? ⟨C, k, none⟩ = w0.frozen? ⟨C, k, none⟩ := fun k => by rw [World.frozen?_setCell]; exact h.frz k
  rcases hj with ⟨rfl, rfl, rfl, rfl, rfl⟩ | ⟨rfl, rfl, rfl, rfl, rfl⟩ | ⟨rfl, rfl, rfl, rfl, rfl⟩ | ⟨rfl, rfl, rfl, rfl, rfl⟩
  · exact ⟨h.oC, World.cell?_setCell_same _ _ _ h.c1, (ne _ (by omega)).trans h.c2, (ne _ (by omega)).trans h.c3, (ne _ (by omega)).trans h.c4, fun k a b c d => (ne k a).trans (h.oth k a b c d), frz, hf.fr F K1, hd.fr F K2, hl.fr F K3, hfr⟩
  · exact ⟨h.oC, (ne _ (by omega)).trans h.c1, World.cell?_setCell_same _ _ _ h.c2, (ne _ (by omega)).trans h.c3, (ne _ (by omega)).trans h.c4, fun k a b c d => (ne k b).trans (h.oth k a b c d), frz, hf.fr F K1, hd.fr F K2, hl.fr F K3, hfr⟩
  · exact ⟨h.oC, (ne _ (by omega)).trans h.c1, (ne _ (by omega)).trans h.c2, World.cell?_setCell_same _ _ _ h.c3, (ne _ (by omega)).trans h.c4, fun k a b c d => (ne k c).trans (h.oth k a b c d), frz, hf.fr F K1, hd.fr F K2, hl.fr F K3, hfr⟩
  · exact ⟨h.oC, (ne _ (by omega)).trans h.c1, (ne _ (by omega)).trans h.c2, (ne _ (by omega)).trans h.c3, World.cell?_setCell_same _ _ _ h.c4, fun k a b c d => (ne k d).trans (h.oth k a b c d), frz, hf.fr F K1, hd.fr F K2, hl.fr F K3, hfr⟩
/-- The class at the way's end. -/
theorem RT.done {w0 : World} {q0 : (Nat → Nat × Nat)} {x C i : Nat} {w : World} {o : (Nat → Nat × Nat)} {n : Nat} {fv dv lv : Value} {fl : List Nat} {dl : List ByteArray} {ll : List Bool} {s s' : St} {fu du lu : Nat → Value} (h : RT w0 q0 x C i w o n fv fl dv dl lv ll) (h0 : RCls w0 q0 x C s fu du lu) (hn : s'.n = s.n) (hch : ∀ j, j ≠ i → s'.ch j = s.ch j) (hfr : ∀ j, j ≠ i → s'.fr j = s.fr j)
    (e1 : (s'.ch i).length = n) (e2 : s'.fr i = fl) (e3 : (s'.ch i).map (·.2) = dl) (e4 : (s'.ch i).map (·.1) = ll) : RCls w o x C s' (upd fu i fv) (upd du i dv) (upd lu i lv) := by
  have hne : ∀ {j a : Nat}, j ≠ i → 2 ≤ a → a ≤ 4 → ¬ TI x i (x, 3 * j + a) := fun hj h2 h4 e => by rcases e with e | e | e | e <;> injection e with _ e <;> omega
  subst e1 e2 e3 e4
  have hdd := h.dd
  have hlo := h.lo
  rw [List.length_map, sto, List.map_map] at hdd
  rw [List.length_map, boc, List.map_map] at hlo
  refine ⟨h.oC, fun j hj => ?_, fun j hj => ?_, fun j hj => ?_, fun j hj => ?_, fun j hj => ?_, fun j hj q hq => ?_, fun j hj => ?_, fun j hj => ?_, fun j hj => ?_⟩
  · rw [h.oth _ (by omega) (by omega) (by omega) (by omega)]; exact h0.c0 j (by omega)
  · by_cases e : j = i
    · subst e; exact h.c1
    · rw [h.oth _ (by omega) (by omega) (by omega) (by omega), hch j e]; exact h0.c1 j (by omega)
  · by_cases e : j = i
    · subst e; rw [upd_same]; exact h.c2
    · rw [upd_other _ _ _ e, h.oth _ (by omega) (by omega) (by omega) (by omega)]; exact h0.c2 j (by omega)
  · by_cases e : j = i
    · subst e; rw [upd_same]; exact h.c3
    · rw [upd_other _ _ _ e, h.oth _ (by omega) (by omega) (by omega) (by omega)]; exact h0.c3 j (by omega)
  · by_cases e : j = i
    · subst e; rw [upd_same]; exact h.c4
    · rw [upd_other _ _ _ e, h.oth _ (by omega) (by omega) (by omega) (by omega)]; exact h0.c4 j (by omega)
  · rw [h.frz]; exact h0.fz j (by omega) q hq
  · by_cases e : j = i
    · subst e; rw [upd_same]; exact h.ff
    · rw [upd_other _ _ _ e, hfr j e]; exact (h0.ff j (by omega)).fr h.fr (hne e (by omega) (by omega))
  · by_cases e : j = i
    · subst e; rw [upd_same]; exact hdd
    · rw [upd_other _ _ _ e, hch j e]; exact (h0.dd j (by omega)).fr h.fr (hne e (by omega) (by omega))
  · by_cases e : j = i
    · subst e; rw [upd_same]; exact hlo
    · rw [upd_other _ _ _ e, hch j e]; exact (h0.ll j (by omega)).fr h.fr (hne e (by omega) (by omega))
end Go.Proofs.Ytbflcnghpkmcoaa
