/-
  A STORE IN MEMORY: its entries, their links, the spare places; older, newer, endOf.
-/
import Derived.Test.YtfinaichajbnkaaGreatDoorSmz
import Derived.Test.YtfinaichajbnkaaGreatDoorMem
import Derived.Test.YtfinaichajbnkaaGreatDoorAlloc
import Derived.Test.YtfinaichajbnkaaGreatDoorStr
import Derived.Test.YtfinaichajbnkaaGreatDoorPut
namespace Go.Proofs.YtfinaichajbnkaaGreatDoor
open Go.RowKit

/-- Cells by their numbers. -/
def tabg (g : Nat → Value) (n : Nat) : List Value := (List.range n).map g
theorem tabg_length (g : Nat → Value) (n : Nat) : (tabg g n).length = n := by simp [tabg]
theorem tabg_at (g : Nat → Value) {n q : Nat} (h : q < n) : (tabg g n)[q]? = some (g q) := by simp [tabg, h]
theorem tabg_set (g : Nat → Value) {n q : Nat} (u : Value) (_h : q < n) : (tabg g n).set q u = tabg (upd g q u) n := by
  apply List.ext_getElem?
  intro i
  by_cases hi : i < n
  · rw [tabg_at _ hi]
    by_cases e : q = i
    · subst e; rw [List.getElem?_set_self (by rw [tabg_length]; exact hi), upd_same]
    · rw [List.getElem?_set_ne e, tabg_at _ hi, upd_other _ _ _ (fun x => e x.symm)]
  · rw [List.getElem?_eq_none (by rw [List.length_set, tabg_length]; omega), List.getElem?_eq_none (by rw [tabg_length]; omega)]
/-- A store's own cells lie in block X, its entries in block G. -/
structure MemS (w : World) (o : Nat → Nat × Nat) (X S C G N cap : Nat) (g : Nat → Value) (sv : Value) : Prop where
  oX : o X = (1, 0)
  c0 : w.cell? ⟨X, 0, none⟩ = some (.pointer (some ⟨S, 0, none⟩))
  c1 : w.cell? ⟨X, 1, none⟩ = some (.pointer (some ⟨C, 0, none⟩))
  c2 : w.cell? ⟨X, 2, none⟩ = some (.slice (some ⟨G, 0, none⟩) N cap)
  c3 : w.cell? ⟨X, 3, none⟩ = some sv
  fz : ∀ j, w.frozen? ⟨X, j, none⟩ = false
  en : OwnK w o (1, 1) 8 (.slice (some ⟨G, 0, none⟩) N cap) N (tabg g (N * 8))
  n0 : 0 < N
  n1 : N ≤ 1000000
theorem MemS.lt {w : World} {o : Nat → Nat × Nat} {X S C G N cap : Nat} {g : Nat → Value} {sv : Value} (h : MemS w o X S C G N cap g sv) : X < w.heap.size := World.block_lt_of_cell? _ _ h.c0
theorem MemS.at_ {w : World} {o : Nat → Nat × Nat} {X S C G N cap : Nat} {g : Nat → Value} {sv : Value} (h : MemS w o X S C G N cap g sv) {q : Nat} (hq : q < N * 8) : w.cell? ⟨G, q, none⟩ = some (g q) ∧ w.frozen? ⟨G, q, none⟩ = false := by
  obtain ⟨g', cp, e, h2, h3, h4, h5, h6, h7⟩ := h.en.there h.n0
  injection e with e1 e2 e3
  injection e1 with e1
  injection e1 with e1
  subst e1
  exact ⟨h6 q _ (tabg_at g hq), (h7 q (Nat.lt_of_lt_of_le hq (Nat.mul_le_mul_right _ h4))).2⟩
theorem MemS.oG {w : World} {o : Nat → Nat × Nat} {X S C G N cap : Nat} {g : Nat → Value} {sv : Value} (h : MemS w o X S C G N cap g sv) : o G = (1, 1) ∧ G < w.heap.size ∧ N ≤ cap := by
  obtain ⟨g', cp, e, h2, h3, h4, h5, h6, h7⟩ := h.en.there h.n0
  injection e with e1 e2 e3
  injection e1 with e1
  injection e1 with e1
  subst e1 e3
  exact ⟨h2, h3, h4⟩
theorem MemS.fr {T : Nat × Nat → Prop} {w w' : World} {o o' : Nat → Nat × Nat} {X S C G N cap : Nat} {g : Nat → Value} {sv : Value} (h : MemS w o X S C G N cap g sv) (f : Fr T o o' w w') (h0 : ¬ T (1, 0)) (h1 : ¬ T (1, 1)) : MemS w' o' X S C G N cap g sv := by
  have hX : ¬ T (o X) := by rw [h.oX]; exact h0
  exact ⟨(f.lab X h.lt).trans h.oX, f.cell h.c0 hX, f.cell h.c1 hX, f.cell h.c2 hX, f.cell h.c3 hX, fun j => (f.frozen h.lt hX).trans (h.fz j), h.en.fr f h1, h.n0, h.n1⟩
theorem MemS.below {w w' : World} {o : Nat → Nat × Nat} {X S C G N cap : Nat} {g : Nat → Value} {sv : Value} (h : MemS w o X S C G N cap g sv) (hb : Below w.heap.size w w') : MemS w' o X S C G N cap g sv := h.fr (Fr.ofBelow (fun _ => False) o hb) (fun x => x) (fun x => x)
/-- A cell of the entries stored anew. -/
theorem MemS.set {w : World} {o : Nat → Nat × Nat} {X S C G N cap : Nat} {g : Nat → Value} {sv : Value} (h : MemS w o X S C G N cap g sv) (q : Nat) (u : Value) (hu : u.oneCell' = true) (hq : q < N * 8) : MemS (w.setCell ⟨G, q, none⟩ u) o X S C G N cap (upd g q u) sv := by
  have hne : G ≠ X := fun e => by have h1 := h.oG.1; rw [e, h.oX] at h1; cases h1
  have hc : ∀ j, (w.setCell ⟨G, q, none⟩ u).cell? ⟨X, j, none⟩ = w.cell? ⟨X, j, none⟩ := fun j => World.cell?_setCell_other _ _ _ _ (fun e => hne (by injection e))
  refine ⟨h.oX, (hc 0).trans h.c0, (hc 1).trans h.c1, (hc 2).trans h.c2, (hc 3).trans h.c3, fun j => by rw [World.frozen?_setCell]; exact h.fz j, ?_, h.n0, h.n1⟩
  have := h.en.set q u hu hq
  rw [tabg_set g u hq] at this
  exact this
/-- The links of the entries. -/
structure Links (N : Nat) (g : Nat → Value) (nw od : Nat → Nat → Nat) : Prop where
  rn : ∀ p r, p < N → r < 2 → g (p * 8 + 4 + 2 * r) = .int .i64 ((nw r p : Nat) : Int)
  ro : ∀ p r, p < N → r < 2 → g (p * 8 + 5 + 2 * r) = .int .i64 ((od r p : Nat) : Int)
  bn : ∀ p r, p < N → r < 2 → nw r p < N
  bo : ∀ p r, p < N → r < 2 → od r p < N
set_option maxRecDepth 100000 in
theorem endOf_any (c : Int) (h0 : 0 ≤ c) (h1 : c ≤ 1000000) (w : World) : Calls Tryz.prog 20 #[.int .i64 c] w fun e w' => e = .returned (.int .i64 (c + 1)) ∧ w = w' := by
  go_enter Tryz.func20, Tryz.ntmps20
  go_wp2_with fail
  go_ret
  exact ⟨ret_int (by omega), rfl⟩
set_option maxRecDepth 100000 in
theorem older_any {X S C G N cap : Nat} {g : Nat → Value} {sv : Value} {nw od : Nat → Nat → Nat} (r p : Nat) (R P : Int) (hR : R = (r : Int)) (hP : P = (p : Int)) (hr : r < 2) (hp : p < N) (w : World) (o : Nat → Nat × Nat) (h : MemS w o X S C G N cap g sv) (k : Links N g nw od) :
    Calls Tryz.prog 77 #[.pointer (some ⟨X, 0, none⟩), .int .i64 R, .int .i64 P] w fun e w' => e = .returned (.int .i64 ((od r p : Nat) : Int)) ∧ w = w' := by
  have c2 := h.c2
  have n1 := h.n1
  have d := (h.at_ (q := p * 8 + 5 + 2 * r) (by omega)).1
  rw [k.ro p r hp hr] at d
  subst hR hP
  have hp1 : (p : Int) < (N : Int) := by omega
  clear h k
  obtain rfl | rfl : r = 0 ∨ r = 1 := by omega
  · go_enter Tryz.func77, Tryz.ntmps77
    go_wp2_with fail
    go_ret
    exact ⟨rfl, rfl⟩
  · go_enter Tryz.func77, Tryz.ntmps77
    go_wp2_with fail
    go_ret
    exact ⟨rfl, rfl⟩
set_option maxRecDepth 100000 in
theorem newer_any {X S C G N cap : Nat} {g : Nat → Value} {sv : Value} {nw od : Nat → Nat → Nat} (r p : Nat) (R P : Int) (hR : R = (r : Int)) (hP : P = (p : Int)) (hr : r < 2) (hp : p < N) (w : World) (o : Nat → Nat × Nat) (h : MemS w o X S C G N cap g sv) (k : Links N g nw od) :
    Calls Tryz.prog 88 #[.pointer (some ⟨X, 0, none⟩), .int .i64 R, .int .i64 P] w fun e w' => e = .returned (.int .i64 ((nw r p : Nat) : Int)) ∧ w = w' := by
  have c2 := h.c2
  have n1 := h.n1
  have d := (h.at_ (q := p * 8 + 4 + 2 * r) (by omega)).1
  rw [k.rn p r hp hr] at d
  subst hR hP
  have hp1 : (p : Int) < (N : Int) := by omega
  clear h k
  obtain rfl | rfl : r = 0 ∨ r = 1 := by omega
  · go_enter Tryz.func88, Tryz.ntmps88
    go_wp2_with fail
    go_ret
    exact ⟨rfl, rfl⟩
  · go_enter Tryz.func88, Tryz.ntmps88
    go_wp2_with fail
    go_ret
    exact ⟨rfl, rfl⟩
end Go.Proofs.YtfinaichajbnkaaGreatDoor


namespace Go.Proofs.YtfinaichajbnkaaGreatDoor
open Go.RowKit

/-- The links behind leave, in the first j rows. -/
def lvn (nw od : Nat → Nat → Nat) (p j : Nat) : Nat → Nat → Nat := fun r => if r < j then upd (nw r) (od r p) (nw r p) else nw r
def lvo (nw od : Nat → Nat → Nat) (p j : Nat) : Nat → Nat → Nat := fun r => if r < j then upd (od r) (nw r p) (od r p) else od r
theorem Links.leave {N : Nat} {g : Nat → Value} {nw od : Nat → Nat → Nat} {p j : Nat} (hp : p < N) (hj : j < 2) (h0 : Links N g nw od) {gj : Nat → Value} (h : Links N gj (lvn nw od p j) (lvo nw od p j)) :
    Links N (upd (upd gj ((nw j p) * 8 + 5 + 2 * j) (.int .i64 ((od j p : Nat) : Int))) ((od j p) * 8 + 4 + 2 * j) (.int .i64 ((nw j p : Nat) : Int))) (lvn nw od p (j + 1)) (lvo nw od p (j + 1)) := by
  have b1 := h0.bn p j hp hj
  have b2 := h0.bo p j hp hj
  have en : ∀ r, r ≠ j → lvn nw od p (j + 1) r = lvn nw od p j r := fun r hr => by
    unfold lvn
    by_cases e : r < j
    · rw [if_pos e, if_pos (by omega)]
    · rw [if_neg e, if_neg (by omega)]
  have eo : ∀ r, r ≠ j → lvo nw od p (j + 1) r = lvo nw od p j r := fun r hr => by
    unfold lvo
    by_cases e : r < j
    · rw [if_pos e, if_pos (by omega)]
    · rw [if_neg e, if_neg (by omega)]
  have jn : lvn nw od p (j + 1) j = upd (nw j) (od j p) (nw j p) := if_pos (by omega)
  have jo : lvo nw od p (j + 1) j = upd (od j) (nw j p) (od j p) := if_pos (by omega)
  have jn0 : lvn nw od p j j = nw j := if_neg (by omega)
  have jo0 : lvo nw od p j j = od j := if_neg (by omega)
  refine ⟨fun q r hq hr => ?_, fun q r hq hr => ?_, fun q r hq hr => ?_, fun q r hq hr => ?_⟩
  · by_cases e : r = j
    · subst e
      rw [jn]
      by_cases eq : q = od r p
      · subst eq; rw [upd_same, upd_same]
      · rw [upd_other _ _ _ (by omega), upd_other _ _ _ (by omega), h.rn q r hq hr, jn0, upd_other _ _ _ eq]
    · rw [upd_other _ _ _ (by omega), upd_other _ _ _ (by omega), h.rn q r hq hr, en r e]
  · by_cases e : r = j
    · subst e
      rw [jo, upd_other _ _ _ (by omega)]
      by_cases eq : q = nw r p
      · subst eq; rw [upd_same, upd_same]
      · rw [upd_other _ _ _ (by omega), h.ro q r hq hr, jo0, upd_other _ _ _ eq]
    · rw [upd_other _ _ _ (by omega), upd_other _ _ _ (by omega), h.ro q r hq hr, eo r e]
  · by_cases e : r = j
    · subst e
      rw [jn]
      by_cases eq : q = od r p
      · subst eq; rw [upd_same]; exact b1
      · rw [upd_other _ _ _ eq]; exact h0.bn q r hq hr
    · rw [en r e]; exact h.bn q r hq hr
  · by_cases e : r = j
    · subst e
      rw [jo]
      by_cases eq : q = nw r p
      · subst eq; rw [upd_same]; exact b2
      · rw [upd_other _ _ _ eq]; exact h0.bo q r hq hr
    · rw [eo r e]; exact h.bo q r hq hr
/-- The cells that are no links stay. -/
def Keep (g g' : Nat → Value) : Prop := ∀ q, q % 8 < 4 → g' q = g q
theorem Keep.trans {g g' g'' : Nat → Value} (h : Keep g g') (h' : Keep g' g'') : Keep g g'' := fun q hq => (h' q hq).trans (h q hq)
theorem Keep.upd {g g' : Nat → Value} (h : Keep g g') (i : Nat) (u : Value) (hi : 4 ≤ i % 8) : Keep g (upd g' i u) := fun q hq => (upd_other _ _ _ (fun e => by subst e; omega)).trans (h q hq)
def LeaveP (w : World) (o : Nat → Nat × Nat) (X S C G N cap : Nat) (g : Nat → Value) (sv : Value) (nw od : Nat → Nat → Nat) (p : Nat) (w' : World) : Prop :=
  ∃ g', MemS w' o X S C G N cap g' sv ∧ Links N g' (lvn nw od p 2) (lvo nw od p 2) ∧ Keep g g' ∧ Fr (fun t => t = (1, 1)) o o w w'
set_option maxHeartbeats 1000000 in
set_option maxRecDepth 100000 in
theorem leave_any {X S C G N cap : Nat} {g : Nat → Value} {sv : Value} {nw od : Nat → Nat → Nat} (p : Nat) (P : Int) (hP : P = (p : Int)) (hp : p < N) (w : World) (o : Nat → Nat × Nat) (h : MemS w o X S C G N cap g sv) (k : Links N g nw od) :
    Calls Tryz.prog 70 #[.pointer (some ⟨X, 0, none⟩), .int .i64 P] w fun e w' => e = .returned (.tuple #[]) ∧ LeaveP w o X S C G N cap g sv nw od p w' := by
  have HM : Hid (MemS w o X S C G N cap g sv) := h
  have HK : Hid (Links N g nw od) := k
  have n1 := h.n1
  clear h k
  subst hP
  go_enter Tryz.func70, Tryz.ntmps70
  go_wp2_with fail
  go_loopw [7] (fun y wr => ∃ (j : Nat) (gj : Nat → Value), j ≤ 2 ∧ y = .int .i64 (j : Int) ∧ Hid (MemS wr o X S C G N cap gj sv) ∧ Hid (Links N gj (lvn nw od p j) (lvo nw od p j)) ∧ Hid (Keep g gj) ∧ Hid (Fr (fun t => t = (1, 1)) o o w wr)) (fun y _ => 2 - (intOf y).toNat)
  case atStart => exact ⟨0, g, by omega, rfl, HM, HK, fun _ _ => rfl, Fr.refl _ _ _⟩
  case round =>
    obtain ⟨j, gj, hj, rfl, M, K, KP, FF⟩ := hrel
    by_cases hlt : j < 2
    · obtain ⟨a, ha⟩ : ∃ a, a = nw j p := ⟨_, rfl⟩
      obtain ⟨b, hb⟩ : ∃ b, b = od j p := ⟨_, rfl⟩
      have ba : a < N := by rw [ha]; exact HK.out.bn p j hp hlt
      have bb : b < N := by rw [hb]; exact HK.out.bo p j hp hlt
      have e1 : lvn nw od p j j p = a := by rw [ha]; unfold lvn; rw [if_neg (by omega)]
      have e2 : lvo nw od p j j p = b := by rw [hb]; unfold lvo; rw [if_neg (by omega)]
      have c2 := M.out.c2
      have d1 := M.out.at_ (q := a * 8 + 5 + 2 * j) (by omega)
      have M1 := M.out.set (a * 8 + 5 + 2 * j) (.int .i64 ((b : Nat) : Int)) rfl (by omega)
      have d2 := M1.at_ (q := b * 8 + 4 + 2 * j) (by omega)
      have c2' := M1.c2
      have M2 : Hid (MemS _ o X S C G N cap _ sv) := M1.set (b * 8 + 4 + 2 * j) (.int .i64 ((a : Nat) : Int)) rfl (by omega)
      have hba : (b : Int) < (N : Int) := by omega
      have haa : (a : Int) < (N : Int) := by omega
      obtain ⟨u1, hu1⟩ : ∃ u, u = gj (a * 8 + 5 + 2 * j) := ⟨_, rfl⟩
      obtain ⟨u2, hu2⟩ : ∃ u, u = upd gj (a * 8 + 5 + 2 * j) (.int .i64 ((b : Nat) : Int)) (b * 8 + 4 + 2 * j) := ⟨_, rfl⟩
      rw [← hu1] at d1
      rw [← hu2] at d2
      obtain ⟨d1, z1⟩ := d1
      obtain ⟨d2, z2⟩ := d2
      have HL : Hid (Links N (upd (upd gj (a * 8 + 5 + 2 * j) (.int .i64 ((b : Nat) : Int))) (b * 8 + 4 + 2 * j) (.int .i64 ((a : Nat) : Int))) (lvn nw od p (j + 1)) (lvo nw od p (j + 1))) := by
        rw [ha, hb]; exact Links.leave hp hlt HK.out K.out
      have HKP : Hid (Keep g (upd (upd gj (a * 8 + 5 + 2 * j) (.int .i64 ((b : Nat) : Int))) (b * 8 + 4 + 2 * j) (.int .i64 ((a : Nat) : Int)))) := (KP.out.upd _ _ (by omega)).upd _ _ (by omega)
      have oG := M.out.oG.1
      have HF : Hid (Fr (fun t => t = (1, 1)) o o w ((wr.setCell ⟨G, a * 8 + 5 + 2 * j, none⟩ (.int .i64 ((b : Nat) : Int))).setCell ⟨G, b * 8 + 4 + 2 * j, none⟩ (.int .i64 ((a : Nat) : Int)))) := (FF.out.trans (Fr.set (a := ⟨G, a * 8 + 5 + 2 * j, none⟩) oG _)).trans (Fr.set (a := ⟨G, b * 8 + 4 + 2 * j, none⟩) oG _)
      have HA : Hid (a = nw j p) := ha
      clear hu1 hu2 ha hb M1 KP FF oG
      have nx := newer_any (nw := lvn nw od p j) (od := lvo nw od p j) j p (j : Int) (p : Int) rfl rfl hlt hp wr o M.out K.out
      have ox := older_any (nw := lvn nw od p j) (od := lvo nw od p j) j p (j : Int) (p : Int) rfl rfl hlt hp wr o M.out K.out
      rw [e1] at nx
      rw [e2] at ox
      clear e1 e2
      obtain rfl | rfl : j = 0 ∨ j = 1 := by omega
      · go_wp2_with fail
        refine nx.mono ?_
        rintro e w2 ⟨rfl, rfl⟩
        go_wp2_with fail
        refine ox.mono ?_
        rintro e w2 ⟨rfl, rfl⟩
        clear nx ox M K
        go_wp2_with fail
        exact ⟨⟨1, _, by omega, rfl, M2, HL, HKP, HF⟩, by simp [intOf]⟩
      · go_wp2_with fail
        refine nx.mono ?_
        rintro e w2 ⟨rfl, rfl⟩
        go_wp2_with fail
        refine ox.mono ?_
        rintro e w2 ⟨rfl, rfl⟩
        clear nx ox M K
        go_wp2_with fail
        exact ⟨⟨2, _, by omega, rfl, M2, HL, HKP, HF⟩, by simp [intOf]⟩
    · obtain rfl : j = 2 := by omega
      go_wp2_with fail
      exact bodyPost_end (v := .tuple #[]) (by simp [results, Tryz.results70, go_sem]) rfl ⟨rfl, gj, M.out, K.out, KP.out, FF.out⟩
/-- The end of a row. -/
def endR (c r : Nat) : Nat := if r = 0 then 0 else c + 1
/-- The links behind lead, in the first j rows. -/
def ldn (nw od : Nat → Nat → Nat) (c p j : Nat) : Nat → Nat → Nat := fun r => if r < j then upd (upd (nw r) p (endR c r)) (od r (endR c r)) p else nw r
def ldo (_nw od : Nat → Nat → Nat) (c p j : Nat) : Nat → Nat → Nat := fun r => if r < j then upd (upd (od r) p (od r (endR c r))) (endR c r) p else od r
def leadG (g : Nat → Value) (p e b j : Nat) : Nat → Value := upd (upd (upd (upd g (p * 8 + 4 + 2 * j) (.int .i64 ((e : Nat) : Int))) (p * 8 + 5 + 2 * j) (.int .i64 ((b : Nat) : Int))) (e * 8 + 5 + 2 * j) (.int .i64 ((p : Nat) : Int))) (b * 8 + 4 + 2 * j) (.int .i64 ((p : Nat) : Int))
theorem Links.lead {N : Nat} {g : Nat → Value} {nw od : Nat → Nat → Nat} {c p j : Nat} (hp : p < N) (hc : c + 1 < N) (hj : j < 2) (h0 : Links N g nw od) {gj : Nat → Value} (h : Links N gj (ldn nw od c p j) (ldo nw od c p j)) :
    Links N (leadG gj p (endR c j) (od j (endR c j)) j) (ldn nw od c p (j + 1)) (ldo nw od c p (j + 1)) := by
  obtain ⟨e, he⟩ : ∃ e, e = endR c j := ⟨_, rfl⟩
  have be : e < N := by rw [he]; unfold endR; split <;> omega
  obtain ⟨b, hb⟩ : ∃ b, b = od j e := ⟨_, rfl⟩
  have bb : b < N := by rw [hb]; exact h0.bo e j be hj
  have en : ∀ r, r ≠ j → ldn nw od c p (j + 1) r = ldn nw od c p j r := fun r hr => by
    unfold ldn
    by_cases e : r < j
    · rw [if_pos e, if_pos (by omega)]
    · rw [if_neg e, if_neg (by omega)]
  have eo : ∀ r, r ≠ j → ldo nw od c p (j + 1) r = ldo nw od c p j r := fun r hr => by
    unfold ldo
    by_cases e : r < j
    · rw [if_pos e, if_pos (by omega)]
    · rw [if_neg e, if_neg (by omega)]
  have jn : ldn nw od c p (j + 1) j = upd (upd (nw j) p e) b p := by rw [hb, he]; exact if_pos (by omega)
  have jo : ldo nw od c p (j + 1) j = upd (upd (od j) p b) e p := by rw [hb, he]; exact if_pos (by omega)
  have jn0 : ldn nw od c p j j = nw j := if_neg (by omega)
  have jo0 : ldo nw od c p j j = od j := if_neg (by omega)
  rw [← he, ← hb]
  clear he hb
  refine ⟨fun q r hq hr => ?_, fun q r hq hr => ?_, fun q r hq hr => ?_, fun q r hq hr => ?_⟩
  · unfold leadG
    by_cases er : r = j
    · subst er
      rw [jn]
      by_cases eq : q = b
      · subst eq; rw [upd_same, upd_same]
      · rw [upd_other _ _ _ (by omega), upd_other _ _ _ (by omega), upd_other _ _ _ (by omega), upd_other _ _ _ eq]
        by_cases ep : q = p
        · subst ep; rw [upd_same, upd_same]
        · rw [upd_other _ _ _ (by omega), upd_other _ _ _ ep, h.rn q r hq hr, jn0]
    · rw [upd_other _ _ _ (by omega), upd_other _ _ _ (by omega), upd_other _ _ _ (by omega), upd_other _ _ _ (by omega), h.rn q r hq hr, en r er]
  · unfold leadG
    by_cases er : r = j
    · subst er
      rw [jo, upd_other _ _ _ (by omega)]
      by_cases eq : q = e
      · subst eq; rw [upd_same, upd_same]
      · rw [upd_other _ _ _ (by omega), upd_other _ _ _ eq]
        by_cases ep : q = p
        · subst ep; rw [upd_same, upd_same]
        · rw [upd_other _ _ _ (by omega), upd_other _ _ _ (by omega), upd_other _ _ _ ep, h.ro q r hq hr, jo0]
    · rw [upd_other _ _ _ (by omega), upd_other _ _ _ (by omega), upd_other _ _ _ (by omega), upd_other _ _ _ (by omega), h.ro q r hq hr, eo r er]
  · by_cases er : r = j
    · subst er
      rw [jn]
      by_cases eq : q = b
      · subst eq; rw [upd_same]; exact hp
      · rw [upd_other _ _ _ eq]
        by_cases ep : q = p
        · subst ep; rw [upd_same]; exact be
        · rw [upd_other _ _ _ ep]; exact h0.bn q r hq hr
    · rw [en r er]; exact h.bn q r hq hr
  · by_cases er : r = j
    · subst er
      rw [jo]
      by_cases eq : q = e
      · subst eq; rw [upd_same]; exact hp
      · rw [upd_other _ _ _ eq]
        by_cases ep : q = p
        · subst ep; rw [upd_same]; exact bb
        · rw [upd_other _ _ _ ep]; exact h0.bo q r hq hr
    · rw [eo r er]; exact h.bo q r hq hr
theorem leadG_keep {g gj : Nat → Value} (h : Keep g gj) (p e b j : Nat) (hj : j < 2) : Keep g (leadG gj p e b j) := by
  unfold leadG
  exact (((h.upd _ _ (by omega)).upd _ _ (by omega)).upd _ _ (by omega)).upd _ _ (by omega)
def LeadP (w : World) (o : Nat → Nat × Nat) (X S C G N cap : Nat) (g : Nat → Value) (sv : Value) (nw od : Nat → Nat → Nat) (c p : Nat) (w' : World) : Prop :=
  ∃ g', MemS w' o X S C G N cap g' sv ∧ Links N g' (ldn nw od c p 2) (ldo nw od c p 2) ∧ Keep g g' ∧ Fr (fun t => t = (1, 1)) o o w w'
theorem index2 (a b : Int) (w : World) : (Instr.index 142 (.agg #[.int .i64 a, .int .i64 b]) (.int .i64 0)).run Tryz.prog w = .ok (.int .i64 a) w ∧ (Instr.index 142 (.agg #[.int .i64 a, .int .i64 b]) (.int .i64 1)).run Tryz.prog w = .ok (.int .i64 b) w := ⟨by kernel_rfl, by kernel_rfl⟩
set_option maxHeartbeats 2000000 in
set_option maxRecDepth 100000 in
theorem lead_any {X S C G N cap : Nat} {g : Nat → Value} {sv : Value} {nw od : Nat → Nat → Nat} (c p : Nat) (P : Int) (hP : P = (p : Int)) (hp : p < N) (hc : c + 1 < N) (hg : g (p * 8 + 1) = .int .i64 ((c : Nat) : Int)) (w : World) (o : Nat → Nat × Nat) (h : MemS w o X S C G N cap g sv) (k : Links N g nw od) :
    Calls Tryz.prog 71 #[.pointer (some ⟨X, 0, none⟩), .int .i64 P] w fun e w' => e = .returned (.tuple #[]) ∧ LeadP w o X S C G N cap g sv nw od c p w' := by
  have HM : Hid (MemS w o X S C G N cap g sv) := h
  have HK : Hid (Links N g nw od) := k
  have n1 := h.n1
  have c2 := h.c2
  have dc := (h.at_ (q := p * 8 + 1) (by omega)).1
  rw [hg] at dc
  clear h k hg
  subst hP
  have hp1 : (p : Int) < (N : Int) := by omega
  go_enter Tryz.func71, Tryz.ntmps71
  go_wp2_with fail
  refine (endOf_any (c : Int) (by omega) (by omega) _).mono ?_
  rintro e w2 ⟨rfl, rfl⟩
  go_wp2_with fail
  have B0 : Below w.heap.size w (w.alloc (.cells #[.int .i64 0, .int .i64 ((c : Int) + 1)] 142)) := (Below.refl _ _).alloc (Nat.le_refl _) _
  have HM0 : Hid (MemS (w.alloc (.cells #[.int .i64 0, .int .i64 ((c : Int) + 1)] 142)) o X S C G N cap g sv) := HM.out.below B0
  have HF0 : Hid (Fr (fun t => t = (1, 1)) o o w (w.alloc (.cells #[.int .i64 0, .int .i64 ((c : Int) + 1)] 142))) := Fr.ofBelow _ o B0
  clear B0 c2 dc HM
  go_loopw [20] (fun y wr => ∃ (j : Nat) (gj : Nat → Value), j ≤ 2 ∧ y = .int .i64 (j : Int) ∧ Hid (MemS wr o X S C G N cap gj sv) ∧ Hid (Links N gj (ldn nw od c p j) (ldo nw od c p j)) ∧ Hid (Keep g gj) ∧ Hid (Fr (fun t => t = (1, 1)) o o w wr)) (fun y _ => 2 - (intOf y).toNat)
  case atStart => exact ⟨0, g, by omega, rfl, HM0, HK, fun _ _ => rfl, HF0⟩
  case round =>
    clear HM0 HF0
    obtain ⟨j, gj, hj, rfl, M, K, KP, FF⟩ := hrel
    by_cases hlt : j < 2
    · obtain ⟨a, ha⟩ : ∃ a, a = endR c j := ⟨_, rfl⟩
      have ba : a < N := by rw [ha]; unfold endR; split <;> omega
      obtain ⟨b, hb⟩ : ∃ b, b = od j a := ⟨_, rfl⟩
      have bb : b < N := by rw [hb]; exact HK.out.bo a j ba hlt
      have e2 : ldo nw od c p j j a = b := by rw [hb]; unfold ldo; rw [if_neg (by omega)]
      have haa : (a : Int) < (N : Int) := by omega
      have hba : (b : Int) < (N : Int) := by omega
      have c2 := M.out.c2
      obtain ⟨d1, z1⟩ := M.out.at_ (q := p * 8 + 4 + 2 * j) (by omega)
      have M1 := M.out.set (p * 8 + 4 + 2 * j) (.int .i64 ((a : Nat) : Int)) rfl (by omega)
      obtain ⟨d2, z2⟩ := M1.at_ (q := p * 8 + 5 + 2 * j) (by omega)
      have M2 := M1.set (p * 8 + 5 + 2 * j) (.int .i64 ((b : Nat) : Int)) rfl (by omega)
      obtain ⟨d3, z3⟩ := M2.at_ (q := a * 8 + 5 + 2 * j) (by omega)
      have c2' := M2.c2
      have M3 := M2.set (a * 8 + 5 + 2 * j) (.int .i64 ((p : Nat) : Int)) rfl (by omega)
      obtain ⟨d4, z4⟩ := M3.at_ (q := b * 8 + 4 + 2 * j) (by omega)
      have c2'' := M3.c2
      have M4 : Hid (MemS _ o X S C G N cap (leadG gj p a b j) sv) := M3.set (b * 8 + 4 + 2 * j) (.int .i64 ((p : Nat) : Int)) rfl (by omega)
      obtain ⟨u1, hu1⟩ : ∃ u, u = gj (p * 8 + 4 + 2 * j) := ⟨_, rfl⟩
      rw [← hu1] at d1
      obtain ⟨u2, hu2⟩ : ∃ u, u = upd gj (p * 8 + 4 + 2 * j) (.int .i64 ((a : Nat) : Int)) (p * 8 + 5 + 2 * j) := ⟨_, rfl⟩
      rw [← hu2] at d2
      obtain ⟨u3, hu3⟩ : ∃ u, u = upd (upd gj (p * 8 + 4 + 2 * j) (.int .i64 ((a : Nat) : Int))) (p * 8 + 5 + 2 * j) (.int .i64 ((b : Nat) : Int)) (a * 8 + 5 + 2 * j) := ⟨_, rfl⟩
      rw [← hu3] at d3
      obtain ⟨u4, hu4⟩ : ∃ u, u = upd (upd (upd gj (p * 8 + 4 + 2 * j) (.int .i64 ((a : Nat) : Int))) (p * 8 + 5 + 2 * j) (.int .i64 ((b : Nat) : Int))) (a * 8 + 5 + 2 * j) (.int .i64 ((p : Nat) : Int)) (b * 8 + 4 + 2 * j) := ⟨_, rfl⟩
      rw [← hu4] at d4
      have HL : Hid (Links N (leadG gj p a b j) (ldn nw od c p (j + 1)) (ldo nw od c p (j + 1))) := by
        rw [hb, ha]; exact Links.lead hp hc hlt HK.out K.out
      have HKP : Hid (Keep g (leadG gj p a b j)) := leadG_keep KP.out p a b j hlt
      have oG := M.out.oG.1
      have HF : Hid (Fr (fun t => t = (1, 1)) o o w ((((wr.setCell ⟨G, p * 8 + 4 + 2 * j, none⟩ (.int .i64 ((a : Nat) : Int))).setCell ⟨G, p * 8 + 5 + 2 * j, none⟩ (.int .i64 ((b : Nat) : Int))).setCell ⟨G, a * 8 + 5 + 2 * j, none⟩ (.int .i64 ((p : Nat) : Int))).setCell ⟨G, b * 8 + 4 + 2 * j, none⟩ (.int .i64 ((p : Nat) : Int)))) :=
        (((FF.out.trans (Fr.set (a := ⟨G, p * 8 + 4 + 2 * j, none⟩) oG _)).trans (Fr.set (a := ⟨G, p * 8 + 5 + 2 * j, none⟩) oG _)).trans (Fr.set (a := ⟨G, a * 8 + 5 + 2 * j, none⟩) oG _)).trans (Fr.set (a := ⟨G, b * 8 + 4 + 2 * j, none⟩) oG _)
      clear hu1 hu2 hu3 hu4 hb M1 M2 M3 KP FF oG
      have ox := fun A (hA : A = (a : Int)) => older_any (nw := ldn nw od c p j) (od := ldo nw od c p j) j a (j : Int) A rfl hA hlt ba wr o M.out K.out
      rw [e2] at ox
      clear e2
      have ix := index2 0 ((c : Int) + 1)
      obtain rfl | rfl : j = 0 ∨ j = 1 := by omega
      · have ea : a = 0 := ha
        clear ha
        subst ea
        have ix0 := fun w => (ix w).1
        clear ix
        replace ox := ox 0 rfl
        simp only [Int.natCast_zero, Nat.zero_mul, Nat.zero_add, Nat.mul_zero, Nat.add_zero] at d1 d2 d3 d4 z1 z2 z3 z4 c2' c2'' M4 HF
        go_wp2_with fail
        refine ox.mono ?_
        rintro e w2 ⟨rfl, rfl⟩
        clear ox M K
        go_wp2_with fail
        exact ⟨⟨1, _, by omega, rfl, M4, HL, HKP, HF⟩, by simp [intOf]⟩
      · have ea : a = c + 1 := ha
        clear ha
        subst ea
        have ix1 := fun w => (ix w).2
        clear ix
        replace ox := ox ((c : Int) + 1) (by omega)
        simp only [Int.natCast_succ] at d1 d2 d3 d4 z1 z2 z3 z4 c2' c2'' M4 HF
        go_wp2_with fail
        refine ox.mono ?_
        rintro e w2 ⟨rfl, rfl⟩
        clear ox M K
        go_wp2_with fail
        exact ⟨⟨2, _, by omega, rfl, M4, HL, HKP, HF⟩, by simp [intOf]⟩
    · obtain rfl : j = 2 := by omega
      go_wp2_with fail
      exact bodyPost_end (v := .tuple #[]) (by simp [results, Tryz.results71, go_sem]) rfl ⟨rfl, gj, M.out, K.out, KP.out, FF.out⟩
end Go.Proofs.YtfinaichajbnkaaGreatDoor
