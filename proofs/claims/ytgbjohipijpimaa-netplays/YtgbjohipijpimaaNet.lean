/-
  A NET: frames in one slice behind a pointer; New, Send, Len, List, has, Copy.
-/
import Derived.Test.YtgbjohipijpimaaFrm
import Derived.Deep.RegionLaw
import Derived.Deep.RegionHeld3
namespace Go.Proofs.Ytgbjohipijpimaa
open Go.RowKit

theorem step_app {P : Program} {ops : Array Oper} {o : Oper} {a : Act} {w w' : World} {K : Act → World → Prop} {Q : Exit → Act → World → Prop} {E : Prop} (hgd : o.guard = none) (s x : Operand) (t tx : TypeId)
    (ho : o.op = .call { callee := .builtin .append, args := #[s, x], argTypes := #[t, tx] }) (v xv v' : Value) (hs : a.eval s = v) (hx : a.eval x = xv)
    (hr : (Builtin.append_ #[t, tx] o.type #[v, xv]).run P w = .ok v' w') (h : K (a.put o.dst v') w') :
    if Region.wanted o (yielded ops a.tmps) = true then Oper.wp P o a w K Q else E := by
  rw [if_pos (by simp [Region.wanted, hgd])]
  unfold Oper.wp execOp
  simp only [ho, resolve, invoke, builtin, Sem.run_bind, Sem.run_pure, Result.andThen_ok, List.map_toArray, List.map_cons, List.map_nil, hs, hx, hr]
  exact h
/-- append as a step of a region that draws, its run given ahead: it names the world. -/
theorem step_app4 {P : Program} {ops : Array Oper} {o : Oper} {a : Act} {w : World} {K : Act → World → Prop} {Q : Exit → Act → World → Prop} {E : Prop} {X w' : World} {v xv v' : Value} {t : TypeId} (hr : (Builtin.append_ #[t, t] t #[v, xv]).run P X = .ok v' w') (s x : Operand)
    (hw : w = X) (hgd : o.guard = none) (ho : o.op = .call { callee := .builtin .append, args := #[s, x], argTypes := #[t, t] }) (ht : o.type = t) (hs : a.eval s = v) (hx : a.eval x = xv) (hk : K (a.put o.dst v') w') :
    if Region.wanted o (yielded ops a.tmps) = true then Oper.wp P o a w K Q else E := by
  subst hw
  exact step_app hgd s x t t ho v xv v' hs hx (by rw [ht]; exact hr) hk
theorem cell_up {w w' : World} {b off : Nat} {v : Value} (hb : Below w.heap.size w w') (h : w.cell? ⟨b, off, none⟩ = some v) : w'.cell? ⟨b, off, none⟩ = some v := (Fr.ofBelow (fun _ => False) (fun _ => (0, 0)) hb).cell h id
theorem new_up {w : World} {b o : Nat} {v : Value} (c : Obj) (h : w.cell? ⟨b, o, none⟩ = some v) : (w.alloc c).cell? ⟨b, o, none⟩ = some v := cell_up ((Below.refl _ _).alloc (Nat.le_refl _) c) h

/-- The net (of the owner x) at block b holds such frames. -/
structure IsNet (w : World) (o : Nat → Nat × Nat) (x b : Nat) (l : List F) : Prop where
  ob : o b = (x, 0)
  fz : w.frozen? ⟨b, 0, none⟩ = false
  li : ∃ a c, w.cell? ⟨b, 0, none⟩ = some (.slice a l.length c) ∧ OwnK w o (x, 1) 9 (.slice a l.length c) l.length (fc l)
theorem IsNet.lt {w : World} {o : Nat → Nat × Nat} {x b : Nat} {l : List F} (h : IsNet w o x b l) : b < w.heap.size := by
  obtain ⟨a, c, h1, _⟩ := h.li
  exact World.block_lt_of_cell? _ _ h1
theorem IsNet.fr {T : Nat × Nat → Prop} {w w' : World} {o o' : Nat → Nat × Nat} {x b : Nat} {l : List F} (h : IsNet w o x b l) (f : Fr T o o' w w') (h0 : ¬ T (x, 0)) (h1 : ¬ T (x, 1)) : IsNet w' o' x b l := by
  obtain ⟨a, c, hc, hl⟩ := h.li
  have hb : ¬ T (o b) := by rw [h.ob]; exact h0
  exact ⟨(f.lab b h.lt).trans h.ob, (f.frozen h.lt hb).trans h.fz, a, c, f.cell hc hb, hl.fr f h1⟩
theorem IsNet.below {w w' : World} {o : Nat → Nat × Nat} {x b : Nat} {l : List F} (h : IsNet w o x b l) (hb : Below w.heap.size w w') : IsNet w' o x b l := h.fr (Fr.ofBelow (fun _ => False) o hb) id id
theorem IsNet.alloc {w : World} {o : Nat → Nat × Nat} {x b : Nat} {l : List F} (h : IsNet w o x b l) (ob : Obj) : IsNet (w.alloc ob) o x b l := h.fr (Fr.alloc (fun _ => False) o w ob) id id
/-- The slice told anew. -/
theorem IsNet.set {w w1 : World} {o o1 : Nat → Nat × Nat} {x b : Nat} {l l' : List F} {a : Option Addr} {n c : Nat} (h : IsNet w o x b l) (f : Fr (· = (x, 1)) o o1 w w1) (hn : n = l'.length) (hl : OwnK w1 o1 (x, 1) 9 (.slice a n c) n (fc l')) :
    IsNet (w1.setCell ⟨b, 0, none⟩ (.slice a n c)) o1 x b l' ∧ Fr (·.1 = x) o o1 w (w1.setCell ⟨b, 0, none⟩ (.slice a n c)) := by
  subst hn
  obtain ⟨a0, c0, h0, _⟩ := h.li
  have hb : ¬ (o b = (x, 1)) := by rw [h.ob]; intro e; cases e
  have ob1 : o1 b = (x, 0) := (f.lab b h.lt).trans h.ob
  have fs : Fr (fun t => t = (x, 0)) o1 o1 w1 (w1.setCell ⟨b, 0, none⟩ (.slice a l'.length c)) := Fr.set (a := ⟨b, 0, none⟩) ob1 _
  refine ⟨⟨ob1, ?_, a, c, World.cell?_setCell_same _ _ _ (f.cell h0 hb), hl.fr fs (fun e => by cases e)⟩, (f.mono (fun t e => by rw [e])).trans (fs.mono (fun t e => by rw [e]))⟩
  rw [World.frozen?_setCell]; exact (f.frozen h.lt hb).trans h.fz
set_option maxRecDepth 100000 in
theorem new_any (x : Nat) (w : World) (o : Nat → Nat × Nat) :
    Calls Try.prog 7 #[] w fun e w' => ∃ b o', e = .returned (.pointer (some ⟨b, 0, none⟩)) ∧ IsNet w' o' x b [] ∧ Fr (fun _ => False) o o' w w' := by
  go_enter Try.func7, Try.ntmps7
  go_wp2_with fail
  go_ret
  refine ⟨_, lab o w.heap.size (x, 0), rfl, ⟨lab_same _ _ _, World.frozen?_alloc_new _ _ _ _, none, 0, ?_, OwnK.nil _ _ _ _⟩, Fr.new _ o w _ _⟩
  rw [World.cell?_alloc_new]; rfl
set_option maxRecDepth 100000 in
theorem len_any {o : Nat → Nat × Nat} {x b : Nat} {l : List F} (w : World) (h : IsNet w o x b l) :
    Calls Try.prog 15 #[.pointer (some ⟨b, 0, none⟩)] w fun e w' => e = .returned (.int .i64 (l.length : Int)) ∧ w = w' := by
  obtain ⟨a, c, h1, _⟩ := h.li
  obtain ⟨n, hn⟩ : ∃ n, n = l.length := ⟨_, rfl⟩
  rw [← hn] at h1 ⊢
  clear h hn
  go_enter Try.func15, Try.ntmps15
  go_wp2_with fail
  go_ret
  exact ⟨rfl, rfl⟩
set_option maxRecDepth 100000 in
theorem has_yes {o : Nat → Nat × Nat} {x b : Nat} {l : List F} (k : Nat) (hk : k < l.length) (w : World) (h : IsNet w o x b l) :
    Calls Try.prog 20 #[.pointer (some ⟨b, 0, none⟩), .int .i64 (k : Int)] w fun e w' => e = .returned (.bool true) ∧ w = w' := by
  obtain ⟨a, c, h1, _⟩ := h.li
  obtain ⟨n, hn⟩ : ∃ n, n = l.length := ⟨_, rfl⟩
  rw [← hn] at h1 hk
  have k0 : decide ((0 : Int) ≤ (k : Int)) = true := by simp
  have k1 : (k : Int) < (n : Int) := by omega
  clear h hn
  go_enter Try.func20, Try.ntmps20
  go_wp2_with fail
  go_ret
  exact ⟨rfl, rfl⟩
set_option maxRecDepth 100000 in
theorem has_no {o : Nat → Nat × Nat} {x b : Nat} {l : List F} (k : Int) (hk : k < 0 ∨ (l.length : Int) ≤ k) (w : World) (h : IsNet w o x b l) :
    Calls Try.prog 20 #[.pointer (some ⟨b, 0, none⟩), .int .i64 k] w fun e w' => e = .returned (.bool false) ∧ w = w' := by
  obtain ⟨a, c, h1, _⟩ := h.li
  obtain ⟨n, hn⟩ : ∃ n, n = l.length := ⟨_, rfl⟩
  rw [← hn] at h1 hk
  by_cases hk0 : k < 0
  · have k0 : decide ((0 : Int) ≤ k) = false := by simp; omega
    clear h hn hk
    go_enter Try.func20, Try.ntmps20
    go_wp2_with fail
    go_ret
    exact ⟨rfl, rfl⟩
  · have k0 : decide ((0 : Int) ≤ k) = true := by simp; omega
    have k1 : decide (k < (n : Int)) = false := by simp; omega
    clear h hn hk
    go_enter Try.func20, Try.ntmps20
    go_wp2_with fail
    go_ret
    exact ⟨rfl, rfl⟩
set_option maxRecDepth 100000 in
set_option maxHeartbeats 1000000 in
theorem send_any {o : Nat → Nat × Nat} {x b : Nat} {l : List F} (f : F) (hl : l.length < 4000) (w : World) (h : IsNet w o x b l) :
    Calls Try.prog 8 #[.pointer (some ⟨b, 0, none⟩), f.v] w fun e w' => ∃ o', e = .returned (.bool true) ∧ IsNet w' o' x b (l ++ [f]) ∧ Fr (·.1 = x) o o' w w' := by
  obtain ⟨n, hn⟩ : ∃ n, n = l.length := ⟨_, rfl⟩
  obtain ⟨w1, hw1⟩ : ∃ w1, w1 = (w.alloc (.cells f.cs.toArray 26)) := ⟨_, rfl⟩
  have FA : Fr (fun _ => False) o o w w1.drew := by rw [hw1]; exact (Fr.alloc _ o w _).trans (Fr.drew1 _ _ _)
  have h1 := h.fr FA id id
  obtain ⟨a, c, hc, hO⟩ := h1.li
  rw [← hn] at hc hO hl
  obtain ⟨v3, w3, o3, hrun, O3, F3⟩ := app_one 32 26 Z.v 88 under32 info26 cells26 hO f.cs rfl (cs_one f) (by omega) (by omega)
  obtain ⟨a3, c3, rfl, _⟩ := O3.form
  have O3' : OwnK w3 o3 (x, 1) 9 (.slice a3 (n + 1) c3) (n + 1) (fc (l ++ [f])) := by rw [fc_append, fc_single]; exact O3
  obtain ⟨I4, F4⟩ := h1.set F3 (show n + 1 = (l ++ [f]).length by rw [List.length_append, hn]; rfl) O3'
  have HI : Hid (IsNet (w3.setCell ⟨b, 0, none⟩ (.slice a3 (n + 1) c3)) o3 x b (l ++ [f]) ∧ Fr (·.1 = x) o o3 w (w3.setCell ⟨b, 0, none⟩ (.slice a3 (n + 1) c3))) := ⟨I4, (FA.mono (fun _ h => h.elim)).trans F4⟩
  have sz : w1.drew.heap.size = w.heap.size + 1 := by rw [hw1]; simp
  have hb : ¬ (o b = (x, 1)) := by rw [h.ob]; intro e; cases e
  have t3 := F3.cell hc hb
  have t4 := (F3.frozen (off := 0) h1.lt hb).trans h1.fz
  rw [sz] at hrun
  have hc0 : w1.cell? ⟨b, 0, none⟩ = some (.slice a n c) := hc
  have t2 := new_up (.cells f.cs.toArray 26) hc0
  rw [hw1] at hrun t2 hc0
  have s0 : decide ((4000 : Int) ≤ (n : Int)) = false := by simp; omega
  obtain ⟨p0, p1, p2, p3, p4, p5, p6, p7, p8⟩ := f
  simp only [F.v, F.cs] at hrun t2 hc0 ⊢
  clear hc
  clear h1 hO O3 O3' F3 I4 F4 FA hw1 sz hb h hn
  go_enter Try.func8, Try.ntmps8
  go_wp2_with fail
  go_region_law (refine step_app4 hrun (.tmp 15) (.tmp 17) (by rfl) (by rfl) (by rfl) (by rfl) (by rfl) (by rfl) ?_)
  all_goals
    go_wp2_with fail
    go_ret
    exact ⟨o3, rfl, HI.out⟩
end Go.Proofs.Ytgbjohipijpimaa
