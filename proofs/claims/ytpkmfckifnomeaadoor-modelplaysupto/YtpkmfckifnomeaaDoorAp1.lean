/-
  Apply: many keys, a flush, nothing.
-/
import Derived.Test.YtpkmfckifnomeaaDoorFnd
namespace Go.Proofs.YtpkmfckifnomeaaDoor
open Go.RowKit

open Go.Lib (TabIs pow10Tab)
theorem cell_b {w w' : World} {b off : Nat} {v : Value} (h : w.cell? ⟨b, off, none⟩ = some v) (f : Below w.heap.size w w') : w'.cell? ⟨b, off, none⟩ = some v := (f.cell (p := ⟨b, off, none⟩) (World.block_lt_of_cell? _ _ h)).trans h
theorem under27 : Tryd.prog.underlying 24 = some (.slice 9) := by kernel_rfl
/-- The boxes of a request and of an answer. -/
def Bx (w : World) (R : Array Value) : World := (w.alloc (.cells R 27)).alloc (.cells #[.int .i64 0, .slice none 0 0, .bool false, .int .u64 0, .string ⟨#[]⟩, .int .i64 0, .int .i64 0, .int .i64 0, .int .i64 0] 32)
theorem bx_below (w : World) (R : Array Value) : Below w.heap.size w (Bx w R) := (below_alloc _ _).trans ((below_alloc _ _).mono (by simp))
theorem bx_there (w : World) (R : Array Value) : (Bx w R).there (w.heap.size + 1) 0 9 := by
  have := there_new (w.alloc (.cells R 27)) zA 32
  rwa [World.size_alloc] at this
theorem bx_cell (w : World) (R : Array Value) {j : Nat} {v : Value} (h : R[j]? = some v) : (Bx w R).cell? ⟨w.heap.size, j, none⟩ = some v := cell_b (w := w.alloc (.cells R 27)) (by rw [World.cell?_alloc_new]; exact h) (below_alloc _ _)
theorem bx_zero (w : World) (R : Array Value) {j : Nat} {v : Value} (h : zA[j]? = some v) : (Bx w R).cell? ⟨w.heap.size + 1, j, none⟩ = some v := by
  have := World.cell?_alloc_new (w.alloc (.cells R 27)) zA.toArray 32 j
  rw [World.size_alloc] at this
  unfold Bx
  exact this.trans (by rw [List.getElem?_toArray]; exact h)
/-- Blocks behind w that found has left. -/
theorem fr_new {t : Nat × Nat} {o o' : Nat → Nat × Nat} {w : World} {R : Array Value} {w1 : World} (f : Fr (· = t) (lab (lab o w.heap.size (8, 1)) (w.heap.size + 1) (8, 2)) o' (Bx w R) w1) (h1 : t ≠ (8, 1)) (h2 : t ≠ (8, 2)) :
    (∀ j v, R[j]? = some v → w1.cell? ⟨w.heap.size, j, none⟩ = some v) ∧ (∀ j v, zA[j]? = some v → w1.cell? ⟨w.heap.size + 1, j, none⟩ = some v) ∧ (∀ j, j < 9 → w1.frozen? ⟨w.heap.size + 1, j, none⟩ = false) ∧ Fr (· = t) o o' w w1 := by
  have m1 : lab (lab o w.heap.size (8, 1)) (w.heap.size + 1) (8, 2) w.heap.size = (8, 1) := by rw [lab_other _ _ _ (by omega)]; exact lab_same _ _ _
  have m2 : lab (lab o w.heap.size (8, 1)) (w.heap.size + 1) (8, 2) (w.heap.size + 1) = (8, 2) := lab_same _ _ _
  have hs : (Bx w R).heap.size = w.heap.size + 2 := by unfold Bx; simp only [World.size_alloc]
  refine ⟨fun j v h => f.cell (bx_cell w R h) (by rw [m1]; exact fun e => h1 e.symm), fun j v h => f.cell (bx_zero w R h) (by rw [m2]; exact fun e => h2 e.symm), fun j hj => ?_, ?_⟩
  · have := (bx_there w R j hj).2
    rw [Nat.zero_add] at this
    exact (f.frozen (by omega) (by rw [m2]; exact fun e => h2 e.symm)).trans this
  · have f0 : Fr (· = t) o (lab (lab o w.heap.size (8, 1)) (w.heap.size + 1) (8, 2)) w (Bx w R) := by
      have hb := bx_below w R
      exact ⟨hb.os, hb.tape, hb.output, hb.size, fun c hc => by rw [lab_other _ _ _ (by omega), lab_other _ _ _ (by omega)], fun c hc _ => hb.block c hc⟩
    exact f0.trans f
theorem get_fin {t : Nat × Nat} {o o' : Nat → Nat × Nat} {w w1 : World} {R : Array Value} {x P b n0 : Nat} {l : List En} {a' : Option Addr} {n c : Nat} {g : Bool} {cs : List Value} (hP : P < w.heap.size) (hb : b < w.heap.size) (h3 : t ≠ (8, 2)) (f1 : Fr (· = t) (lab (lab o w.heap.size (8, 1)) (w.heap.size + 1) (8, 2)) o' (Bx w R).drew w1) (hc2 : ∀ j v, zA[j]? = some v → w1.cell? ⟨w.heap.size + 1, j, none⟩ = some v) (hc3 : ∀ j, j < 9 → w1.frozen? ⟨w.heap.size + 1, j, none⟩ = false) (f2 : Fr (· = t) o o' w w1) (hM : IsM w1 o' x P b n0 l) (hO : OwnK w1 o' t 4 (.slice a' n c) n cs) :
    (w1.setCells (w.heap.size + 1) 0 (acs 1 (.slice a' n c) g 0 ⟨#[]⟩)).rangeAt (w.heap.size + 1) 0 (acs 1 (.slice a' n c) g 0 ⟨#[]⟩) ∧ OwnK (w1.setCells (w.heap.size + 1) 0 (acs 1 (.slice a' n c) g 0 ⟨#[]⟩)) o' t 4 (.slice a' n c) n cs ∧ IsM (w1.setCells (w.heap.size + 1) 0 (acs 1 (.slice a' n c) g 0 ⟨#[]⟩)) o' x P b n0 l ∧ Fr (· = t) o o' w (w1.setCells (w.heap.size + 1) 0 (acs 1 (.slice a' n c) g 0 ⟨#[]⟩)) := by
  have ht : w1.there (w.heap.size + 1) 0 9 := fun j hj => ⟨by
    obtain ⟨v, hv⟩ : ∃ v, zA[j]? = some v := ⟨_, List.getElem?_eq_getElem (show j < zA.length from hj)⟩
    rw [Nat.zero_add, hc2 j v hv]; rfl, by rw [Nat.zero_add]; exact hc3 j hj⟩
  have hs : (Bx w R).drew.heap.size = w.heap.size + 2 := by unfold Bx; simp only [World.drew, World.size_alloc]
  have m2 : o' (w.heap.size + 1) = (8, 2) := (f1.lab _ (by omega)).trans (lab_same _ _ _)
  refine ⟨World.rangeAt_setCells_same _ _ _ _ ht, hO.fr (Fr.sets (T := (· = (8, 2))) m2 _ _ _) h3, hM.same (heap_setCells_other (by omega) _ _ _) (heap_setCells_other (by omega) _ _ _) (by rw [size_setCells]; exact Nat.le_refl _), f2.setsNew (by omega) _ _⟩
theorem off_lab {o : Nat → Nat × Nat} {a : Option Addr} {T : Nat × Nat → Prop} {n : Nat} (h : Off o a T) (hlt : ∀ p off, a = some ⟨p, off, none⟩ → p < n) : Off (lab (lab o n (8, 1)) (n + 1) (8, 2)) a T := fun p off e => by
  have := hlt p off e
  rw [lab_other _ _ _ (by omega), lab_other _ _ _ (by omega)]
  exact h p off e
set_option maxRecDepth 100000 in
set_option maxHeartbeats 4000000 in
theorem apply_get (x : Nat) (t : Nat × Nat) {o : Nat → Nat × Nat} {P b n0 : Nat} {l : List En} (now ver : Int) (a : Option Addr) (kc : Nat) (ks : List ByteArray) (fl exp by_ cas : Int) (dd : Nat) (qu : Bool) (da : ByteArray) (hz : ks.length ≤ 1000000) (hks : ∀ k ∈ ks, k.size ≤ 140737488355328) (h0 : t ≠ (x, 0)) (h1 : t ≠ (x, 1)) (h2 : t ≠ (8, 1)) (h3 : t ≠ (8, 2)) (w : World) (h : IsM w o x P b n0 l) (hK : Ks w a ks) (hoff : ks ≠ [] → Off o a (· = t)) (hlt : ks ≠ [] → ∀ p off, a = some ⟨p, off, none⟩ → p < w.heap.size) :
    Calls Tryd.prog 11 #[.pointer (some ⟨P, 0, none⟩), .agg #[Value.int .i64 1, .slice a ks.length kc, .int .i64 fl, .int .i64 exp, .int .i64 by_, .int .i64 cas, .int .u64 (dd : Int), .bool qu, .string da], .int .i64 now, .int .i64 ver] w fun e w' => ∃ a' n c o', e = .returned (.agg (acs 1 (.slice a' n c) false 0 ⟨#[]⟩).toArray) ∧ OwnK w' o' t 4 (.slice a' n c) n (fcs (fnd l now ks)) ∧ n = (fnd l now ks).length ∧ IsM w' o' x P b n0 l ∧ Fr (· = t) o o' w w' := by
  obtain ⟨RR, hRR⟩ : ∃ RR : Array Value, RR = #[Value.int .i64 1, .slice a ks.length kc, .int .i64 fl, .int .i64 exp, .int .i64 by_, .int .i64 cas, .int .u64 (dd : Int), .bool qu, .string da] := ⟨_, rfl⟩
  have fb : Fr (fun _ => False) o (lab (lab o w.heap.size (8, 1)) (w.heap.size + 1) (8, 2)) w (Bx w RR) := by
    have hb := bx_below w RR
    exact ⟨hb.os, hb.tape, hb.output, hb.size, fun c hc => by rw [lab_other _ _ _ (by omega), lab_other _ _ _ (by omega)], fun c hc _ => hb.block c hc⟩
  have FD := Lib.hid (found_any x t now a kc ks hz hks h0 h1 (Bx w RR).drew (h.fr fb id id).drew (hK.below (bx_below w RR).drew) (fun hne => off_lab (hoff hne) (hlt hne)))
  have HN : Hid (∀ w1 o', Fr (· = t) (lab (lab o w.heap.size (8, 1)) (w.heap.size + 1) (8, 2)) o' (Bx w RR).drew w1 → ((∀ j v, RR[j]? = some v → w1.cell? ⟨w.heap.size, j, none⟩ = some v) ∧ (∀ j v, zA[j]? = some v → w1.cell? ⟨w.heap.size + 1, j, none⟩ = some v) ∧ (∀ j, j < 9 → w1.frozen? ⟨w.heap.size + 1, j, none⟩ = false) ∧ Fr (· = t) o o' w w1) ∧ IsM w1 o' x P b n0 l) := Lib.hid (fun w1 o' f => by
    have f' : Fr (· = t) (lab (lab o w.heap.size (8, 1)) (w.heap.size + 1) (8, 2)) o' (Bx w RR) w1 := ⟨f.os, f.tape, f.output, f.size, f.lab, f.block⟩
    exact ⟨fr_new f' h2 h3, (h.fr fb id id).fr f' h0.symm h1.symm⟩)
  have HRR := Lib.hid hRR
  have HPb : Hid (P < w.heap.size ∧ b < w.heap.size) := Lib.hid ⟨h.lt, h.ltb⟩
  have H23 := Lib.hid (And.intro h2 h3)
  clear hRR h hK hoff hlt fb h0 h1 h2 h3 hks hz
  obtain ⟨kl, hkl⟩ : ∃ kl, ks.length = kl := ⟨_, rfl⟩
  rw [hkl] at FD HRR ⊢
  clear hkl
  have FD2 : Hid (Calls Tryd.prog 24 #[.pointer (some ⟨P, 0, none⟩), .slice a kl kc, .int .i64 now] ((w.alloc (.cells #[Value.int .i64 1, .slice a kl kc, .int .i64 fl, .int .i64 exp, .int .i64 by_, .int .i64 cas, .int .u64 (dd : Int), .bool qu, .string da] 27)).alloc (.cells #[.int .i64 0, .slice none 0 0, .bool false, .int .u64 0, .string ⟨#[]⟩, .int .i64 0, .int .i64 0, .int .i64 0, .int .i64 0] 32)).drew fun e w' => ∃ a' n c o', e = .returned (.slice a' n c) ∧ OwnK w' o' t 4 (.slice a' n c) n (fcs (fnd l now ks)) ∧ n = (fnd l now ks).length ∧ Fr (· = t) (lab (lab o w.heap.size (8, 1)) (w.heap.size + 1) (8, 2)) o' (Bx w RR).drew w') := by
    rw [HRR.out] at FD ⊢
    exact FD
  clear FD
  go_enter Tryd.func11, Tryd.ntmps11
  go_wp2_with fail
  go_region_with (go_at_call 24; refine FD2.out.mono ?_; rintro e1 w1 ⟨a', n, c, o', rfl, hO, hn, f1⟩; obtain ⟨⟨hc1, hc2, hc3, f2⟩, hM⟩ := HN.out w1 o' f1; have v0 := hc1 0 (.int .i64 1) (by rw [HRR.out]; rfl); have z0 := hc2 0 _ rfl; have z1 := hc2 1 _ rfl; have z2 := hc2 2 _ rfl; have z3 := hc2 3 _ rfl; have z4 := hc2 4 _ rfl; have z5 := hc2 5 _ rfl; have z6 := hc2 6 _ rfl; have z7 := hc2 7 _ rfl; have z8 := hc2 8 _ rfl; have y0 := hc3 0 (by omega); have y1 := hc3 1 (by omega); have y2 := hc3 2 (by omega); have y3 := hc3 3 (by omega); have y4 := hc3 4 (by omega); have y5 := hc3 5 (by omega); have y6 := hc3 6 (by omega); have y7 := hc3 7 (by omega); have y8 := hc3 8 (by omega); have HO := Lib.hid (get_fin (g := false) HPb.out.1 HPb.out.2 H23.out.2 f1 hc2 hc3 f2 hM hO); have HLn := Lib.hid hn; clear hc1 hc2 hc3 f1 f2 hM hO hn)
  all_goals
    (obtain ⟨W2, hW2⟩ : ∃ W2, W2 = w1.setCells (w.heap.size + 1) 0 (acs 1 (.slice a' n c) false 0 ⟨#[]⟩) := ⟨_, rfl⟩
     rw [← hW2] at HO
     change Exit.then _ _ _ _ (w1.setCells (w.heap.size + 1) 0 (acs 1 (.slice a' n c) false 0 ⟨#[]⟩))
     rw [← hW2]
     clear hW2 v0 z0 z1 z2 z3 z4 z5 z6 z7 z8 y0 y1 y2 y3 y4 y5 y6 y7 y8 HN FD2
     go_wp2_with fail
     refine bodyPost_ret (v := .agg (acs 1 (.slice a' n c) false 0 ⟨#[]⟩).toArray) (by simp [results, Tryd.results11]; exact load32 HO.out.1 rfl) rfl ?_
     exact ⟨a', n, c, o', rfl, HO.out.2.1, HLn.out, HO.out.2.2⟩)
set_option maxRecDepth 100000 in
set_option maxHeartbeats 4000000 in
theorem apply_gets (x : Nat) (t : Nat × Nat) {o : Nat → Nat × Nat} {P b n0 : Nat} {l : List En} (now ver : Int) (a : Option Addr) (kc : Nat) (ks : List ByteArray) (fl exp by_ cas : Int) (dd : Nat) (qu : Bool) (da : ByteArray) (hz : ks.length ≤ 1000000) (hks : ∀ k ∈ ks, k.size ≤ 140737488355328) (h0 : t ≠ (x, 0)) (h1 : t ≠ (x, 1)) (h2 : t ≠ (8, 1)) (h3 : t ≠ (8, 2)) (w : World) (h : IsM w o x P b n0 l) (hK : Ks w a ks) (hoff : ks ≠ [] → Off o a (· = t)) (hlt : ks ≠ [] → ∀ p off, a = some ⟨p, off, none⟩ → p < w.heap.size) :
    Calls Tryd.prog 11 #[.pointer (some ⟨P, 0, none⟩), .agg #[Value.int .i64 2, .slice a ks.length kc, .int .i64 fl, .int .i64 exp, .int .i64 by_, .int .i64 cas, .int .u64 (dd : Int), .bool qu, .string da], .int .i64 now, .int .i64 ver] w fun e w' => ∃ a' n c o', e = .returned (.agg (acs 1 (.slice a' n c) true 0 ⟨#[]⟩).toArray) ∧ OwnK w' o' t 4 (.slice a' n c) n (fcs (fnd l now ks)) ∧ n = (fnd l now ks).length ∧ IsM w' o' x P b n0 l ∧ Fr (· = t) o o' w w' := by
  obtain ⟨RR, hRR⟩ : ∃ RR : Array Value, RR = #[Value.int .i64 2, .slice a ks.length kc, .int .i64 fl, .int .i64 exp, .int .i64 by_, .int .i64 cas, .int .u64 (dd : Int), .bool qu, .string da] := ⟨_, rfl⟩
  have fb : Fr (fun _ => False) o (lab (lab o w.heap.size (8, 1)) (w.heap.size + 1) (8, 2)) w (Bx w RR) := by
    have hb := bx_below w RR
    exact ⟨hb.os, hb.tape, hb.output, hb.size, fun c hc => by rw [lab_other _ _ _ (by omega), lab_other _ _ _ (by omega)], fun c hc _ => hb.block c hc⟩
  have FD := Lib.hid (found_any x t now a kc ks hz hks h0 h1 (Bx w RR).drew (h.fr fb id id).drew (hK.below (bx_below w RR).drew) (fun hne => off_lab (hoff hne) (hlt hne)))
  have HN : Hid (∀ w1 o', Fr (· = t) (lab (lab o w.heap.size (8, 1)) (w.heap.size + 1) (8, 2)) o' (Bx w RR).drew w1 → ((∀ j v, RR[j]? = some v → w1.cell? ⟨w.heap.size, j, none⟩ = some v) ∧ (∀ j v, zA[j]? = some v → w1.cell? ⟨w.heap.size + 1, j, none⟩ = some v) ∧ (∀ j, j < 9 → w1.frozen? ⟨w.heap.size + 1, j, none⟩ = false) ∧ Fr (· = t) o o' w w1) ∧ IsM w1 o' x P b n0 l) := Lib.hid (fun w1 o' f => by
    have f' : Fr (· = t) (lab (lab o w.heap.size (8, 1)) (w.heap.size + 1) (8, 2)) o' (Bx w RR) w1 := ⟨f.os, f.tape, f.output, f.size, f.lab, f.block⟩
    exact ⟨fr_new f' h2 h3, (h.fr fb id id).fr f' h0.symm h1.symm⟩)
  have HRR := Lib.hid hRR
  have HPb : Hid (P < w.heap.size ∧ b < w.heap.size) := Lib.hid ⟨h.lt, h.ltb⟩
  have H23 := Lib.hid (And.intro h2 h3)
  clear hRR h hK hoff hlt fb h0 h1 h2 h3 hks hz
  obtain ⟨kl, hkl⟩ : ∃ kl, ks.length = kl := ⟨_, rfl⟩
  rw [hkl] at FD HRR ⊢
  clear hkl
  have FD2 : Hid (Calls Tryd.prog 24 #[.pointer (some ⟨P, 0, none⟩), .slice a kl kc, .int .i64 now] ((w.alloc (.cells #[Value.int .i64 2, .slice a kl kc, .int .i64 fl, .int .i64 exp, .int .i64 by_, .int .i64 cas, .int .u64 (dd : Int), .bool qu, .string da] 27)).alloc (.cells #[.int .i64 0, .slice none 0 0, .bool false, .int .u64 0, .string ⟨#[]⟩, .int .i64 0, .int .i64 0, .int .i64 0, .int .i64 0] 32)).drew fun e w' => ∃ a' n c o', e = .returned (.slice a' n c) ∧ OwnK w' o' t 4 (.slice a' n c) n (fcs (fnd l now ks)) ∧ n = (fnd l now ks).length ∧ Fr (· = t) (lab (lab o w.heap.size (8, 1)) (w.heap.size + 1) (8, 2)) o' (Bx w RR).drew w') := by
    rw [HRR.out] at FD ⊢
    exact FD
  clear FD
  go_enter Tryd.func11, Tryd.ntmps11
  go_wp2_with fail
  go_region_with (go_at_call 24; refine FD2.out.mono ?_; rintro e1 w1 ⟨a', n, c, o', rfl, hO, hn, f1⟩; obtain ⟨⟨hc1, hc2, hc3, f2⟩, hM⟩ := HN.out w1 o' f1; have v0 := hc1 0 (.int .i64 2) (by rw [HRR.out]; rfl); have z0 := hc2 0 _ rfl; have z1 := hc2 1 _ rfl; have z2 := hc2 2 _ rfl; have z3 := hc2 3 _ rfl; have z4 := hc2 4 _ rfl; have z5 := hc2 5 _ rfl; have z6 := hc2 6 _ rfl; have z7 := hc2 7 _ rfl; have z8 := hc2 8 _ rfl; have y0 := hc3 0 (by omega); have y1 := hc3 1 (by omega); have y2 := hc3 2 (by omega); have y3 := hc3 3 (by omega); have y4 := hc3 4 (by omega); have y5 := hc3 5 (by omega); have y6 := hc3 6 (by omega); have y7 := hc3 7 (by omega); have y8 := hc3 8 (by omega); have HO := Lib.hid (get_fin (g := true) HPb.out.1 HPb.out.2 H23.out.2 f1 hc2 hc3 f2 hM hO); have HLn := Lib.hid hn; clear hc1 hc2 hc3 f1 f2 hM hO hn)
  all_goals
    (obtain ⟨W2, hW2⟩ : ∃ W2, W2 = w1.setCells (w.heap.size + 1) 0 (acs 1 (.slice a' n c) true 0 ⟨#[]⟩) := ⟨_, rfl⟩
     rw [← hW2] at HO
     change Exit.then _ _ _ _ (w1.setCells (w.heap.size + 1) 0 (acs 1 (.slice a' n c) true 0 ⟨#[]⟩))
     rw [← hW2]
     clear hW2 v0 z0 z1 z2 z3 z4 z5 z6 z7 z8 y0 y1 y2 y3 y4 y5 y6 y7 y8 HN FD2
     go_wp2_with fail
     refine bodyPost_ret (v := .agg (acs 1 (.slice a' n c) true 0 ⟨#[]⟩).toArray) (by simp [results, Tryd.results11]; exact load32 HO.out.1 rfl) rfl ?_
     exact ⟨a', n, c, o', rfl, HO.out.2.1, HLn.out, HO.out.2.2⟩)
end Go.Proofs.YtpkmfckifnomeaaDoor
