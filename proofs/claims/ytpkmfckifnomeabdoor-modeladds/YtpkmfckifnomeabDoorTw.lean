/-
  A SECOND MODEL beside the first.
-/
import Derived.Test.YtpkmfckifnomeabDoorSf
namespace Go.Proofs.YtpkmfckifnomeabDoor
open Go.RowKit

open Go.Lib (TabIs pow10Tab)
/-- The law's memory, and a second model at block Q. -/
structure L2 (w : World) (o : Nat → Nat × Nat) (P n : Nat) (l : List En) (vs : List (Nat × Nat × List Value)) (os : List (Nat × Value × Nat × List Value)) (Q m : Nat) (l2 : List En) : Prop where
  ls : Ls w o P n l vs os
  m2 : ∃ b, IsM w o 2 Q b m l2
  ok : Ok l2
set_option maxRecDepth 100000 in
set_option maxHeartbeats 1000000 in
theorem of_2 (verb : Int) (k d : ByteArray) (dz : Int) (h2 : (d.size : Int) = dz) {w0 : World} {o : Nat → Nat × Nat} {P n : Nat} {l : List En} {vs : List (Nat × Nat × List Value)} {os : List (Nat × Value × Nat × List Value)} {Q m : Nat} {l2 : List En} (w : World) (h : L2 w o P n l vs os Q m l2) (hz : Zz w0 w o) :
    Calls Tryd.prog 8 #[.int .i64 verb, .string k, .string d, .int .u64 0] w fun e w' => ∃ p o', e = .returned (.agg #[.int .i64 verb, .slice (some ⟨p, 0, none⟩) 1 1, .int .i64 0, .int .i64 0, .int .i64 dz, .int .i64 0, .int .u64 0, .bool false, .string d]) ∧ L2 w' o' P n l ((p, 3, [.string k]) :: vs) os Q m l2 ∧ Zz w0 w' o' := by
  subst h2
  obtain ⟨W1, hW1⟩ : ∃ W1, W1 = w.alloc (.cells #[.int .i64 verb, .slice (some ⟨w.heap.size + 1, 0, none⟩) 1 1, .int .i64 0, .int .i64 0, .int .i64 (d.size : Int), .int .i64 0, .int .u64 0, .bool false, .string d] 33) := ⟨_, rfl⟩
  have H : Hid (∃ p o', (Ending.returned (.agg #[.int .i64 verb, .slice (some ⟨w.heap.size + 1, 0, none⟩) 1 1, .int .i64 0, .int .i64 0, .int .i64 (d.size : Int), .int .i64 0, .int .u64 0, .bool false, .string d])) = .returned (.agg #[.int .i64 verb, .slice (some ⟨p, 0, none⟩) 1 1, .int .i64 0, .int .i64 0, .int .i64 (d.size : Int), .int .i64 0, .int .u64 0, .bool false, .string d]) ∧ L2 (W1.alloc (.cells #[.string k] 9)) o' P n l ((p, 3, [.string k]) :: vs) os Q m l2 ∧ Zz w0 (W1.alloc (.cells #[.string k] 9)) o') := Lib.hid (by
    have hs : W1.heap.size = w.heap.size + 1 := by rw [hW1]; simp
    have h1 : Ls W1 o P n l vs os := by rw [hW1]; exact h.ls.below (below_alloc _ _)
    have z1 : Zz w0 W1 o := by rw [hW1]; exact hz.below (below_alloc _ _)
    have h2 := h1.alloc z1 3 [.string k] 9
    obtain ⟨b, hb⟩ := h.m2
    have hb1 : IsM W1 o 2 Q b m l2 := by rw [hW1]; exact hb.below (below_alloc _ _)
    have f2 := Fr.new (fun _ => False) o W1 (.cells [Value.string k].toArray 9) (8, 3)
    have hb2 := hb1.fr f2 id id
    rw [hs] at h2 hb2
    exact ⟨w.heap.size + 1, _, rfl, ⟨h2.1, ⟨b, hb2⟩, h.ok⟩, h2.2⟩)
  rw [hW1] at H
  clear h hz hW1
  go_enter Tryd.func8, Tryd.ntmps8
  go_wp2_with fail
  refine bodyPost_ret (v := .agg #[.int .i64 verb, .slice (some ⟨w.heap.size + 1, 0, none⟩) 1 1, .int .i64 0, .int .i64 0, .int .i64 (d.size : Int), .int .i64 0, .int .u64 0, .bool false, .string d]) (by simp [results, Tryd.results8]; go_simp) rfl ?_
  exact H.out
/-- Apply upon the first. -/
theorem one_p (r : Rq) (now ver : Int) (k : ByteArray) (p kc : Nat) (hde : r.delta = 0) (h1 : (r.verb == 1) = false) (h2 : (r.verb == 2) = false) (h13 : (r.verb == 13) = false) {w0 : World} {o : Nat → Nat × Nat} {P n : Nat} {l : List En} {vs : List (Nat × Nat × List Value)} {os : List (Nat × Value × Nat × List Value)} {Q m : Nat} {l2 : List En} (q : Q4) (l' : List En) (kd nu : Int) (tx : ByteArray) (hq : q1 r k now ver l = q) (hl : stp r k now ver l = l') (hA : q.1 = ⟨kd, nu, tx⟩) (hn : n < 1000000) (hk : k.size ≤ 140737488355328) (hd : r.data.size ≤ 140737488355328) (w : World) (h : L2 w o P n l vs os Q m l2) (hz : Zz w0 w o) (hp : (p, 3, [.string k]) ∈ vs) :
    Calls Tryd.prog 7 #[.pointer (some ⟨P, 0, none⟩), .agg #[.int .i64 r.verb, .slice (some ⟨p, 0, none⟩) 1 kc, .int .i64 r.fl, .int .i64 r.exp, .int .i64 r.bytes, .int .i64 r.cas, .int .u64 0, .bool r.quiet, .string r.data], .int .i64 now, .int .i64 ver] w fun e w' => ∃ o', e = .returned (.agg #[.int .i64 kd, .slice none 0 0, .bool false, .int .u64 nu, .string tx, .int .i64 0, .int .i64 0, .int .i64 0, .int .i64 0]) ∧ L2 w' o' P (n + 1) l' vs os Q m l2 ∧ Zz w0 w' o' := by
  subst hl
  obtain ⟨b, hb⟩ := h.ls.m
  obtain ⟨b2, hb2⟩ := h.m2
  have c : w.cell? ⟨p, 0, none⟩ = some (.string k) := h.ls.cell hp rfl
  have K := apply_one 1 r now ver p 0 kc k h1 h2 h13 hn h.ls.ok hk hd w hb c (by omega) h.ls.tab
  unfold Rq.cs at K
  rw [hde] at K
  refine Calls.mono K ?_
  rintro e w' ⟨o', rfl, i1, f1⟩
  obtain ⟨i2, z2⟩ := h.ls.turn hz f1 ⟨b, i1⟩ (stp_ok h.ls.ok hk hd) (fun _ _ _ _ e => by have : 8 = 1 := e; omega) (fun _ _ _ _ _ e => by have : 7 = 1 := e; omega) (fun e => by have : 0 = 1 := e; omega)
  exact ⟨o', by rw [hq, hA]; rfl, ⟨i2, ⟨b2, hb2.fr f1 (fun e => by have : 2 = 1 := e; omega) (fun e => by have : 2 = 1 := e; omega)⟩, h.ok⟩, z2⟩
/-- Apply upon the second. -/
theorem one_q (r : Rq) (now ver : Int) (k : ByteArray) (p kc : Nat) (hde : r.delta = 0) (h1 : (r.verb == 1) = false) (h2 : (r.verb == 2) = false) (h13 : (r.verb == 13) = false) {w0 : World} {o : Nat → Nat × Nat} {P n : Nat} {l : List En} {vs : List (Nat × Nat × List Value)} {os : List (Nat × Value × Nat × List Value)} {Q m : Nat} {l2 : List En} (q : Q4) (kd nu : Int) (tx : ByteArray) (hq : q1 r k now ver l2 = q) (hA : q.1 = ⟨kd, nu, tx⟩) (hn : m < 1000000) (hk : k.size ≤ 140737488355328) (hd : r.data.size ≤ 140737488355328) (w : World) (h : L2 w o P n l vs os Q m l2) (hz : Zz w0 w o) (hp : (p, 3, [.string k]) ∈ vs) :
    Calls Tryd.prog 7 #[.pointer (some ⟨Q, 0, none⟩), .agg #[.int .i64 r.verb, .slice (some ⟨p, 0, none⟩) 1 kc, .int .i64 r.fl, .int .i64 r.exp, .int .i64 r.bytes, .int .i64 r.cas, .int .u64 0, .bool r.quiet, .string r.data], .int .i64 now, .int .i64 ver] w fun e w' => ∃ o', e = .returned (.agg #[.int .i64 kd, .slice none 0 0, .bool false, .int .u64 nu, .string tx, .int .i64 0, .int .i64 0, .int .i64 0, .int .i64 0]) ∧ Ls w' o' P n l vs os ∧ Zz w0 w' o' := by
  obtain ⟨b, hb⟩ := h.ls.m
  obtain ⟨b2, hb2⟩ := h.m2
  have c : w.cell? ⟨p, 0, none⟩ = some (.string k) := h.ls.cell hp rfl
  have K := apply_one 2 r now ver p 0 kc k h1 h2 h13 hn h.ok hk hd w hb2 c (by omega) h.ls.tab
  unfold Rq.cs at K
  rw [hde] at K
  refine Calls.mono K ?_
  rintro e w' ⟨o', rfl, i1, f1⟩
  obtain ⟨i2, z2⟩ := h.ls.turn hz f1 ⟨b, hb.fr f1 (fun e => by have : 1 = 2 := e; omega) (fun e => by have : 1 = 2 := e; omega)⟩ h.ls.ok (fun _ _ _ _ e => by have : 8 = 2 := e; omega) (fun _ _ _ _ _ e => by have : 7 = 2 := e; omega) (fun e => by have : 0 = 2 := e; omega)
  exact ⟨o', by rw [hq, hA]; rfl, i2, z2⟩
theorem tw_2 {w0 : World} {o : Nat → Nat × Nat} {P n : Nat} {l : List En} {vs : List (Nat × Nat × List Value)} {os : List (Nat × Value × Nat × List Value)} (w : World) (h : Ls w o P n l vs os) (hz : Zz w0 w o) : Calls Tryd.prog 9 #[.pointer (some ⟨P, 0, none⟩)] w fun e w' => ∃ Q o', e = .returned (.pointer (some ⟨Q, 0, none⟩)) ∧ L2 w' o' P n l vs os Q n l ∧ Zz w0 w' o' := by
  obtain ⟨b, hb⟩ := h.m
  refine (twin_any 1 2 w hb).mono ?_
  rintro e w' ⟨Q, b2, o', rfl, i1, f1⟩
  obtain ⟨i2, z2⟩ := h.turn hz f1 ⟨b, hb.fr f1 id id⟩ h.ok (fun _ _ _ _ e => e) (fun _ _ _ _ _ e => e) id
  exact ⟨Q, o', rfl, ⟨i2, ⟨b2, i1⟩, h.ok⟩, z2⟩
end Go.Proofs.YtpkmfckifnomeabDoor
