/-
  Apply: one key.
-/
import Derived.Test.YtpkmfckifnomeaaDoorAp2
namespace Go.Proofs.YtpkmfckifnomeaaDoor
open Go.RowKit

open Go.Lib (TabIs pow10Tab)
set_option maxRecDepth 100000 in
set_option maxHeartbeats 2000000 in
theorem apply_one (x : Nat) {o : Nat → Nat × Nat} {P b n : Nat} {l : List En} (r : Rq) (now ver : Int) (p off kc : Nat) (k : ByteArray) (h1 : (r.verb == 1) = false) (h2 : (r.verb == 2) = false) (h13 : (r.verb == 13) = false) (hn : n < 1000000) (hok : Ok l) (hk : k.size ≤ 140737488355328) (hd : r.data.size ≤ 140737488355328) (w : World) (h : IsM w o x P b n l) (hK : w.cell? ⟨p, off, none⟩ = some (.string k)) (hx : x < 8) (htab : TabIs Tryd.prog w "internal/strconv.uint64pow10" .u64 pow10Tab) :
    Calls Tryd.prog 11 #[.pointer (some ⟨P, 0, none⟩), .agg (r.cs (.slice (some ⟨p, off, none⟩) 1 kc)).toArray, .int .i64 now, .int .i64 ver] w fun e w' => ∃ o', e = .returned (.agg (q1 r k now ver l).1.cs.toArray) ∧ IsM w' o' x P b (n + 1) (stp r k now ver l) ∧ Fr (TX x) o o' w w' := by
  have bb := bx_below w #[Value.int .i64 r.verb, .slice (some ⟨p, off, none⟩) 1 kc, .int .i64 r.fl, .int .i64 r.exp, .int .i64 r.bytes, .int .i64 r.cas, .int .u64 (r.delta : Int), .bool r.quiet, .string r.data]
  have fb : Fr (fun _ => False) o (lab (lab o w.heap.size (8, 1)) (w.heap.size + 1) (8, 2)) w (Bx w #[Value.int .i64 r.verb, .slice (some ⟨p, off, none⟩) 1 kc, .int .i64 r.fl, .int .i64 r.exp, .int .i64 r.bytes, .int .i64 r.cas, .int .u64 (r.delta : Int), .bool r.quiet, .string r.data]) := ⟨bb.os, bb.tape, bb.output, bb.size, fun c hc => by rw [lab_other _ _ _ (by omega), lab_other _ _ _ (by omega)], fun c hc _ => bb.block c hc⟩
  have CH := Lib.hid (change_any x r (some ⟨p, off, none⟩) 1 kc k now ver hn hok hk hd (Bx w #[Value.int .i64 r.verb, .slice (some ⟨p, off, none⟩) 1 kc, .int .i64 r.fl, .int .i64 r.exp, .int .i64 r.bytes, .int .i64 r.cas, .int .u64 (r.delta : Int), .bool r.quiet, .string r.data]).drew (h.fr fb id id).drew (tabIs_below htab bb.drew))
  obtain ⟨A, hA⟩ : ∃ A, A = (q1 r k now ver l).1.cs := ⟨_, rfl⟩
  rw [← hA] at CH ⊢
  have HLA : Hid (A.length = 9) := Lib.hid (by rw [hA]; rfl)
  have HOA : Hid (∀ u ∈ A, u.oneCell' = true) := Lib.hid (by rw [hA]; exact Ab.one _)
  obtain ⟨st, hst⟩ : ∃ st, stp r k now ver l = st := ⟨_, rfl⟩
  rw [hst] at CH ⊢
  have cK : ((w.alloc (.cells #[Value.int .i64 r.verb, .slice (some ⟨p, off, none⟩) 1 kc, .int .i64 r.fl, .int .i64 r.exp, .int .i64 r.bytes, .int .i64 r.cas, .int .u64 (r.delta : Int), .bool r.quiet, .string r.data] 27)).alloc (.cells #[.int .i64 0, .slice none 0 0, .bool false, .int .u64 0, .string ⟨#[]⟩, .int .i64 0, .int .i64 0, .int .i64 0, .int .i64 0] 32)).cell? ⟨p, off, none⟩ = some (.string k) := cell_b hK bb
  have CH2 : Hid (Calls Tryd.prog 25 #[.pointer (some ⟨P, 0, none⟩), .agg #[Value.int .i64 r.verb, .slice (some ⟨p, off, none⟩) 1 kc, .int .i64 r.fl, .int .i64 r.exp, .int .i64 r.bytes, .int .i64 r.cas, .int .u64 (r.delta : Int), .bool r.quiet, .string r.data], .string k, .int .i64 now, .int .i64 ver] ((w.alloc (.cells #[Value.int .i64 r.verb, .slice (some ⟨p, off, none⟩) 1 kc, .int .i64 r.fl, .int .i64 r.exp, .int .i64 r.bytes, .int .i64 r.cas, .int .u64 (r.delta : Int), .bool r.quiet, .string r.data] 27)).alloc (.cells #[.int .i64 0, .slice none 0 0, .bool false, .int .u64 0, .string ⟨#[]⟩, .int .i64 0, .int .i64 0, .int .i64 0, .int .i64 0] 32)).drew fun e w' => e = .returned (.agg A.toArray) ∧ Hid (w'.there (w.heap.size + 1) 0 A.length ∧ (w'.setCells (w.heap.size + 1) 0 A).rangeAt (w.heap.size + 1) 0 A ∧ ∃ o', IsM (w'.setCells (w.heap.size + 1) 0 A) o' x P b (n + 1) st ∧ Fr (TX x) o o' w (w'.setCells (w.heap.size + 1) 0 A))) := Lib.hid (CH.out.mono fun e w' hh => ⟨hh.1, Lib.hid (by
    obtain ⟨-, i1, f1⟩ := hh
    have hs : (Bx w #[Value.int .i64 r.verb, .slice (some ⟨p, off, none⟩) 1 kc, .int .i64 r.fl, .int .i64 r.exp, .int .i64 r.bytes, .int .i64 r.cas, .int .u64 (r.delta : Int), .bool r.quiet, .string r.data]).drew.heap.size = w.heap.size + 2 := by unfold Bx; simp only [World.drew, World.size_alloc]
    have m2 : lab (lab o w.heap.size (8, 1)) (w.heap.size + 1) (8, 2) (w.heap.size + 1) = (8, 2) := lab_same _ _ _
    have t0 : w'.there (w.heap.size + 1) 0 9 := fun j hj => by
      have e := f1.block (w.heap.size + 1) (by omega) (by rw [m2]; exact fun e => by have : 8 = x := e; omega)
      rw [World.cell?_of_block (a := ⟨w.heap.size + 1, 0 + j, none⟩) e, World.frozen?_of_block (a := ⟨w.heap.size + 1, 0 + j, none⟩) e]
      exact bx_there w #[Value.int .i64 r.verb, .slice (some ⟨p, off, none⟩) 1 kc, .int .i64 r.fl, .int .i64 r.exp, .int .i64 r.bytes, .int .i64 r.cas, .int .u64 (r.delta : Int), .bool r.quiet, .string r.data] j hj
    have t1 : w'.there (w.heap.size + 1) 0 A.length := by rw [HLA.out]; exact t0
    have hl := h.lt
    have hlb := h.ltb
    have f2 : Fr (TX x) o (lab (lab o w.heap.size (8, 1)) (w.heap.size + 1) (8, 2)) w w' := (fb.mono (fun _ h => h.elim)).trans ((Fr.drew1 _ _ _).trans f1)
    exact ⟨t1, World.rangeAt_setCells_same _ _ _ _ t1, _, i1.same (heap_setCells_other (by omega) _ _ _) (heap_setCells_other (by omega) _ _ _) (by rw [size_setCells]; exact Nat.le_refl _), f2.setsNew (by omega) _ _⟩)⟩)
  clear CH hA hst bb fb h hK htab hn hok hk hd
  show Calls Tryd.prog 11 #[.pointer (some ⟨P, 0, none⟩), .agg #[Value.int .i64 r.verb, .slice (some ⟨p, off, none⟩) 1 kc, .int .i64 r.fl, .int .i64 r.exp, .int .i64 r.bytes, .int .i64 r.cas, .int .u64 (r.delta : Int), .bool r.quiet, .string r.data], .int .i64 now, .int .i64 ver] w _
  go_enter Tryd.func11, Tryd.ntmps11
  go_wp2_with fail
  go_region_with (go_at_call 25; refine CH2.out.mono ?_; rintro e1 w1 ⟨rfl, HW⟩; have st1 := store_run HW.out.1 HOA.out)
  all_goals
    (clear CH2 cK
     go_wp2_with fail
     refine bodyPost_ret (v := .agg A.toArray) (by simp [results, Tryd.results11]; exact load32 HW.out.2.1 HLA.out) rfl ?_
     obtain ⟨o', i1, f1⟩ := HW.out.2.2
     exact ⟨o', rfl, i1, f1⟩)
end Go.Proofs.YtpkmfckifnomeaaDoor
