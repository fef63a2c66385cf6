/-
  The parser's small functions: New, Shut, Left, begin, say, none, end.
-/
import Derived.Test.YtedbklipbfbmoaaDoorPMem
import Derived.Deep.RegionHeld3
namespace Go.Proofs.YtedbklipbfbmoaaDoor
open Go.RowKit

set_option maxRecDepth 100000 in
theorem new_any (w : World) : Calls Tryd.prog 9 #[] w fun e w' => e = .returned (.pointer (some ⟨w.heap.size, 0, none⟩)) ∧ w' = w.alloc (.cells ((pz 0).cs (.slice none 0 0) (.slice none 0 0)).toArray 60) := by
  go_enter Tryd.func9, Tryd.ntmps9
  go_wp2_with fail
  go_ret
  exact ⟨rfl, rfl⟩
theorem IsP.new (w : World) (o : Nat → Nat × Nat) (x : Nat) : IsP (w.alloc (.cells ((pz 0).cs (.slice none 0 0) (.slice none 0 0)).toArray 60)) (lab o w.heap.size (x, 0)) x w.heap.size (pz 0) none 0 0 none 0 0 :=
  ⟨fun j v hv => by rw [Nat.zero_add, World.cell?_alloc_new, List.getElem?_toArray]; exact hv, fun j => World.frozen?_alloc_new _ _ _ _, lab_same _ _ _, OwnK.nil _ _ _ _, rfl, Ks.nil _ _⟩
set_option maxRecDepth 100000 in
theorem shut_any {o : Nat → Nat × Nat} {x P : Nat} {p : Ps} {a : Option Addr} {n c : Nat} {ka : Option Addr} {kn kc : Nat} (w : World) (h : IsP w o x P p a n c ka kn kc) (b : Bool) (hb : ((((p.st : Nat) : Int)) == 4) = b) : Calls Tryd.prog 11 #[.pointer (some ⟨P, 0, none⟩)] w fun e w' => e = .returned (.bool b) ∧ w = w' := by
  have c0 := h.at_ 0 _ rfl
  subst hb
  clear h
  obtain ⟨st, hst⟩ : ∃ st : Int, st = ((p.st : Nat) : Int) := ⟨_, rfl⟩
  rw [← hst] at c0 ⊢
  clear hst
  go_enter Tryd.func11, Tryd.ntmps11
  go_wp2_with fail
  go_ret
  exact ⟨rfl, rfl⟩
set_option maxRecDepth 100000 in
theorem left_any {o : Nat → Nat × Nat} {x P : Nat} {p : Ps} {a : Option Addr} {n c : Nat} {ka : Option Addr} {kn kc : Nat} (w : World) (h : IsP w o x P p a n c ka kn kc) : Calls Tryd.prog 12 #[.pointer (some ⟨P, 0, none⟩)] w fun e w' => e = .returned (.int .i64 (n : Int)) ∧ w = w' := by
  have c0 := h.at_ 1 _ rfl
  clear h
  go_enter Tryd.func12, Tryd.ntmps12
  go_wp2_with fail
  go_ret
  exact ⟨rfl, rfl⟩
set_option maxRecDepth 100000 in
theorem begin_any (P s : Nat) (w : World) (h : w.there P 0 12) : Calls Tryd.prog 34 #[.pointer (some ⟨P, 0, none⟩), .int .i64 ((s : Nat) : Int)] w fun e w' => e = .returned (.tuple #[]) ∧ w' = w.setCells P 0 ((pz s).cs (.slice none 0 0) (.slice none 0 0)) := by
  have TH := Lib.hid h
  clear h
  go_enter Tryd.func34, Tryd.ntmps34
  go_wp2_with ((with_reducible show wpList _ _ _ (Oper.mk none (Op.store 60 (.tmp 7) _) _ _ _ _ :: _) _ _); refine wpList_store_mid (by rfl) 60 (.tmp 7) (.tmp 6) (by rfl) P 0 #[.int .i64 ((s : Nat) : Int), .slice none 0 0, .int .i64 0, .slice none 0 0, .int .i64 0, .int .i64 0, .int .i64 0, .int .i64 0, .int .u64 0, .bool false, .string ⟨#[]⟩, .int .i64 0] (by rfl) (by rfl) TH.out (by kernel_rfl) (all_oneCell_toArray (ps_one (pz s) none none 0 0 0 0)) ?_)
  exact bodyPost_end (v := .tuple #[]) (by simp [results, Tryd.results34]) rfl ⟨rfl, rfl⟩
end Go.Proofs.YtedbklipbfbmoaaDoor
