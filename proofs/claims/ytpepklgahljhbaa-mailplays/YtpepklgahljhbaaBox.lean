/-
  BOXES: a channel with room, and what Put, Take, Len do to it.
-/
import Derived.Test.YtpepklgahljhbaaMem
import Derived.Conc.LoneSelect
import Derived.Conc.LoneSelectN
import Derived.Laws.Rows
namespace Go.Proofs.Ytpepklgahljhbaa
open Go.Conc Go.RowKit

/-- A frame. -/
structure F where
  kind : Int
  slot : Int
  inc : Int
  rid : Int
  floor : Int
  role : Int
  key : ByteArray
  ver : Int
  data : ByteArray
def F.cs (f : F) : List Value := [.int .i64 f.kind, .int .i64 f.slot, .int .i64 f.inc, .int .i64 f.rid, .int .i64 f.floor, .int .i64 f.role, .string f.key, .int .i64 f.ver, .string f.data]
theorem lt_of_get {w : World} {c : Nat} {ob : Obj} (h : w.heap[c]? = some ob) : c < w.heap.size := (Array.getElem?_eq_some_iff.1 h).1
def F.v (f : F) : Value := .agg f.cs.toArray

theorem cell_alloc {w : World} {a : Addr} {v : Value} (ob : Obj) (h : w.cell? a = some v) : (w.alloc ob).cell? a = some v :=
  (World.cell?_of_block (a := a) (Below.heap_alloc _ _ _ (World.block_lt_of_cell? _ _ h))).trans h
theorem setChan_alloc (w : World) (ob : Obj) {c cap s r : Nat} {buf : Array Value} (h : c < w.heap.size) : (w.alloc ob).setChan c cap buf false s r false = (w.setChan c cap buf false s r false).alloc ob := by
  simp only [World.setChan, World.alloc]
  congr 1
  rw [Array.setIfInBounds_def, Array.setIfInBounds_def, dif_pos (by simp; omega), dif_pos h, Array.set_push, dif_pos h]
/-- No frame. -/
def Z : F := ⟨0, 0, 0, 0, 0, 0, ⟨#[]⟩, 0, ⟨#[]⟩⟩

set_option maxRecDepth 100000 in
theorem put_room {b c cap s r : Nat} {buf : Array Value} (f : F) (w : World) (hb : w.cell? ⟨b, 0, none⟩ = some (.chan (some c))) (hc : w.heap[c]? = some (.chan cap buf false s r false)) (hroom : buf.size < cap) :
    Calls Try.prog 8 #[.pointer (some ⟨b, 0, none⟩), f.v] w fun e w' => e = .returned (.bool true) ∧ ∃ ob, w' = (w.alloc ob).setChan c cap (buf.push f.v) false (s + 1) r false := by
  obtain ⟨a0, a1, a2, a3, a4, a5, a6, a7, a8⟩ := f
  simp only [F.v, F.cs]
  refine calls_of_loneTo fun cs => ?_
  have e : Frame.enter Try.prog 8 #[.pointer (some ⟨b, 0, none⟩), .agg #[.int .i64 a0, .int .i64 a1, .int .i64 a2, .int .i64 a3, .int .i64 a4, .int .i64 a5, .string a6, .int .i64 a7, .string a8]] .normal = (base 8).at ⟨#[.pointer (some ⟨b, 0, none⟩), .agg #[.int .i64 a0, .int .i64 a1, .int .i64 a2, .int .i64 a3, .int .i64 a4, .int .i64 a5, .string a6, .int .i64 a7, .string a8], undef, undef, undef, undef, undef, undef, undef, undef, undef, undef, undef], []⟩ [.code (Try.f8.body.getD .skip)] := by
    simp [Frame.enter, Frame.at, Try.func8, base, Try.f8]
  rw [e]
  have hc2 : (w.alloc (.cells #[.int .i64 a0, .int .i64 a1, .int .i64 a2, .int .i64 a3, .int .i64 a4, .int .i64 a5, .string a6, .int .i64 a7, .string a8] 26)).heap[c]? = some (.chan cap buf false s r false) := (Below.heap_alloc _ _ _ (lt_of_get hc)).trans hc
  have hb2 := cell_alloc (.cells #[.int .i64 a0, .int .i64 a1, .int .i64 a2, .int .i64 a3, .int .i64 a4, .int .i64 a5, .string a6, .int .i64 a7, .string a8] 26) hb
  refine LoneTo.goes (n := 19) ?_
  simp only [Try.f8, Option.getD_some]
  s_c stepG_seq
  s_reg
  s_op
  s_op
  s_c stepG_region_end
  s_c stepG_seq
  s_c stepG_seq
  s_reg
  s_op
  s_op
  s_op
  s_op
  s_c stepG_region_end
  s_reg
  s_op
  s_c stepG_region_end
  s_c stepG_seq
  s_reg
  s_stop
  refine LoneTo.step (step_lone_select_send_room (c := c) (cap := cap) (buf := buf) (s := s) (r := r) (tm := false) (stepG_comm (cases := #[scase c (.agg #[.int .i64 a0, .int .i64 a1, .int .i64 a2, .int .i64 a3, .int .i64 a4, .int .i64 a5, .string a6, .int .i64 a7, .string a8]) Z.v]) (blocking := false) (shape := .select) (w' := _) rfl rfl (by decide) (by simp [go_sem, execOp, scase, Act.eval, Z, F.v, F.cs])) hc2 hroom) ?_
  rw [Frame.finish_at]
  walk_nrm
  refine LoneTo.goes (n := 10) ?_
  s_op
  s_op
  s_c stepG_region_end
  s_c stepG_block
  s_cond true
  s_c stepG_seq
  s_reg
  s_op
  s_c stepG_region_end
  s_c stepG_ret'
  s_stop
  exact LoneTo.done ⟨.returned (.bool true), _, rfl, ⟨rfl, _, rfl⟩, rfl, rfl, rfl, rfl, _, Try.func8, by simp [results, Try.f8, Frame.at]⟩
set_option maxRecDepth 100000 in
theorem put_full {b c cap s r : Nat} {buf : Array Value} (f : F) (w : World) (hb : w.cell? ⟨b, 0, none⟩ = some (.chan (some c))) (hc : w.heap[c]? = some (.chan cap buf false s r false)) (hfull : cap ≤ buf.size) :
    Calls Try.prog 8 #[.pointer (some ⟨b, 0, none⟩), f.v] w fun e w' => e = .returned (.bool false) ∧ ∃ ob, w' = w.alloc ob := by
  obtain ⟨a0, a1, a2, a3, a4, a5, a6, a7, a8⟩ := f
  simp only [F.v, F.cs]
  refine calls_of_loneTo fun cs => ?_
  have e : Frame.enter Try.prog 8 #[.pointer (some ⟨b, 0, none⟩), .agg #[.int .i64 a0, .int .i64 a1, .int .i64 a2, .int .i64 a3, .int .i64 a4, .int .i64 a5, .string a6, .int .i64 a7, .string a8]] .normal = (base 8).at ⟨#[.pointer (some ⟨b, 0, none⟩), .agg #[.int .i64 a0, .int .i64 a1, .int .i64 a2, .int .i64 a3, .int .i64 a4, .int .i64 a5, .string a6, .int .i64 a7, .string a8], undef, undef, undef, undef, undef, undef, undef, undef, undef, undef, undef], []⟩ [.code (Try.f8.body.getD .skip)] := by
    simp [Frame.enter, Frame.at, Try.func8, base, Try.f8]
  rw [e]
  have hc2 : (w.alloc (.cells #[.int .i64 a0, .int .i64 a1, .int .i64 a2, .int .i64 a3, .int .i64 a4, .int .i64 a5, .string a6, .int .i64 a7, .string a8] 26)).heap[c]? = some (.chan cap buf false s r false) := (Below.heap_alloc _ _ _ (lt_of_get hc)).trans hc
  have hb2 := cell_alloc (.cells #[.int .i64 a0, .int .i64 a1, .int .i64 a2, .int .i64 a3, .int .i64 a4, .int .i64 a5, .string a6, .int .i64 a7, .string a8] 26) hb
  refine LoneTo.goes (n := 19) ?_
  simp only [Try.f8, Option.getD_some]
  s_c stepG_seq
  s_reg
  s_op
  s_op
  s_c stepG_region_end
  s_c stepG_seq
  s_c stepG_seq
  s_reg
  s_op
  s_op
  s_op
  s_op
  s_c stepG_region_end
  s_reg
  s_op
  s_c stepG_region_end
  s_c stepG_seq
  s_reg
  s_stop
  refine LoneTo.step (step_lone_select_send_full (c := c) (cap := cap) (buf := buf) (s := s) (r := r) (tm := false) (stepG_comm (cases := #[scase c (.agg #[.int .i64 a0, .int .i64 a1, .int .i64 a2, .int .i64 a3, .int .i64 a4, .int .i64 a5, .string a6, .int .i64 a7, .string a8]) Z.v]) (blocking := false) (shape := .select) (w' := _) rfl rfl (by decide) (by simp [go_sem, execOp, scase, Act.eval, Z, F.v, F.cs])) hc2 hfull) ?_
  rw [Frame.finish_at]
  walk_nrm
  refine LoneTo.goes (n := 10) ?_
  s_op
  s_op
  s_c stepG_region_end
  s_c stepG_block
  s_cond false
  s_c stepG_seq
  s_reg
  s_op
  s_c stepG_region_end
  s_c stepG_ret'
  s_stop
  exact LoneTo.done ⟨.returned (.bool false), _, rfl, ⟨rfl, _, rfl⟩, rfl, rfl, rfl, rfl, _, Try.func8, by simp [results, Try.f8, Frame.at]⟩

set_option maxRecDepth 100000 in
theorem take_full {b c cap s r : Nat} {buf : Array Value} (f : F) (w : World) (hb : w.cell? ⟨b, 0, none⟩ = some (.chan (some c))) (hc : w.heap[c]? = some (.chan cap buf false s r false)) (hsome : 0 < buf.size) (hf : buf.getD 0 undef = f.v) :
    Calls Try.prog 10 #[.pointer (some ⟨b, 0, none⟩)] w fun e w' => e = .returned (.tuple #[f.v, .bool true]) ∧ ∃ ob1 ob2, w' = ((w.setChan c cap (buf.extract 1 buf.size) false s (r + 1) false).alloc ob1).alloc ob2 := by
  obtain ⟨a0, a1, a2, a3, a4, a5, a6, a7, a8⟩ := f
  simp only [F.v, F.cs] at hf ⊢
  refine calls_of_loneTo fun cs => ?_
  have e : Frame.enter Try.prog 10 #[.pointer (some ⟨b, 0, none⟩)] .normal = (base 10).at ⟨#[.pointer (some ⟨b, 0, none⟩), undef, undef, undef, undef, undef, undef, undef, undef, undef, undef, undef, undef, undef, undef], []⟩ [.code (Try.f10.body.getD .skip)] := by
    simp [Frame.enter, Frame.at, Try.func10, base, Try.f10]
  rw [e]
  have hb2 := cell_alloc (.cells #[.int .i64 0, .int .i64 0, .int .i64 0, .int .i64 0, .int .i64 0, .int .i64 0, .string ⟨#[]⟩, .int .i64 0, .string ⟨#[]⟩] 26) hb
  have hc2 : (w.alloc (.cells #[.int .i64 0, .int .i64 0, .int .i64 0, .int .i64 0, .int .i64 0, .int .i64 0, .string ⟨#[]⟩, .int .i64 0, .string ⟨#[]⟩] 26)).heap[c]? = some (.chan cap buf false s r false) := (Below.heap_alloc _ _ _ (lt_of_get hc)).trans hc
  refine LoneTo.goes (n := 19) ?_
  simp only [Try.f10, Option.getD_some]
  s_c stepG_seq
  s_reg
  s_op
  s_op
  s_c stepG_region_end
  s_c stepG_seq
  s_reg
  s_op
  s_op
  s_op
  s_op
  s_c stepG_region_end
  s_c stepG_seq
  s_reg
  s_stop
  refine LoneTo.step (step_lone_select_recv_buf (c := c) (z := Z.v) (cap := cap) (buf := buf) (closed := false) (s := s) (r := r) (tm := false) (stepG_comm (cases := #[rcase c Z.v]) (blocking := false) (shape := .select) (w' := _) rfl rfl (by decide) (by simp [go_sem, execOp, rcase, Act.eval, Z, F.v, F.cs])) hc2 hsome) ?_
  rw [Frame.finish_at, hf]
  walk_nrm
  rw [setChan_alloc w _ (lt_of_get hc)]
  obtain ⟨W, hW⟩ : ∃ W, W = w.setChan c cap (buf.extract 1 buf.size) false s (r + 1) false := ⟨_, rfl⟩
  have hs : w.heap.size = W.heap.size := by rw [hW, size_setChan]
  rw [← hW, hs]
  have HW : Hid (W = w.setChan c cap (buf.extract 1 buf.size) false s (r + 1) false) := hW
  clear hs hW hb2 hc2 hb hc hf e hsome
  refine LoneTo.goes (n := 30) ?_
  s_op
  s_op
  s_c stepG_region_end
  s_c stepG_block
  s_cond true
  s_c stepG_seq
  s_reg
  s_op
  s_op
  s_op
  s_c stepG_region_end
  s_c stepG_seq
  s_reg
  s_op
  s_op
  s_op
  s_c stepG_region_end
  s_c stepG_ret'
  s_stop
  exact LoneTo.done ⟨.returned (.tuple #[.agg #[.int .i64 a0, .int .i64 a1, .int .i64 a2, .int .i64 a3, .int .i64 a4, .int .i64 a5, .string a6, .int .i64 a7, .string a8], .bool true]), _, rfl, ⟨rfl, _, _, by rw [HW.out]⟩, rfl, rfl, rfl, rfl, _, Try.func10, by simp [results, Try.f10, Frame.at]; go_simp⟩
set_option maxRecDepth 100000 in
theorem take_none {b c cap s r : Nat} (w : World) (hb : w.cell? ⟨b, 0, none⟩ = some (.chan (some c))) (hc : w.heap[c]? = some (.chan cap #[] false s r false)) :
    Calls Try.prog 10 #[.pointer (some ⟨b, 0, none⟩)] w fun e w' => e = .returned (.tuple #[Z.v, .bool false]) ∧ ∃ ob, w' = w.alloc ob := by
  simp only [Z, F.v, F.cs]
  refine calls_of_loneTo fun cs => ?_
  have e : Frame.enter Try.prog 10 #[.pointer (some ⟨b, 0, none⟩)] .normal = (base 10).at ⟨#[.pointer (some ⟨b, 0, none⟩), undef, undef, undef, undef, undef, undef, undef, undef, undef, undef, undef, undef, undef, undef], []⟩ [.code (Try.f10.body.getD .skip)] := by
    simp [Frame.enter, Frame.at, Try.func10, base, Try.f10]
  rw [e]
  have hb2 := cell_alloc (.cells #[.int .i64 0, .int .i64 0, .int .i64 0, .int .i64 0, .int .i64 0, .int .i64 0, .string ⟨#[]⟩, .int .i64 0, .string ⟨#[]⟩] 26) hb
  have hc2 : (w.alloc (.cells #[.int .i64 0, .int .i64 0, .int .i64 0, .int .i64 0, .int .i64 0, .int .i64 0, .string ⟨#[]⟩, .int .i64 0, .string ⟨#[]⟩] 26)).heap[c]? = some (.chan cap #[] false s r false) := (Below.heap_alloc _ _ _ (lt_of_get hc)).trans hc
  refine LoneTo.goes (n := 19) ?_
  simp only [Try.f10, Option.getD_some]
  s_c stepG_seq
  s_reg
  s_op
  s_op
  s_c stepG_region_end
  s_c stepG_seq
  s_reg
  s_op
  s_op
  s_op
  s_op
  s_c stepG_region_end
  s_c stepG_seq
  s_reg
  s_stop
  refine LoneTo.step (step_lone_select_default (c := c) (z := Z.v) (cap := cap) (s := s) (r := r) (tm := false) (stepG_comm (cases := #[rcase c Z.v]) (blocking := false) (shape := .select) (w' := _) rfl rfl (by decide) (by simp [go_sem, execOp, rcase, Act.eval, Z, F.v, F.cs])) hc2) ?_
  rw [Frame.finish_at]
  simp only [Z, F.v, F.cs]
  walk_nrm
  clear hb2 hc2 hb hc e
  refine LoneTo.goes (n := 30) ?_
  s_op
  s_op
  s_c stepG_region_end
  s_c stepG_block
  s_cond false
  s_c stepG_seq
  s_reg
  s_op
  s_op
  s_op
  s_c stepG_region_end
  s_c stepG_ret'
  s_stop
  exact LoneTo.done ⟨.returned (.tuple #[.agg #[.int .i64 0, .int .i64 0, .int .i64 0, .int .i64 0, .int .i64 0, .int .i64 0, .string ⟨#[]⟩, .int .i64 0, .string ⟨#[]⟩], .bool false]), _, rfl, ⟨rfl, _, rfl⟩, rfl, rfl, rfl, rfl, _, Try.func10, by simp [results, Try.f10, Frame.at]; go_simp⟩
end Go.Proofs.Ytpepklgahljhbaa
