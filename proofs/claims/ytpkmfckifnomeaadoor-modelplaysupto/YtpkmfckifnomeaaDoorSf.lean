/-
  ONE ENTRY ALONE; what came in.
-/
import Derived.Test.YtpkmfckifnomeaaDoorRuns
namespace Go.Proofs.YtpkmfckifnomeaaDoor
open Go.RowKit

open Go.Lib (TabIs pow10Tab)
theorem look_self (e : En) : look (L e.key) [e] = some e := by simp [look]
theorem got_self (e : En) : got [e] (L e.key) = e := by unfold got; rw [look_self]; rfl
theorem liv_self (e : En) (now : Int) (h : lv e.dl now = true) : liv [e] e.key now = (e, true) := by
  unfold liv
  rw [look_self, got_self, h]; rfl
theorem liv_over (e : En) (now : Int) (h : lv e.dl now = false) : liv [e] e.key now = (⟨e.key, 0, 0, ⟨#[]⟩, 0⟩, false) := by
  unfold liv
  rw [look_self, got_self, h]; rfl
theorem liv_nil (k : ByteArray) (now : Int) : liv [] k now = (⟨k, 0, 0, ⟨#[]⟩, 0⟩, false) := rfl
theorem del_self (e : En) : del (L e.key) [e] = [] := by simp [del]
theorem put_self (e e' : En) (h : e'.key = e.key) : put e' [e] = [e'] := by
  unfold put
  rw [h, del_self]; rfl
theorem put_nil (e : En) : put e [] = [e] := rfl
theorem fnd_self (e : En) (now : Int) (h : lv e.dl now = true) : fnd [e] now [e.key] = [e] := by
  unfold fnd
  simp [liv_self e now h]
theorem fnd_over (e : En) (now : Int) (h : lv e.dl now = false) : fnd [e] now [e.key] = [] := by
  unfold fnd
  simp [liv_over e now h]
theorem fnd_nil (k : ByteArray) (now : Int) : fnd [] now [k] = [] := rfl
/-- What came in: so many values at a place. -/
def CellF (w : World) (a : Option Addr) (f : Nat → Value) (len : Nat) : Prop := len = 0 ∨ ∃ p off, a = some ⟨p, off, none⟩ ∧ ∀ i, i < len → w.cell? ⟨p, off + i, none⟩ = some (f i)
theorem CellF.below {w w' : World} {a : Option Addr} {f : Nat → Value} {len : Nat} (h : CellF w a f len) (b : Below w.heap.size w w') : CellF w' a f len := by
  rcases h with h | ⟨p, off, h1, h2⟩
  · exact .inl h
  · exact .inr ⟨p, off, h1, fun i hi => cell_b (h2 i hi) b⟩
theorem CellF.at_ {w : World} {a : Option Addr} {f : Nat → Value} {len : Nat} (h : CellF w a f len) {i : Nat} (hi : i < len) : ∃ p off, a = some ⟨p, off, none⟩ ∧ w.cell? ⟨p, off + i, none⟩ = some (f i) := by
  rcases h with h | ⟨p, off, h1, h2⟩
  · omega
  · exact ⟨p, off, h1, h2 i hi⟩
theorem str_hi (s : ByteArray) (m : Nat) (h : m ≤ s.size) (w : World) : (Instr.sliceAt 9 (.string s) none (some (.int .i64 (m : Int))) none).run Tryd.prog w = .ok (.string (S ((L s).take m))) w := by
  rw [run_sliceAt_string _ _ _ _ _ _ under9, run_slice_string_h _ _ _ under9 _ _ (by omega) (by omega)]
  rw [show s.extract 0 ((m : Int)).toNat = S ((L s).take m) from L_inj (by rw [L_extract]; rfl)]
theorem fld0 (k : Int) (v : Value) (g : Bool) (n : Int) (t : ByteArray) (w : World) : (Instr.field 32 (.agg #[.int .i64 k, v, .bool g, .int .u64 n, .string t, .int .i64 0, .int .i64 0, .int .i64 0, .int .i64 0]) 0).run Tryd.prog w = .ok (.int .i64 k) w := by kernel_rfl
theorem fld1 (k : Int) (a : Option Addr) (m c : Nat) (g : Bool) (n : Int) (t : ByteArray) (w : World) : (Instr.field 32 (.agg #[.int .i64 k, .slice a m c, .bool g, .int .u64 n, .string t, .int .i64 0, .int .i64 0, .int .i64 0, .int .i64 0]) 1).run Tryd.prog w = .ok (.slice a m c) w := by kernel_rfl
theorem stp_keep {r : Rq} {e e' : En} {now ver : Int} {a : Ab} (hk : e'.key = e.key) (h : q1 r e.key now ver [e] = kpt a e') : stp r e.key now ver [e] = [e'] := by
  unfold stp
  rw [h]
  exact put_self e e' hk
theorem stp_same {r : Rq} {k : ByteArray} {l : List En} {now ver : Int} {a : Ab} (h : q1 r k now ver l = tld a) : stp r k now ver l = l := by
  unfold stp
  rw [h]; rfl
theorem stp_drop {r : Rq} {e : En} {now ver : Int} {a : Ab} (h : q1 r e.key now ver [e] = (a, e0, false, true)) : stp r e.key now ver [e] = [] := by
  unfold stp
  rw [h]
  exact del_self e
theorem stp_new {r : Rq} {k : ByteArray} {e : En} {now ver : Int} {a : Ab} (h : q1 r k now ver [] = kpt a e) : stp r k now ver [] = [e] := by
  unfold stp
  rw [h]; rfl
end Go.Proofs.YtpkmfckifnomeaaDoor
