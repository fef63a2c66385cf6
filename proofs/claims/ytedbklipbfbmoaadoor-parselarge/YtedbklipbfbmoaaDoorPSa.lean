/-
  The same events: Requests, Answers, same.
-/
import Derived.Test.YtedbklipbfbmoaaDoorPRu
import Derived.Test.YtedbklipbfbmoaaDoorReqs
import Derived.StillTailTactics
import Derived.Laws.StructEq
namespace Go.Proofs.YtedbklipbfbmoaaDoor
open Go.RowKit

set_option maxRecDepth 100000 in
set_option maxHeartbeats 2000000 in
theorem reqs_d (dt : ByteArray) (V f x b c D : Int) (q : Bool) (ks : List B) (a1 a2 : Option Addr) (n1 n2 c1 c2 : Nat) (hl : ks.length ≤ 100000) (w : World) (h1 : Strs w (.slice a1 n1 c1) ks) (h2 : Strs w (.slice a2 n2 c2) ks) :
    Calls Tryd.prog 26 #[.agg #[.int .i64 V, .slice a1 n1 c1, .int .i64 f, .int .i64 x, .int .i64 b, .int .i64 c, .int .u64 D, .bool q, .string dt], .agg #[.int .i64 V, .slice a2 n2 c2, .int .i64 f, .int .i64 x, .int .i64 b, .int .i64 c, .int .u64 D, .bool q, .string dt]] w fun e w' => e = .returned (.bool true) ∧ Below w.heap.size w w' := by
  obtain ⟨A, hA⟩ : ∃ A : List Value, A = [.int .i64 V, .slice a1 n1 c1, .int .i64 f, .int .i64 x, .int .i64 b, .int .i64 c, .int .u64 D, .bool q, .string dt] := ⟨_, rfl⟩
  obtain ⟨B, hB⟩ : ∃ B : List Value, B = [.int .i64 V, .slice a2 n2 c2, .int .i64 f, .int .i64 x, .int .i64 b, .int .i64 c, .int .u64 D, .bool q, .string dt] := ⟨_, rfl⟩
  have b2 := alloc2_up w (.cells A.toArray 30) (.cells B.toArray 30)
  have l2 : ((w.alloc (.cells A.toArray 30)).alloc (.cells B.toArray 30)).rangeAt (w.heap.size + 1) 0 B := by
    have := lay_new (w.alloc (.cells A.toArray 30)) B
    rwa [size_alloc] at this
  have l1 : ((w.alloc (.cells A.toArray 30)).alloc (.cells B.toArray 30)).rangeAt w.heap.size 0 A := lay_up ((Below.refl _ _).alloc (Nat.le_refl _) _) (lay_new w A)
  have SM := fun hs => same_any ks a1 a2 n1 n2 c1 c2 hl ((w.alloc (.cells A.toArray 30)).alloc (.cells B.toArray 30)) (h1.below b2) hs
  have SM := SM (h2.below b2)
  have HA := Lib.hid hA
  have HB := Lib.hid hB
  have H2 := Lib.hid b2
  have L1 := Lib.hid l1
  have L2 := Lib.hid l2
  rw [hA, hB] at SM H2 L1 L2
  clear hA hB b2 l1 l2 h1 h2 HA HB
  have qq : (q == q) = true := by simp
  have dd : (dt.toList == dt.toList) = true := by simp
  go_enter Tryd.func26, Tryd.ntmps26
  go_wp2_with fail
  refine SM.mono ?_
  rintro e w3 ⟨rfl, b3⟩
  have m1 := lay_up b3 L1.out
  have m2 := lay_up b3 L2.out
  have HB3 : Hid (Below w.heap.size w w3) := Lib.hid (H2.out.trans (b3.mono H2.out.size))
  have x2 : w3.cell? ⟨w.heap.size, 2, none⟩ = some (.int .i64 f) := m1 2 _ rfl
  have x3 : w3.cell? ⟨w.heap.size, 3, none⟩ = some (.int .i64 x) := m1 3 _ rfl
  have x4 : w3.cell? ⟨w.heap.size, 4, none⟩ = some (.int .i64 b) := m1 4 _ rfl
  have x5 : w3.cell? ⟨w.heap.size, 5, none⟩ = some (.int .i64 c) := m1 5 _ rfl
  have x6 : w3.cell? ⟨w.heap.size, 6, none⟩ = some (.int .u64 D) := m1 6 _ rfl
  have x7 : w3.cell? ⟨w.heap.size, 7, none⟩ = some (.bool q) := m1 7 _ rfl
  have x8 : w3.cell? ⟨w.heap.size, 8, none⟩ = some (.string dt) := m1 8 _ rfl
  have y2 : w3.cell? ⟨w.heap.size + 1, 2, none⟩ = some (.int .i64 f) := m2 2 _ rfl
  have y3 : w3.cell? ⟨w.heap.size + 1, 3, none⟩ = some (.int .i64 x) := m2 3 _ rfl
  have y4 : w3.cell? ⟨w.heap.size + 1, 4, none⟩ = some (.int .i64 b) := m2 4 _ rfl
  have y5 : w3.cell? ⟨w.heap.size + 1, 5, none⟩ = some (.int .i64 c) := m2 5 _ rfl
  have y6 : w3.cell? ⟨w.heap.size + 1, 6, none⟩ = some (.int .u64 D) := m2 6 _ rfl
  have y7 : w3.cell? ⟨w.heap.size + 1, 7, none⟩ = some (.bool q) := m2 7 _ rfl
  have y8 : w3.cell? ⟨w.heap.size + 1, 8, none⟩ = some (.string dt) := m2 8 _ rfl
  clear m1 m2 b3 L1 L2 H2 SM
  go_wp2_with fail
  go_ret
  exact ⟨rfl, HB3.out⟩


set_option maxRecDepth 100000 in
theorem same_found (w : World) : Calls Tryd.prog 45 #[.slice none 0 0, .slice none 0 0] w fun e w' => e = .returned (.bool true) ∧ w = w' := by
  go_enter Tryd.func45, Tryd.ntmps45
  go_wp2_with fail
  go_loopw [5] (fun i wr => i = .int .i64 0 ∧ w = wr) (fun i _ => 0)
  case atStart => exact ⟨rfl, rfl⟩
  case round =>
    obtain ⟨rfl, rfl⟩ := hrel
    go_wp2_with fail
    go_ret
    exact ⟨rfl, rfl⟩
theorem part_int {P : Program} (w : World) (elem : TypeId) (k : IntKind) (he : P.underlying elem = some (.int k)) (xs : Array Value) (i : Nat) (v : Value) (hv : xs[i]? = some v) :
    (part elem xs i).run P w = .ok v w := by
  simp [part, isAgg, run_underlying he, hv]

theorem run_same_cells {P : Program} (w : World) (d : Nat) (elem : TypeId) (k : IntKind) (xs : Array Value) (he : P.underlying elem = some (.int k)) (l : List Nat) (hx : ∀ i ∈ l, ∃ q a, xs[i]? = some (.int q a)) :
    Sem.run P (forIn l ((none : Option Bool), ()) fun i _ => do
            let a ← part elem xs (i * 1)
            let b ← part elem xs (i * 1)
            let r ← Op.equalIn (d + 1) elem a b
            if (!r) = true then pure (ForInStep.done (some false, ())) else pure (ForInStep.yield (none, ()))) w = .ok (none, ()) w := by
  induction l with
  | nil => simp
  | cons i l ih =>
    obtain ⟨q, a, h⟩ := hx i (by simp)
    have hp := part_int (P := P) w elem k he xs (i * 1) _ (by rw [Nat.mul_one]; exact h)
    have he' := run_equalIn_int (P := P) w d elem q k a a he
    simp only [List.forIn_cons, Sem.run_bind, hp, Result.andThen_ok, he', beq_self_eq_true, Bool.not_true, Bool.false_eq_true, if_false, Sem.run_pure]
    exact ih (fun j hj => hx j (by simp [hj]))
theorem run_equalIn_array_self {P : Program} (w : World) (d : Nat) (t elem : TypeId) (len : Nat) (k : IntKind) (xs : Array Value) (ht : P.underlying t = some (.array len elem)) (he : P.underlying elem = some (.int k))
    (hs : (sizeOf elem).run P w = .ok 1 w) (hx : ∀ i, i < len → ∃ q a, xs[i]? = some (.int q a)) :
    (Op.equalIn (d + 1 + 1) t (.agg xs) (.agg xs)).run P w = .ok true w := by
  rw [Op.equalIn]
  simp only [Sem.run_bind, run_underlying ht, Result.andThen_ok, hs]
  rw [Std.Legacy.Range.forIn_eq_forIn_range', run_same_cells w d elem k xs he _ (fun i hi => hx i (by simpa using hi))]
  simp
theorem eq32 (w : World) : (Op.equalIn 10000 32 (.agg #[.int .i64 0, .int .i64 0, .int .i64 0, .int .i64 0]) (.agg #[.int .i64 0, .int .i64 0, .int .i64 0, .int .i64 0])).run Tryd.prog w = .ok true w :=
  run_equalIn_array_self (P := Tryd.prog) w 9998 32 3 4 .i64 #[.int .i64 0, .int .i64 0, .int .i64 0, .int .i64 0] Tryd.underlying32 Tryd.underlying3 (by kernel_rfl) (fun i hi => by
    rcases i with _ | _ | _ | _ | i
    · exact ⟨.i64, 0, rfl⟩
    · exact ⟨.i64, 0, rfl⟩
    · exact ⟨.i64, 0, rfl⟩
    · exact ⟨.i64, 0, rfl⟩
    · omega)
def AL (K : Int) (tx : ByteArray) : List Value := [.int .i64 K, .slice none 0 0, .bool false, .int .u64 0, .string tx, .int .i64 0, .int .i64 0, .int .i64 0, .int .i64 0]
set_option maxRecDepth 100000 in
set_option maxHeartbeats 1000000 in
theorem answers_any (K : Int) (tx : ByteArray) (w : World) :
    Calls Tryd.prog 27 #[.agg #[.int .i64 K, .slice none 0 0, .bool false, .int .u64 0, .string tx, .int .i64 0, .int .i64 0, .int .i64 0, .int .i64 0], .agg #[.int .i64 K, .slice none 0 0, .bool false, .int .u64 0, .string tx, .int .i64 0, .int .i64 0, .int .i64 0, .int .i64 0]] w fun e w' => e = .returned (.bool true) ∧ Below w.heap.size w w' := by
  have HB : Hid (Below w.heap.size w ((w.alloc (.cells #[.int .i64 K, .slice none 0 0, .bool false, .int .u64 0, .string tx, .int .i64 0, .int .i64 0, .int .i64 0, .int .i64 0] 34)).alloc (.cells #[.int .i64 K, .slice none 0 0, .bool false, .int .u64 0, .string tx, .int .i64 0, .int .i64 0, .int .i64 0, .int .i64 0] 34))) := Lib.hid (((Below.refl _ _).alloc (Nat.le_refl _) _).alloc (by simp) _)
  have dd : (tx.toList == tx.toList) = true := by simp
  have e32 := eq32
  go_enter Tryd.func27, Tryd.ntmps27
  go_wp2_with fail
  refine (same_found _).mono ?_
  rintro e w3 ⟨rfl, rfl⟩
  go_wp2_with fail
  go_ret
  exact ⟨rfl, HB.out⟩
end Go.Proofs.YtedbklipbfbmoaaDoor
