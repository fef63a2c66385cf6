/-
  THE TABLES: what Make and double do, as contracts over the translated program; what the tables hold.
-/
import Derived.Test.YtmhhegkpkncebaaRows
import Derived.Test.YtmhhegkpkncebaaMath
import Derived.WalkKit
import Derived.WalkSpells
import Derived.WalkLawsBesides
import Derived.Deep.WholeRow
import Derived.Laws.CopyOwn
namespace Go.Proofs.Ytmhhegkpkncebaa
open Go.RowKit

theorem ret_int {k : IntKind} {a b : Int} (h : a = b) : Ending.returned (.int k a) = .returned (.int k b) := by rw [h]

theorem ofInt_i64 (a : Nat) (ha : a < 2 ^ 62) : (BitVec.ofInt 64 (a : Int)).toNat = a := by
  rw [BitVec.ofInt_natCast, BitVec.toNat_ofNat]; exact Nat.mod_eq_of_lt (by omega)
theorem xor_i64 (a b : Nat) (ha : a < 2 ^ 62) (hb : b < 2 ^ 62) : bits .xor .i64 (a : Int) (b : Int) = ((a ^^^ b : Nat) : Int) := by
  have hx : a ^^^ b < 2 ^ 62 := Nat.xor_lt_two_pow ha hb
  show IntKind.i64.wrap ((BitVec.ofInt 64 (a : Int) ^^^ BitVec.ofInt 64 (b : Int)).toNat : Int) = _
  rw [BitVec.toNat_xor, ofInt_i64 a ha, ofInt_i64 b hb, IntKind.wrap_i64]
  omega

set_option maxHeartbeats 400000 in
theorem dbl_any (x : Nat) (hx : x < 256) (w : World) :
    Calls Try.prog 41 #[.int .i64 (x : Int)] w fun e w' => e = .returned (.int .i64 (Gf.dbl x : Nat)) ∧ w' = w := by
  by_cases h : 127 < x
  · go_enter Try.func41, Try.ntmps41
    go_wp2
    go_ret
    refine ⟨ret_int ?_, rfl⟩
    have := xor_i64 (2 * x) 285 (by omega) (by omega)
    rw [show ((x : Int) * 2) = ((2 * x : Nat) : Int) from by omega]
    unfold Gf.dbl; rw [if_pos (by omega)]; exact this
  · go_enter Try.func41, Try.ntmps41
    go_wp2
    go_ret
    refine ⟨ret_int ?_, rfl⟩
    unfold Gf.dbl; rw [if_neg (by omega)]; omega

/-- The cells of a whole struct into a block that is known whole. -/
theorem run_storeCells_row {P : Program} (w : World) (g : Nat) (t : TypeId) (old cells : Array Value) (hg : w.heap[g]? = some (.cells old t (0, 0)))
    (ho : old.size = cells.size) (h1 : cells.all (·.oneCell') = true) :
    (storeCells ⟨g, 0, none⟩ cells.toList).run P w = .ok () (w.setRow g cells) := by
  have := run_storeCells_from (P := P) g t cells.toList 0 old w hg (by simp; omega) (fun v hv => (Array.all_eq_true_iff_forall_mem.1 h1) v (by simpa using hv))
  simpa using this

def zc : Array Value := Array.replicate 766 (.int .u8 0)
theorem zero25 (w : World) : (zeroValue 60).run Try.prog w = .ok (.agg zc) w := by kernel_rfl
def arr : Nat → Array Value
  | 0 => zc
  | k + 1 => if k < 255 then ((arr k).setIfInBounds k (.int .u8 (Gf.ex k : Nat))).setIfInBounds (510 + Gf.ex k) (.int .u8 (k : Nat)) else (arr k).setIfInBounds k (.int .u8 (Gf.ex k : Nat))

def tab : Array Value := arr 510
theorem arr_size (k : Nat) : (arr k).size = 766 := by
  induction k with
  | zero => simp [arr, zc]
  | succ k ih => unfold arr; split <;> simp [ih]
theorem arr_some (k i : Nat) (h : i < 766) : ∃ v, (arr k)[i]? = some v := ⟨(arr k)[i]'(by rw [arr_size]; exact h), by simp [arr_size, h]⟩

def IsArr (k : Nat) (A : Array Value) : Prop := A = arr k
theorem IsArr.size {k : Nat} {A : Array Value} (h : IsArr k A) : A.size = 766 := by rw [show A = arr k from h, arr_size]
theorem one_set {A : Array Value} (h : ∀ v ∈ A, v.oneCell' = true) (i : Nat) {u : Value} (hu : u.oneCell' = true) : ∀ v ∈ A.setIfInBounds i u, v.oneCell' = true := by
  intro v hv
  rcases Array.mem_or_eq_of_mem_setIfInBounds hv with h1 | h1
  · exact h v h1
  · rw [h1]; exact hu
theorem arr_one' (k : Nat) : ∀ v ∈ arr k, v.oneCell' = true := by
  induction k with
  | zero => intro v hv; simp [arr, zc] at hv; rw [hv]; rfl
  | succ k ih =>
    unfold arr; split
    · exact one_set (one_set ih _ rfl) _ rfl
    · exact one_set ih _ rfl
theorem arr_one (k : Nat) : (arr k).all (·.oneCell') = true := Array.all_eq_true_iff_forall_mem.2 (arr_one' k)
theorem heap_two_last (w : World) (o1 o2 : Obj) : ((w.alloc o1).alloc o2).heap[w.heap.size + 1]? = some o2 := by
  have h := heap_alloc_last (w.alloc o1) o2
  rwa [World.size_alloc] at h
theorem heap_two_first (w : World) (o1 o2 : Obj) : ((w.alloc o1).alloc o2).heap[w.heap.size]? = some o1 := by
  rw [Below.heap_alloc _ _ _ (by rw [World.size_alloc]; omega)]
  exact heap_alloc_last w o1
theorem IsArr.one {k : Nat} {A : Array Value} (h : IsArr k A) : A.all (·.oneCell') = true := by rw [show A = arr k from h]; exact arr_one k
theorem size25 : (Try.prog.info? 60).map (·.size) = some 766 := by kernel_rfl

set_option maxHeartbeats 400000 in
set_option maxRecDepth 100000 in
theorem make_any (w : World) :
    Calls Try.prog 27 #[] w fun e w' => e = .returned (.agg tab) ∧ Below w.heap.size w w' := by
  have hz := zero25
  go_enter Try.func27, Try.ntmps27
  go_wp2_with fail
  clear hz
  go_loopw [2, 4] (fun x i wr => ∃ (k X : Nat) (A : Array Value), k ≤ 510 ∧ i = .int .i64 (k : Nat) ∧ Hid (X = Gf.ex k) ∧ x = .int .i64 (X : Nat) ∧ IsArr k A ∧ wr = (w.alloc (.cells zc 60)).alloc (.cells A 60)) (fun _ i _ => 510 - (intOf i).toNat)
  case atStart => exact ⟨0, 1, zc, by omega, rfl, rfl, rfl, rfl, rfl⟩
  case round =>
    obtain ⟨k, X, A, hk, rfl, HX, rfl, HA, rfl⟩ := hrel
    have hx : X < 256 := by rw [HX.out]; exact Gf.ex_lt k
    have hs := HA.size
    by_cases hlt : k < 510
    · obtain ⟨v1, hv1⟩ : ∃ v, A[k]? = some v := ⟨A[k]'(by omega), by simp⟩
      by_cases h2 : k < 255
      · obtain ⟨v2, hv2⟩ : ∃ v, (A.setIfInBounds k (.int .u8 (X : Nat)))[510 + X]? = some v := ⟨(A.setIfInBounds k (.int .u8 (X : Nat)))[510 + X]'(by simp; omega), by simp⟩
        go_wp2_with (go_at_call 41; refine (dbl_any _ (by assumption) _).mono ?_; rintro e w' ⟨rfl, rfl⟩)
        go_roundw
        case rel => exact ⟨k + 1, Gf.dbl X, _, by omega, by go_num, by rw [HX.out]; rfl, rfl, by rw [show A = arr k from HA, HX.out]; show _ = arr (k + 1); rw [arr, if_pos h2], rfl⟩
        case measure => simp [intOf]; omega
      · go_wp2_with (go_at_call 41; refine (dbl_any _ (by assumption) _).mono ?_; rintro e w' ⟨rfl, rfl⟩)
        go_roundw
        case rel => exact ⟨k + 1, Gf.dbl X, _, by omega, by go_num, by rw [HX.out]; rfl, rfl, by rw [show A = arr k from HA, HX.out]; show _ = arr (k + 1); rw [arr, if_neg h2], rfl⟩
        case measure => simp [intOf]; omega
    · have HK : Hid (k = 510) := by show k = 510; omega
      have h0 := HA.one
      go_wp2_with fail
      refine wp_load_row 60 (.tmp 1) rfl (w.heap.size + 1) rfl 60 A (0, 0) _ (heap_two_last _ _ _) Try.underlying60 rfl (by rw [hs]; exact size25) ?_
      have hst : Sem.run Try.prog (storeCells ⟨w.heap.size, 0, none⟩ A.toList) ((w.alloc (.cells zc 60)).alloc (.cells A 60)) = .ok () (((w.alloc (.cells zc 60)).alloc (.cells A 60)).setRow w.heap.size A) :=
        run_storeCells_row _ _ 60 zc A (heap_two_first _ _ _) (by rw [hs]; rfl) h0
      go_wp2_with fail
      refine bodyPost_ret (v := .agg A) (results_cell_row Try.results27 _ _ w.heap.size 60 A (0, 0) _ rfl (setRow_heap _ _ zc _ _ _ (heap_two_first _ _ _)) Try.underlying60 rfl (by rw [hs]; exact size25)) rfl ⟨?_, ?_⟩
      · rw [show A = arr k from HA, HK.out]; rfl
      · exact below_setRow (((Below.refl _ _).alloc (Nat.le_refl _) _).alloc (by simp) _) (Nat.le_refl _) _

theorem tab_size : tab.size = 766 := arr_size 510
theorem tab_one : tab.all (·.oneCell') = true := arr_one 510
end Go.Proofs.Ytmhhegkpkncebaa
