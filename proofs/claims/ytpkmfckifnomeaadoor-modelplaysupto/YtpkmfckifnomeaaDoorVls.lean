/-
  maps.Values OF ENTRIES: its iterator, for every loop body.
-/
import Derived.Test.YtpkmfckifnomeaaDoorFnd
import Derived.Shelf.SlIter.Collect
import Derived.Shelf.SlIter.AllValues
import Derived.RangeFuncGives
import Derived.RangeFuncMany
import Derived.Sort.MapsRangeIn
import Derived.Sort.KeysCollected
import Derived.WalkKit
import Derived.OwnWalkIn
import Derived.TacticsInMore
import Derived.RegionIn
import Derived.LoopNIn
import Derived.LoopIn
import Derived.Shelf.Abstract
namespace Go.Proofs.YtpkmfckifnomeaaDoor
open Go.RowKit Go.Maps Go.Sort Go.Shelf

theorem dm_size (es : List En) : Maps.size (dm es) = es.length := by
  show ((es.map fun e => (ky e, (.held e : DataW En))).length) = _
  rw [List.length_map]
/-- What came: entries of es. -/
def Came (es xs : List En) : Prop := (xs.map fun x => L x.key).Perm (strKeys (dm es)) ∧ ∀ x ∈ xs, look (L x.key) es = some x
set_option maxRecDepth 100000 in
set_option maxHeartbeats 1000000 in
theorem vals_in (F : Fence) (n : Nat) (hf : F.fn 51) (hro : F.round = none) (hn : 1 ≤ n) (l Bm b nn : Nat) (es : List En) (J : List En → World → Prop)
    (hY : ∀ pre x W, J pre W → pre.length < es.length → YieldAt F (n - 1) Tryd.prog l #[.agg x.cs.toArray] W fun e W' => e = .returned (.bool true) ∧ J (pre ++ [x]) W' ∧ KeepsWalks W W')
    (W : World) (hJ : AbidesFrom W.heap.size J) (hm : W.cell? ⟨Bm, 0, none⟩ = some (.map (some b))) (hown : W.ownsMap Tryd.prog 9 rdE b nn (dm es)) (h0 : J [] W) :
    CallsIn F n Tryd.prog 51 #[.func (.yield l) #[] #[], .pointer (some ⟨Bm, 0, none⟩)] W fun e W' => (∃ v, e = .returned v) ∧ ∃ xs, Came es xs ∧ J xs W' := by
  refine callsIn_of_wp Tryd.func51 rfl hf ?_ hro
  simp only [Tryd.ntmps51, List.size_toArray, List.length_cons, List.length_nil, Nat.reduceAdd, Nat.reduceSub, Array.replicate_succ, Array.replicate_zero, List.push_toArray, List.append_toArray, List.nil_append, List.cons_append]
  gi_wp2_with (first
    | (gi_at_range; refine wpListIn_range_own _ rfl _ 63 rfl 9 49 K9 under63 _ b nn _ rfl hown ?_; intro w0 hrg0 hg0 hs0)
    | gi_in)
  go_frame
  gi_loopw [4] (fun _ wr => ∃ (left : Lit → Bool) (cnt : Nat) (xs : List En), wr.ranges Tryd.prog 9 rdE b W.heap.size nn (dm es) left cnt ∧ xs.length + cnt ≤ Maps.size (dm es) ∧ Collected (dm es) left (xs.map fun x => L x.key) ∧ (∀ x ∈ xs, look (L x.key) es = some x) ∧ J xs wr)
    (fun _ wr => wr.rangeLeft b W.heap.size)
  case atStart =>
    exact ⟨_, _, [], hrg0, by simp, Collected.start (dm es), by simp, hJ [] W w0 none h0 hg0 (fun r e => by cases e)⟩
  case round =>
    obtain ⟨left, cnt, xs, hrg, hcs, hC, hV, hJs⟩ := hrel
    gi_wp2_with (first
      | (gi_at_next; refine wpListIn_next_ranges _ rfl _ rfl 9 K9 rdE encStr (fun e : En => Value.agg e.cs.toArray) (fun key kl hk => by obtain ⟨x, hx, _⟩ := Maps.keyOf_str Tryd.underlying9 hk; exact ⟨x, hx⟩) (fun v y hv => by obtain ⟨c, rfl, _⟩ := rdE_inv hv; exact ⟨c, rfl⟩) b W.heap.size nn _ _ _ rfl hrg ?_ ?_)
      | gi_in)
    · intro hc0 hl0
      gi_wp2
      go_end0
      exact ⟨⟨_, rfl⟩, xs, ⟨hC.perm hown K9 Tryd.underlying9 hl0, hV⟩, hJs⟩
    · intro x c kl yd yp w2 cnt2 hkey hlk hv hat hrg2 hlt hg2 hs2 hen
      obtain ⟨x', ex, rfl, _⟩ := Maps.keyOf_str Tryd.underlying9 hkey
      obtain rfl : x = x' := encStr_inj ex
      obtain rfl : yd = .held c := (Prod.mk.inj (Option.some.inj ((rdE_v c).symm.trans hv))).1.symm
      have hlook : look x es = some c := by
        have h := hat .nil
        rw [dm_at] at h
        cases hh : look x es with
        | none => rw [hh] at h; cases h
        | some y => rw [hh] at h; cases h; rfl
      have hkx : L c.key = x := look_key hlook
      subst hkx
      have hJ1 : J xs w2 := hJ xs wr w2 (some W.heap.size) hJs hg2 (fun r e => by cases e; exact ⟨Nat.le_refl _, hrg.iter_walk⟩)
      obtain ⟨k0, f0, d0, v0, c0⟩ := c
      have hJ2 : J xs (w2.alloc (.cells #[.string k0, .int .i64 f0, .int .i64 d0, .string v0, .int .i64 c0] 49)) := hJ xs w2 _ none hJ1 (World.grownBy_alloc w2 _ none) (fun r e => by cases e)
      obtain ⟨fn, tmps, assign, body, hy, hR⟩ := hY xs ⟨k0, f0, d0, v0, c0⟩ _ hJ2 (by rw [dm_size] at hcs; omega)
      simp only [En.cs] at hen hy
      clear hs2
      gi_wp2
      refine hR.mono ?_
      have hC2 : Collected (dm es) (fun z => left z && !z.sameKey (.string (L k0))) ((xs ++ [(⟨k0, f0, d0, v0, c0⟩ : En)]).map fun x => L x.key) := by simpa using hC.step hlk hat
      have hV2 : ∀ y ∈ xs ++ [(⟨k0, f0, d0, v0, c0⟩ : En)], look (L y.key) es = some y := fun y hy => (List.mem_append.1 hy).elim (hV y) (fun e => by simp at e; subst e; exact hlook)
      rintro e W3 ⟨rfl, hJ3, hk3⟩
      gi_wp2
      have hrg3 := hrg2.of_walks ((KeepsWalks.alloc w2 _).trans hk3)
      go_roundw
      case rel => exact ⟨_, cnt2, xs ++ [⟨k0, f0, d0, v0, c0⟩], hrg3, by simp; omega, hC2, hV2, hJ3⟩
      case measure => rw [hrg3.left_eq, hrg.left_eq]; exact hlt
/-- maps.Values hands back an iterator over the entries. -/
theorem vals_gives (F : Fence) (n : Nat) (hf : F.fn 51) (hro : F.round = none) (hn : 1 ≤ n) (Bm b nn : Nat) (es : List En) (w : World) (hBm : Bm < w.heap.size)
    (hm : w.cell? ⟨Bm, 0, none⟩ = some (.map (some b))) (hown : w.ownsMap Tryd.prog 9 rdE b nn (dm es)) :
    SeqGives F n Tryd.prog 51 #[.pointer (some ⟨Bm, 0, none⟩)] (fun e : En => Value.agg e.cs.toArray) (Came es) es.length w := fun l J W hW hJ hY h0 => by
  have hown' : W.ownsMap Tryd.prog 9 rdE b nn (dm es) := by
    have hbl := hown.lt
    obtain ⟨es', clock, hb, Ft, hs, hD⟩ := hown
    exact ⟨es', clock, (hW.block b hbl).trans hb, Ft, hs, hD⟩
  exact vals_in F n hf hro hn l Bm b nn es J hY W hJ ((hW.cell (p := ⟨Bm, 0, none⟩) hBm).trans hm) hown' h0
set_option maxHeartbeats 1000000 in
theorem values_in (F : Fence) (n : Nat) (hf : F.fn 31) (hro : F.round = none) (mb : Option Nat) (w : World) :
    CallsIn F n Tryd.prog 31 #[.map mb] w fun e w' => e = .returned (.func (.func 51) #[] #[.pointer (some ⟨w.heap.size, 0, none⟩)]) ∧ w' = w.alloc (.cells #[.map mb] 63) := by
  refine callsIn_of_wp Tryd.func31 rfl hf ?_ hro
  simp only [Tryd.ntmps31, List.size_toArray, List.length_cons, List.length_nil, Nat.reduceAdd, Nat.reduceSub, Array.replicate_succ, Array.replicate_zero, List.push_toArray, List.append_toArray, List.nil_append, List.cons_append]
  gi_wp2
  go_ret
  exact ⟨rfl, rfl⟩
end Go.Proofs.YtpkmfckifnomeaaDoor
