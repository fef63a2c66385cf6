/-
  LITERALS of bytes; SAME that says no; what is taken as a number has its bytes.
-/
import Derived.Test.YtcdkpflhpeflcaaRead
namespace Go.Proofs.Ytcdkpflhpeflcaa
open Go.RowKit

theorem lit_row (w : World) (l : List Nat) (cs : Array Value) (h : cs = (cl l).toArray) : RowF (w.alloc (.cells cs 5)) (some ⟨w.heap.size, 0, none⟩) (lf l) l.length :=
  .inr ⟨w.heap.size, 0, rfl, fun i hi => by rw [World.cell?_alloc_new, h, Nat.zero_add, List.getElem?_toArray]; exact cl_at hi⟩
theorem lit_below (w0 w : World) (o : Obj) (h : Below w0.heap.size w0 w) : Below w0.heap.size w0 (w.alloc o) := h.alloc h.size o
/-- A list of the call's own, held against a literal of the same bytes. -/
theorem same_lit (w w2 : World) (a : Option Addr) (c k : Nat) (l : List Nat) (cs : Array Value) (hcs : cs = (cl l).toArray) (hl : l.length = k) (hk : k ≤ 1000) (r : RowF w2 a (lf l) l.length) (hb : Below w.heap.size w w2) :
    Calls Try.prog 7 #[.slice a k c, .slice (some ⟨w2.heap.size, 0, none⟩) k k] (w2.alloc (.cells cs 5)) fun e w' => e = .returned (.bool true) ∧ Below w.heap.size w w' := by
  subst hl
  refine (same_any a _ l.length c _ (lf l) (lf l) (by omega) (fun _ _ => rfl) _ (r.below (lit_below _ _ _ (Below.refl _ _))) (lit_row w2 l _ hcs)).mono ?_
  rintro e w3 ⟨rfl, d, rfl⟩
  exact ⟨rfl, below_drewN (lit_below _ _ _ hb) d⟩
theorem lf8 (l : List Nat) (h : l.all (· < 256) = true) (i : Nat) : lf l i < 256 := lf_lt (fun x hx => by simpa using List.all_eq_true.1 h x hx) i
theorem least_diff (f g : Nat → Nat) : ∀ n, (∃ i, i < n ∧ f i ≠ g i) → ∃ q, q < n ∧ f q ≠ g q ∧ ∀ i, i < q → f i = g i := by
  intro n
  induction n with
  | zero => rintro ⟨i, h, _⟩; omega
  | succ n ih =>
    rintro ⟨i, h1, h2⟩
    by_cases h : ∃ i, i < n ∧ f i ≠ g i
    · obtain ⟨q, h3, h4, h5⟩ := ih h
      exact ⟨q, by omega, h4, h5⟩
    · have : i = n := by
        by_cases e : i = n
        · exact e
        · exact absurd ⟨i, by omega, h2⟩ h
      subst this
      refine ⟨i, by omega, h2, fun j hj => ?_⟩
      by_cases e : f j = g j
      · exact e
      · exact absurd ⟨j, hj, e⟩ h
set_option maxHeartbeats 1000000 in
theorem same_no (a a' : Option Addr) (n n' c c' : Nat) (f g : Nat → Nat) (hn : n ≤ 140737488355328) (hfg : n ≠ n' ∨ ∃ i, i < n ∧ f i ≠ g i) (w : World) (ra : RowF w a f n) (rb : RowF w a' g n') :
    Calls Try.prog 7 #[.slice a n c, .slice a' n' c'] w fun e w' => e = .returned (.bool false) ∧ ∃ m, w' = w.drewN m := by
  by_cases hne : n = n'
  · subst hne
    obtain ⟨q, hq1, hq2, hq3⟩ := least_diff f g n (hfg.resolve_left (fun h => h rfl))
    have ne : ((n : Int) != (n : Int)) = false := by simp
    obtain ⟨p, o, rfl, q1⟩ : ∃ p off, a = some ⟨p, off, none⟩ ∧ ∀ i, i < n → w.cell? ⟨p, off + i, none⟩ = some (.int .u8 ((f i : Nat) : Int)) := by
      rcases ra with r | r
      · exfalso; omega
      · exact r
    obtain ⟨p', o', rfl, q2⟩ : ∃ p off, a' = some ⟨p, off, none⟩ ∧ ∀ i, i < n → w.cell? ⟨p, off + i, none⟩ = some (.int .u8 ((g i : Nat) : Int)) := by
      rcases rb with r | r
      · exfalso; omega
      · exact r
    have HA : Hid (∀ i, i < n → w.cell? ⟨p, o + i, none⟩ = some (.int .u8 ((f i : Nat) : Int))) := q1
    have HB : Hid (∀ i, i < n → w.cell? ⟨p', o' + i, none⟩ = some (.int .u8 ((g i : Nat) : Int))) := q2
    have HE : Hid (∀ i, i < q → f i = g i) := hq3
    have HD : Hid (f q ≠ g q) := hq2
    clear ra rb q1 q2 hq2 hq3 hfg
    go_enter Try.func7, Try.ntmps7
    go_wp2_with fail
    go_loopw [5] (fun i wr => ∃ j m : Nat, j ≤ q ∧ i = .int .i64 (j : Int) ∧ Hid (wr = w.drewN m)) (fun i _ => n - (intOf i).toNat)
    case atStart => exact ⟨0, 0, by omega, rfl, rfl⟩
    case round =>
      obtain ⟨j, m, hj, rfl, HW⟩ := hrel
      have hi1 : (j : Int) < (n : Int) := by omega
      have c1 : wr.cell? ⟨p, o + j, none⟩ = some (.int .u8 ((f j : Nat) : Int)) := (by rw [HW.out]; exact HA.out j (by omega))
      have c2 : wr.cell? ⟨p', o' + j, none⟩ = some (.int .u8 ((g j : Nat) : Int)) := (by rw [HW.out]; exact HB.out j (by omega))
      by_cases hlt : j < q
      · rw [← HE.out j hlt] at c2
        have ne2 : (((f j : Nat) : Int) != ((f j : Nat) : Int)) = false := by simp
        go_wp2_with fail
        go_quiet (fail)
        go_wp2_with fail
        exact ⟨⟨j + 1, m + nq, by omega, by go_num, by show _ = _; rw [HW.out, World.drewN_drewN]⟩, by simp [intOf]; omega⟩
      · have e : j = q := by omega
        subst e
        have ne2 : (((f j : Nat) : Int) != ((g j : Nat) : Int)) = true := by have := HD.out; simp; omega
        go_wp2_with fail
        go_quiet (fail)
        go_wp2_with fail
        go_ret
        exact ⟨rfl, m + nq, by rw [HW.out, World.drewN_drewN]⟩
  · have ne : ((n : Int) != (n' : Int)) = true := by simp; omega
    go_enter Try.func7, Try.ntmps7
    go_wp2_with fail
    go_ret
    exact ⟨rfl, 0, rfl⟩
/-- Two lists. -/
theorem same_lists (a a' : Option Addr) (c c' : Nat) (l l' : List Nat) (hl : l.length ≤ 1000) (hl' : l'.length ≤ 1000) (b : Bool) (hb : b = decide (l = l')) (w : World) (ra : RowF w a (lf l) l.length) (rb : RowF w a' (lf l') l'.length) :
    Calls Try.prog 7 #[.slice a l.length c, .slice a' l'.length c'] w fun e w' => e = .returned (.bool b) ∧ ∃ m, w' = w.drewN m := by
  subst hb
  by_cases h : l = l'
  · subst h
    rw [decide_eq_true rfl]
    exact same_any a a' l.length c c' (lf l) (lf l) (by omega) (fun _ _ => rfl) w ra rb
  · rw [decide_eq_false h]
    refine same_no a a' l.length l'.length c c' (lf l) (lf l') (by omega) ?_ w ra rb
    by_cases h1 : l.length = l'.length
    · refine .inr (Classical.byContradiction fun h2 => h (list_ext h1 fun i hi => ?_))
      exact Classical.byContradiction fun h3 => h2 ⟨i, hi, h3⟩
    · exact .inl h1

theorem enc_pk {f : Nat → Nat} {len c s : Nat} (fb : ∀ i, f i < 256) (h : pk f len 0 0 = (c, s, 0)) : enc c = tab f s := by
  rw [pk_0] at h
  obtain ⟨t, h1, h2, _⟩ := scan_enc (fun i => f (0 + i)) (fun i => fb _) _ _ _ _ _ h
  have : c = t := by simpa using h1
  rw [this, h2, Nat.sub_zero]
  exact List.map_congr_left (fun j _ => by rw [Nat.zero_add, Nat.zero_add])
end Go.Proofs.Ytcdkpflhpeflcaa
