/-
  find: where a request stands among those that were done.
-/
import Derived.Test.YtfinaichajbnkaaGreatPcu
import Derived.WalkMore
namespace Go.Proofs.YtfinaichajbnkaaGreat
open Go.RowKit
open Wi (F)

/-- How many are below. -/
def low (d : List F) (r : Int) : Nat := (d.filter fun a => decide (a.rid < r)).length
def was (d : List F) (r : Int) : Bool := d.any fun a => a.rid == r
theorem low_le (d : List F) (r : Int) : low d r ≤ d.length := List.length_filter_le _ _
theorem low_of {d : List F} {r : Int} {k : Nat} (hk : k ≤ d.length) (h1 : ∀ a ∈ d.take k, a.rid < r) (h2 : ∀ a ∈ d.drop k, r ≤ a.rid) : low d r = k := by
  unfold low
  have e : d = d.take k ++ d.drop k := (List.take_append_drop k d).symm
  conv => lhs; rw [e]
  rw [List.filter_append, List.filter_eq_self.2 (fun a ha => by simp [h1 a ha]), List.filter_eq_nil_iff.2 (fun a ha => by have := h2 a ha; simp; omega), List.append_nil, List.length_take]
  omega
theorem up_take {d : List F} (hup : d.Pairwise fun a b => a.rid < b.rid) {p : Nat} {a : F} (hp : d[p]? = some a) : (∀ b ∈ d.take p, b.rid < a.rid) ∧ ∀ b ∈ d.drop (p + 1), a.rid < b.rid := by
  have hl := (List.getElem?_eq_some_iff.1 hp).1
  have e : d = d.take p ++ a :: d.drop (p + 1) := by
    have h := (List.getElem?_eq_some_iff.1 hp).2
    rw [← h, ← List.drop_eq_getElem_cons hl, List.take_append_drop]
  rw [e] at hup
  obtain ⟨h1, h2, h3⟩ := List.pairwise_append.1 hup
  exact ⟨fun b hb => h3 b hb a List.mem_cons_self, (List.pairwise_cons.1 h2).1⟩
theorem drop_at {d : List F} {p : Nat} {a : F} (hp : d[p]? = some a) : d.drop p = a :: d.drop (p + 1) := by
  have hl := (List.getElem?_eq_some_iff.1 hp).1
  rw [List.drop_eq_getElem_cons hl, (List.getElem?_eq_some_iff.1 hp).2]
theorem was_no {d : List F} {r : Int} (h : ∀ a ∈ d, a.rid ≠ r) : was d r = false := by
  unfold was
  rw [List.any_eq_false]
  intro a ha
  simp [h a ha]
theorem was_yes {d : List F} {r : Int} {p : Nat} {a : F} (hp : d[p]? = some a) (h : a.rid = r) : was d r = true := by
  unfold was
  rw [List.any_eq_true]
  exact ⟨a, List.mem_of_getElem? hp, by simp [h]⟩
theorem mem_td {d : List F} (k : Nat) {a : F} (h : a ∈ d) : a ∈ d.take k ∨ a ∈ d.drop k := by
  rw [← List.take_append_drop k d] at h
  exact List.mem_append.1 h
theorem ret_find {a b : Int} {p q : Bool} (h1 : a = b) (h2 : p = q) : Ending.returned (.tuple #[.int .i64 a, .bool p]) = .returned (.tuple #[.int .i64 b, .bool q]) := by rw [h1, h2]
set_option maxRecDepth 100000 in
set_option maxHeartbeats 1000000 in
theorem pfind_any (X : Nat) (D : Value) (d : List F) (r : Int) (hn : d.length ≤ 100000) (w : World) (o : Nat → Nat × Nat) (c7 : w.cell? ⟨X, 7, none⟩ = some D) (hd : OwnK w o (10, 2) 9 D d.length (fcz d)) (hup : d.Pairwise fun a b => a.rid < b.rid) :
    Calls Tryz.prog 48 #[.pointer (some ⟨X, 0, none⟩), .int .i64 r] w fun e w' => e = .returned (.tuple #[.int .i64 ((low d r : Nat) : Int), .bool (was d r)]) ∧ w = w' := by
  have HUP := hid hup
  have HD := hid hd
  obtain ⟨b, c, rfl, _⟩ := hd.form
  obtain ⟨n, hnn⟩ : ∃ n, d.length = n := ⟨_, rfl⟩
  have HN := hid hnn
  rw [hnn] at c7 hn HD
  clear hd hup hnn
  go_enter Tryz.func48, Tryz.ntmps48
  go_wp2_with fail
  go_step3
  go_wp2_with fail
  go_step3
  go_wp2_with fail
  go_loopw [6] (fun y wr => ∃ k : Nat, k ≤ n ∧ y = .int .i64 (k : Int) ∧ Hid (∀ a ∈ d.drop k, r < a.rid) ∧ w = wr) (fun y _ => (intOf y).toNat)
  case atStart => exact ⟨n, Nat.le_refl _, rfl, hid (by rw [← HN.out, List.drop_length]; exact fun a ha => by cases ha), rfl⟩
  case round =>
    obtain ⟨k, hk, rfl, HK, rfl⟩ := hrel
    rcases k with _ | p
    · have HE : Hid (low d r = 0 ∧ was d r = false) := hid ⟨low_of (Nat.zero_le _) (fun a ha => by cases ha) (fun a ha => by have := HK.out a ha; omega), was_no (fun a ha => by have := HK.out a (by rw [List.drop_zero]; exact ha); omega)⟩
      go_wp2_with fail
      simp only [Exit.noGoto_ret]
      go_ret2
      exact ⟨ret_find (by rw [HE.out.1]) HE.out.2.symm, rfl⟩
    · obtain ⟨a, ha⟩ : ∃ a, d[p]? = some a := ⟨_, List.getElem?_eq_getElem (by have := HN.out; omega)⟩
      obtain ⟨g, cap, e, _, _, _, _, h6, _⟩ := HD.out.there (by omega)
      injection e with e1 e2 e3
      subst e1 e3
      have y3 : w.cell? ⟨g, p * 9 + 3, none⟩ = some (.int .i64 a.rid) := h6 _ _ (by rw [fcz_at d ha 3 (by omega)]; rfl)
      have hp1 : (p : Int) < (n : Int) := by omega
      have HA := hid ha
      obtain ⟨x, hx⟩ : ∃ x, a.rid = x := ⟨_, rfl⟩
      have HX := hid hx
      rw [hx] at y3
      clear h6 e2 ha hx
      by_cases q1 : x = r
      · have HE : Hid (low d r = p ∧ was d r = true) := hid ⟨low_of (by have := HN.out; omega) (fun b hb => by have := (up_take HUP.out HA.out).1 b hb; have := HX.out; omega) (fun b hb => by
          rw [drop_at HA.out] at hb
          rcases List.mem_cons.1 hb with e | hb
          · rw [e, HX.out, q1]; exact Int.le_refl _
          · have := HK.out b hb; omega), was_yes HA.out (HX.out.trans q1)⟩
        have t1 : (x == r) = true := by simp [q1]
        clear q1
        go_wp2_with fail
        simp only [Exit.noGoto_ret]
        go_ret2
        exact ⟨ret_find (by rw [HE.out.1]) HE.out.2.symm, rfl⟩
      · have t1 : (x == r) = false := by simp [q1]
        by_cases q2 : x < r
        · have HE : Hid (low d r = p + 1 ∧ was d r = false) := hid ⟨low_of (by have := HN.out; omega) (fun b hb => by
            rw [List.take_add_one, HA.out] at hb
            rcases List.mem_append.1 hb with hb | hb
            · have := (up_take HUP.out HA.out).1 b hb; have := HX.out; omega
            · simp at hb; rw [hb, HX.out]; exact q2) (fun b hb => by have := HK.out b hb; omega), was_no (fun b hb => by
            rcases mem_td (p + 1) hb with hb | hb
            · rw [List.take_add_one, HA.out] at hb
              rcases List.mem_append.1 hb with hb | hb
              · have := (up_take HUP.out HA.out).1 b hb; have := HX.out; omega
              · simp at hb; rw [hb, HX.out]; exact q1
            · have := HK.out b hb; omega)⟩
          have t2 : decide (x < r) = true := by simp [q2]
          clear q1 q2
          go_wp2_with fail
          simp only [Exit.noGoto_ret]
          go_ret2
          exact ⟨ret_find (by rw [HE.out.1]) HE.out.2.symm, rfl⟩
        · have t2 : decide (x < r) = false := by simp [q2]
          have HK2 : Hid (∀ a ∈ d.drop p, r < a.rid) := hid (fun b hb => by
            rw [drop_at HA.out] at hb
            rcases List.mem_cons.1 hb with e | hb
            · rw [e, HX.out]; omega
            · exact HK.out b hb)
          clear q1 q2
          go_wp2_with fail
          exact ⟨⟨p, by omega, by go_num, HK2, trivial⟩, by simp [intOf]⟩
end Go.Proofs.YtfinaichajbnkaaGreat
