/-
  args of the reference: get, gets, flush_all, verbosity, and the words that stand alone.
-/
import Derived.Test.YtedbklipbfbmoaaDoorRArg1
namespace Go.Proofs.YtedbklipbfbmoaaDoor
open Go.RowKit

theorem got_zero {w : World} {R v : Nat} {q : Bool} (h : w.rangeAt R 0 (({ Rq.none with verb := v, quiet := q } : Rq).cs (.slice none 0 0))) : Got w.heap.size R w (some Rq.none) v q := fun r hr => by
  cases hr
  exact ⟨none, 0, 0, h, ⟨none, 0, rfl, Nat.le_refl _, fun e => absurd rfl e⟩, fun A hA => by cases hA⟩
set_option maxRecDepth 100000 in
theorem rargs_14 (q : Bool) (a : Option Addr) (n c R : Nat) (w : World) (hR : IsR w R [.int .i64 14, .slice none 0 0, .int .i64 0, .int .i64 0, .int .i64 0, .int .i64 0, .int .u64 0, .bool q, .string ⟨#[]⟩]) :
    Calls Tryd.prog 73 #[.pointer (some ⟨R, 0, none⟩), .slice a n c] w fun e w' => e = .returned (.bool (rd [] 0 [] Rq.none).isSome) ∧ Below R w w' ∧ Got w.heap.size R w' (rd [] 0 [] Rq.none) 14 q := by
  have r0 := hR.at_ 0 rfl
  have HR := Lib.hid hR
  clear hR
  go_enter Tryd.func73, Tryd.ntmps73
  go_wp2_with fail
  go_ret
  exact ⟨rfl, Below.refl _ _, got_zero HR.out.ra⟩
set_option maxRecDepth 100000 in
theorem rargs_16 (q : Bool) (a : Option Addr) (n c R : Nat) (w : World) (hR : IsR w R [.int .i64 16, .slice none 0 0, .int .i64 0, .int .i64 0, .int .i64 0, .int .i64 0, .int .u64 0, .bool q, .string ⟨#[]⟩]) :
    Calls Tryd.prog 73 #[.pointer (some ⟨R, 0, none⟩), .slice a n c] w fun e w' => e = .returned (.bool (rd [] 0 [] Rq.none).isSome) ∧ Below R w w' ∧ Got w.heap.size R w' (rd [] 0 [] Rq.none) 16 q := by
  have r0 := hR.at_ 0 rfl
  have HR := Lib.hid hR
  clear hR
  go_enter Tryd.func73, Tryd.ntmps73
  go_wp2_with fail
  go_ret
  exact ⟨rfl, Below.refl _ _, got_zero HR.out.ra⟩
set_option maxRecDepth 100000 in
theorem rargs_17 (q : Bool) (a : Option Addr) (n c R : Nat) (w : World) (hR : IsR w R [.int .i64 17, .slice none 0 0, .int .i64 0, .int .i64 0, .int .i64 0, .int .i64 0, .int .u64 0, .bool q, .string ⟨#[]⟩]) :
    Calls Tryd.prog 73 #[.pointer (some ⟨R, 0, none⟩), .slice a n c] w fun e w' => e = .returned (.bool (rd [] 0 [] Rq.none).isSome) ∧ Below R w w' ∧ Got w.heap.size R w' (rd [] 0 [] Rq.none) 17 q := by
  have r0 := hR.at_ 0 rfl
  have HR := Lib.hid hR
  clear hR
  go_enter Tryd.func73, Tryd.ntmps73
  go_wp2_with fail
  go_ret
  exact ⟨rfl, Below.refl _ _, got_zero HR.out.ra⟩
set_option maxRecDepth 100000 in
theorem rargs_13a (q : Bool) (a : Option Addr) (c R : Nat) (w : World) (hR : IsR w R [.int .i64 13, .slice none 0 0, .int .i64 0, .int .i64 0, .int .i64 0, .int .i64 0, .int .u64 0, .bool q, .string ⟨#[]⟩]) :
    Calls Tryd.prog 73 #[.pointer (some ⟨R, 0, none⟩), .slice a 0 c] w fun e w' => e = .returned (.bool (rd [7] 0 [] Rq.none).isSome) ∧ Below R w w' ∧ Got w.heap.size R w' (rd [7] 0 [] Rq.none) 13 q := by
  have r0 := hR.at_ 0 rfl
  have HR := Lib.hid hR
  clear hR
  go_enter Tryd.func73, Tryd.ntmps73
  go_wp2_with fail
  go_ret
  exact ⟨rfl, Below.refl _ _, got_zero HR.out.ra⟩
set_option maxRecDepth 100000 in
theorem rargs_13b (x : B) (q : Bool) (ag aq n c R : Nat) (w : World) (hR : IsR w R [.int .i64 13, .slice none 0 0, .int .i64 0, .int .i64 0, .int .i64 0, .int .i64 0, .int .u64 0, .bool q, .string ⟨#[]⟩]) (hS : Strs w (.slice (some ⟨ag, aq, none⟩) n c) [x]) :
    Calls Tryd.prog 73 #[.pointer (some ⟨R, 0, none⟩), .slice (some ⟨ag, aq, none⟩) n c] w fun e w' => e = .returned (.bool (rd [7] 0 [x] Rq.none).isSome) ∧ Below R w w' ∧ Got w.heap.size R w' (rd [7] 0 [x] Rq.none) 13 q := by
  have r0 := hR.at_ 0 rfl
  have HR := Lib.hid hR
  obtain ⟨hn, _⟩ := hS.len
  have hn' : n = 1 := hn
  subst hn'
  have s0 : w.cell? ⟨ag, aq, none⟩ = some (.string (S x)) := by obtain ⟨g', q', e1, e2⟩ := hS.at_ (i := 0) (x := x) rfl; injection e1 with e1; injection e1 with e1 e3; subst e1 e3; exact e2
  clear hR hS hn
  by_cases hx : x = [48]
  · have e1 : ((S x).toList == [48]) = true := by rw [beq_lit]; exact decide_eq_true hx
    have HE : Hid (rd [7] 0 [x] Rq.none = some Rq.none) := Lib.hid (by rw [hx]; rfl)
    clear hx
    go_enter Tryd.func73, Tryd.ntmps73
    go_wp2_with fail
    go_ret
    exact ⟨by rw [HE.out]; rfl, Below.refl _ _, by rw [HE.out]; exact got_zero HR.out.ra⟩
  · have e1 : ((S x).toList == [48]) = false := by rw [beq_lit]; exact decide_eq_false hx
    have HE : Hid (rd [7] 0 [x] Rq.none = none) := Lib.hid (by
      show (if decide (x = [48]) = true then some Rq.none else none) = none
      rw [decide_eq_false hx]; rfl)
    clear hx
    go_enter Tryd.func73, Tryd.ntmps73
    go_wp2_with fail
    go_ret
    exact ⟨by rw [HE.out]; rfl, Below.refl _ _, by rw [HE.out]; exact Got.none _ _ _ _ _⟩
set_option maxRecDepth 100000 in
theorem rargs_15 (x : B) (q : Bool) (ag aq n c R : Nat) (w : World) (hR : IsR w R [.int .i64 15, .slice none 0 0, .int .i64 0, .int .i64 0, .int .i64 0, .int .i64 0, .int .u64 0, .bool q, .string ⟨#[]⟩]) (hS : Strs w (.slice (some ⟨ag, aq, none⟩) n c) [x]) :
    Calls Tryd.prog 73 #[.pointer (some ⟨R, 0, none⟩), .slice (some ⟨ag, aq, none⟩) n c] w fun e w' => e = .returned (.bool (rd [6] 0 [x] Rq.none).isSome) ∧ Below R w w' ∧ Got w.heap.size R w' (rd [6] 0 [x] Rq.none) 15 q := by
  have r0 := hR.at_ 0 rfl
  have HR := Lib.hid hR
  obtain ⟨hn, _⟩ := hS.len
  have hn' : n = 1 := hn
  subst hn'
  have s0 : w.cell? ⟨ag, aq, none⟩ = some (.string (S x)) := by obtain ⟨g', q', e1, e2⟩ := hS.at_ (i := 0) (x := x) rfl; injection e1 with e1; injection e1 with e1 e3; subst e1 e3; exact e2
  have K1 : ∀ w : World, Calls Tryd.prog 83 #[.string (S x), .int .u64 4294967295] w fun e w' => e = .returned (.tuple #[.int .u64 ((nv 4294967295 x : Nat) : Int), .bool (nb 4294967295 x)]) ∧ w = w' := rnumber_any (S x) 4294967295 (by omega)
  obtain ⟨V, hV⟩ : ∃ V : Int, V = ((nv 4294967295 x : Nat) : Int) := ⟨_, rfl⟩
  simp only [← hV] at K1
  have hrd : rd [6] 0 [x] Rq.none = if nb 4294967295 x = true then some Rq.none else none := rfl
  have HRD := Lib.hid hrd
  clear hR hS hn hV hrd
  cases hb : nb 4294967295 x with
  | true =>
    simp only [hb] at K1
    have HE : Hid (rd [6] 0 [x] Rq.none = some Rq.none) := Lib.hid (by rw [HRD.out, if_pos hb])
    clear hb
    go_enter Tryd.func73, Tryd.ntmps73
    go_wp2_with fail
    refine (K1 _).mono ?_
    rintro e w' ⟨rfl, rfl⟩
    go_wp2_with fail
    go_ret
    exact ⟨by rw [HE.out]; rfl, Below.refl _ _, by rw [HE.out]; exact got_zero HR.out.ra⟩
  | false =>
    simp only [hb] at K1
    have HE : Hid (rd [6] 0 [x] Rq.none = none) := Lib.hid (by rw [HRD.out, if_neg (by rw [hb]; decide)])
    clear hb
    go_enter Tryd.func73, Tryd.ntmps73
    go_wp2_with fail
    refine (K1 _).mono ?_
    rintro e w' ⟨rfl, rfl⟩
    go_wp2_with fail
    go_ret
    exact ⟨by rw [HE.out]; rfl, Below.refl _ _, by rw [HE.out]; exact Got.none _ _ _ _ _⟩
/-- append([]string{}, a...). -/
theorem app_all {w : World} {g q n c : Nat} {l : List B} (h : Strs w (.slice (some ⟨g, q, none⟩) n c) l) (hl : l.length ≤ 1000000) :
    ∃ a' c' w', (Builtin.append_ #[27, 27] 27 #[.slice (some ⟨w.heap.size, 0, none⟩) 0 0, .slice (some ⟨g, q, none⟩) n c]).run Tryd.prog (w.alloc (.cells #[] 9)) = .ok (.slice a' n c') w' ∧ Strs w' (.slice a' n c') l ∧ Below w.heap.size w w' ∧ ∀ A, a' = some A → w.heap.size ≤ A.block := by
  obtain ⟨hn, hc⟩ := h.len
  have b0 : Below w.heap.size w (w.alloc (.cells #[] 9)) := (Below.refl _ _).alloc (Nat.le_refl _) _
  have d1 : OwnK (w.alloc (.cells #[] 9)) (lab o0 w.heap.size (1, 0)) (1, 0) 1 (.slice (some ⟨w.heap.size, 0, none⟩) 0 0) 0 [] := by
    have := own_new (w := w) (o := o0) (t := (1, 0)) (k := 1) (n := 0) (cap := 0) (e := 9) [] #[] (by simp) (fun _ h => by cases h) (Nat.le_refl _) (by unfold maxLen; omega) (by simp)
    simpa using this
  have h2 := h.below b0
  have src : Src Tryd.prog 1 27 (.slice (some ⟨g, q, none⟩) n c) n (sc l) (w.alloc (.cells #[] 9)) := by
    refine Src.ofSlice _ under27 _ n c _ (by rw [sc_len, Nat.mul_one]; exact hn.symm) (fun j u hu => ?_) (sc_one l)
    unfold sc at hu
    rw [List.getElem?_map] at hu
    obtain ⟨x, hx, rfl⟩ := Option.map_eq_some_iff.1 hu
    obtain ⟨g', q', e1, e2⟩ := h2.at_ hx
    injection e1 with e1
    injection e1 with e1 e3
    subst e1 e3
    rw [Addr.add_mid]; exact e2
  obtain ⟨v', w', o', r, O, F⟩ := app_own 27 27 9 (.string ⟨#[]⟩) 16 under27 info9 rfl d1 src (by omega) (by omega)
  rw [Nat.zero_add, List.nil_append] at O
  obtain ⟨a', c', rfl, _⟩ := O.form
  have F2 : Fr (· = (1, 0)) o0 o' w w' := (Fr.new (· = (1, 0)) o0 w _ (1, 0)).trans F
  have B2 : Below w.heap.size w w' := F2.below (Nat.le_refl _) (fun b _ e => by cases e)
  refine ⟨a', c', w', r, O.strs, B2, fun A hA => ?_⟩
  rcases O.2.2 with ⟨e, _⟩ | ⟨g', cap, e, hm, _⟩
  · injection e with e; rw [e] at hA; cases hA
  · injection e with e
    rw [e] at hA
    injection hA with hA
    subst hA
    refine Nat.le_of_not_lt fun hlt => ?_
    have := F2.lab g' hlt
    rw [hm] at this
    cases this
theorem all_take {l : List B} {j : Nat} {x : B} (h : l[j]? = some x) : ((l.take (j + 1)).all key) = ((l.take j).all key && key x) := by
  rw [List.take_add_one, h, List.all_append]; simp
theorem rd_all : ∀ (l : List B) (i : Nat) (r : Rq), rd [0] i l r = if l.all key = true then some { r with keys := r.keys ++ l } else none
  | [], i, r => by simp [rd]
  | x :: l, i, r => by
    rw [rd, kd_get, st_key]
    cases hk : key x with
    | true => rw [if_pos rfl, rd_all l (i + 1) _]; simp [hk]
    | false => simp [hk]
set_option maxRecDepth 100000 in
set_option maxHeartbeats 1000000 in
theorem rargs_1 (l : List B) (q : Bool) (ag aq n c R : Nat) (hl : l.length ≤ 100000) (hz : ∀ x ∈ l, (S x).size ≤ 100000) (w : World) (hR : IsR w R [.int .i64 1, .slice none 0 0, .int .i64 0, .int .i64 0, .int .i64 0, .int .i64 0, .int .u64 0, .bool q, .string ⟨#[]⟩]) (hS : Strs w (.slice (some ⟨ag, aq, none⟩) n c) l) :
    Calls Tryd.prog 73 #[.pointer (some ⟨R, 0, none⟩), .slice (some ⟨ag, aq, none⟩) n c] w fun e w' => e = .returned (.bool (rd [0] 0 l Rq.none).isSome) ∧ Below R w w' ∧ Got w.heap.size R w' (rd [0] 0 l Rq.none) 1 q := by
  have r0 := hR.at_ 0 rfl
  obtain ⟨hn, _⟩ := hS.len
  have nbd : n ≤ 100000 := by omega
  obtain ⟨a5, c5, w5, hr5, S5, b5, nw5⟩ := app_all hS (by omega)
  have I5 := hR.up b5
  have t5 := I5.at_ 1 rfl
  have f5 := I5.fz 1
  have BU : But R w (w5.setCell ⟨R, 1, none⟩ (.slice a5 n c5)) := (But.new R (Nat.le_of_lt hR.lt) b5).trans (But.set R 1 _ _)
  have I6 := I5.set 1 (.slice a5 n c5) (by simp)
  have hRl := hR.lt
  have S6 : Strs (w5.setCell ⟨R, 1, none⟩ (.slice a5 n c5)) (.slice a5 n c5) l := by
    have := S5.setP (P := R) (cs := []) (fun A hA => by have := nw5 A hA; omega)
    obtain ⟨a0, c0, e0, e1, e2⟩ := S5
    injection e0 with k1 k2 k3
    subst k1 k3
    refine ⟨_, _, by rw [k2], e1, fun hne => ?_⟩
    obtain ⟨g, qq, e3, e4⟩ := e2 hne
    refine ⟨g, qq, e3, fun i x hx => (But.set R 1 _ _).cell _ _ _ ?_ (e4 i x hx)⟩
    have := nw5 _ e3
    show g ≠ R
    simp only at this
    omega
  have HI := Lib.hid I6
  have HS6 := Lib.hid S6
  have HBU := Lib.hid BU.lo
  have HNW := Lib.hid nw5
  have HS := Lib.hid hS
  have HN := Lib.hid hn
  have HRD := Lib.hid (rd_all l 0 Rq.none)
  have HZ := Lib.hid hz
  clear hR hS hn I5 I6 S6 BU S5 b5 nw5 hRl hz hl
  go_enter Tryd.func73, Tryd.ntmps73
  go_wp2_with fail
  go_loopw [5, 6] (fun ok i wr => ∃ (j : Nat) (b : Bool), j ≤ n ∧ i = .int .i64 (j : Int) ∧ ok = .bool b ∧ Hid (b = (l.take j).all key) ∧ w = wr) (fun _ i _ => n - (intOf i).toNat)
  case atStart => exact ⟨0, true, by omega, rfl, rfl, Lib.hid (by simp), rfl⟩
  case round =>
    obtain ⟨j, b, hj, rfl, rfl, HBB, rfl⟩ := hrel
    by_cases hlt : j < n
    · have hi1 : (j : Int) < (n : Int) := by omega
      obtain ⟨x, hx⟩ : ∃ x, l[j]? = some x := ⟨_, List.getElem?_eq_getElem (by rw [← HN.out]; exact hlt)⟩
      obtain ⟨g', q', e1, e2⟩ := HS.out.at_ hx
      injection e1 with e1
      injection e1 with e1 e3
      subst e1 e3
      have HK : ∀ w : World, Calls Tryd.prog 16 #[.string (S x)] w fun e w' => e = .returned (.bool (key x)) ∧ w = w' := rkey_any (S x) (by have := HZ.out x (List.mem_of_getElem? hx); omega)
      have HA := Lib.hid (all_take hx)
      obtain ⟨kx, hkx⟩ : ∃ kx, kx = key x := ⟨_, rfl⟩
      simp only [← hkx] at HK
      rw [← hkx] at HA
      clear hx hkx
      cases b with
      | true =>
        go_wp2_with fail
        refine (HK _).mono ?_
        rintro e w' ⟨rfl, rfl⟩
        go_wp2_with fail
        exact ⟨⟨j + 1, kx, by omega, by go_num, rfl, Lib.hid (by rw [HA.out, ← HBB.out]; rfl), trivial⟩, by simp [intOf]; omega⟩
      | false =>
        go_wp2_with fail
        exact ⟨⟨j + 1, false, by omega, by go_num, rfl, Lib.hid (by rw [HA.out, ← HBB.out]; rfl), trivial⟩, by simp [intOf]; omega⟩
    · have hi1 : decide ((j : Int) < (n : Int)) = false := decide_eq_false (by omega)
      have HB2 : Hid (b = l.all key) := Lib.hid (by rw [HBB.out, List.take_of_length_le (by rw [← HN.out]; omega)])
      go_wp2_with (at_builtin; refine wpList_append_run rfl (.tmp 30) (.tmp 31) 27 27 rfl _ _ _ rfl rfl hr5 ?_)
      go_ret
      refine ⟨?_, HBU.out, ?_⟩
      · rw [HRD.out, ← HB2.out]; cases b <;> rfl
      · intro r hr
        rw [HRD.out, ← HB2.out] at hr
        cases b with
        | false => simp at hr
        | true =>
          rw [if_pos rfl] at hr
          cases hr
          refine ⟨a5, n, c5, HI.out.ra, ?_, HNW.out⟩
          exact HS6.out
set_option maxRecDepth 100000 in
set_option maxHeartbeats 1000000 in
theorem rargs_2 (l : List B) (q : Bool) (ag aq n c R : Nat) (hl : l.length ≤ 100000) (hz : ∀ x ∈ l, (S x).size ≤ 100000) (w : World) (hR : IsR w R [.int .i64 2, .slice none 0 0, .int .i64 0, .int .i64 0, .int .i64 0, .int .i64 0, .int .u64 0, .bool q, .string ⟨#[]⟩]) (hS : Strs w (.slice (some ⟨ag, aq, none⟩) n c) l) :
    Calls Tryd.prog 73 #[.pointer (some ⟨R, 0, none⟩), .slice (some ⟨ag, aq, none⟩) n c] w fun e w' => e = .returned (.bool (rd [0] 0 l Rq.none).isSome) ∧ Below R w w' ∧ Got w.heap.size R w' (rd [0] 0 l Rq.none) 2 q := by
  have r0 := hR.at_ 0 rfl
  obtain ⟨hn, _⟩ := hS.len
  have nbd : n ≤ 100000 := by omega
  obtain ⟨a5, c5, w5, hr5, S5, b5, nw5⟩ := app_all hS (by omega)
  have I5 := hR.up b5
  have t5 := I5.at_ 1 rfl
  have f5 := I5.fz 1
  have BU : But R w (w5.setCell ⟨R, 1, none⟩ (.slice a5 n c5)) := (But.new R (Nat.le_of_lt hR.lt) b5).trans (But.set R 1 _ _)
  have I6 := I5.set 1 (.slice a5 n c5) (by simp)
  have hRl := hR.lt
  have S6 : Strs (w5.setCell ⟨R, 1, none⟩ (.slice a5 n c5)) (.slice a5 n c5) l := by
    have := S5.setP (P := R) (cs := []) (fun A hA => by have := nw5 A hA; omega)
    obtain ⟨a0, c0, e0, e1, e2⟩ := S5
    injection e0 with k1 k2 k3
    subst k1 k3
    refine ⟨_, _, by rw [k2], e1, fun hne => ?_⟩
    obtain ⟨g, qq, e3, e4⟩ := e2 hne
    refine ⟨g, qq, e3, fun i x hx => (But.set R 1 _ _).cell _ _ _ ?_ (e4 i x hx)⟩
    have := nw5 _ e3
    show g ≠ R
    simp only at this
    omega
  have HI := Lib.hid I6
  have HS6 := Lib.hid S6
  have HBU := Lib.hid BU.lo
  have HNW := Lib.hid nw5
  have HS := Lib.hid hS
  have HN := Lib.hid hn
  have HRD := Lib.hid (rd_all l 0 Rq.none)
  have HZ := Lib.hid hz
  clear hR hS hn I5 I6 S6 BU S5 b5 nw5 hRl hz hl
  go_enter Tryd.func73, Tryd.ntmps73
  go_wp2_with fail
  go_loopw [5, 6] (fun ok i wr => ∃ (j : Nat) (b : Bool), j ≤ n ∧ i = .int .i64 (j : Int) ∧ ok = .bool b ∧ Hid (b = (l.take j).all key) ∧ w = wr) (fun _ i _ => n - (intOf i).toNat)
  case atStart => exact ⟨0, true, by omega, rfl, rfl, Lib.hid (by simp), rfl⟩
  case round =>
    obtain ⟨j, b, hj, rfl, rfl, HBB, rfl⟩ := hrel
    by_cases hlt : j < n
    · have hi1 : (j : Int) < (n : Int) := by omega
      obtain ⟨x, hx⟩ : ∃ x, l[j]? = some x := ⟨_, List.getElem?_eq_getElem (by rw [← HN.out]; exact hlt)⟩
      obtain ⟨g', q', e1, e2⟩ := HS.out.at_ hx
      injection e1 with e1
      injection e1 with e1 e3
      subst e1 e3
      have HK : ∀ w : World, Calls Tryd.prog 16 #[.string (S x)] w fun e w' => e = .returned (.bool (key x)) ∧ w = w' := rkey_any (S x) (by have := HZ.out x (List.mem_of_getElem? hx); omega)
      have HA := Lib.hid (all_take hx)
      obtain ⟨kx, hkx⟩ : ∃ kx, kx = key x := ⟨_, rfl⟩
      simp only [← hkx] at HK
      rw [← hkx] at HA
      clear hx hkx
      cases b with
      | true =>
        go_wp2_with fail
        refine (HK _).mono ?_
        rintro e w' ⟨rfl, rfl⟩
        go_wp2_with fail
        exact ⟨⟨j + 1, kx, by omega, by go_num, rfl, Lib.hid (by rw [HA.out, ← HBB.out]; rfl), trivial⟩, by simp [intOf]; omega⟩
      | false =>
        go_wp2_with fail
        exact ⟨⟨j + 1, false, by omega, by go_num, rfl, Lib.hid (by rw [HA.out, ← HBB.out]; rfl), trivial⟩, by simp [intOf]; omega⟩
    · have hi1 : decide ((j : Int) < (n : Int)) = false := decide_eq_false (by omega)
      have HB2 : Hid (b = l.all key) := Lib.hid (by rw [HBB.out, List.take_of_length_le (by rw [← HN.out]; omega)])
      go_wp2_with (at_builtin; refine wpList_append_run rfl (.tmp 30) (.tmp 31) 27 27 rfl _ _ _ rfl rfl hr5 ?_)
      go_ret
      refine ⟨?_, HBU.out, ?_⟩
      · rw [HRD.out, ← HB2.out]; cases b <;> rfl
      · intro r hr
        rw [HRD.out, ← HB2.out] at hr
        cases b with
        | false => simp at hr
        | true =>
          rw [if_pos rfl] at hr
          cases hr
          refine ⟨a5, n, c5, HI.out.ra, ?_, HNW.out⟩
          exact HS6.out
end Go.Proofs.YtedbklipbfbmoaaDoor
