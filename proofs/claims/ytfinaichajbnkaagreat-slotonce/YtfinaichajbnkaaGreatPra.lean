/-
  find: where a request stands among those that were done.
-/
import Derived.Test.YtfinaichajbnkaaGreatPcu
import Derived.WalkMore
import Derived.Test.YtfinaichajbnkaaGreatPky
import Derived.Test.YtfinaichajbnkaaGreatPkc
namespace Go.Proofs.YtfinaichajbnkaaGreat
open Go.RowKit
open Wi (F)

/-- How many are below. -/
def low (d : List F) (r : Int) : Nat := (d.filter fun a => decide (a.rid < r)).length
def was (d : List F) (r : Int) : Bool := d.any fun a => a.rid == r
theorem low_le (d : List F) (r : Int) : low d r ≤ d.length := List.length_filter_le _ _
theorem low_of {d : List F} {r : Int} {k : Nat} (hk : k ≤ d.length) (h1 : ∀ a ∈ d.take k, a.rid < r) (h2 : ∀ a ∈ d.drop k, r ≤ a.rid) : low d r = k := by
  unfold low
  have e : d = d.take k ++ d.drop k := (List.take_append_drop k d).symm
  conv => lhs; rw [e]
  rw [List.filter_append, List.filter_eq_self.2 (fun a ha => by simp [h1 a ha]), List.filter_eq_nil_iff.2 (fun a ha => by have := h2 a ha; simp; omega), List.append_nil, List.length_take]
  omega
theorem up_take {d : List F} (hup : d.Pairwise fun a b => a.rid < b.rid) {p : Nat} {a : F} (hp : d[p]? = some a) : (∀ b ∈ d.take p, b.rid < a.rid) ∧ ∀ b ∈ d.drop (p + 1), a.rid < b.rid := by
  have hl := (List.getElem?_eq_some_iff.1 hp).1
  have e : d = d.take p ++ a :: d.drop (p + 1) := by
    have h := (List.getElem?_eq_some_iff.1 hp).2
    rw [← h, ← List.drop_eq_getElem_cons hl, List.take_append_drop]
  rw [e] at hup
  obtain ⟨h1, h2, h3⟩ := List.pairwise_append.1 hup
  exact ⟨fun b hb => h3 b hb a List.mem_cons_self, (List.pairwise_cons.1 h2).1⟩
theorem drop_at {d : List F} {p : Nat} {a : F} (hp : d[p]? = some a) : d.drop p = a :: d.drop (p + 1) := by
  have hl := (List.getElem?_eq_some_iff.1 hp).1
  rw [List.drop_eq_getElem_cons hl, (List.getElem?_eq_some_iff.1 hp).2]
theorem was_no {d : List F} {r : Int} (h : ∀ a ∈ d, a.rid ≠ r) : was d r = false := by
  unfold was
  rw [List.any_eq_false]
  intro a ha
  simp [h a ha]
theorem was_yes {d : List F} {r : Int} {p : Nat} {a : F} (hp : d[p]? = some a) (h : a.rid = r) : was d r = true := by
  unfold was
  rw [List.any_eq_true]
  exact ⟨a, List.mem_of_getElem? hp, by simp [h]⟩
theorem mem_td {d : List F} (k : Nat) {a : F} (h : a ∈ d) : a ∈ d.take k ∨ a ∈ d.drop k := by
  rw [← List.take_append_drop k d] at h
  exact List.mem_append.1 h
theorem ret_find {a b : Int} {p q : Bool} (h1 : a = b) (h2 : p = q) : Ending.returned (.tuple #[.int .i64 a, .bool p]) = .returned (.tuple #[.int .i64 b, .bool q]) := by rw [h1, h2]
set_option maxRecDepth 100000 in
set_option maxHeartbeats 1000000 in
theorem pfind_any (X : Nat) (D : Value) (d : List F) (r : Int) (hn : d.length ≤ 100000) (w : World) (o : Nat → Nat × Nat) (c7 : w.cell? ⟨X, 7, none⟩ = some D) (hd : OwnK w o (10, 2) 9 D d.length (fcz d)) (hup : d.Pairwise fun a b => a.rid < b.rid) :
    Calls Tryz.prog 48 #[.pointer (some ⟨X, 0, none⟩), .int .i64 r] w fun e w' => e = .returned (.tuple #[.int .i64 ((low d r : Nat) : Int), .bool (was d r)]) ∧ w = w' := by
  have HUP := hid hup
  have HD := hid hd
  obtain ⟨b, c, rfl, _⟩ := hd.form
  obtain ⟨n, hnn⟩ : ∃ n, d.length = n := ⟨_, rfl⟩
  have HN := hid hnn
  rw [hnn] at c7 hn HD
  clear hd hup hnn
  go_enter Tryz.func48, Tryz.ntmps48
  go_wp2_with fail
  go_step3
  go_wp2_with fail
  go_step3
  go_wp2_with fail
  go_loopw [6] (fun y wr => ∃ k : Nat, k ≤ n ∧ y = .int .i64 (k : Int) ∧ Hid (∀ a ∈ d.drop k, r < a.rid) ∧ w = wr) (fun y _ => (intOf y).toNat)
  case atStart => exact ⟨n, Nat.le_refl _, rfl, hid (by rw [← HN.out, List.drop_length]; exact fun a ha => by cases ha), rfl⟩
  case round =>
    obtain ⟨k, hk, rfl, HK, rfl⟩ := hrel
    rcases k with _ | p
    · have HE : Hid (low d r = 0 ∧ was d r = false) := hid ⟨low_of (Nat.zero_le _) (fun a ha => by cases ha) (fun a ha => by have := HK.out a ha; omega), was_no (fun a ha => by have := HK.out a (by rw [List.drop_zero]; exact ha); omega)⟩
      go_wp2_with fail
      simp only [Exit.noGoto_ret]
      go_ret2
      exact ⟨ret_find (by rw [HE.out.1]) HE.out.2.symm, rfl⟩
    · obtain ⟨a, ha⟩ : ∃ a, d[p]? = some a := ⟨_, List.getElem?_eq_getElem (by have := HN.out; omega)⟩
      obtain ⟨g, cap, e, _, _, _, _, h6, _⟩ := HD.out.there (by omega)
      injection e with e1 e2 e3
      subst e1 e3
      have y3 : w.cell? ⟨g, p * 9 + 3, none⟩ = some (.int .i64 a.rid) := h6 _ _ (by rw [fcz_at d ha 3 (by omega)]; rfl)
      have hp1 : (p : Int) < (n : Int) := by omega
      have HA := hid ha
      obtain ⟨x, hx⟩ : ∃ x, a.rid = x := ⟨_, rfl⟩
      have HX := hid hx
      rw [hx] at y3
      clear h6 e2 ha hx
      by_cases q1 : x = r
      · have HE : Hid (low d r = p ∧ was d r = true) := hid ⟨low_of (by have := HN.out; omega) (fun b hb => by have := (up_take HUP.out HA.out).1 b hb; have := HX.out; omega) (fun b hb => by
          rw [drop_at HA.out] at hb
          rcases List.mem_cons.1 hb with e | hb
          · rw [e, HX.out, q1]; exact Int.le_refl _
          · have := HK.out b hb; omega), was_yes HA.out (HX.out.trans q1)⟩
        have t1 : (x == r) = true := by simp [q1]
        clear q1
        go_wp2_with fail
        simp only [Exit.noGoto_ret]
        go_ret2
        exact ⟨ret_find (by rw [HE.out.1]) HE.out.2.symm, rfl⟩
      · have t1 : (x == r) = false := by simp [q1]
        by_cases q2 : x < r
        · have HE : Hid (low d r = p + 1 ∧ was d r = false) := hid ⟨low_of (by have := HN.out; omega) (fun b hb => by
            rw [List.take_add_one, HA.out] at hb
            rcases List.mem_append.1 hb with hb | hb
            · have := (up_take HUP.out HA.out).1 b hb; have := HX.out; omega
            · simp at hb; rw [hb, HX.out]; exact q2) (fun b hb => by have := HK.out b hb; omega), was_no (fun b hb => by
            rcases mem_td (p + 1) hb with hb | hb
            · rw [List.take_add_one, HA.out] at hb
              rcases List.mem_append.1 hb with hb | hb
              · have := (up_take HUP.out HA.out).1 b hb; have := HX.out; omega
              · simp at hb; rw [hb, HX.out]; exact q1
            · have := HK.out b hb; omega)⟩
          have t2 : decide (x < r) = true := by simp [q2]
          clear q1 q2
          go_wp2_with fail
          simp only [Exit.noGoto_ret]
          go_ret2
          exact ⟨ret_find (by rw [HE.out.1]) HE.out.2.symm, rfl⟩
        · have t2 : decide (x < r) = false := by simp [q2]
          have HK2 : Hid (∀ a ∈ d.drop p, r < a.rid) := hid (fun b hb => by
            rw [drop_at HA.out] at hb
            rcases List.mem_cons.1 hb with e | hb
            · rw [e, HX.out]; omega
            · exact HK.out b hb)
          clear q1 q2
          go_wp2_with fail
          exact ⟨⟨p, by omega, by go_num, HK2, trivial⟩, by simp [intOf]⟩
end Go.Proofs.YtfinaichajbnkaaGreat


namespace Go.Proofs.YtfinaichajbnkaaGreat
open Go.RowKit
open Wi (F)

def DelP (w : World) (o : Nat → Nat × Nat) (t : Nat × Nat) (l : List F) (k : Nat) (e : Ending) (w' : World) : Prop :=
  ∃ D', e = .returned D' ∧ OwnK w' o t 9 D' (l.drop k).length (fcz (l.drop k)) ∧ Fr (· = t) o o w w'
theorem src_dropz {w : World} {o : Nat → Nat × Nat} {t : Nat × Nat} {n g cap : Nat} {cs : List Value} (h : OwnK w o t 9 (.slice (some ⟨g, 0, none⟩) n cap) n cs) (l : Nat) (hl : l ≤ n) :
    Src Tryz.prog 9 44 (.slice (some (cutB g l cap)) (n - l) (cap - l)) (n - l) (cs.drop (l * 9)) w := by
  obtain ⟨hlen, h1, h⟩ := h
  rcases h with ⟨e, _⟩ | ⟨g', cap', e, h2, h3, h4, h5, h6, h7⟩
  · cases e
  · injection e with e1 e2 e3
    injection e1 with e1
    injection e1 with e1
    subst e1 e3
    refine Src.ofSlice _ und44 _ _ _ _ (by rw [List.length_drop, hlen, Nat.sub_mul]) (fun j u hu => ?_) (fun u hu => h1 u (List.mem_of_mem_drop hu))
    have hj := (List.getElem?_eq_some_iff.1 hu).1
    rw [List.length_drop, hlen] at hj
    have hne : ¬ cap = l := fun e => by
      have : n = l := by omega
      rw [this] at hj; omega
    unfold cutB
    rw [if_neg hne, adz2]
    rw [List.getElem?_drop] at hu
    exact h6 _ _ hu
set_option maxRecDepth 100000 in
set_option maxHeartbeats 1000000 in
theorem del_none {o : Nat → Nat × Nat} {t : Nat × Nat} (l : List F) (D : Value) (hn : l.length ≤ 100000) (w : World) (h : OwnK w o t 9 D l.length (fcz l)) :
    Calls Tryz.prog 62 #[D, .int .i64 0, .int .i64 0] w fun e w' => DelP w o t l 0 e w' := by
  have HE : Hid (DelP w o t l 0 (.returned D) w) := hid ⟨D, rfl, h, Fr.refl _ _ _⟩
  obtain ⟨b, c, rfl, hc⟩ := h.form
  obtain ⟨n, hnn⟩ : ∃ n, l.length = n := ⟨_, rfl⟩
  have HN := hid hnn
  rw [hnn] at hn hc HE ⊢
  obtain ⟨S0, sl0⟩ := sl_lhm b n c 0 0 ((n : Nat) : Int) (by omega) (by omega) (by omega) (by omega)
  clear h hnn
  go_enter Tryz.func62, Tryz.ntmps62
  go_wp2_with fail
  go_ret
  exact HE.out
set_option maxRecDepth 100000 in
set_option maxHeartbeats 1000000 in
theorem del_some {o : Nat → Nat × Nat} {t : Nat × Nat} (l : List F) (k : Nat) (hk0 : 0 < k) (hk : k ≤ l.length) (D : Value) (hn : l.length ≤ 100000) (w : World) (h : OwnK w o t 9 D l.length (fcz l)) :
    Calls Tryz.prog 62 #[D, .int .i64 0, .int .i64 ((k : Nat) : Int)] w fun e w' => DelP w o t l k e w' := by
  obtain ⟨m, hm⟩ : ∃ m, m = l.length - k := ⟨_, rfl⟩
  obtain ⟨n, hnn⟩ : ∃ n, l.length = n := ⟨_, rfl⟩
  rw [hnn] at h hk hn hm
  have hD : OwnK w.drew o t 9 D n (fcz l) := h.fr (Fr.drew1 (fun _ => False) o w) id
  obtain ⟨g, cap, rfl, hg, hgs, hcap, hmx, h6, h7⟩ := hD.there (by omega)
  obtain ⟨i0, hi, hz0, hz1, hz2⟩ := info_parts info27
  have hs := src_dropz hD k hk
  rw [← hm, fcz_drop] at hs
  have hcB : cutB g k cap = cutB g k cap := rfl
  have hs' : Src Tryz.prog i0.size 44 (.slice (some (cutB g k cap)) m (cap - k)) m (fcz (l.drop k)) w.drew := by rw [hz1]; exact hs
  have hml : (fcz (l.drop k)).length = m * 9 := by rw [fcz_length, List.length_drop, hnn, hm]
  have run1 := run_append_room_src (P := Tryz.prog) w.drew 44 44 44 27 i0 und44 hi g 0 0 cap _ m _ hs' (by omega) (fun j hj => by
      rw [hml] at hj
      simp only [hz1, Nat.zero_mul, Nat.zero_add]
      exact (h7 j (by omega)).1) (fun j hj => by
      rw [hml] at hj
      simp only [hz1, Nat.zero_mul, Nat.zero_add]
      exact (h7 j (by omega)).2)
  rw [hz1, Nat.zero_add, Nat.zero_add, Nat.zero_mul] at run1
  have O1 := hD.sets (fcz (l.drop k)) 0 (fcz_one _) (by rw [hml]; omega)
  rw [List.take_zero, List.nil_append] at O1
  obtain ⟨W1, hW1⟩ : ∃ W1, W1 = w.drew.setCells g 0 (fcz (l.drop k)) := ⟨_, rfl⟩
  rw [← hW1] at run1 O1
  have F1 : Fr (· = t) o o w W1 := by rw [hW1]; exact (Fr.drew1 _ o w).trans (Fr.sets (T := (· = t)) hg _ _ _)
  have h71 : ∀ j, j < cap * 9 → (W1.cell? ⟨g, j, none⟩).isSome = true ∧ W1.frozen? ⟨g, j, none⟩ = false := fun j hj => by
    rw [hW1]
    exact ⟨some_setCells g _ _ _ _ (h7 j hj).1, by rw [World.frozen?_setCells]; exact (h7 j hj).2⟩
  have run2 := fun ty => run_clearz W1 ty g (m * 9) k (cap - m) hk0 (fun j hj => h71 (m * 9 + j) (by omega))
  have hzl : (Builtin.zeroCells (Wi.Z.v).cells k).toList.length = k * 9 := by rw [Array.length_toList, size_zeroCells, cells27]
  have O2 := (O1.sets (Builtin.zeroCells (Wi.Z.v).cells k).toList (m * 9) (zone k) (by rw [hzl]; omega)).cut m (by omega)
  rw [List.append_assoc, List.take_left' (by rw [List.length_take, List.length_append, hml]; omega), List.take_left' hml] at O2
  have HE : Hid (DelP w o t l k (.returned (.slice (some ⟨g, 0, none⟩) m cap)) (W1.setCells g (m * 9) (Builtin.zeroCells (Wi.Z.v).cells k).toList)) := hid ⟨_, rfl, by rw [List.length_drop, hnn, ← hm]; exact O2, F1.trans (Fr.sets (T := (· = t)) hg _ _ _)⟩
  obtain ⟨zs, hzs⟩ : ∃ zs, (Builtin.zeroCells (Wi.Z.v).cells k).toList = zs := ⟨_, rfl⟩
  rw [hzs] at HE
  simp only [hzs] at run2
  have HN := hid hnn
  obtain ⟨V0, sl0⟩ := sl_lhm (some ⟨g, 0, none⟩) n cap 0 (k : Int) ((n : Nat) : Int) (by omega) (by omega) (by omega) (by omega)
  have sl1 := sl_hi g n cap 0 (by omega)
  have sl2 : ∀ w, (Instr.sliceAt 44 (.slice (some ⟨g, 0, none⟩) n cap) (some (.int .i64 (k : Int))) none none).run Tryz.prog w = .ok (.slice (some (cutB g k cap)) m (cap - k)) w := fun w => by
    have := sl_lo g n cap k (by omega) w
    rw [← hm] at this
    exact this
  have sl3 : ∀ w, (Instr.sliceAt 44 (.slice (some ⟨g, 0, none⟩) m cap) (some (.int .i64 (m : Int))) (some (.int .i64 (n : Int))) none).run Tryz.prog w = .ok (.slice (some ⟨g, m * 9, none⟩) k (cap - m)) w := fun w => by
    have := sl_lh g m cap m n (by omega) (by omega) w
    unfold cutB at this
    rw [if_neg (by omega), show n - m = k by omega] at this
    exact this
  have ne : ((0 : Int) == (k : Int)) = false := by simp; omega
  have sl1' : ∀ w, (Instr.sliceAt 44 (.slice (some ⟨g, 0, none⟩) n cap) none (some (.int .i64 0)) none).run Tryz.prog w = .ok (.slice (some ⟨g, 0, none⟩) 0 cap) w := fun w => sl1 w
  clear hzs h hD h6 h7 h71 hs hs' O1 O2 F1 hW1 hi hz0 hz1 hz2 hg hgs hml hzl hcB sl1 hnn hm
  go_enter Tryz.func62, Tryz.ntmps62
  go_wp2_with fail
  go_region_law (refine step_appz run1 (.tmp 22) (.tmp 25) (by with_reducible rfl) (by rfl) (by rfl) (by rfl) (by simp [Act.eval, Act.put]) (by simp [Act.eval, Act.put]) ?_)
  all_goals
    go_wp2_with fail
    go_ret
    exact HE.out
/-- slices.Delete, of the first ones. -/
theorem delete_any {o : Nat → Nat × Nat} {t : Nat × Nat} (l : List F) (k : Nat) (hk : k ≤ l.length) (D : Value) (hn : l.length ≤ 100000) (w : World) (h : OwnK w o t 9 D l.length (fcz l)) :
    Calls Tryz.prog 62 #[D, .int .i64 0, .int .i64 ((k : Nat) : Int)] w fun e w' => DelP w o t l k e w' := by
  by_cases e : k = 0
  · subst e; exact del_none l D hn w h
  · exact del_some l k (by omega) hk D hn w h
end Go.Proofs.YtfinaichajbnkaaGreat


namespace Go.Proofs.YtfinaichajbnkaaGreat
open Go.RowKit
open Wi (F)

theorem low_cons (a : F) (d : List F) (r : Int) : low (a :: d) r = if a.rid < r then low d r + 1 else low d r := by
  unfold low
  rw [List.filter_cons]
  by_cases h : a.rid < r
  · simp [h]
  · simp [h]
theorem drop_low {d : List F} (hup : d.Pairwise fun a b => a.rid < b.rid) (r : Int) : d.drop (low d r) = d.filter fun a => decide (r ≤ a.rid) := by
  induction d with
  | nil => rfl
  | cons a d ih =>
    obtain ⟨h1, h2⟩ := List.pairwise_cons.1 hup
    rw [low_cons, List.filter_cons]
    by_cases h : a.rid < r
    · rw [if_pos h, if_neg (by simp; omega), List.drop_succ_cons, ih h2]
    · rw [if_neg h, if_pos (by simp; omega)]
      have e : low d r = 0 := by
        unfold low
        rw [List.filter_eq_nil_iff.2 (fun b hb => by have := h1 b hb; simp; omega)]; rfl
      rw [e, List.drop_zero, List.filter_eq_self.2 (fun b hb => by have := h1 b hb; simp; omega)]
theorem DnOk.low {l d : List F} (h : DnOk l d) (r : Int) : DnOk (l.filter fun a => decide (r ≤ a.rid)) (d.drop (low d r)) := by
  rw [drop_low h.up r]
  exact ⟨h.pm.filter _, h.up.sublist List.filter_sublist⟩
/-- Labels of the slot's own blocks. -/
def T10 (t : Nat × Nat) : Prop := t.1 = 10
theorem T10.tp {t : Nat × Nat} (h : T10 t) : TP t := .inr h
theorem nT10s {t : Nat × Nat} (h : TS t) : ¬ T10 t := fun e => by have h2 := h.2; rw [show t.1 = 10 from e] at h2; omega
theorem nT10b : ¬ T10 (8, 1) := fun e => by have : 8 = 10 := e; omega
set_option maxRecDepth 100000 in
set_option maxHeartbeats 1000000 in
theorem praise_any (X : Nat) (s : Sl) (r : Int) (hn : s.done.length ≤ 100000) (w : World) (o : Nat → Nat × Nat) (h : IsPsl w o X s) :
    Calls Tryz.prog 47 #[.pointer (some ⟨X, 0, none⟩), .int .i64 r] w fun e w' => e = .returned (.tuple #[]) ∧ ∃ o', IsPsl w' o' X { s with floor := r, done := s.done.filter fun a => decide (r ≤ a.rid) } ∧ Fr T10 o o' w w' := by
  obtain ⟨C, D, d, h⟩ := h
  have hdl : d.length ≤ 100000 := by rw [h.dd.len]; exact hn
  have k5 := h.c.set (s' := { s with floor := r }) (C' := C) (D' := D) 5 (.int .i64 r) (fun i u e => by
    rcases i with _ | _ | _ | _ | _ | _ | _ | _ | i <;> simp at e ⊢ <;> exact e) (by omega)
  have g5 : Fr T10 o o w (w.setCell ⟨X, 5, none⟩ (.int .i64 r)) := Fr.set (a := ⟨X, 5, none⟩) (by rw [h.oX]; rfl) _
  have g5' : Fr (· = (10, 0)) o o w (w.setCell ⟨X, 5, none⟩ (.int .i64 r)) := Fr.set (a := ⟨X, 5, none⟩) h.oX _
  have D5 := h.dn.fr g5' (fun e => by cases e)
  have S5 := h.st.fr g5 (fun t ht => nT10s ht)
  have z5 := h.c.fz 5
  have d5 := h.c.c5
  have y7 := k5.c7
  obtain ⟨W, hW⟩ : ∃ W, W = w.setCell ⟨X, 5, none⟩ (.int .i64 r) := ⟨_, rfl⟩
  rw [← hW] at k5 g5 D5 S5 y7
  have FI := hid (pfind_any X D d r hdl W o y7 D5 h.dd.up)
  obtain ⟨k, hk⟩ : ∃ k, low d r = k := ⟨_, rfl⟩
  have hkl : k ≤ d.length := by rw [← hk]; exact low_le d r
  have HDD : Hid (DnOk (s.done.filter fun a => decide (r ≤ a.rid)) (d.drop k)) := hid (by rw [← hk]; exact h.dd.low r)
  rw [hk] at FI
  have DE := hid (delete_any d k hkl D hdl W D5)
  have HO := hid (And.intro h.oX h.ok)
  have HK := hid k5
  have HS := hid S5
  have HG := hid g5
  have HW := hid hW
  clear h k5 g5 g5' D5 S5 hW hk hkl hdl hn
  go_enter Tryz.func47, Tryz.ntmps47
  go_wp2_with fail
  rw [← HW.out]
  refine FI.out.mono ?_
  rintro e w1 ⟨rfl, rfl⟩
  go_wp2_with fail
  refine DE.out.mono ?_
  rintro e w2 ⟨D2, rfl, O2, g2⟩
  obtain ⟨b2, c2, hD2, _⟩ := O2.form
  rw [hD2] at O2
  rw [hD2]
  clear hD2 D2
  obtain ⟨n2, hn2⟩ : ∃ n2, n2 = (d.drop k).length := ⟨_, rfl⟩
  rw [← hn2] at O2 ⊢
  obtain ⟨D2, hD2⟩ : ∃ D2, D2 = Value.slice b2 n2 c2 := ⟨_, rfl⟩
  rw [← hD2] at O2
  have k2 := HK.out.fr g2 (fun e => by rw [HO.out.1] at e; cases e)
  have S2 := HS.out.fr g2 (fun t ht e => by rw [e] at ht; have : 10 ≤ 3 := ht.2; omega)
  have oX2 : o X = (10, 0) := HO.out.1
  have lX : X < W.heap.size := HK.out.lt
  obtain ⟨o2, hoo⟩ : ∃ o2, o2 = o := ⟨_, rfl⟩
  have G2 : Fr T10 o o w w2 := HG.out.trans (g2.mono (fun t e => by rw [e]; rfl))
  have k7 := k2.set (s' := { s with floor := r, done := s.done.filter fun a => decide (r ≤ a.rid) }) (C' := C) (D' := D2) 7 D2 (fun i u e => by
    rcases i with _ | _ | _ | _ | _ | _ | _ | _ | i <;> simp at e ⊢ <;> exact e) (by omega)
  have g7 : Fr (· = (10, 0)) o o w2 (w2.setCell ⟨X, 7, none⟩ D2) := Fr.set (a := ⟨X, 7, none⟩) oX2 _
  have d7 := k2.c7
  have z7 := k2.fz 7
  have HE : Hid (IsPl (w2.setCell ⟨X, 7, none⟩ D2) o X { s with floor := r, done := s.done.filter fun a => decide (r ≤ a.rid) } C D2 (d.drop k) ∧ Fr T10 o o w (w2.setCell ⟨X, 7, none⟩ D2)) := hid ⟨⟨oX2, k7, S2.fr g7 (fun t ht e => by rw [e] at ht; have : 10 ≤ 3 := ht.2; omega), (by rw [← hn2]; exact O2.fr g7 (fun e => by cases e)), HDD.out, ⟨HO.out.2.i1, HO.out.2.i2, HO.out.2.p1, HO.out.2.p2, HO.out.2.g1, HO.out.2.g2, HO.out.2.cn⟩⟩, G2.trans (g7.mono (fun t e => by rw [e]; rfl))⟩
  rw [hD2] at HE
  clear hn2 O2 g2 k2 S2 oX2 lX hoo G2 k7 g7 DE FI HK HS HG HO HDD
  go_wp2_with fail
  exact bodyPost_end (v := .tuple #[]) (by simp [results, Tryz.results47, go_sem]) rfl ⟨rfl, o, ⟨C, _, d.drop k, HE.out.1⟩, HE.out.2⟩
/-- Is a request heard? The floor raised. -/
def Sl.adm (s : Sl) (f : F) : Bool × Sl := if (s.on && f.inc == s.inc && decide (s.floor ≤ f.rid)) = false then (false, s) else (decide ((s.low f).floor ≤ f.rid), s.low f)
set_option maxRecDepth 100000 in
set_option maxHeartbeats 1000000 in
theorem padmits_any (X : Nat) (s : Sl) (f : F) (hn : s.done.length ≤ 100000) (w : World) (o : Nat → Nat × Nat) (h : IsPsl w o X s) :
    Calls Tryz.prog 29 #[.pointer (some ⟨X, 0, none⟩), f.v] w fun e w' => e = .returned (.bool (s.adm f).1) ∧ ∃ o', IsPsl w' o' X (s.adm f).2 ∧ Fr T10 o o' w w' := by
  obtain ⟨C, D, d, h⟩ := h
  have HI := hid h
  obtain ⟨W, hW⟩ : ∃ W, W = w.alloc (.cells f.cs.toArray 27) := ⟨_, rfl⟩
  have bW : Below w.heap.size w W := by rw [hW]; exact bel_alloc _ _
  have K0 : KB W (nwl o w.heap.size) w.heap.size f := by rw [hW]; exact KB.start w o f
  have G0 : Fr T10 o (nwl o w.heap.size) w W := nwl_fr _ o bW
  have I0 : IsPl W (nwl o w.heap.size) X s C D d := HI.out.fr (nwl_fr (fun _ => False) o bW) (fun _ _ => id)
  obtain ⟨o1, ho1⟩ : ∃ o1, o1 = nwl o w.heap.size := ⟨_, rfl⟩
  rw [← ho1] at K0 G0 I0
  have HK := hid K0
  have HG := hid G0
  have HI0 := hid I0
  have PR := hid (fun V oo (hS : IsPsl V oo X s) => praise_any X s f.floor hn V oo hS)
  clear h HI ho1 G0 I0 bW hn
  have x3 := HI0.out.c.c3
  have x4 := HI0.out.c.c4
  have x5 := HI0.out.c.c5
  by_cases hs : (s.on && f.inc == s.inc && decide (s.floor ≤ f.rid)) = false
  · have hA : s.adm f = (false, s) := by unfold Sl.adm; rw [if_pos hs]
    rw [hA]
    have I1 : IsPsl W o1 X s := ⟨C, D, d, HI0.out⟩
    have HI1 := hid I1
    obtain ⟨i0, hi0⟩ : ∃ i0, s.inc = i0 := ⟨_, rfl⟩
    obtain ⟨b0, hb0⟩ : ∃ b0, s.on = b0 := ⟨_, rfl⟩
    obtain ⟨l0, hl0⟩ : ∃ l0, s.floor = l0 := ⟨_, rfl⟩
    rw [hi0, hb0, hl0] at hs
    rw [hi0] at x4
    rw [hb0] at x3
    rw [hl0] at x5
    clear I1 hi0 hb0 hl0 hA PR
    obtain ⟨f0, f1, f2, f3, f4, f5, f6, f7, f8⟩ := f
    have vf : (⟨f0, f1, f2, f3, f4, f5, f6, f7, f8⟩ : F).v = .agg #[.int .i64 f0, .int .i64 f1, .int .i64 f2, .int .i64 f3, .int .i64 f4, .int .i64 f5, .string f6, .int .i64 f7, .string f8] := rfl
    rw [vf]
    have HF : Hid (W = w.alloc (.cells #[.int .i64 f0, .int .i64 f1, .int .i64 f2, .int .i64 f3, .int .i64 f4, .int .i64 f5, .string f6, .int .i64 f7, .string f8] 27)) := hid hW
    obtain ⟨q0, q1, q2, q3, q4, q5, q6, q7, q8⟩ := K0.nine
    clear vf hW K0

    have hs : (b0 && f2 == i0 && decide (l0 ≤ f3)) = false := hs
    cases b0 with
    | false =>
      clear hs
      go_enter Tryz.func29, Tryz.ntmps29
      go_wp2_with fail
      rw [← HF.out]
      go_big_quiet (fail)
      go_wp2_with fail
      go_ret
      exact ⟨rfl, o1, HI1.out.below (below_drewN (Below.refl _ _) _), HG.out.trans (Fr.ofBelow T10 o1 (below_drewN (Below.refl _ _) _))⟩
    | true =>
      by_cases hi : f2 = i0
      · subst hi
        have tn : (f2 != f2) = false := by simp
        have tl : decide (f3 < l0) = true := by simp at hs ⊢; omega
        clear hs
        go_enter Tryz.func29, Tryz.ntmps29
        go_wp2_with fail
        rw [← HF.out]
        go_big_quiet (fail)
        go_wp2_with fail
        go_ret
        exact ⟨rfl, o1, HI1.out.below (below_drewN (Below.refl _ _) _), HG.out.trans (Fr.ofBelow T10 o1 (below_drewN (Below.refl _ _) _))⟩
      · have tn : (f2 != i0) = true := by simp [hi]
        clear hs hi
        go_enter Tryz.func29, Tryz.ntmps29
        go_wp2_with fail
        rw [← HF.out]
        go_big_quiet (fail)
        go_wp2_with fail
        go_ret
        exact ⟨rfl, o1, HI1.out.below (below_drewN (Below.refl _ _) _), HG.out.trans (Fr.ofBelow T10 o1 (below_drewN (Below.refl _ _) _))⟩
  · have hs' : (s.on && f.inc == s.inc && decide (s.floor ≤ f.rid)) = true := by
      cases hq : (s.on && f.inc == s.inc && decide (s.floor ≤ f.rid)) with
      | true => rfl
      | false => exact absurd hq hs
    simp only [Bool.and_eq_true, beq_iff_eq, decide_eq_true_eq] at hs'
    obtain ⟨⟨ho, hi⟩, hl⟩ := hs'
    by_cases hf : s.floor < f.floor
    · have hL : s.low f = { s with floor := f.floor, done := s.done.filter fun a => decide (f.floor ≤ a.rid) } := by unfold Sl.low; rw [if_pos hf]
      have hA : s.adm f = (decide (f.floor ≤ f.rid), { s with floor := f.floor, done := s.done.filter fun a => decide (f.floor ≤ a.rid) }) := by unfold Sl.adm; rw [if_neg hs, hL]
      rw [hA]
      rw [ho] at x3
      rw [← hi] at x4
      obtain ⟨l0, hl0⟩ : ∃ l0, s.floor = l0 := ⟨_, rfl⟩
      rw [hl0] at x5 hl hf
      clear hs ho hi hL hA hl0
      obtain ⟨f0, f1, f2, f3, f4, f5, f6, f7, f8⟩ := f
      have vf : (⟨f0, f1, f2, f3, f4, f5, f6, f7, f8⟩ : F).v = .agg #[.int .i64 f0, .int .i64 f1, .int .i64 f2, .int .i64 f3, .int .i64 f4, .int .i64 f5, .string f6, .int .i64 f7, .string f8] := rfl
      rw [vf]
      have HF : Hid (W = w.alloc (.cells #[.int .i64 f0, .int .i64 f1, .int .i64 f2, .int .i64 f3, .int .i64 f4, .int .i64 f5, .string f6, .int .i64 f7, .string f8] 27)) := hid hW
      obtain ⟨q0, q1, q2, q3, q4, q5, q6, q7, q8⟩ := K0.nine
      clear vf hW K0

      have tn : (f2 != f2) = false := by simp
      have hl : l0 ≤ f3 := hl
      have hf : l0 < f4 := hf
      have tl : decide (f3 < l0) = false := by simp; omega
      have tf : decide (l0 < f4) = true := by simp; omega
      clear hl hf
      go_enter Tryz.func29, Tryz.ntmps29
      go_wp2_with fail
      rw [← HF.out]
      go_big_quiet (fail)
      obtain ⟨n1, hn1⟩ : ∃ n1, n1 = nq := ⟨_, rfl⟩
      rw [← hn1]
      clear hn1
      go_wp2_with fail
      go_quiet (fail)
      go_wp2_with fail
      have bq : Below W.heap.size W (W.drewN (n1 + nq)) := below_drewN (Below.refl _ _) _
      have GQ := HG.out.trans (Fr.ofBelow T10 o1 bq)
      have KQ := HK.out.below bq
      refine (PR.out _ _ ⟨C, D, d, HI0.out.below bq⟩).mono ?_
      rintro e w3 ⟨rfl, o3, h3, g3⟩
      obtain ⟨C3, D3, d3, h3⟩ := h3
      have K3 := (KQ.fr g3 nT10b).nine
      have p3 := K3.2.2.2.1
      have y5 : w3.cell? ⟨X, 5, none⟩ = some (.int .i64 f4) := h3.c.c5
      have HE : Hid (IsPsl w3 o3 X { s with floor := f4, done := s.done.filter fun a => decide (f4 ≤ a.rid) } ∧ Fr T10 o o3 w w3) := hid ⟨⟨C3, D3, d3, h3⟩, GQ.trans g3⟩
      clear h3 K3 KQ GQ g3 PR HI0 HK HG bq
      obtain ⟨b3, hb3⟩ : ∃ b3, decide (f4 ≤ f3) = b3 := ⟨_, rfl⟩
      have HB3 := hid hb3
      go_wp2_with fail
      go_quiet (fail)
      go_wp2_with fail
      go_ret
      exact ⟨by rw [HB3.out]; rfl, o3, HE.out.1.below (below_drewN (Below.refl _ _) _), HE.out.2.trans (Fr.ofBelow T10 o3 (below_drewN (Below.refl _ _) _))⟩
    · have hL : s.low f = s := by unfold Sl.low; rw [if_neg hf]
      have hA : s.adm f = (true, s) := by unfold Sl.adm; rw [if_neg hs, hL]; simp [hl]
      rw [hA]
      rw [ho] at x3
      rw [← hi] at x4
      obtain ⟨l0, hl0⟩ : ∃ l0, s.floor = l0 := ⟨_, rfl⟩
      rw [hl0] at x5 hl hf
      have HI1 : Hid (IsPsl W o1 X s) := hid ⟨C, D, d, HI0.out⟩
      clear hs ho hi hL hA hl0 PR
      obtain ⟨f0, f1, f2, f3, f4, f5, f6, f7, f8⟩ := f
      have vf : (⟨f0, f1, f2, f3, f4, f5, f6, f7, f8⟩ : F).v = .agg #[.int .i64 f0, .int .i64 f1, .int .i64 f2, .int .i64 f3, .int .i64 f4, .int .i64 f5, .string f6, .int .i64 f7, .string f8] := rfl
      rw [vf]
      have HF : Hid (W = w.alloc (.cells #[.int .i64 f0, .int .i64 f1, .int .i64 f2, .int .i64 f3, .int .i64 f4, .int .i64 f5, .string f6, .int .i64 f7, .string f8] 27)) := hid hW
      obtain ⟨q0, q1, q2, q3, q4, q5, q6, q7, q8⟩ := K0.nine
      clear vf hW K0

      have tn : (f2 != f2) = false := by simp
      have hl : l0 ≤ f3 := hl
      have hf : ¬ l0 < f4 := hf
      have tl : decide (f3 < l0) = false := by simp; omega
      have tf : decide (l0 < f4) = false := by simp; omega
      have tg : decide (l0 ≤ f3) = true := by simp; omega
      clear hl hf
      go_enter Tryz.func29, Tryz.ntmps29
      go_wp2_with fail
      rw [← HF.out]
      go_big_quiet (fail)
      go_wp2_with fail
      go_quiet (fail)
      go_wp2_with fail
      go_quiet (fail)
      go_wp2_with fail
      go_ret
      exact ⟨rfl, o1, HI1.out.below (below_drewN (below_drewN (below_drewN (Below.refl _ _) _) _) _), HG.out.trans (Fr.ofBelow T10 o1 (below_drewN (below_drewN (below_drewN (Below.refl _ _) _) _) _))⟩
end Go.Proofs.YtfinaichajbnkaaGreat
