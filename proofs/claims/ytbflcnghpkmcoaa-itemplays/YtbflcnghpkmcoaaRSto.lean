/-
  THE REFERENCE'S STORE IN MEMORY: NewStore, find, Keys, Pin.
-/
import Derived.Test.YtbflcnghpkmcoaaBk
import Derived.Test.YtbflcnghpkmcoaaRAlloc
import Derived.Test.YtbflcnghpkmcoaaRNew
namespace Go.Proofs.Ytbflcnghpkmcoaa
open Go.RowKit

/-- Items as cells. -/
def itc (l : List It) : List Value := l.flatMap fun i => [.string i.key, .int .i64 ((i.c : Nat) : Int), .int .i64 ((i.k : Nat) : Int), .bool i.pin]
theorem itc_cons (i : It) (l : List It) : itc (i :: l) = .string i.key :: .int .i64 ((i.c : Nat) : Int) :: .int .i64 ((i.k : Nat) : Int) :: .bool i.pin :: itc l := rfl
theorem itc_append (l m : List It) : itc (l ++ m) = itc l ++ itc m := by simp [itc]
theorem itc_length : ∀ l : List It, (itc l).length = l.length * 4
  | [] => rfl
  | i :: l => by rw [itc_cons]; simp only [List.length_cons]; rw [itc_length l]; omega
theorem itc_one : ∀ (l : List It), ∀ u ∈ itc l, u.oneCell' = true := by
  intro l u h
  obtain ⟨i, _, hu⟩ := List.mem_flatMap.1 h
  simp at hu
  rcases hu with rfl | rfl | rfl | rfl <;> rfl
theorem itc_at : ∀ (l : List It) (j : Nat) (i : It), l[j]? = some i → (itc l)[j * 4]? = some (.string i.key) ∧ (itc l)[j * 4 + 1]? = some (.int .i64 ((i.c : Nat) : Int)) ∧ (itc l)[j * 4 + 2]? = some (.int .i64 ((i.k : Nat) : Int)) ∧ (itc l)[j * 4 + 3]? = some (.bool i.pin)
  | [], j, i, h => by simp at h
  | q :: l, 0, i, h => by simp at h; subst h; exact ⟨rfl, rfl, rfl, rfl⟩
  | q :: l, j + 1, i, h => by
    rw [itc_cons, show (j + 1) * 4 = j * 4 + 1 + 1 + 1 + 1 by omega]
    simp only [List.getElem?_cons_succ] at h ⊢
    exact itc_at l j i h
theorem itc_take (l : List It) (m : Nat) : (itc l).take (m * 4) = itc (l.take m) := by
  induction m generalizing l with
  | zero => simp [itc]
  | succ m ih =>
    cases l with
    | nil => simp [itc]
    | cons i l => rw [itc_cons, show (m + 1) * 4 = m * 4 + 1 + 1 + 1 + 1 by omega]; simp only [List.take_succ_cons]; rw [ih, itc_cons]
theorem itc_drop (l : List It) (m : Nat) : (itc l).drop (m * 4) = itc (l.drop m) := by
  induction m generalizing l with
  | zero => simp
  | succ m ih =>
    cases l with
    | nil => simp [itc]
    | cons i l => rw [itc_cons, show (m + 1) * 4 = m * 4 + 1 + 1 + 1 + 1 by omega]; simp only [List.drop_succ_cons]; exact ih l
theorem itc_pin : ∀ (l : List It) (j : Nat) (b : Bool), (itc l).set (j * 4 + 3) (.bool b) = itc (l.modify j fun i => { i with pin := b })
  | [], j, b => by cases j <;> simp [itc]
  | q :: l, 0, b => rfl
  | q :: l, j + 1, b => by
    rw [itc_cons, show (j + 1) * 4 + 3 = (j * 4 + 3) + 1 + 1 + 1 + 1 by omega]
    simp only [List.set_cons_succ]
    rw [itc_pin l j b]
    rfl
theorem under47 : Try.prog.underlying 47 = some (.slice 53) := by kernel_rfl
theorem info53 : (Try.prog.info? 53).map (fun i => (i.zero, i.size, i.bytes)) = some (some (.agg #[.string ⟨#[]⟩, .int .i64 0, .int .i64 0, .bool false]), 4, 40) := by kernel_rfl
/-- The reference's store lies in block Y. -/
structure IsRS (w : World) (o : Nat → Nat × Nat) (Y : Nat) (z : Sp) (S : Nat) (v : Value) : Prop where
  oY : o Y = (4, 0)
  c0 : w.cell? ⟨Y, 0, none⟩ = some (.pointer (some ⟨S, 0, none⟩))
  c1 : w.cell? ⟨Y, 1, none⟩ = some v
  fz : ∀ j, w.frozen? ⟨Y, j, none⟩ = false
  li : OwnK w o (4, 1) 4 v z.l.length (itc z.l)
  slab : RSlab w o 5 S z.s
  ok : OkSp z
def IsRef (w : World) (o : Nat → Nat × Nat) (Y : Nat) (z : Sp) : Prop := ∃ S v, IsRS w o Y z S v
/-- The reference's marks. -/
def TR (t : Nat × Nat) : Prop := 4 ≤ t.1 ∧ t.1 ≤ 5
theorem TR.mk4 (q : Nat) : TR (4, q) := ⟨Nat.le_refl _, by show 4 ≤ 5; omega⟩
theorem TR.mk5 (q : Nat) : TR (5, q) := ⟨by show 4 ≤ 5; omega, Nat.le_refl _⟩
theorem IsRS.lt {w : World} {o : Nat → Nat × Nat} {Y : Nat} {z : Sp} {S : Nat} {v : Value} (h : IsRS w o Y z S v) : Y < w.heap.size := World.block_lt_of_cell? _ _ h.c0
theorem IsRS.fr {T : Nat × Nat → Prop} {w w' : World} {o o' : Nat → Nat × Nat} {Y : Nat} {z : Sp} {S : Nat} {v : Value} (h : IsRS w o Y z S v) (f : Fr T o o' w w') (hT : ∀ t, TR t → ¬ T t) : IsRS w' o' Y z S v := by
  have hY : ¬ T (o Y) := by rw [h.oY]; exact hT _ (TR.mk4 0)
  exact ⟨(f.lab Y h.lt).trans h.oY, f.cell h.c0 hY, f.cell h.c1 hY, fun j => (f.frozen h.lt hY).trans (h.fz j), h.li.fr f (hT _ (TR.mk4 1)), h.slab.fr f (fun _ => hT _ (TR.mk5 _)), h.ok⟩
theorem IsRef.fr {T : Nat × Nat → Prop} {w w' : World} {o o' : Nat → Nat × Nat} {Y : Nat} {z : Sp} (h : IsRef w o Y z) (f : Fr T o o' w w') (hT : ∀ t, TR t → ¬ T t) : IsRef w' o' Y z := by
  obtain ⟨S, v, h⟩ := h; exact ⟨S, v, h.fr f hT⟩
theorem IsRS.below {w w' : World} {o : Nat → Nat × Nat} {Y : Nat} {z : Sp} {S : Nat} {v : Value} (h : IsRS w o Y z S v) (hb : Below w.heap.size w w') : IsRS w' o Y z S v := h.fr (Fr.ofBelow (fun _ => False) o hb) (fun _ _ x => x)
theorem IsRef.below {w w' : World} {o : Nat → Nat × Nat} {Y : Nat} {z : Sp} (h : IsRef w o Y z) (hb : Below w.heap.size w w') : IsRef w' o Y z := h.fr (Fr.ofBelow (fun _ => False) o hb) (fun _ _ x => x)
set_option maxRecDepth 100000 in
theorem rsnew_no (pages page : Int) (h : ¬ rightN pages page) (w : World) :
    Calls Try.prog 15 #[.int .i64 pages, .int .i64 page] w fun e w' => e = .returned (.tuple #[.pointer none, .int .i64 1]) ∧ w = w' := by
  go_enter Try.func15, Try.ntmps15
  go_wp2_with fail
  refine (rnew_no pages page h _).mono ?_
  rintro e w2 ⟨rfl, rfl⟩
  go_wp2_with fail
  go_ret2
  exact ⟨rfl, rfl⟩
def RSNew (w : World) (o : Nat → Nat × Nat) (pages page : Nat) (w' : World) (Y : Nat) : Prop := ∃ o' n, (∀ i, i < n ↔ sz i ≤ page) ∧ IsRef w' o' Y ⟨St.new pages page n, []⟩ ∧ Fr (fun _ => False) o o' w w'
set_option maxRecDepth 100000 in
set_option maxHeartbeats 1000000 in
theorem rsnew_yes (pages page : Nat) (P Q : Int) (hP : P = (pages : Int)) (hQ : Q = (page : Int)) (p1 : 1 ≤ pages) (p2 : pages ≤ 64) (g1 : 64 ≤ page) (g2 : page ≤ 65536) (w : World) (o : Nat → Nat × Nat) (hfr : ∀ b, b < w.heap.size → (o b).1 ≠ 5) :
    Calls Try.prog 15 #[.int .i64 P, .int .i64 Q] w fun e w' => ∃ Y, e = .returned (.tuple #[.pointer (some ⟨Y, 0, none⟩), .int .i64 0]) ∧ RSNew w o pages page w' Y := by
  have HFR : Hid ((∀ b, b < w.heap.size → (o b).1 ≠ 5) ∧ P = (pages : Int) ∧ Q = (page : Int)) := ⟨hfr, hP, hQ⟩
  clear hfr hP hQ
  go_enter Try.func15, Try.ntmps15
  go_wp2_with fail
  refine (rnew_yes 5 pages page P Q HFR.out.2.1 HFR.out.2.2 p1 p2 g1 g2 _ o HFR.out.1).mono ?_
  rintro e w1 ⟨S, rfl, o1, n, S1, F1⟩
  have HS1 : Hid (RSlab w1 o1 5 S (St.new pages page n) ∧ Fr (fun _ => False) o o1 w w1) := ⟨S1, F1⟩
  clear S1 F1
  go_wp2_with fail
  go_ret2
  have f := Fr.new (fun _ => False) o1 w1 (.cells #[.pointer (some ⟨S, 0, none⟩), .slice none 0 0] 49) (4, 0)
  refine ⟨w1.heap.size, rfl, lab o1 w1.heap.size (4, 0), n, HS1.out.1.ok.n1, ⟨S, .slice none 0 0, lab_same _ _ _, ?_, ?_, fun j => World.frozen?_alloc_new _ _ _ _, OwnK.nil _ _ _ _, HS1.out.1.fr f (fun _ x => x), OkSp.new HS1.out.1.ok⟩, HS1.out.2.trans f⟩
  · rw [World.cell?_alloc_new]; rfl
  · rw [World.cell?_alloc_new]; rfl
/-- Where find finds: the first with the key. -/
def FindR (l : List It) (key : ByteArray) (r : Int) : Prop := (r = -1 ∧ fnd l key = none) ∨ ∃ pre i post, l = pre ++ i :: post ∧ r = ((pre.length : Nat) : Int) ∧ fnd l key = some i ∧ i.key = key ∧ ∀ j ∈ pre, j.key ≠ key
set_option maxRecDepth 100000 in
set_option maxHeartbeats 1000000 in
theorem rfind_any (Y : Nat) (z : Sp) (key : ByteArray) (w : World) (o : Nat → Nat × Nat) (h : IsRef w o Y z) :
    Calls Try.prog 43 #[.pointer (some ⟨Y, 0, none⟩), .string key] w fun e w' => ∃ r, e = .returned (.int .i64 r) ∧ FindR z.l key r ∧ w = w' := by
  obtain ⟨S, v, h⟩ := h
  obtain ⟨a, c, rfl, _⟩ := h.li.form
  have HL : Hid (OwnK w o (4, 1) 4 (.slice a z.l.length c) z.l.length (itc z.l)) := h.li
  have c1 := h.c1
  have hfew := h.ok.few
  clear h
  go_enter Try.func43, Try.ntmps43
  go_wp2_with fail
  go_loopw [5] (fun y wr => ∃ j : Nat, j ≤ z.l.length ∧ y = .int .i64 (j : Int) ∧ Hid (∀ i ∈ z.l.take j, i.key ≠ key) ∧ w = wr) (fun y _ => z.l.length - (intOf y).toNat)
  case atStart => exact ⟨0, by omega, rfl, (fun i hi => by simp at hi), rfl⟩
  case round =>
    obtain ⟨j, hj, rfl, HN, rfl⟩ := hrel
    by_cases hlt : j < z.l.length
    · have k1 : (j : Int) < (z.l.length : Int) := by omega
      obtain ⟨i, hi⟩ : ∃ i, z.l[j]? = some i := ⟨_, List.getElem?_eq_getElem hlt⟩
      obtain ⟨g, cap, e, _, _, _, _, h6, _⟩ := HL.out.there (by omega)
      injection e with e1 e2 e3
      subst e1
      have d0 := h6 _ _ (itc_at _ _ _ hi).1
      have HIi : Hid (z.l[j]? = some i) := hi
      clear h6 hi e2 e3
      by_cases hk : i.key = key
      · have s1 : (i.key.toList == key.toList) = true := by rw [str_beq, hk]; simp
        have HK : Hid (i.key = key) := hk
        clear hk
        go_wp2_with fail
        go_ret
        have hsp : z.l = z.l.take j ++ i :: z.l.drop (j + 1) := by
          have e : z.l[j] = i := by have := HIi.out; rw [List.getElem?_eq_getElem hlt] at this; injection this
          have := (List.take_append_drop j z.l).symm
          rw [List.drop_eq_getElem_cons hlt, e] at this
          exact this
        refine ⟨_, rfl, .inr ⟨z.l.take j, i, z.l.drop (j + 1), hsp, by rw [List.length_take]; congr 1; omega, ?_, HK.out, HN.out⟩, rfl⟩
        unfold fnd
        rw [List.find?_eq_some_iff_append]
        exact ⟨by simp [HK.out], _, _, hsp, fun q hq => by simpa using HN.out q hq⟩
      · have s1 : (i.key.toList == key.toList) = false := by rw [str_beq, decide_eq_false hk]
        have HK : Hid (i.key ≠ key) := hk
        clear hk
        go_wp2_with fail
        refine ⟨⟨j + 1, by omega, by go_num, fun q hq => ?_, trivial⟩, by simp [intOf]; omega⟩
        rw [List.take_add_one, HIi.out] at hq
        simp only [Option.toList_some, List.mem_append, List.mem_singleton] at hq
        rcases hq with hq | rfl
        · exact HN.out q hq
        · exact HK.out
    · have k1 : decide ((j : Int) < (z.l.length : Int)) = false := by simp; omega
      go_wp2_with fail
      go_ret
      exact ⟨-1, rfl, .inl ⟨rfl, fnd_no (by have := HN.out; rw [List.take_of_length_le (by omega)] at this; exact this)⟩, rfl⟩
set_option maxRecDepth 100000 in
set_option maxHeartbeats 1000000 in
theorem rkeys_any (Y : Nat) (z : Sp) (w : World) (o : Nat → Nat × Nat) (h : IsRef w o Y z) :
    Calls Try.prog 24 #[.pointer (some ⟨Y, 0, none⟩)] w fun e w' => ∃ V o', e = .returned V ∧ OwnK w' o' (7, 0) 1 V z.keys.length (strc z.keys) ∧ IsRef w' o' Y z ∧ Fr (fun _ => False) o o' w w' := by
  obtain ⟨S, v, h⟩ := h
  obtain ⟨a, c, rfl, _⟩ := h.li.form
  have HI : Hid (IsRS w o Y z S (.slice a z.l.length c)) := h
  have hfew := h.ok.few
  clear h
  go_enter Try.func24, Try.ntmps24
  go_wp2_with fail
  go_loopw [3, 4] (fun V y wr => ∃ (j : Nat) (oL : Nat → Nat × Nat) (va : Option Addr) (vc : Nat), j ≤ z.l.length ∧ V = .slice va j vc ∧ y = .int .i64 (j : Int) ∧ Hid (OwnK wr oL (7, 0) 1 (.slice va j vc) j (strc ((z.l.take j).map It.key))) ∧ Hid (Fr (· = (7, 0)) (fun _ => (0, 0)) oL w wr)) (fun _ y _ => z.l.length - (intOf y).toNat)
  case atStart => exact ⟨0, fun _ => (0, 0), none, 0, by omega, rfl, rfl, OwnK.nil _ _ _ _, Fr.refl _ _ _⟩
  case round =>
    obtain ⟨j, oL, va, vc, hj, rfl, rfl, HO, HF⟩ := hrel
    have HIr : Hid (IsRS wr o Y z S (.slice a z.l.length c)) := HI.out.below (HF.out.only (by decide))
    have c1 := HIr.out.c1
    by_cases hlt : j < z.l.length
    · have k1 : (j : Int) < (z.l.length : Int) := by omega
      obtain ⟨i, hi⟩ : ∃ i, z.l[j]? = some i := ⟨_, List.getElem?_eq_getElem hlt⟩
      obtain ⟨g, cap, e, _, _, _, _, h6, _⟩ := HIr.out.li.there (by omega)
      injection e with e1 e2 e3
      subst e1
      have d0 := h6 _ _ (itc_at _ _ _ hi).1
      obtain ⟨v3, w3, o3, hrun, O3, F3⟩ := app_one 26 9 (.string ⟨#[]⟩) 16 underS infoS (by kernel_rfl) HO.out [.string i.key] rfl (fun u hu => by simp at hu; rw [hu]; rfl) (by omega) (by omega)
      obtain ⟨a3, b3, rfl, _⟩ := O3.form
      have HO3 : Hid (OwnK w3 o3 (7, 0) 1 (.slice a3 (j + 1) b3) (j + 1) (strc ((z.l.take (j + 1)).map It.key))) := by
        show OwnK _ _ _ _ _ _ _
        rw [List.take_add_one, hi, Option.toList_some, List.map_append, strc_append]; exact O3
      have HF3 : Hid (Fr (· = (7, 0)) (fun _ => (0, 0)) o3 w w3) := HF.out.trans F3
      clear h6 hi e2 e3 O3 F3 HO HF HIr
      go_wp2_with (at_builtin; refine wpList_append_run rfl (.tmp 14) (.tmp 23) 26 26 rfl _ _ _ rfl rfl hrun ?_)
      exact ⟨⟨j + 1, o3, a3, b3, by omega, rfl, by go_num, HO3, HF3⟩, by simp [intOf]; omega⟩
    · have k1 : decide ((j : Int) < (z.l.length : Int)) = false := by simp; omega
      have HE : Hid (j = z.keys.length ∧ (z.l.take j).map It.key = z.keys) := by
        have hjl : j = z.l.length := by omega
        subst hjl
        exact ⟨by unfold Sp.keys; rw [List.length_map], by rw [List.take_length]; rfl⟩
      go_wp2_with fail
      go_ret
      obtain ⟨q1, q2⟩ := HO.out.fresh HF.out (by decide) o
      rw [HE.out.2] at q1
      exact ⟨_, _, rfl, by rw [← HE.out.1]; exact q1, ⟨S, _, HI.out.fr q2 (fun _ _ x => x)⟩, q2⟩
end Go.Proofs.Ytbflcnghpkmcoaa
