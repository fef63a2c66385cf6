/-
  LISTS OF STRINGS; Split of the program.
-/
import Derived.Test.YtedbklipbfbmoaaDoorNum
import Derived.WalkMore
namespace Go.Proofs.YtedbklipbfbmoaaDoor
open Go.RowKit

theorem under27 : Tryd.prog.underlying 27 = some (.slice 9) := by kernel_rfl
theorem info9 : (Tryd.prog.info? 9).map (fun i => (i.zero, i.size, i.bytes)) = some (some (.string ⟨#[]⟩), 1, 16) := by kernel_rfl
/-- Strings as cells. -/
def sc (l : List B) : List Value := l.map fun x => .string (S x)
theorem sc_len (l : List B) : (sc l).length = l.length := by simp [sc]
theorem sc_one (l : List B) : ∀ u ∈ sc l, u.oneCell' = true := fun u hu => by
  simp only [sc, List.mem_map] at hu
  obtain ⟨x, _, rfl⟩ := hu; rfl
theorem sc_app (l : List B) (x : B) : sc l ++ [.string (S x)] = sc (l ++ [x]) := by simp [sc]
/-- The slice v reads as these strings. -/
def Strs (w : World) (v : Value) (l : List B) : Prop :=
  ∃ a c, v = .slice a l.length c ∧ l.length ≤ c ∧ (l ≠ [] → ∃ g q, a = some ⟨g, q, none⟩ ∧ ∀ i x, l[i]? = some x → w.cell? ⟨g, q + i, none⟩ = some (.string (S x)))
theorem cell_up {w w' : World} {b off : Nat} {v : Value} (hb : Below w.heap.size w w') (h : w.cell? ⟨b, off, none⟩ = some v) : w'.cell? ⟨b, off, none⟩ = some v := (Fr.ofBelow (fun _ => False) (fun _ => (0, 0)) hb).cell h id
theorem Strs.below {w w' : World} {v : Value} {l : List B} (h : Strs w v l) (b : Below w.heap.size w w') : Strs w' v l := by
  obtain ⟨a, c, h1, h2, h3⟩ := h
  refine ⟨a, c, h1, h2, fun hl => ?_⟩
  obtain ⟨g, q, h4, h5⟩ := h3 hl
  exact ⟨g, q, h4, fun i x hx => cell_up b (h5 i x hx)⟩
theorem OwnK.strs {w : World} {o : Nat → Nat × Nat} {t : Nat × Nat} {v : Value} {n : Nat} {l : List B} (h : OwnK w o t 1 v n (sc l)) : Strs w v l := by
  obtain ⟨hl, _, h⟩ := h
  rw [sc_len, Nat.mul_one] at hl
  subst hl
  rcases h with ⟨rfl, h0⟩ | ⟨g, cap, rfl, _, _, h4, _, h6, _⟩
  · exact ⟨none, 0, by rw [h0], by omega, fun hl => absurd (List.eq_nil_of_length_eq_zero h0) hl⟩
  · exact ⟨_, cap, rfl, h4, fun _ => ⟨g, 0, rfl, fun i x hx => by rw [Nat.zero_add]; exact h6 i _ (by simp [sc, hx])⟩⟩
/-- One more word. -/
theorem app_str {w : World} {o : Nat → Nat × Nat} {t : Nat × Nat} {v : Value} {l : List B} (h : OwnK w o t 1 v l.length (sc l)) (x : B) (hl : l.length < 1000000) :
    ∃ a c w' o', (Builtin.append_ #[27, 27] 27 #[v, .slice (some ⟨w.heap.size, 0, none⟩) 1 1]).run Tryd.prog (w.alloc (.cells #[.string (S x)] 9)) = .ok (.slice a (l.length + 1) c) w' ∧ OwnK w' o' t 1 (.slice a (l.length + 1) c) (l ++ [x]).length (sc (l ++ [x])) ∧ Fr (· = t) o o' w w' := by
  obtain ⟨v', w', o', r, h1, h2⟩ := app_one 27 9 (.string ⟨#[]⟩) 16 under27 info9 rfl h [.string (S x)] rfl (fun u hu => by simp at hu; subst hu; rfl) (by omega) (by omega)
  rw [sc_app] at h1
  obtain ⟨a, c, rfl, _⟩ := h1.form
  exact ⟨a, c, w', o', r, by rw [List.length_append]; exact h1, h2⟩
/-- No block has a mark. -/
def o0 : Nat → Nat × Nat := fun _ => (0, 0)
def strLen : Value → Nat
  | .string s => s.size
  | _ => 0
/-- Split on its way: the words so far, in their slice, and the rest. -/
structure Way (w : World) (s : ByteArray) (wr : World) (t : ByteArray) (l : List B) (a : Option Addr) (n c : Nat) (o : Nat → Nat × Nat) : Prop where
  own : OwnK wr o (1, 0) 1 (.slice a n c) l.length (sc l)
  len : n = l.length
  eq : split (L s) = l ++ split (L t)
  sz : l.length + t.size ≤ s.size
  fr : Fr (· = (1, 0)) o0 o w wr
theorem Way.lens {w : World} {s : ByteArray} {wr : World} {t : ByteArray} {l : List B} {a : Option Addr} {n c : Nat} {o : Nat → Nat × Nat} (h : Way w s wr t l a n c o) : n = l.length := h.len
/-- A word more; the rest is t'. -/
theorem Way.step {w : World} {s : ByteArray} {wr : World} {t t' : ByteArray} {l : List B} {a : Option Addr} {n c : Nat} {o : Nat → Nat × Nat} (h : Way w s wr t l a n c o) (hs : s.size ≤ 100000) {wr1 : World} (b : Below wr.heap.size wr wr1) (x : B) (e : split (L t) = x :: split (L t')) (hz : t'.size < t.size) :
    ∃ a' c' w' o', (Builtin.append_ #[27, 27] 27 #[.slice a n c, .slice (some ⟨wr1.heap.size, 0, none⟩) 1 1]).run Tryd.prog (wr1.alloc (.cells #[.string (S x)] 9)) = .ok (.slice a' (n + 1) c') w' ∧ Way w s w' t' (l ++ [x]) a' (n + 1) c' o' := by
  obtain ⟨own, len, eq, sz, fr⟩ := h
  subst len
  obtain ⟨a', c', w', o', r, h1, h2⟩ := app_str (own.below b) x (by omega)
  refine ⟨a', c', w', o', r, h1, by rw [List.length_append]; rfl, ?_, ?_, (fr.trans (Fr.ofBelow _ _ b)).trans h2⟩
  · rw [eq, e]; simp
  · simp; omega
/-- No word more. -/
theorem Way.skip {w : World} {s : ByteArray} {wr : World} {t t' : ByteArray} {l : List B} {a : Option Addr} {n c : Nat} {o : Nat → Nat × Nat} (h : Way w s wr t l a n c o) (e : split (L t) = split (L t')) (hz : t'.size ≤ t.size) : Way w s wr t' l a n c o :=
  ⟨h.own, h.len, by rw [h.eq, e], by have := h.sz; omega, h.fr⟩
/-- The rest behind a place. -/
def rst (t : ByteArray) (j : Nat) : ByteArray := S ((L t).drop (j + 1))
theorem rst_size (t : ByteArray) (j : Nat) : (rst t j).size = t.size - (j + 1) := by unfold rst; rw [S_size, List.length_drop, L_len]
theorem ext_hi (t : ByteArray) (j : Nat) : t.extract 0 j = S ((L t).take j) := L_inj (by rw [L_extract, L_S]; rfl)
theorem ext_lo (t : ByteArray) (j : Nat) : t.extract (j + 1) t.size = rst t j := L_inj (by rw [L_extract, ← L_len, List.take_length]; rfl)
theorem split_here {t : B} {j : Nat} (h : t[j]? = some 32) (hn : nobl (t.take j)) : split t = (if t.take j = [] then [] else [t.take j]) ++ split (t.drop (j + 1)) := by
  obtain ⟨h1, h2⟩ := List.getElem?_eq_some_iff.1 h
  have e : t = t.take j ++ 32 :: t.drop (j + 1) := by
    conv => lhs; rw [← List.take_append_drop j t, List.drop_eq_getElem_cons h1, h2]
  conv => lhs; rw [e]
  exact split_at _ _ hn
set_option maxHeartbeats 2000000 in
theorem split_any (s : ByteArray) (hs : s.size ≤ 100000) (w : World) : Calls Tryd.prog 29 #[.string s] w fun e w' => ∃ v, e = .returned v ∧ Strs w' v (split (L s)) ∧ Below w.heap.size w w' := by
  go_enter Tryd.func29, Tryd.ntmps29
  go_wp2_with fail
  go_step3
  go_wp2_with fail
  go_step3
  go_wp2_with fail
  go_loopw [0, 3] (fun sv pv wr => ∃ (t : ByteArray) (l : List B) (a : Option Addr) (n c : Nat) (o : Nat → Nat × Nat), sv = .string t ∧ pv = .slice a n c ∧ Hid (Way w s wr t l a n c o)) (fun sv _ _ => strLen sv)
  case atStart => exact ⟨s, [], none, 0, 0, o0, rfl, rfl, Lib.hid ⟨OwnK.nil _ _ _ _, rfl, rfl, by simp, Fr.refl _ _ _⟩⟩
  case round =>
    obtain ⟨t, l, a, n, c, o, rfl, rfl, HW⟩ := hrel
    have tz : t.size ≤ 100000 := by have := HW.out.sz; omega
    by_cases h0 : 0 < t.size
    · have h0' : (0 : Int) < (t.size : Int) := by omega
      go_wp2_with fail
      go_loopw [0, 3, 10] (fun sv pv i wi => ∃ j : Nat, j ≤ t.size ∧ i = .int .i64 (j : Int) ∧ sv = .string t ∧ pv = .slice a n c ∧ Hid (nobl ((L t).take j)) ∧ wr = wi) (fun _ _ i _ => t.size - (intOf i).toNat)
      case atStart => exact ⟨0, by omega, rfl, rfl, rfl, Lib.hid (fun _ h => by simp at h), rfl⟩
      case round =>
        obtain ⟨j, hj, rfl, rfl, rfl, HN, rfl⟩ := hrel
        by_cases hlt : j < t.size
        · have hi1 : (j : Int) < (t.size : Int) := by omega
          obtain ⟨x, hx⟩ : ∃ x, (L t)[j]? = some x := ⟨_, List.getElem?_eq_getElem (by rw [L_len]; exact hlt)⟩
          have ix := str_at hx
          have HX := Lib.hid hx
          clear hx
          obtain ⟨y, hy⟩ : ∃ y : Int, y = ((x.toNat : Nat) : Int) := ⟨_, rfl⟩
          rw [← hy] at ix
          have HY := Lib.hid hy
          clear hy
          by_cases hb : x = 32
          · have y1 : (y != 32) = false := by rw [HY.out, hb]; rfl
            have SH : Hid (split (L t) = (if (L t).take j = [] then [] else [(L t).take j]) ++ split (L (rst t j))) := Lib.hid (split_here (by rw [HX.out, hb]) HN.out)
            have el := ext_lo t j
            have rz := rst_size t j
            have RZ : Hid ((rst t j).size < t.size) := Lib.hid (by omega)
            generalize rst t j = t' at *
            clear rz
            by_cases hj0 : j = 0
            · subst hj0
              have hw := HW.out.skip (t' := t') (by rw [SH.out]; simp) (by have := RZ.out; omega)
              have HW' := Lib.hid hw
              clear hw
              rw [show ((0 : Nat) : Int) = 0 from rfl] at ix ⊢
              rw [show 0 + 1 = 1 from rfl] at el
              go_wp2_with fail
              exact ⟨⟨t', l, a, n, c, o, rfl, rfl, HW'⟩, RZ.out⟩
            · have hj1 : 0 < j := by omega
              have eh := ext_hi t j
              have hne : (L t).take j ≠ [] := fun e => by
                have := congrArg List.length e
                rw [List.length_take, L_len, List.length_nil] at this; omega
              have OW := own_any (S ((L t).take j)) (by rw [S_size, List.length_take, L_len]; omega)
              have SH' : Hid (split (L t) = (L t).take j :: split (L t')) := Lib.hid (by rw [SH.out, if_neg hne]; rfl)
              have HST := Lib.hid (fun (w1 : World) (b : Below wr.heap.size wr w1) => HW.out.step hs b ((L t).take j) SH'.out RZ.out)
              generalize (L t).take j = x at *
              clear hne SH SH' HW HN
              go_wp2_with fail
              refine (OW _).mono ?_
              rintro e w1 ⟨rfl, b⟩
              obtain ⟨a', c', w', o', hr, hw⟩ := HST.out w1 b
              have HW' := Lib.hid hw
              clear hw b HST
              go_wp2_with (at_builtin; refine wpList_append_run rfl (.tmp 19) (.tmp 24) 27 27 rfl _ _ _ rfl rfl hr ?_)
              exact ⟨⟨t', _, a', n + 1, c', o', rfl, rfl, HW'⟩, RZ.out⟩
          · have y1 : (y != 32) = true := by
              rw [HY.out]; simp only [bne_iff_ne, ne_eq]
              intro e
              exact hb (UInt8.toNat_inj.1 (by have : (32 : UInt8).toNat = 32 := rfl; omega))
            go_wp2_with fail
            refine ⟨⟨j + 1, by omega, by go_num, rfl, rfl, Lib.hid (fun z hz => ?_), trivial⟩, by simp [intOf]; omega⟩
            rw [List.take_add_one, HX.out] at hz
            rcases List.mem_append.1 hz with hz | hz
            · exact HN.out z hz
            · simp at hz; subst hz; exact hb
        · have hi1 : decide ((j : Int) < (t.size : Int)) = false := by simp; omega
          have hnb : nobl (L t) := by
            have := HN.out
            rwa [List.take_of_length_le (by rw [L_len]; omega)] at this
          have e0 : L (S []) = [] := rfl
          have SH : Hid (split (L t) = L t :: split (L (S []))) := Lib.hid (by
            rw [split_word _ hnb (fun e => by have := congrArg List.length e; rw [L_len, List.length_nil] at this; omega), e0]; rfl)
          have OW := own_any t (by omega)
          have HST := Lib.hid (fun (w1 : World) (b : Below wr.heap.size wr w1) => HW.out.step (t' := S []) hs b (L t) SH.out (by rw [S_size]; exact h0))
          clear hnb SH HW HN e0
          go_wp2_with fail
          refine (OW _).mono ?_
          rintro e w1 ⟨rfl, b⟩
          obtain ⟨a', c', w', o', hr, hw⟩ := HST.out w1 b
          rw [S_L] at hr
          have HW' := Lib.hid hw
          clear hw b HST
          go_wp2_with (at_builtin; refine wpList_append_run rfl (.tmp 31) (.tmp 34) 27 27 rfl _ _ _ rfl rfl hr ?_)
          simp only [Exit.noGoto_ret]
          go_ret
          have h := HW'.out
          exact ⟨_, rfl, by rw [h.eq, show split (L (S [])) = [] from rfl, List.append_nil]; exact h.own.strs, h.fr.below (Nat.le_refl _) (fun b _ e => by cases e)⟩
    · have h0' : decide ((0 : Int) < (t.size : Int)) = false := decide_eq_false (by omega)
      have e0 : L t = [] := List.eq_nil_of_length_eq_zero (by rw [L_len]; omega)
      have hw : Strs wr (.slice a n c) (split (L s)) ∧ Below w.heap.size w wr := by
        have h := HW.out
        rw [h.eq, e0]
        show _ ∧ _
        rw [show split [] = [] from rfl, List.append_nil]
        exact ⟨h.own.strs, h.fr.below (Nat.le_refl _) (fun b _ e => by cases e)⟩
      have HF := Lib.hid hw
      clear hw e0
      go_wp2_with fail
      simp only [Exit.noGoto_ret]
      go_ret
      exact ⟨_, rfl, HF.out⟩
end Go.Proofs.YtedbklipbfbmoaaDoor
