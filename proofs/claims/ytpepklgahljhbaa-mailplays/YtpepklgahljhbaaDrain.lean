/-
  DRAIN: boxes drained, round by round.
-/
import Derived.Test.YtpepklgahljhbaaFill
import Derived.Test.YtpepklgahljhbaaPure
namespace Go.Proofs.Ytpepklgahljhbaa
open Go.Conc Go.RowKit

/-- Values of one cell each lie at V, in a block with the mark t. -/
def CellR (w : World) (o : Nat → Nat × Nat) (t : Nat × Nat) (V : Value) (l : List Value) : Prop :=
  (V = .slice none 0 0 ∧ l = []) ∨ ∃ g off cap, V = .slice (some ⟨g, off, none⟩) l.length cap ∧ l.length ≤ cap ∧ o g = t ∧ g < w.heap.size ∧ ∀ j u, l[j]? = some u → w.cell? ⟨g, off + j, none⟩ = some u
theorem CellR.form {w : World} {o : Nat → Nat × Nat} {t : Nat × Nat} {V : Value} {l : List Value} (h : CellR w o t V l) : ∃ a c, V = .slice a l.length c ∧ l.length ≤ c := by
  rcases h with ⟨rfl, rfl⟩ | ⟨g, off, cap, rfl, h1, _⟩
  · exact ⟨none, 0, rfl, Nat.le_refl _⟩
  · exact ⟨_, cap, rfl, h1⟩
theorem CellR.fr {T : Nat × Nat → Prop} {w w' : World} {o o' : Nat → Nat × Nat} {t : Nat × Nat} {V : Value} {l : List Value} (h : CellR w o t V l) (f : Fr T o o' w w') (ht : ¬ T t) : CellR w' o' t V l := by
  rcases h with h | ⟨g, off, cap, e, h1, h2, h3, h4⟩
  · exact .inl h
  · exact .inr ⟨g, off, cap, e, h1, (f.lab g h3).trans h2, Nat.lt_of_lt_of_le h3 f.size, fun j u hu => f.cell (h4 j u hu) (by rw [h2]; exact ht)⟩
theorem CellR.read {w : World} {o : Nat → Nat × Nat} {t : Nat × Nat} {a : Option Addr} {n c : Nat} {l : List Value} (h : CellR w o t (.slice a n c) l) {j : Nat} {u : Value} (hu : l[j]? = some u) : ∃ g off, a = some ⟨g, off, none⟩ ∧ w.cell? ⟨g, off + j, none⟩ = some u := by
  rcases h with ⟨_, rfl⟩ | ⟨g, off, cap, e, h1, h2, h3, h4⟩
  · cases hu
  · injection e with e1
    exact ⟨g, off, e1, h4 j u hu⟩
/-- A box's place, or none. -/
abbrev BP := Option (Nat × Nat)
def pv (p : BP) : Value := .pointer (p.map fun q => ⟨q.1, 0, none⟩)
/-- One box. -/
def Bx1 (w : World) (o : Nat → Nat × Nat) (p : BP) (l : List Int) : Prop := match p with
  | none => l = []
  | some q => ∃ room, IsBox w o q.1 q.2 room (l.map fo)
/-- Boxes and what is in them. -/
structure Bxs (w : World) (o : Nat → Nat × Nat) (ps : List BP) (ls : List (List Int)) : Prop where
  len : ls.length = ps.length
  at_ : ∀ (i : Nat) p l, ps[i]? = some p → ls[i]? = some l → Bx1 w o p l
  dif : ∀ (i j b b' c : Nat), ps[i]? = some (some (b, c)) → ps[j]? = some (some (b', c)) → i = j
/-- The boxes' channels. -/
def TC (ps : List BP) (t : Nat × Nat) : Prop := ∃ b c, some (b, c) ∈ ps ∧ t = (1, c)
/-- The boxes' channels, and the list that is made. -/
def TB (ps : List BP) (t : Nat × Nat) : Prop := t = (7, 2) ∨ TC ps t
theorem TC.no {ps : List BP} {t : Nat × Nat} (h : ¬ t.1 = 1) : ¬ TC ps t := fun ⟨_, _, _, e⟩ => h (by rw [e])
theorem TB.no {ps : List BP} {t : Nat × Nat} (h : ¬ t.1 = 1) (h2 : ¬ t = (7, 2)) : ¬ TB ps t := fun x => x.elim h2 (TC.no h)
theorem Bx1.fr {T : Nat × Nat → Prop} {w w' : World} {o o' : Nat → Nat × Nat} {p : BP} {l : List Int} (h : Bx1 w o p l) (f : Fr T o o' w w') (h1 : ∀ b c, p = some (b, c) → ¬ T (1, c)) (h2 : ¬ T (2, 0)) : Bx1 w' o' p l := by
  cases p with
  | none => exact h
  | some q => obtain ⟨room, h⟩ := h; exact ⟨room, h.fr f (h1 q.1 q.2 rfl) h2⟩
theorem Bxs.fr {T : Nat × Nat → Prop} {w w' : World} {o o' : Nat → Nat × Nat} {ps : List BP} {ls : List (List Int)} (h : Bxs w o ps ls) (f : Fr T o o' w w') (h1 : ∀ b c, some (b, c) ∈ ps → ¬ T (1, c)) (h2 : ¬ T (2, 0)) : Bxs w' o' ps ls :=
  ⟨h.len, fun i p l hp hl => (h.at_ i p l hp hl).fr f (fun b c e => h1 b c (by rw [← e]; exact List.mem_of_getElem? hp)) h2, h.dif⟩
/-- One box turned. -/
theorem Bxs.turn {w w' : World} {o o' : Nat → Nat × Nat} {ps : List BP} {ls : List (List Int)} (h : Bxs w o ps ls) {i b c room : Nat} {l : List Int} (hi : ps[i]? = some (some (b, c))) (f : Fr (· = (1, c)) o o' w w') (hb : IsBox w' o' b c room (l.map fo)) : Bxs w' o' ps (ls.set i l) := by
  refine ⟨by rw [List.length_set]; exact h.len, fun j p m hp hm => ?_, h.dif⟩
  by_cases e : i = j
  · subst e
    rw [hi] at hp
    injection hp with hp
    subst hp
    rw [List.getElem?_set_self' ] at hm
    cases hx : ls[i]? with
    | none => rw [hx] at hm; cases hm
    | some y =>
      rw [hx] at hm
      simp at hm
      subst hm
      exact ⟨room, hb⟩
  · rw [List.getElem?_set_ne e] at hm
    refine (h.at_ j p m hp hm).fr f (fun b' c' e' x => ?_) (fun x => by cases x)
    injection x with _ x
    subst x
    subst e'
    exact e (h.dif i j b b' _ hi hp)
theorem takeOf_empty {o : Nat → Nat × Nat} {p : BP} (w : World) (h : Bx1 w o p []) : Calls Try.prog 18 #[pv p] w fun e w' => e = .returned (.tuple #[Z.v, .bool false]) ∧ Fr (fun _ => False) o o w w' := by
  cases p with
  | none => exact takeOf_nil o w
  | some q => obtain ⟨room, h⟩ := h; exact takeOf_no w h
theorem Bxs.nil (w : World) (o : Nat → Nat × Nat) : Bxs w o [] [] := ⟨rfl, fun i p l h => by simp at h, fun i j b b' c h => by simp at h⟩
theorem Bxs.lt {w : World} {o : Nat → Nat × Nat} {ps : List BP} {ls : List (List Int)} (h : Bxs w o ps ls) {b c : Nat} (hm : some (b, c) ∈ ps) : c < w.heap.size := by
  obtain ⟨i, hi⟩ := List.getElem?_of_mem hm
  have hl := (List.getElem?_eq_some_iff.1 hi).1
  obtain ⟨room, hb⟩ := h.at_ i _ _ hi (List.getElem?_eq_getElem (by rw [h.len]; exact hl))
  obtain ⟨s, r, hc⟩ := hb.hc
  exact lt_of_get hc
theorem snoc_at {α : Type} {l : List α} {x y : α} {i : Nat} (h : (l ++ [x])[i]? = some y) : l[i]? = some y ∨ (i = l.length ∧ y = x) := by
  by_cases hi : i < l.length
  · rw [List.getElem?_append_left hi] at h; exact .inl h
  · rw [List.getElem?_append_right (by omega)] at h
    cases hd : i - l.length with
    | zero => rw [hd] at h; simp at h; exact .inr ⟨by omega, h.symm⟩
    | succ d => rw [hd] at h; simp at h
/-- One box more. -/
theorem Bxs.snoc {w w' : World} {o o' : Nat → Nat × Nat} {ps : List BP} {ls : List (List Int)} (h : Bxs w o ps ls) (f : Fr (fun _ => False) o o' w w') {b c room : Nat} {l : List Int} (hb : IsBox w' o' b c room (l.map fo)) (hc : w.heap.size ≤ c) : Bxs w' o' (ps ++ [some (b, c)]) (ls ++ [l]) := by
  have h' : Bxs w' o' ps ls := h.fr f (fun _ _ _ => id) id
  have hlt : ∀ (i b' c' : Nat), ps[i]? = some (some (b', c')) → c' < c := fun i b' c' hi => Nat.lt_of_lt_of_le (h.lt (List.mem_of_getElem? hi)) hc
  refine ⟨by simp [h.len], fun i p m hp hm => ?_, fun i j b1 b2 c1 h1 h2 => ?_⟩
  · rcases snoc_at hp with hp | ⟨hi, rfl⟩
    · rcases snoc_at hm with hm | ⟨hj, _⟩
      · exact h'.at_ i p m hp hm
      · have := (List.getElem?_eq_some_iff.1 hp).1
        have := h.len
        omega
    · rcases snoc_at hm with hm | ⟨_, rfl⟩
      · have := (List.getElem?_eq_some_iff.1 hm).1
        have := h.len
        omega
      · exact ⟨room, hb⟩
  · rcases snoc_at h1 with h1 | ⟨hi, e1⟩
    · rcases snoc_at h2 with h2 | ⟨hj, e2⟩
      · exact h.dif i j b1 b2 c1 h1 h2
      · injection e2 with e2
        injection e2 with _ e2
        have := hlt _ _ _ h1
        omega
    · rcases snoc_at h2 with h2 | ⟨hj, e2⟩
      · injection e1 with e1
        injection e1 with _ e1
        have := hlt _ _ _ h2
        omega
      · omega
/-- No box more. -/
theorem Bxs.snocNil {w : World} {o : Nat → Nat × Nat} {ps : List BP} {ls : List (List Int)} (h : Bxs w o ps ls) : Bxs w o (ps ++ [none]) (ls ++ [[]]) := by
  refine ⟨by simp [h.len], fun i p m hp hm => ?_, fun i j b1 b2 c1 h1 h2 => ?_⟩
  · rcases snoc_at hp with hp | ⟨hi, rfl⟩
    · rcases snoc_at hm with hm | ⟨hj, _⟩
      · exact h.at_ i p m hp hm
      · have := (List.getElem?_eq_some_iff.1 hp).1
        have := h.len
        omega
    · rcases snoc_at hm with hm | ⟨_, rfl⟩
      · have := (List.getElem?_eq_some_iff.1 hm).1
        have := h.len
        omega
      · exact (rfl : ([] : List Int) = [])
  · rcases snoc_at h1 with h1 | ⟨hi, e1⟩
    · rcases snoc_at h2 with h2 | ⟨hj, e2⟩
      · exact h.dif i j b1 b2 c1 h1 h2
      · cases e2
    · cases e1
/-- Values written out. -/
theorem lit_cells (w : World) (o : Nat → Nat × Nat) (t : Nat × Nat) (e : TypeId) (l : List Value) : CellR (w.alloc (.cells l.toArray e)) (lab o w.heap.size t) t (.slice (some ⟨w.heap.size, 0, none⟩) l.length l.length) l :=
  .inr ⟨_, 0, _, rfl, Nat.le_refl _, lab_same _ _ _, by simp, fun j u hu => by rw [Nat.zero_add, World.cell?_alloc_new, List.getElem?_toArray]; exact hu⟩
/-- One cell. -/
def One (w : World) (o : Nat → Nat × Nat) (t : Nat × Nat) (B off : Nat) (v : Value) : Prop := w.cell? ⟨B, off, none⟩ = some v ∧ o B = t
theorem One.fr {T : Nat × Nat → Prop} {w w' : World} {o o' : Nat → Nat × Nat} {t : Nat × Nat} {B off : Nat} {v : Value} (h : One w o t B off v) (f : Fr T o o' w w') (ht : ¬ T t) : One w' o' t B off v :=
  ⟨f.cell h.1 (by rw [h.2]; exact ht), (f.lab B (World.block_lt_of_cell? _ _ h.1)).trans h.2⟩
def lenV : Value → Nat
  | .slice _ n _ => n
  | _ => 0
theorem under30 : Try.prog.underlying 30 = some (.slice 26) := by kernel_rfl
set_option maxRecDepth 100000 in
set_option maxHeartbeats 4000000 in
theorem drain_any {o : Nat → Nat × Nat} {t : Nat × Nat} {V : Value} (k : Int) (ps : List BP) (ls : List (List Int)) (w : World) (hB : Bxs w o ps ls) (hV : CellR w o t V (ps.map pv)) (ht : ¬ TB ps t) (hn : ps.length ≤ 1000) (hs : tot (ls, []) ≤ 100000) :
    Calls Try.prog 11 #[.int .i64 k, V] w fun e w' => ∃ V' o' m, e = .returned V' ∧ rnp k.toNat ps.length (itr k.toNat ps.length m (ls, [])) = itr k.toNat ps.length m (ls, []) ∧
      OwnK w' o' (7, 2) 9 V' (itr k.toNat ps.length m (ls, [])).2.length (fc ((itr k.toNat ps.length m (ls, [])).2.map fo)) ∧ Bxs w' o' ps (itr k.toNat ps.length m (ls, [])).1 ∧ Fr (TB ps) o o' w w' := by
  obtain ⟨a, cp, rfl, _⟩ := hV.form
  rw [List.length_map] at hV ⊢
  obtain ⟨n, hnn⟩ : ∃ n, n = ps.length := ⟨_, rfl⟩
  rw [← hnn] at hV hn ⊢
  have HB : Hid (Bxs w o ps ls) := hB
  have HV : Hid (CellR w o t (.slice a n cp) (ps.map pv)) := hV
  have HT : Hid (¬ TB ps t) := ht
  have HN : Hid (n = ps.length) := hnn
  have HS : Hid (tot (ls, []) ≤ 100000) := hs
  clear hB hV ht hnn hs
  obtain ⟨K, hK⟩ : ∃ K, K = k.toNat := ⟨_, rfl⟩
  rw [← hK]
  have HK : Hid (K = k.toNat) := hK
  clear hK
  go_enter Try.func11, Try.ntmps11
  go_wp2_with fail
  go_step3
  go_wp2_with fail
  go_step3
  go_wp2_with fail
  go_loopw [5] (fun V wr => ∃ (m q : Nat) (o1 : Nat → Nat × Nat) (va : Option Addr) (vc : Nat), V = .slice va q vc ∧ q ≤ 100000 ∧ Hid (q = (itr K n m (ls, [])).2.length) ∧ Hid (OwnK wr o1 (7, 2) 9 (.slice va q vc) q (fc ((itr K n m (ls, [])).2.map fo))) ∧ Hid (Bxs wr o1 ps (itr K n m (ls, [])).1) ∧ Hid (Fr (TB ps) o o1 w wr)) (fun V _ => 100001 - lenV V)
  case atStart => exact ⟨0, 0, o, none, 0, rfl, by omega, rfl, OwnK.nil w o (7, 2) 9, HB, Fr.refl _ _ _⟩
  case round =>
    obtain ⟨m, q, o1, va, vc, rfl, hq, HQ, HO, HBr, HF⟩ := hrel
    obtain ⟨s, hs⟩ : ∃ s, s = itr K n m (ls, []) := ⟨_, rfl⟩
    rw [← hs] at HQ HO HBr
    have HSS : Hid (s = itr K n m (ls, [])) := hs
    have HTOT : Hid (∀ j, (rnp K j s).2.length ≤ 100000) := by
      intro j
      have e1 := rnp_tot K s j
      have e2 := itr_tot K n (ls, []) m
      rw [← hs] at e2
      have := HS.out
      unfold tot at *
      omega
    clear hs
    go_wp2_with fail
    go_loopw [5, 15] (fun V i wx => ∃ (j p : Nat) (o2 : Nat → Nat × Nat) (xa : Option Addr) (xc : Nat), V = .slice xa p xc ∧ i = .int .i64 (j : Int) ∧ j ≤ n ∧ p ≤ 100000 ∧ Hid (p = (rnp K j s).2.length) ∧ Hid (OwnK wx o2 (7, 2) 9 (.slice xa p xc) p (fc ((rnp K j s).2.map fo))) ∧ Hid (Bxs wx o2 ps (rnp K j s).1) ∧ Hid (Fr (TB ps) o o2 w wx)) (fun _ i _ => n - (intOf i).toNat)
    case atStart => exact ⟨0, q, o1, va, vc, rfl, rfl, by omega, hq, HQ, HO, HBr, HF⟩
    case round =>
      clear HO HBr HF
      obtain ⟨j, p, o2, xa, xc, rfl, rfl, hj, hp, HP, HO, HBr, HF⟩ := hrel
      have HLN : Hid ((rnp K j s).1.length = n) := by show _ = _; rw [HN.out]; exact HBr.out.len
      by_cases hlt : j < n
      · obtain ⟨pt, hpt⟩ : ∃ pt, ps[j]? = some pt := ⟨_, List.getElem?_eq_getElem (by rw [← HN.out]; exact hlt)⟩
        obtain ⟨g, off, e1, d1⟩ := (HV.out.fr HF.out HT.out).read (show (ps.map pv)[j]? = some (pv pt) by simp [hpt])
        subst e1
        have hi1 : (j : Int) < (n : Int) := by omega
        by_cases hkp : k ≤ (p : Int)
        · have HE : Hid (itr K n (m + 1) (ls, []) = rnp K j s) := by
            show rnp K n (itr K n m (ls, [])) = _
            rw [← HSS.out]
            have := rnp_more (k := K) (j := j) (s := s) (by rw [← HP.out, HK.out]; omega) (n - j)
            rw [show j + (n - j) = n by omega] at this
            exact this
          have HX : Hid (rnp K n (rnp K j s) = rnp K j s) := rnp_full (by rw [← HP.out, HK.out]; omega) n
          clear hpt
          go_wp2_with fail
          simp only [Exit.noGoto_ret]
          go_ret
          exact ⟨_, o2, m + 1, rfl, by rw [HE.out]; exact HX.out, by rw [HE.out, ← HP.out]; exact HO.out, by rw [HE.out]; exact HBr.out, HF.out⟩
        · have HKP : Hid (¬ K ≤ (rnp K j s).2.length) := by
            show ¬ _; rw [← HP.out, HK.out]; omega
          obtain ⟨l, hl⟩ : ∃ l, (rnp K j s).1[j]? = some l := ⟨_, List.getElem?_eq_getElem (by rw [HLN.out]; exact hlt)⟩
          have hb1 := HBr.out.at_ j pt l hpt hl
          cases l with
          | nil =>
            have HB1 : Hid (Bx1 wr o2 pt []) := hb1
            have HE : Hid (rnp K (j + 1) s = rnp K j s) := st_none hl
            clear hpt hl hb1
            go_wp2_with fail
            refine (takeOf_empty _ HB1.out).mono ?_
            rintro e w2 ⟨rfl, F2⟩
            have HF2 : Hid (∀ ob, Fr (fun _ => False) o2 o2 wr (w2.alloc ob)) := fun ob => F2.trans (Fr.alloc _ _ _ _)
            clear F2 d1 HB1
            simp only [Z, F.v, F.cs]
            go_wp2_with fail
            refine ⟨⟨j + 1, p, o2, xa, xc, rfl, by go_num, by omega, hp, ?_, ?_, ?_, HF.out.trans ((HF2.out _).mono (fun _ h => h.elim))⟩, by simp [intOf]; omega⟩
            · show _ = _; rw [HE.out]; exact HP.out
            · show OwnK _ _ _ _ _ _ _; rw [HE.out]; exact HO.out.fr (HF2.out _) id
            · show Bxs _ _ _ _; rw [HE.out]; exact HBr.out.fr (HF2.out _) (fun _ _ _ => id) id
          | cons x xs =>
            cases pt with
            | none => cases hb1
            | some bc =>
              obtain ⟨b, c⟩ := bc
              obtain ⟨room, hbx⟩ := hb1
              have HB1 : Hid (IsBox wr o2 b c room (fo x :: xs.map fo)) := hbx
              have HE : Hid (rnp K (j + 1) s = ((rnp K j s).1.set j xs, (rnp K j s).2 ++ [x])) := st_some HKP.out hl
              have HPT : Hid (ps[j]? = some (some (b, c))) := hpt
              have HP1 : p + 1 ≤ 100000 := by
                have := HTOT.out (j + 1)
                rw [HE.out] at this
                simp only [List.length_append, List.length_singleton] at this
                have := HP.out
                omega
              clear hpt hl hbx
              go_wp2_with fail
              refine (takeOf_yes (fo x) _ HB1.out).mono ?_
              rintro e w2 ⟨rfl, I2, F2⟩
              have F3 : Fr (· = (1, c)) o2 o2 wr (w2.alloc (.cells (fo x).cs.toArray 26)) := F2.trans (Fr.alloc _ _ _ _)
              obtain ⟨v3, w3, o3, hrun, O3, F4⟩ := app_one (by decide) 30 26 Z.v 88 under30 info26 (by kernel_rfl) (HO.out.fr F3 (fun e => by cases e)) (fo x).cs rfl (fun u hu => fc_one [fo x] u (by simpa [fc] using hu)) (by omega) (by omega)
              obtain ⟨a3, b3, rfl, _⟩ := O3.form
              have HO3 : Hid (OwnK w3 o3 (7, 2) 9 (.slice a3 (p + 1) b3) (p + 1) (fc ((rnp K (j + 1) s).2.map fo))) := by
                show OwnK _ _ _ _ _ _ _; rw [HE.out]; simp only [List.map_append, fc_append]; exact O3
              have HB3 : Hid (Bxs w3 o3 ps (rnp K (j + 1) s).1) := by
                show Bxs _ _ _ _; rw [HE.out]
                exact (HBr.out.turn HPT.out F3 (I2.alloc _)).fr F4 (fun _ _ _ e => by cases e) (fun e => by cases e)
              have HF3 : Hid (Fr (TB ps) o o3 w w3) := (HF.out.trans (F3.mono (fun t e => .inr ⟨b, c, List.mem_of_getElem? HPT.out, e⟩))).trans (F4.mono (fun t e => .inl e))
              have HP3 : Hid (p + 1 = (rnp K (j + 1) s).2.length) := by
                show _ = _; rw [HE.out]; simp only [List.length_append, List.length_singleton]; rw [← HP.out]
              simp only [World.size_alloc, fo, F.cs] at hrun
              clear O3 F4 F3 F2 I2 HO HBr HF HB1 HKP d1
              simp only [fo, F.v, F.cs]
              go_wp2_with (at_builtin; refine wpList_append_run rfl (.tmp 29) (.tmp 31) 30 30 rfl _ _ _ rfl rfl hrun ?_)
              exact ⟨⟨j + 1, p + 1, o3, a3, b3, rfl, by go_num, by omega, by omega, HP3, HO3, HB3, HF3⟩, by simp [intOf]; omega⟩
      · have hjn : j = n := by omega
        subst hjn
        have HE : Hid (itr K j (m + 1) (ls, []) = rnp K j s) := by
          show rnp K j (itr K j m (ls, [])) = _
          rw [← HSS.out]
        have HG := rnp_grows K s j
        have HG1 : Hid (q ≤ p) := by show _ ≤ _; rw [HQ.out, HP.out]; exact HG.1
        have HG2 : Hid (p = q → rnp K j s = s) := fun e => HG.2 (by rw [← HQ.out, ← HP.out, e])
        clear HG
        by_cases hpq : q < p
        · go_wp2_with fail
          exact ⟨⟨m + 1, p, o2, xa, xc, rfl, hp, by rw [HE.out]; exact HP, by rw [HE.out]; exact HO, by rw [HE.out]; exact HBr, HF⟩, by simp [lenV]; omega⟩
        · have hpe : p = q := by have := HG1.out; omega
          have HX := HG2.out hpe
          have HX2 : Hid (rnp K j s = s) := HX
          rw [HX] at HO HBr HP
          subst hpe
          clear HX HG1 HG2 HE
          go_wp2_with fail
          simp only [Exit.noGoto_ret]
          go_ret
          exact ⟨_, o2, m, rfl, by rw [← HSS.out]; exact HX2.out, by rw [← HSS.out, ← HP.out]; exact HO.out, by rw [← HSS.out]; exact HBr.out, HF.out⟩
end Go.Proofs.Ytpepklgahljhbaa
