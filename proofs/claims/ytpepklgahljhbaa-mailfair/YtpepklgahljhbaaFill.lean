/-
  ROWS OF NUMBERS; filled, rids, Same, Within.
-/
import Derived.Test.YtpepklgahljhbaaBx
namespace Go.Proofs.Ytpepklgahljhbaa
open Go.Conc Go.RowKit

/-- Numbers lie at V, in a block with the mark t. -/
def IntR (w : World) (o : Nat → Nat × Nat) (t : Nat × Nat) (V : Value) (l : List Int) : Prop :=
  (l = [] ∧ ∃ A c, V = .slice A 0 c) ∨ ∃ g off cap, V = .slice (some ⟨g, off, none⟩) l.length cap ∧ l.length ≤ cap ∧ o g = t ∧ g < w.heap.size ∧ ∀ j u, l[j]? = some u → w.cell? ⟨g, off + j, none⟩ = some (.int .i64 u)
theorem IntR.form {w : World} {o : Nat → Nat × Nat} {t : Nat × Nat} {V : Value} {l : List Int} (h : IntR w o t V l) : ∃ a c, V = .slice a l.length c ∧ l.length ≤ c := by
  rcases h with ⟨rfl, A, c, rfl⟩ | ⟨g, off, cap, rfl, h1, _⟩
  · exact ⟨A, c, rfl, Nat.zero_le _⟩
  · exact ⟨_, cap, rfl, h1⟩
theorem IntR.fr {T : Nat × Nat → Prop} {w w' : World} {o o' : Nat → Nat × Nat} {t : Nat × Nat} {V : Value} {l : List Int} (h : IntR w o t V l) (f : Fr T o o' w w') (ht : ¬ T t) : IntR w' o' t V l := by
  rcases h with h | ⟨g, off, cap, e, h1, h2, h3, h4⟩
  · exact .inl h
  · exact .inr ⟨g, off, cap, e, h1, (f.lab g h3).trans h2, Nat.lt_of_lt_of_le h3 f.size, fun j u hu => f.cell (h4 j u hu) (by rw [h2]; exact ht)⟩
theorem IntR.read {w : World} {o : Nat → Nat × Nat} {t : Nat × Nat} {a : Option Addr} {n c : Nat} {l : List Int} (h : IntR w o t (.slice a n c) l) {j : Nat} {u : Int} (hu : l[j]? = some u) : ∃ g off, a = some ⟨g, off, none⟩ ∧ w.cell? ⟨g, off + j, none⟩ = some (.int .i64 u) := by
  rcases h with ⟨rfl, _⟩ | ⟨g, off, cap, e, h1, h2, h3, h4⟩
  · cases hu
  · injection e with e1
    exact ⟨g, off, e1, h4 j u hu⟩
/-- Numbers as cells. -/
def ic (l : List Int) : List Value := l.map (Value.int .i64)
theorem ic_length (l : List Int) : (ic l).length = l.length := by simp [ic]
theorem ic_at (l : List Int) {j : Nat} {u : Int} (h : l[j]? = some u) : (ic l)[j]? = some (.int .i64 u) := by simp [ic, h]
theorem ic_one (l : List Int) : ∀ u ∈ ic l, u.oneCell' = true := fun u hu => by obtain ⟨k, _, rfl⟩ := List.mem_map.1 hu; rfl
theorem OwnK.row {w : World} {o : Nat → Nat × Nat} {t : Nat × Nat} {V : Value} {n : Nat} {l : List Int} (h : OwnK w o t 1 V n (ic l)) : IntR w o t V l := by
  have hl := h.1
  rw [ic_length] at hl
  rcases h.2.2 with ⟨rfl, rfl⟩ | ⟨g, cap, e, h2, h3, h4, h5, h6, h7⟩
  · exact .inl ⟨List.eq_nil_of_length_eq_zero (by omega), _, _, rfl⟩
  · rw [Nat.mul_one] at hl
    subst hl
    exact .inr ⟨g, 0, cap, e, h4, h2, h3, fun j u hu => by rw [Nat.zero_add]; exact h6 j _ (ic_at l hu)⟩
/-- Numbers written out. -/
theorem lit_ints (w : World) (o : Nat → Nat × Nat) (t : Nat × Nat) (l : List Int) : IntR (w.alloc (.cells (ic l).toArray 3)) (lab o w.heap.size t) t (.slice (some ⟨w.heap.size, 0, none⟩) l.length l.length) l :=
  .inr ⟨_, 0, _, rfl, Nat.le_refl _, lab_same _ _ _, by simp, fun j u hu => by rw [Nat.zero_add, World.cell?_alloc_new, List.getElem?_toArray]; exact ic_at l hu⟩
set_option maxRecDepth 100000 in
set_option maxHeartbeats 1000000 in
theorem filled_any {o : Nat → Nat × Nat} {t : Nat × Nat} {V : Value} (room : Nat) (R : Int) (hR : R = (room : Int)) (l : List Int) (h1 : 1 ≤ room) (h2 : room ≤ 256) (hl : l.length ≤ room) (w : World) (hm : Mk o) (h : IntR w o t V l) :
    Calls Try.prog 7 #[.int .i64 R, V] w fun e w' => ∃ b c o', e = .returned (.pointer (some ⟨b, 0, none⟩)) ∧ IsBox w' o' b c room (l.map fo) ∧ Fr (fun _ => False) o o' w w' ∧ w.heap.size ≤ c := by
  subst hR
  obtain ⟨a, cp, rfl, _⟩ := h.form
  obtain ⟨n, hn⟩ : ∃ n, n = l.length := ⟨_, rfl⟩
  rw [← hn] at h hl ⊢
  have HR : Hid (IntR w o t (.slice a n cp) l) := h
  have HM : Hid (Mk o) := hm
  have HN : Hid (n = l.length) := hn
  clear h hm hn
  go_enter Try.func7, Try.ntmps7
  go_wp2_with fail
  refine (new_yes room h1 h2 _ o).mono ?_
  rintro e w1 ⟨b, c, o1, rfl, I1, F1, hc⟩
  have HI1 : Hid (IsBox w1 o1 b c room []) := I1
  have HF1 : Hid (Fr (fun _ => False) o o1 w w1) := F1
  have HC : Hid (w.heap.size ≤ c) := hc
  clear I1 F1 hc
  go_wp2_with fail
  go_loopw [7] (fun i wr => ∃ j : Nat, j ≤ n ∧ i = .int .i64 (j : Int) ∧ Hid (IsBox wr o1 b c room ((l.take j).map fo)) ∧ Hid (Fr (fun _ => False) o o1 w wr)) (fun i _ => n - (intOf i).toNat)
  case atStart => exact ⟨0, by omega, rfl, HI1, HF1⟩
  case round =>
    clear HI1 HF1
    obtain ⟨j, hj, rfl, HI, HF⟩ := hrel
    by_cases hlt : j < n
    · obtain ⟨u, hu⟩ : ∃ u, l[j]? = some u := ⟨_, List.getElem?_eq_getElem (by rw [← HN.out]; exact hlt)⟩
      obtain ⟨g, off, e1, d1⟩ := HR.out.read hu
      subst e1
      have f1 := (HR.out.fr HF.out id).read hu
      obtain ⟨_, _, e2, f1⟩ := f1
      injection e2 with e2
      injection e2 with e2 e3
      subst e2 e3
      have hi1 : (j : Int) < (n : Int) := by omega
      have HU : Hid (l.take (j + 1) = l.take j ++ [u]) := by
        show _ = _; rw [List.take_add_one, hu]; rfl
      have hle : Hid (((l.take j).map fo).length < room) := by
        show _ < _; rw [List.length_map, List.length_take]; omega
      clear d1 hu
      go_wp2_with fail
      refine (of_any u _).mono ?_
      rintro e w2 ⟨rfl, ob, rfl⟩
      have HI2 : Hid (IsBox (wr.alloc ob) o1 b c room ((l.take j).map fo)) := HI.out.alloc ob
      have HF2 : Hid (Fr (fun _ => False) o o1 w (wr.alloc ob)) := HF.out.trans (Fr.alloc _ _ _ _)
      clear HI HF f1
      go_wp2_with fail
      refine (put_yes (fo u) _ HI2.out hle.out).mono ?_
      rintro e w3 ⟨rfl, I3, F3⟩
      have HI3 : Hid (IsBox w3 o1 b c room ((l.take (j + 1)).map fo)) := by
        show IsBox _ _ _ _ _ _; rw [HU.out, List.map_append]; exact I3
      have HF3 : Hid (Fr (fun _ => False) o o1 w w3) := HF2.out.past F3 HM.out HC.out
      clear I3 F3 HI2 HF2
      go_wp2_with fail
      exact ⟨⟨j + 1, by omega, by go_num, HI3, HF3⟩, by simp [intOf]; omega⟩
    · have hjn : j = n := by omega
      subst hjn
      have HE : Hid (l.take j = l) := by show _ = _; rw [HN.out, List.take_length]
      go_wp2_with fail
      go_ret
      exact ⟨b, c, o1, rfl, by rw [← HE.out]; exact HI.out, HF.out, HC.out⟩
theorem under36 : Try.prog.underlying 36 = some (.slice 3) := by kernel_rfl
theorem info3 : (Try.prog.info? 3).map (fun i => (i.zero, i.size, i.bytes)) = some (some (.int .i64 0), 1, 8) := by kernel_rfl
/-- Frames as cells. -/
def fc (l : List F) : List Value := l.flatMap F.cs
theorem fc_length (l : List F) : (fc l).length = l.length * 9 := by
  induction l with
  | nil => rfl
  | cons f l ih => simp only [fc, List.flatMap_cons, List.length_append] at ih ⊢; rw [ih]; simp [F.cs]; omega
theorem fc_append (l m : List F) : fc (l ++ m) = fc l ++ fc m := by simp [fc]
theorem fc_at (l : List F) {j : Nat} {f : F} (h : l[j]? = some f) (i : Nat) (hi : i < 9) : (fc l)[j * 9 + i]? = f.cs[i]? := by
  induction l generalizing j with
  | nil => cases h
  | cons g l ih =>
    cases j with
    | zero =>
      simp only [List.getElem?_cons_zero, Option.some.injEq] at h
      subst h
      rw [Nat.zero_mul, Nat.zero_add]
      show (g.cs ++ fc l)[i]? = _
      rw [List.getElem?_append_left (by simp [F.cs]; omega)]
    | succ j =>
      rw [List.getElem?_cons_succ] at h
      show (g.cs ++ fc l)[(j + 1) * 9 + i]? = _
      rw [List.getElem?_append_right (by simp [F.cs]; omega), show (j + 1) * 9 + i - g.cs.length = j * 9 + i by simp [F.cs]; omega]
      exact ih h
theorem fc_one (l : List F) : ∀ u ∈ fc l, u.oneCell' = true := fun u hu => by
  obtain ⟨f, _, hf⟩ := List.mem_flatMap.1 hu
  simp [F.cs] at hf
  rcases hf with h | h | h | h | h | h | h | h | h <;> rw [h] <;> rfl
set_option maxRecDepth 100000 in
set_option maxHeartbeats 1000000 in
/-- rids: the numbers of frames. -/
theorem rids_any {o : Nat → Nat × Nat} {t : Nat × Nat} {V : Value} (l : List F) (hl : l.length ≤ 100000) (ht : ¬ t = (7, 1)) (w : World) (h : OwnK w o t 9 V l.length (fc l)) :
    Calls Try.prog 15 #[V] w fun e w' => ∃ V' o', e = .returned V' ∧ OwnK w' o' (7, 1) 1 V' l.length (ic (l.map F.rid)) ∧ Fr (fun t => t = (7, 1)) o o' w w' := by
  obtain ⟨a, cp, rfl, _⟩ := h.form
  obtain ⟨n, hn⟩ : ∃ n, n = l.length := ⟨_, rfl⟩
  rw [← hn] at h hl ⊢
  have HR : Hid (OwnK w o t 9 (.slice a n cp) n (fc l)) := h
  have HN : Hid (n = l.length) := hn
  have HT : Hid (¬ t = (7, 1)) := ht
  clear h hn ht
  go_enter Try.func15, Try.ntmps15
  go_wp2_with fail
  go_loopw [3, 4] (fun V i wr => ∃ (j : Nat) (o1 : Nat → Nat × Nat) (va : Option Addr) (vc : Nat), j ≤ n ∧ V = .slice va j vc ∧ i = .int .i64 (j : Int) ∧ Hid (OwnK wr o1 (7, 1) 1 (.slice va j vc) j (ic ((l.take j).map F.rid))) ∧ Hid (Fr (fun t => t = (7, 1)) o o1 w wr)) (fun _ i _ => n - (intOf i).toNat)
  case atStart => exact ⟨0, o, _, _, by omega, rfl, rfl, OwnK.nil w o (7, 1) 1, Fr.refl _ _ _⟩
  case round =>
    obtain ⟨j, o1, va, vc, hj, rfl, rfl, HO, HF⟩ := hrel
    by_cases hlt : j < n
    · obtain ⟨f, hf⟩ : ∃ f, l[j]? = some f := ⟨_, List.getElem?_eq_getElem (by rw [← HN.out]; exact hlt)⟩
      obtain ⟨g, cap, e1, _, _, _, _, h6, _⟩ := (HR.out.fr HF.out HT.out).there (by omega)
      injection e1 with e1
      subst e1
      have f1 := h6 (j * 9 + 3) (.int .i64 f.rid) ((fc_at l hf 3 (by omega)).trans rfl)
      have hi1 : (j : Int) < (n : Int) := by omega
      have HU : Hid (l.take (j + 1) = l.take j ++ [f]) := by
        show _ = _; rw [List.take_add_one, hf]; rfl
      obtain ⟨v3, w3, o3, hrun, O3, F3⟩ := app_one (by decide) 36 3 (.int .i64 0) 8 under36 info3 (by kernel_rfl) HO.out [.int .i64 f.rid] rfl (fun u hu => by simp at hu; rw [hu]; rfl) (by omega) (by omega)
      obtain ⟨a3, b3, rfl, _⟩ := O3.form
      have HO3 : Hid (OwnK w3 o3 (7, 1) 1 (.slice a3 (j + 1) b3) (j + 1) (ic ((l.take (j + 1)).map F.rid))) := by
        show OwnK _ _ _ _ _ _ _; rw [HU.out, List.map_append]; unfold ic; rw [List.map_append]; exact O3
      have HF3 : Hid (Fr (fun t => t = (7, 1)) o o3 w w3) := HF.out.trans F3
      clear h6 hf O3 F3 HO HF HU
      go_wp2_with (at_builtin; refine wpList_append_run rfl (.tmp 11) (.tmp 17) 36 36 rfl _ _ _ rfl rfl hrun ?_)
      exact ⟨⟨j + 1, by omega, o3, a3, b3, ⟨rfl, rfl, rfl⟩, by go_num, by rw [← List.map_take]; exact HO3, HF3⟩, by simp [intOf]; omega⟩
    · have hjn : j = n := by omega
      subst hjn
      have HE : Hid (l.take j = l) := by show _ = _; rw [HN.out, List.take_length]
      go_wp2_with fail
      go_ret
      exact ⟨_, o1, rfl, by rw [← HE.out]; exact HO.out, HF.out⟩
set_option maxHeartbeats 1000000 in
/-- Same, of two rows of the same numbers. -/
theorem same_any {o1 o2 : Nat → Nat × Nat} {t1 t2 : Nat × Nat} {V1 V2 : Value} (l : List Int) (hn : l.length ≤ 1000000) (w : World) (h1 : IntR w o1 t1 V1 l) (h2 : IntR w o2 t2 V2 l) :
    Calls Try.prog 14 #[V1, V2] w fun e w' => e = .returned (.bool true) ∧ Below w.heap.size w w' := by
  obtain ⟨a1, c1, rfl, _⟩ := h1.form
  obtain ⟨a2, c2, rfl, _⟩ := h2.form
  obtain ⟨n, hnn⟩ : ∃ n, n = l.length := ⟨_, rfl⟩
  rw [← hnn] at h1 h2 hn ⊢
  have H1 : Hid (IntR w o1 t1 (.slice a1 n c1) l) := h1
  have H2 : Hid (IntR w o2 t2 (.slice a2 n c2) l) := h2
  have HN : Hid (n = l.length) := hnn
  have ne : ((n : Int) != (n : Int)) = false := by simp
  clear h1 h2 hnn
  go_enter Try.func14, Try.ntmps14
  go_wp2_with fail
  go_loopw [5] (fun i wr => ∃ j m : Nat, j ≤ n ∧ i = .int .i64 (j : Int) ∧ Hid (wr = w.drewN m)) (fun i _ => n - (intOf i).toNat)
  case atStart => exact ⟨0, 0, by omega, rfl, rfl⟩
  case round =>
    obtain ⟨j, m, hj, rfl, HW⟩ := hrel
    by_cases hlt : j < n
    · obtain ⟨k, hk⟩ : ∃ k, l[j]? = some k := ⟨_, List.getElem?_eq_getElem (by rw [← HN.out]; exact hlt)⟩
      obtain ⟨g1, p1, e1, d1⟩ := H1.out.read hk
      obtain ⟨g2, p2, e2, d2⟩ := H2.out.read hk
      subst e1 e2
      have f1 : wr.cell? ⟨g1, p1 + j, none⟩ = some (.int .i64 k) := by rw [HW.out]; exact d1
      have f2 : wr.cell? ⟨g2, p2 + j, none⟩ = some (.int .i64 k) := by rw [HW.out]; exact d2
      have hi1 : (j : Int) < (n : Int) := by omega
      clear d1 d2 hk
      go_wp2_with fail
      go_quiet (fail)
      go_wp2_with fail
      exact ⟨⟨j + 1, m + nq, by omega, by go_num, by show _ = _; rw [HW.out, World.drewN_drewN]⟩, by simp [intOf]; omega⟩
    · go_wp2_with fail
      go_ret
      exact ⟨rfl, by rw [HW.out]; exact below_drewN (Below.refl _ _) m⟩
theorem tmod_bd (n : Int) (h : Nat) : -((h : Int) + 1) < n.tmod ((h : Int) + 1) ∧ n.tmod ((h : Int) + 1) < (h : Int) + 1 := by
  have h1 := Int.tmod_lt_of_pos n (show (0 : Int) < (h : Int) + 1 by omega)
  have h2 := Int.lt_tmod_of_pos n (show (0 : Int) < (h : Int) + 1 by omega)
  exact ⟨h2, h1⟩
/-- What Within answers. -/
def wi (n L H : Int) : Int := let q := n.tmod (H - L + 1); if q < 0 then L + (q + H - L + 1) else L + q
theorem wi_bd (n L H : Int) (hLH : L ≤ H) : L ≤ wi n L H ∧ wi n L H ≤ H := by
  obtain ⟨d, hd⟩ : ∃ d : Nat, H - L = (d : Int) := ⟨(H - L).toNat, by omega⟩
  obtain ⟨q1, q2⟩ := tmod_bd n d
  unfold wi
  rw [hd]
  simp only
  split <;> omega
set_option maxRecDepth 100000 in
set_option maxHeartbeats 400000 in
/-- Within: a number of the bounds. -/
theorem within_any (n L H : Int) (hL : -1000 ≤ L) (hLH : L ≤ H) (hH : H ≤ 100000000) (w : World) :
    Calls Try.prog 17 #[.int .i64 n, .int .i64 L, .int .i64 H] w fun e w' => e = .returned (.int .i64 (wi n L H)) ∧ w = w' := by
  obtain ⟨d, hd⟩ : ∃ d : Nat, H - L = (d : Int) := ⟨(H - L).toNat, by omega⟩
  have hHL : H = L + (d : Int) := by omega
  subst hHL
  obtain ⟨q1, q2⟩ := tmod_bd n d
  have HWI : Hid (wi n L (L + (d : Int)) = if n.tmod ((d : Int) + 1) < 0 then L + (n.tmod ((d : Int) + 1) + (L + d) - L + 1) else L + n.tmod ((d : Int) + 1)) := by
    show _ = _; unfold wi; rw [show L + (d : Int) - L + 1 = (d : Int) + 1 by omega]
  clear hd
  obtain ⟨q, hq⟩ : ∃ q, n.tmod ((d : Int) + 1) = q := ⟨_, rfl⟩
  rw [hq] at q1 q2 HWI
  have e1 : L + (d : Int) - L + 1 = (d : Int) + 1 := by omega
  have hne : ((d : Int) + 1 == 0) = false := by simp; omega
  have hne2 : ¬ ((d : Int) + 1 = -1) := by omega
  have hne3 : ¬ ((d : Int) + 1 = 0) := by omega
  by_cases q0 : q < 0
  · go_enter Try.func17, Try.ntmps17
    go_wp2
    go_ret
    exact ⟨ret_int (by rw [HWI.out, if_pos q0]), rfl⟩
  · go_enter Try.func17, Try.ntmps17
    go_wp2
    go_ret
    exact ⟨ret_int (by rw [HWI.out, if_neg (by omega)]), rfl⟩
end Go.Proofs.Ytpepklgahljhbaa
