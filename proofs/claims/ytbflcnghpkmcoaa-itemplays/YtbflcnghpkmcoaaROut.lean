/-
  OUT, DROP, PIN of the reference's store.
-/
import Derived.Test.YtbflcnghpkmcoaaRCut
import Derived.Test.YtbflcnghpkmcoaaPin
namespace Go.Proofs.Ytbflcnghpkmcoaa
open Go.RowKit

set_option maxRecDepth 100000 in
set_option maxHeartbeats 2000000 in
theorem rout_any (Y : Nat) (z : Sp) (pre post : List It) (i : It) (P : Int) (hP : P = ((pre.length : Nat) : Int)) (hz : z.l = pre ++ i :: post) (w : World) (o : Nat → Nat × Nat) (h : IsRef w o Y z) :
    Calls Try.prog 44 #[.pointer (some ⟨Y, 0, none⟩), .int .i64 P] w fun e w' => e = .returned (.tuple #[]) ∧ RefP w o Y (z.rm i) w' := by
  subst hP
  obtain ⟨S, v, h⟩ := h
  obtain ⟨a, c, rfl, _⟩ := h.li.form
  have hfew := h.ok.few
  have hin : i ∈ z.l := by rw [hz]; simp
  have hlen : z.l.length = pre.length + (post.length + 1) := by rw [hz]; simp
  obtain ⟨g, cap, e, _, _, hcap, _, h6, _⟩ := h.li.there (by omega)
  injection e with e1 e2 e3
  subst e1 e3
  have hat : z.l[pre.length]? = some i := by rw [hz]; simp
  obtain ⟨_, d1, d2, _⟩ := itc_at _ _ _ hat
  replace d1 := h6 _ _ d1
  replace d2 := h6 _ _ d2
  obtain ⟨j, hj⟩ : ∃ j, j = pre.length := ⟨_, rfl⟩
  obtain ⟨n, hn⟩ : ∃ n, n = z.l.length := ⟨_, rfl⟩
  rw [← hj] at d1 d2 ⊢
  have HRB : Hid (RB w o Y z.l z.s S (.slice (some ⟨g, 0, none⟩) n c)) := by rw [hn]; exact h.rb
  have HOK : Hid (OkSp (z.rm i) ∧ but z.l i.key = pre ++ post) := ⟨h.ok.rm hin, by have := h.ok.ndk; rw [hz] at this ⊢; exact but_split this⟩
  have c0 := h.c0
  have c1 := h.c1
  rw [← hn] at c1
  have hjn : j < n := by omega
  have hj1 : (j : Int) < (n : Int) := by omega
  have hnb : n ≤ 720896 := by omega
  have HJN : Hid (j = pre.length ∧ n = z.l.length ∧ z.l = pre ++ i :: post) := ⟨hj, hn, hz⟩
  rw [← hn] at hcap
  clear h h6 hat hin hlen hfew hj hn hz e2
  go_enter Try.func44, Try.ntmps44
  go_wp2_with fail
  go_region_held3 (fun w' => w'.cell? ⟨Y, 0, none⟩ = some (.pointer (some ⟨S, 0, none⟩)) ∧ w'.cell? ⟨Y, 1, none⟩ = some (.slice (some ⟨g, 0, none⟩) n c) ∧ w'.cell? ⟨g, j * 4 + 1, none⟩ = some (.int .i64 ((i.c : Nat) : Int)) ∧ w'.cell? ⟨g, j * 4 + 2, none⟩ = some (.int .i64 ((i.k : Nat) : Int))) (first | exact ⟨c0, c1, d1, d2⟩ | exact D3)
    ((go_at_call 59; refine (rfree_any 5 S (by decide) z.s i.c i.k w.drew o ((HRB.out.below (below_drewN (Below.refl _ _) 1)).slab)).mono ?_; rintro e w3 ⟨rfl, o3, S3, F3⟩; have HR3 : RB w3 o3 Y z.l (z.s.free i.c i.k) S (.slice (some ⟨g, 0, none⟩) n c) := (HRB.out.below (below_drewN (Below.refl _ _) 1)).slabs F3 S3; have D3 : w3.cell? ⟨Y, 0, none⟩ = some (.pointer (some ⟨S, 0, none⟩)) ∧ w3.cell? ⟨Y, 1, none⟩ = some (.slice (some ⟨g, 0, none⟩) n c) ∧ w3.cell? ⟨g, j * 4 + 1, none⟩ = some (.int .i64 ((i.c : Nat) : Int)) ∧ w3.cell? ⟨g, j * 4 + 2, none⟩ = some (.int .i64 ((i.k : Nat) : Int)) := ⟨HR3.c0, HR3.c1, by have hg := (HRB.out.li.there (by have := HJN.out; omega)); obtain ⟨g', c', e', og, _⟩ := hg; injection e' with e1 _ _; injection e1 with e1; injection e1 with e1; subst e1; exact F3.cell d1 (by rw [og]; decide), by have hg := (HRB.out.li.there (by have := HJN.out; omega)); obtain ⟨g', c', e', og, _⟩ := hg; injection e' with e1 _ _; injection e1 with e1; injection e1 with e1; subst e1; exact F3.cell d2 (by rw [og]; decide)⟩))
  have F03 : Hid (Fr TR o o3 w w3) := ((Fr.drew1 _ o w).trans F3).mono (fun t e => ⟨by omega, by omega⟩)
  have HLI : OwnK w3.drew o3 (4, 1) 4 (.slice (some ⟨g, 0, none⟩) n c) n (itc z.l) := by
    have := (HR3.below (below_drewN (Below.refl _ _) 1)).li
    rw [← HJN.out.2.1] at this; exact this
  obtain ⟨a6, q6, w6, a7, q7, w7, o7, run1, run2, O7, F7, B6⟩ := erase_own3 (i := j) (n0 := 0) (hd := []) 47 53 (.agg #[.string ⟨#[]⟩, .int .i64 0, .int .i64 0, .bool false]) 40 under47 info53 (by kernel_rfl) rfl (fun _ h => by cases h) HLI hjn (by omega) (by omega) (by omega)
  simp only [Nat.zero_add, List.nil_append] at run1 run2 O7
  have FW : ∀ U, Fr U o3 o7 w3 w7 := fun U => (Fr.drew1 U o3 w3).trans (F7 U)
  have hlo : (pre ++ post).length = n - 1 := by rw [HJN.out.2.1, HJN.out.2.2]; simp
  have O7' : OwnK w7 o7 (4, 1) 4 (.slice a7 (n - 1) q7) (pre ++ post).length (itc (pre ++ post)) := by
    have e4 : (itc z.l).take (j * 4) ++ (itc z.l).drop ((j + 1) * 4) = itc (pre ++ post) := by rw [HJN.out.1, HJN.out.2.2]; exact itc_out
    rw [e4] at O7
    rw [hlo]; exact O7
  obtain ⟨R8, F8⟩ := HR3.set FW O7'
  have t0 : w3.drew.cell? ⟨Y, 1, none⟩ = some (.slice (some ⟨g, 0, none⟩) n c) := HR3.c1
  have t1 : (w3.alloc (.cells #[] 53)).cell? ⟨Y, 1, none⟩ = some (.slice (some ⟨g, 0, none⟩) n c) := cell_up ((Below.refl _ _).alloc (Nat.le_refl _) _) HR3.c1
  have t2 : w6.cell? ⟨Y, 1, none⟩ = some (.slice (some ⟨g, 0, none⟩) n c) := cell_up (w := w3.drew) B6 t0
  have t3 : w7.cell? ⟨Y, 1, none⟩ = some (.slice (some ⟨g, 0, none⟩) n c) := (FW (fun _ => False)).cell HR3.c1 (fun h => h)
  have t4 : w7.frozen? ⟨Y, 1, none⟩ = false := ((FW (fun _ => False)).frozen HR3.lt (fun h => h)).trans (HR3.fz 1)
  have t5 := HR3.c1
  have HE : Hid (RefP w o Y (z.rm i) (w7.setCell ⟨Y, 1, none⟩ (.slice a7 (n - 1) q7))) := by
    refine ⟨o7, RB.is (z := z.rm i) (S := S) (v := .slice a7 (n - 1) q7) ?_ HOK.out.1, F03.out.trans F8⟩
    rw [show (z.rm i).l = pre ++ post from HOK.out.2]
    exact R8
  have sl1 := slice_hiT 47 53 4 elem47 elem47' size53' g n c j (by omega)
  have sl2 : ∀ w, (Instr.sliceAt 47 (.slice (some ⟨g, 0, none⟩) n c) (some (.int .i64 ((j : Int) + 1))) none none).run Try.prog w = .ok (.slice (some (cutA g (j + 1) c 4)) (n - (j + 1)) (c - (j + 1))) w := slice_loT 47 53 4 elem47 elem47' size53' g n c (j + 1) (by omega)
  have hwk : IntKind.i64.wrap ((j : Int) + 1) = (j : Int) + 1 := by rw [IntKind.wrap_i64]; omega
  clear S3 F3 HR3 D3 c0 c1 d1 d2 HLI O7 F7 B6 FW O7' R8 F8 HRB HOK hlo
  go_wp2_with fail
  go_region_law (first | (refine step_app4 run1 (.tmp 18) (.tmp 24) (by rfl) (by rfl) (by rfl) (by rfl) (by rfl) (by rfl) ?_) | (refine step_app4 run2 (.tmp 25) (.tmp 32) (by with_reducible rfl) (by rfl) (by rfl) (by rfl) (by rfl) (by rfl) ?_))
  all_goals
    go_wp2_with fail
    exact bodyPost_end (v := .tuple #[]) (by simp [results, Try.results44, go_sem]) rfl ⟨rfl, HE.out⟩
set_option maxRecDepth 100000 in
set_option maxHeartbeats 1000000 in
theorem rdrop_any (Y : Nat) (z : Sp) (key : ByteArray) (w : World) (o : Nat → Nat × Nat) (h : IsRef w o Y z) :
    Calls Try.prog 22 #[.pointer (some ⟨Y, 0, none⟩), .string key] w fun e w' => e = .returned (.bool (fnd z.l key).isSome) ∧ RefP w o Y (z.drop key) w' := by
  have HI : Hid (IsRef w o Y z) := h
  clear h
  go_enter Try.func22, Try.ntmps22
  go_wp2_with fail
  refine (rfind_any Y z key _ o HI.out).mono ?_
  rintro e w2 ⟨r, rfl, hr, rfl⟩
  rcases hr with ⟨rfl, hn⟩ | ⟨pre, i, post, hl, rfl, hf, hk, _⟩
  · have HE : Hid ((fnd z.l key).isSome = false ∧ z.drop key = z) := ⟨by rw [hn]; rfl, by unfold Sp.drop; rw [hn]⟩
    clear hn
    go_wp2_with fail
    go_ret
    exact ⟨by rw [HE.out.1]; rfl, o, by rw [HE.out.2]; exact HI.out, Fr.refl _ _ _⟩
  · have HE : Hid ((fnd z.l key).isSome = true ∧ z.drop key = z.rm i ∧ z.l = pre ++ i :: post) := ⟨by rw [hf]; rfl, by unfold Sp.drop; rw [hf], hl⟩
    have k0 : decide (((pre.length : Nat) : Int) < 0) = false := by simp
    clear hf hk hl
    go_wp2_with fail
    refine (rout_any Y z pre post i _ rfl HE.out.2.2 _ o HI.out).mono ?_
    rintro e w3 ⟨rfl, hP⟩
    have HP : Hid (RefP w o Y (z.rm i) w3) := hP
    clear hP
    go_wp2_with fail
    go_ret
    exact ⟨by rw [HE.out.1]; rfl, by rw [HE.out.2.1]; exact HP.out⟩
theorem pin_split {pre post : List It} {i : It} {key : ByteArray} {b : Bool} (hn : ((pre ++ i :: post).map It.key).Nodup) (hk : i.key = key) : ((pre ++ i :: post).modify pre.length fun i => { i with pin := b }) = (pre ++ i :: post).map fun i => i.pinned key b := by
  obtain ⟨h1, h2⟩ := nd_parts hn
  have e1 : ∀ l : List It, (∀ j ∈ l, j.key ≠ key) → (l.map fun i => i.pinned key b) = l := fun l hl => by
    refine (List.map_congr_left (g := id) fun j hj => ?_).trans (List.map_id l)
    unfold It.pinned; rw [if_neg (hl j hj)]; rfl
  rw [List.map_append, List.map_cons, e1 pre (fun j hj => by rw [← hk]; exact h1 j hj), e1 post (fun j hj => by rw [← hk]; exact h2 j hj)]
  have e2 : i.pinned key b = { i with pin := b } := by unfold It.pinned; rw [if_pos hk]
  rw [e2]
  clear hn h1 h2 e1
  induction pre with
  | nil => rfl
  | cons q pre ih => simp only [List.cons_append, List.length_cons, List.modify_succ_cons]; rw [ih]
set_option maxRecDepth 100000 in
set_option maxHeartbeats 1000000 in
theorem rpin_any (Y : Nat) (z : Sp) (key : ByteArray) (b : Bool) (w : World) (o : Nat → Nat × Nat) (h : IsRef w o Y z) :
    Calls Try.prog 21 #[.pointer (some ⟨Y, 0, none⟩), .string key, .bool b] w fun e w' => e = .returned (.bool (fnd z.l key).isSome) ∧ RefP w o Y (z.pin key b) w' := by
  have HI : Hid (IsRef w o Y z) := h
  clear h
  go_enter Try.func21, Try.ntmps21
  go_wp2_with fail
  refine (rfind_any Y z key _ o HI.out).mono ?_
  rintro e w2 ⟨r, rfl, hr, rfl⟩
  rcases hr with ⟨rfl, hn⟩ | ⟨pre, i, post, hl, rfl, hf, hk, _⟩
  · have HE : Hid ((fnd z.l key).isSome = false ∧ z.pin key b = z) := ⟨by rw [hn]; rfl, by unfold Sp.pin; rw [pin_none b (fnd_none hn)]⟩
    clear hn
    go_wp2_with fail
    go_ret
    exact ⟨by rw [HE.out.1]; rfl, o, by rw [HE.out.2]; exact HI.out, Fr.refl _ _ _⟩
  · obtain ⟨S, v, I⟩ := HI.out
    obtain ⟨a, c, rfl, _⟩ := I.li.form
    have hfew := I.ok.few
    have hlen : z.l.length = pre.length + (post.length + 1) := by rw [hl]; simp
    obtain ⟨g, cap, e, og, _, hcap, _, h6, h7⟩ := I.li.there (by omega)
    injection e with e1 e2 e3
    subst e1 e3
    have hat : z.l[pre.length]? = some i := by rw [hl]; simp
    have d3 := h6 _ _ (itc_at _ _ _ hat).2.2.2
    have y3 := (h7 (pre.length * 4 + 3) (by omega)).2
    have c1 := I.c1
    have hs := I.li.set (pre.length * 4 + 3) (.bool b) rfl (by omega)
    rw [itc_pin] at hs
    have hpe : (z.l.modify pre.length fun i => { i with pin := b }) = (z.pin key b).l := by
      show _ = z.l.map _
      have nd := I.ok.ndk
      rw [hl] at nd ⊢
      exact pin_split nd hk
    rw [hpe] at hs
    have fs : Fr (fun t => t = (4, 1)) o o w (w.setCell ⟨g, pre.length * 4 + 3, none⟩ (.bool b)) := Fr.set (a := ⟨g, pre.length * 4 + 3, none⟩) og _
    have hY : ¬ (o Y = (4, 1)) := by rw [I.oY]; decide
    have HE : Hid ((fnd z.l key).isSome = true ∧ RefP w o Y (z.pin key b) (w.setCell ⟨g, pre.length * 4 + 3, none⟩ (.bool b))) := by
      refine ⟨by rw [hf]; rfl, o, ⟨S, _, I.oY, fs.cell I.c0 hY, fs.cell I.c1 hY, fun j => (fs.frozen I.lt hY).trans (I.fz j), ?_, I.slab.fr fs (fun _ e => by cases e), I.ok.pin key b⟩, fs.mono (fun t e => by rw [e]; exact TR.mk4 1)⟩
      have e9 : (z.pin key b).l.length = z.l.length := by show (z.l.map _).length = _; rw [List.length_map]
      rw [e9]; exact hs
    obtain ⟨j, hj⟩ : ∃ j, j = pre.length := ⟨_, rfl⟩
    obtain ⟨n, hn⟩ : ∃ n, n = z.l.length := ⟨_, rfl⟩
    have hjn : j < n := by omega
    have hj1 : (j : Int) < (n : Int) := by omega
    rw [← hj] at d3 y3 HE ⊢
    rw [← hn] at c1
    have k0 : decide ((j : Int) < 0) = false := by simp
    clear hf hk hl I h6 h7 hat hs hpe fs hY hlen hj hn hfew hcap e2
    go_wp2_with fail
    go_ret
    exact ⟨by rw [HE.out.1]; rfl, HE.out.2⟩
end Go.Proofs.Ytbflcnghpkmcoaa
