/-
  reply, On, Inc, Len, Pages, New, Wipe.
-/
import Derived.Test.YtfinaichajbnkaaGreatDoorSnw
namespace Go.Proofs.YtfinaichajbnkaaGreatDoor
open Go.RowKit
open Wi (F)

set_option maxRecDepth 100000 in
set_option maxHeartbeats 1000000 in
theorem reply_any (X : Nat) (s : Sl) (C : Nat) (D : Value) (k r : Int) (w : World) (h : PlC w X s C D) :
    Calls Tryz.prog 26 #[.pointer (some ⟨X, 0, none⟩), .int .i64 k, .int .i64 r] w fun e w' => e = .returned (⟨k, s.id, s.inc, r, 0, 0, ⟨#[]⟩, 0, ⟨#[]⟩⟩ : F).v ∧ Below w.heap.size w w' := by
  have vf : (⟨k, s.id, s.inc, r, 0, 0, ⟨#[]⟩, 0, ⟨#[]⟩⟩ : F).v = .agg #[.int .i64 k, .int .i64 s.id, .int .i64 s.inc, .int .i64 r, .int .i64 0, .int .i64 0, .string ⟨#[]⟩, .int .i64 0, .string ⟨#[]⟩] := rfl
  rw [vf]
  have B0 : Below w.heap.size w (w.alloc (.cells #[.int .i64 0, .int .i64 0, .int .i64 0, .int .i64 0, .int .i64 0, .int .i64 0, .string ⟨#[]⟩, .int .i64 0, .string ⟨#[]⟩] 28)).drew := below_drewN (bel_alloc w _) 1
  have l0 := cell_b h.c0 B0
  have l4 := cell_b h.c4 B0
  clear h vf B0
  go_enter Tryz.func26, Tryz.ntmps26
  go_wp2_with fail
  go_region_law (fail)
  all_goals
    go_wp2_with fail
    refine bodyPost_ret (v := .agg #[.int .i64 k, .int .i64 s.id, .int .i64 s.inc, .int .i64 r, .int .i64 0, .int .i64 0, .string ⟨#[]⟩, .int .i64 0, .string ⟨#[]⟩]) (by simp [results, Tryz.results26, go_sem]) rfl ⟨rfl, ?_⟩
    exact below_drewN (bel_alloc _ _) 1
set_option maxRecDepth 100000 in
theorem on_any (X : Nat) (s : Sl) (C : Nat) (D : Value) (w : World) (h : PlC w X s C D) :
    Calls Tryz.prog 17 #[.pointer (some ⟨X, 0, none⟩)] w fun e w' => e = .returned (.bool s.on) ∧ w = w' := by
  have c := h.c3
  clear h
  go_enter Tryz.func17, Tryz.ntmps17
  go_wp2_with fail
  go_ret
  exact ⟨rfl, rfl⟩
set_option maxRecDepth 100000 in
theorem inc_any (X : Nat) (s : Sl) (C : Nat) (D : Value) (w : World) (h : PlC w X s C D) :
    Calls Tryz.prog 18 #[.pointer (some ⟨X, 0, none⟩)] w fun e w' => e = .returned (.int .i64 s.inc) ∧ w = w' := by
  have c := h.c4
  clear h
  go_enter Tryz.func18, Tryz.ntmps18
  go_wp2_with fail
  go_ret
  exact ⟨rfl, rfl⟩
set_option maxRecDepth 100000 in
set_option maxHeartbeats 1000000 in
theorem pnews_no (id pages page : Int) (h : ¬ rightS id pages page) (w : World) :
    Calls Tryz.prog 4 #[.int .i64 id, .int .i64 pages, .int .i64 page] w fun e w' => e = .returned (.tuple #[.pointer none, .int .i64 1]) ∧ w = w' := by
  by_cases h0 : id < 0
  · have d0 : decide (id < 0) = true := by simp [h0]
    clear h h0
    go_enter Tryz.func4, Tryz.ntmps4
    go_wp2_with fail
    go_ret2
    exact ⟨rfl, rfl⟩
  have d0 : decide (id < 0) = false := by simp; omega
  by_cases h1 : 12 ≤ id
  · have d1 : decide (12 ≤ id) = true := by simp [h1]
    clear h h0 h1
    go_enter Tryz.func4, Tryz.ntmps4
    go_wp2_with fail
    go_ret2
    exact ⟨rfl, rfl⟩
  have d1 : decide (12 ≤ id) = false := by simp; omega
  have hr : ¬ rightN pages page := fun x => h ⟨by omega, by omega, x⟩
  have NN := hid (snew_no pages page hr w)
  clear h h0 h1 hr
  go_enter Tryz.func4, Tryz.ntmps4
  go_wp2_with fail
  refine NN.out.mono ?_
  rintro e w1 ⟨rfl, rfl⟩
  go_wp2_with fail
  go_ret2
  exact ⟨rfl, rfl⟩
theorem pnews_fin {w w3 : World} {o : Nat → Nat × Nat} {id : Int} {pages page Y : Nat} (h1 : 0 ≤ id) (h2 : id < 12) (p1 : 1 ≤ pages) (p2 : pages ≤ 64) (g1 : 64 ≤ page) (g2 : page ≤ 65536) (hN : SNew w o pages page w3 Y) :
    ∃ o' n, (∀ i, i < n ↔ sz i ≤ page) ∧ IsPsl (w3.alloc (.cells #[.int .i64 id, .int .i64 (pages : Int), .int .i64 (page : Int), .bool false, .int .i64 0, .int .i64 0, .pointer (some ⟨Y, 0, none⟩), .slice none 0 0] 41)) o' w3.heap.size (Sl.new id pages page n) ∧ Fr (fun _ => False) o o' w (w3.alloc (.cells #[.int .i64 id, .int .i64 (pages : Int), .int .i64 (page : Int), .bool false, .int .i64 0, .int .i64 0, .pointer (some ⟨Y, 0, none⟩), .slice none 0 0] 41)) := by
  obtain ⟨o', n, hn, hI, f⟩ := hN
  have f2 : Fr (fun _ => False) o' (lab o' w3.heap.size (10, 0)) w3 (w3.alloc (.cells #[.int .i64 id, .int .i64 (pages : Int), .int .i64 (page : Int), .bool false, .int .i64 0, .int .i64 0, .pointer (some ⟨Y, 0, none⟩), .slice none 0 0] 41)) := Fr.new _ o' w3 _ _
  have e := fun j => World.cell?_alloc_new w3 #[.int .i64 id, .int .i64 (pages : Int), .int .i64 (page : Int), .bool false, .int .i64 0, .int .i64 0, .pointer (some ⟨Y, 0, none⟩), .slice none 0 0] 41 j
  exact ⟨lab o' w3.heap.size (10, 0), n, hn, ⟨Y, .slice none 0 0, [], lab_same _ _ _, ⟨e 0, e 1, e 2, e 3, e 4, e 5, e 6, e 7, fun j => World.frozen?_alloc_new _ _ _ _⟩, hI.fr f2 (fun _ _ e => e), OwnK.nil _ _ _ _, DnOk.nil, ⟨h1, h2, p1, p2, g1, g2, hn⟩⟩, f.trans f2⟩
set_option maxRecDepth 100000 in
set_option maxHeartbeats 1000000 in
theorem pnews_yes (id : Int) (pages page : Nat) (P Q : Int) (hP : P = (pages : Int)) (hQ : Q = (page : Int)) (h1 : 0 ≤ id) (h2 : id < 12) (p1 : 1 ≤ pages) (p2 : pages ≤ 64) (g1 : 64 ≤ page) (g2 : page ≤ 65536) (w : World) (o : Nat → Nat × Nat) :
    Calls Tryz.prog 4 #[.int .i64 id, .int .i64 P, .int .i64 Q] w fun e w' => ∃ X o' n, e = .returned (.tuple #[.pointer (some ⟨X, 0, none⟩), .int .i64 0]) ∧ (∀ i, i < n ↔ sz i ≤ page) ∧ IsPsl w' o' X (Sl.new id pages page n) ∧ Fr (fun _ => False) o o' w w' := by
  subst hP hQ
  have d0 : decide (id < 0) = false := by simp; omega
  have d1 : decide (12 ≤ id) = false := by simp; omega
  have NN := hid (snew_any pages page (pages : Int) (page : Int) rfl rfl p1 p2 g1 g2 w o)
  have NF := hid (fun w3 Y hN => pnews_fin (w := w) (w3 := w3) (o := o) (Y := Y) h1 h2 p1 p2 g1 g2 hN)
  clear h1 h2 p1 p2 g1 g2
  go_enter Tryz.func4, Tryz.ntmps4
  go_wp2_with fail
  refine NN.out.mono ?_
  rintro e w3 ⟨Y, rfl, hN⟩
  obtain ⟨o', n, hI⟩ := NF.out w3 Y hN
  have HE := hid hI
  clear hN hI NF NN
  go_wp2_with fail
  go_ret2
  exact ⟨w3.heap.size, o', n, rfl, HE.out⟩
/-- What Wipe comes to. -/
theorem wipe_finp {w W0 w3 : World} {o : Nat → Nat × Nat} {X : Nat} {s s1 : Sl} {C : Nat} (k : PlC W0 X s1 C (.slice none 0 0)) (e1 : ∀ z', ({ s1 with z := z', done := [] } : Sl) = { s.wipe with z := z' }) (ok : OkSl s) (oX : o X = (10, 0)) (f : Fr (· = (10, 0)) o o w W0) {Y : Nat} (hN : SNew W0.drew o s.pages s.page w3 Y) :
    (∃ u, w3.cell? ⟨X, 6, none⟩ = some u) ∧ w3.frozen? ⟨X, 6, none⟩ = false ∧ w3.cell? ⟨X, 1, none⟩ = some (.int .i64 (s.pages : Int)) ∧ w3.cell? ⟨X, 2, none⟩ = some (.int .i64 (s.page : Int)) ∧
    ∀ v, v = Value.pointer (some ⟨Y, 0, none⟩) → ∃ o', IsPsl (w3.setCell ⟨X, 6, none⟩ v) o' X s.wipe ∧ Fr (· = (10, 0)) o o' w (w3.setCell ⟨X, 6, none⟩ v) := by
  obtain ⟨o', n, hn, hI, g⟩ := hN
  have g0 : Fr (fun _ => False) o o' W0 w3 := ⟨g.os, g.tape, g.output, g.size, g.lab, g.block⟩
  have c3 := k.fr g0 id
  have oX3 : o' X = (10, 0) := (g0.lab X k.lt).trans oX
  have en : n = s.n := cls_same hn ok.cn
  have q := e1 s1.z
  have qi : s1.id = s.id := by injection q
  have qp : s1.pages = s.pages := by injection q
  have qg : s1.page = s.page := by injection q
  have qo : s1.on = false := by injection q
  have qc : s1.inc = s.inc := by injection q
  have qf : s1.floor = 0 := by injection q
  refine ⟨⟨_, c3.c6⟩, c3.fz 6, by rw [c3.c1, qp], by rw [c3.c2, qg], ?_⟩
  rintro v rfl
  have k6 := c3.set (s' := s.wipe) (C' := Y) (D' := .slice none 0 0) 6 (.pointer (some ⟨Y, 0, none⟩)) (fun i u e => by
    rw [qi, qp, qg, qo, qc, qf]
    rcases i with _ | _ | _ | _ | _ | _ | _ | _ | i <;> simp [Sl.wipe, Sl.clear] at e ⊢ <;> exact e) (by omega)
  have g6 : Fr (· = (10, 0)) o' o' w3 (w3.setCell ⟨X, 6, none⟩ (.pointer (some ⟨Y, 0, none⟩))) := Fr.set (a := ⟨X, 6, none⟩) oX3 _
  refine ⟨o', ⟨Y, .slice none 0 0, [], oX3, k6, ?_, OwnK.nil _ _ _ _, DnOk.nil, ⟨ok.i1, ok.i2, ok.p1, ok.p2, ok.g1, ok.g2, ok.cn⟩⟩, (f.trans (g0.mono (fun _ e => e.elim))).trans g6⟩
  have := hI.fr g6 (fun t ht e => by rw [e] at ht; have := ht.2; have : 10 ≤ 3 := this; omega)
  show IsSt _ _ Y ⟨St.new s.pages s.page s.n, []⟩
  rw [← en]; exact this
set_option maxRecDepth 100000 in
set_option maxHeartbeats 1000000 in
theorem pwipe_any (X : Nat) (s : Sl) (w : World) (o : Nat → Nat × Nat) (h : IsPsl w o X s) :
    Calls Tryz.prog 16 #[.pointer (some ⟨X, 0, none⟩)] w fun e w' => e = .returned (.tuple #[]) ∧ ∃ o', IsPsl w' o' X s.wipe ∧ Fr (· = (10, 0)) o o' w w' := by
  obtain ⟨C, D, d, h⟩ := h
  have k3 := h.c.set (s' := { s with on := false }) (C' := C) (D' := D) 3 (.bool false) (fun i u e => by
    rcases i with _ | _ | _ | _ | _ | _ | _ | _ | i <;> simp at e ⊢ <;> exact e) (by omega)
  have k5 := k3.set (s' := { s with on := false, floor := 0 }) (C' := C) (D' := D) 5 (.int .i64 0) (fun i u e => by
    rcases i with _ | _ | _ | _ | _ | _ | _ | _ | i <;> simp at e ⊢ <;> exact e) (by omega)
  have k7 := k5.set (s' := { s with on := false, floor := 0 }) (C' := C) (D' := .slice none 0 0) 7 (.slice none 0 0) (fun i u e => by
    rcases i with _ | _ | _ | _ | _ | _ | _ | _ | i <;> simp at e ⊢ <;> exact e) (by omega)
  have F0 : Fr (· = (10, 0)) o o w (((w.setCell ⟨X, 3, none⟩ (.bool false)).setCell ⟨X, 5, none⟩ (.int .i64 0)).setCell ⟨X, 7, none⟩ (.slice none 0 0)) :=
    ((Fr.set (a := ⟨X, 3, none⟩) h.oX _).trans (Fr.set (a := ⟨X, 5, none⟩) h.oX _)).trans (Fr.set (a := ⟨X, 7, none⟩) h.oX _)
  have z3 := h.c.fz 3
  have z5 := k3.fz 5
  have z7 := k5.fz 7
  have d3 := h.c.c3
  have d5 := k3.c5
  have d7 := k5.c7
  obtain ⟨W0, hW0⟩ : ∃ W0, W0 = ((w.setCell ⟨X, 3, none⟩ (.bool false)).setCell ⟨X, 5, none⟩ (.int .i64 0)).setCell ⟨X, 7, none⟩ (.slice none 0 0) := ⟨_, rfl⟩
  rw [← hW0] at k7 F0
  have HW := hid hW0
  have NC := hid (snew_any s.pages s.page (s.pages : Int) (s.page : Int) rfl rfl h.ok.p1 h.ok.p2 h.ok.g1 h.ok.g2 W0.drew o)
  have HF := hid (fun w3 Y hN => wipe_finp (w := w) (w3 := w3) (o := o) (s := s) (Y := Y) k7 (fun z' => rfl) h.ok h.oX F0 hN)
  have S0 : W0.drew.cell? ⟨X, 1, none⟩ = some (.int .i64 (s.pages : Int)) ∧ W0.drew.cell? ⟨X, 2, none⟩ = some (.int .i64 (s.page : Int)) := ⟨k7.c1, k7.c2⟩
  clear h k3 k5 k7 F0 hW0
  go_enter Tryz.func16, Tryz.ntmps16
  go_wp2_with fail
  rw [← HW.out]
  go_region_held3 (fun w' => w'.cell? ⟨X, 1, none⟩ = some (.int .i64 (s.pages : Int)) ∧ w'.cell? ⟨X, 2, none⟩ = some (.int .i64 (s.page : Int)))
    (first | with_reducible exact S0 | with_reducible exact S1 | with_reducible exact S2)
    (first | (go_at_call 10; (with_reducible refine NC.out.mono ?_); rintro e w3 ⟨Y, rfl, hN⟩; obtain ⟨⟨u4, c4⟩, f4, c7, c8, K⟩ := HF.out w3 Y hN; have S1 : w3.cell? ⟨X, 1, none⟩ = some (.int .i64 (s.pages : Int)) ∧ w3.cell? ⟨X, 2, none⟩ = some (.int .i64 (s.page : Int)) := ⟨c7, c8⟩; have HK := hid (K _ rfl); have S2 : (w3.setCell ⟨X, 6, none⟩ (.pointer (some ⟨Y, 0, none⟩))).cell? ⟨X, 1, none⟩ = some (.int .i64 (s.pages : Int)) ∧ (w3.setCell ⟨X, 6, none⟩ (.pointer (some ⟨Y, 0, none⟩))).cell? ⟨X, 2, none⟩ = some (.int .i64 (s.page : Int)) := ⟨by rw [World.cell?_setCell_other _ _ _ _ (fun e => by injection e with _ e; omega)]; exact c7, by rw [World.cell?_setCell_other _ _ _ _ (fun e => by injection e with _ e; omega)]; exact c8⟩; clear hN K))
  go_wp2_with fail
  exact bodyPost_end (v := .tuple #[]) (by simp [results, Tryz.results16, go_sem]) rfl ⟨rfl, HK.out⟩
end Go.Proofs.YtfinaichajbnkaaGreatDoor


namespace Go.Proofs.YtfinaichajbnkaaGreatDoor
open Go.RowKit
open Wi (F enc fold unf lf sb OwnC RowF tab)

theorem tab0 (l : List Nat) : tab (lf []) 0 ++ l = l := rfl
theorem bs_cons (l : List Nat) (h : ∀ x ∈ l, x < 256) : bs (112 :: l) = (⟨#[112]⟩ : ByteArray) ++ bs l := by
  have hc : ∀ x ∈ (112 :: l : List Nat), x < 256 := fun x hx => by
    rcases List.mem_cons.1 hx with e | e
    · omega
    · exact h x e
  have hs : (⟨#[112]⟩ : ByteArray).size = 1 := rfl
  refine ba_ext (by rw [ByteArray.size_append, bs_size, bs_size, hs, List.length_cons]; omega) (fun i hi => ?_)
  rw [bs_size, List.length_cons] at hi
  rw [bt_bs hc (by rw [List.length_cons]; exact hi), bt_app, hs]
  rcases i with _ | i
  · rfl
  · rw [if_neg (by omega), Nat.add_sub_cancel, bt_bs h (by omega)]
    rfl
set_option maxRecDepth 100000 in
set_option maxHeartbeats 1000000 in
theorem keyOf_any (f : F) (hr : f.role = 1 ∨ f.role = 2) (hk : f.key.size ≤ 1000000) (hv1 : -9223372036854775808 ≤ f.ver) (hv2 : f.ver ≤ 9223372036854775807) (w : World) :
    Calls Tryz.prog 48 #[f.v] w fun e w' => e = .returned (.string (nm f)) ∧ Below w.heap.size w w' := by
  obtain ⟨f0, f1, f2, f3, f4, f5, f6, f7, f8⟩ := f
  have vf : (⟨f0, f1, f2, f3, f4, f5, f6, f7, f8⟩ : F).v = .agg #[.int .i64 f0, .int .i64 f1, .int .i64 f2, .int .i64 f3, .int .i64 f4, .int .i64 f5, .string f6, .int .i64 f7, .string f8] := rfl
  rw [vf]
  clear vf
  have hk : f6.size ≤ 1000000 := hk
  have hv1 : -9223372036854775808 ≤ f7 := hv1
  have hv2 : f7 ≤ 9223372036854775807 := hv2
  have hr : f5 = 1 ∨ f5 = 2 := hr
  by_cases h5 : f5 = 1
  · have hn : nm ⟨f0, f1, f2, f3, f4, f5, f6, f7, f8⟩ = ⟨#[109]⟩ ++ f6 := if_pos h5
    rw [hn]
    have e5 : (f5 == 2) = false := by simp [h5]
    clear hn h5 hr
    have z1 : (⟨#[109]⟩ : ByteArray).size = 1 := rfl
    go_enter Tryz.func48, Tryz.ntmps48
    go_wp2_with fail
    go_ret
    exact ⟨rfl, bel_alloc _ _⟩
  · have hn : nm ⟨f0, f1, f2, f3, f4, f5, f6, f7, f8⟩ = bs (112 :: enc (fold f7)) ++ f6 := if_neg h5
    rw [hn]
    have e5 : (f5 == 2) = true := by rw [show f5 = 2 by omega]; rfl
    obtain ⟨W, hW⟩ : ∃ W, W = w.alloc (.cells #[.int .i64 f0, .int .i64 f1, .int .i64 f2, .int .i64 f3, .int .i64 f4, .int .i64 f5, .string f6, .int .i64 f7, .string f8] 28) := ⟨_, rfl⟩
    clear hn h5 hr
    have HW := hid hW
    have c6 : W.drew.cell? ⟨w.heap.size, 6, none⟩ = some (.string f6) := by rw [hW]; exact World.cell?_alloc_new _ _ _ _
    have c7 : W.drew.cell? ⟨w.heap.size, 7, none⟩ = some (.int .i64 f7) := by rw [hW]; exact World.cell?_alloc_new _ _ _ _
    have NC := hid (Wi.num_any none 0 0 (lf []) f7 hv1 hv2 (by omega) W.drew (.inl rfl))
    rw [tab0] at NC
    have HBW : Hid (Below w.heap.size w W.drew) := hid (by rw [hW]; exact below_drewN (bel_alloc _ _) 1)
    obtain ⟨L, hL⟩ : ∃ L, L = enc (fold f7) := ⟨_, rfl⟩
    have hlen : L.length ≤ 11 := by rw [hL]; have := Wi.enc_len10 (Wi.fold_lt hv1 hv2); omega
    have hbc : bs (112 :: L) = (⟨#[112]⟩ : ByteArray) ++ bs L := bs_cons L (by rw [hL]; exact Wi.enc_lt _)
    rw [← hL] at NC
    rw [← hL, hbc]
    obtain ⟨sx, hsx⟩ : ∃ sx, bs L = sx := ⟨_, rfl⟩
    have hsz2 : sx.size ≤ 11 := by rw [← hsx, bs_size]; exact hlen
    have HSX := hid hsx
    rw [hsx]
    obtain ⟨px, hpx⟩ : ∃ px, (⟨#[112]⟩ : ByteArray) ++ sx = px := ⟨_, rfl⟩
    have hsz3 : px.size ≤ 12 := by rw [← hpx, ByteArray.size_append]; show 1 + sx.size ≤ 12; omega
    have z1 : (⟨#[112]⟩ : ByteArray).size = 1 := rfl
    have ad0 : ∀ w, (Op.stringOp .add ⟨#[112]⟩ sx).run Tryz.prog w = .ok (.string px) w := fun w => by rw [← hpx]; exact run_string_add_sum w ⟨#[112]⟩ sx (by rw [z1]; omega)
    have ad : ∀ w, (Op.stringOp .add px f6).run Tryz.prog w = .ok (.string (px ++ f6)) w := fun w => by rw [run_string_add_sum w px f6 (by omega)]
    have lim0 : ¬ (9223372036854775807 < (⟨#[112]⟩ : ByteArray).size + sx.size) := by rw [z1]; omega
    have hlim : ¬ (9223372036854775807 < px.size + f6.size) := by omega
    rw [hpx]
    have HL := hid hL
    clear hL hlen hsx hpx hbc hW
    go_enter Tryz.func48, Tryz.ntmps48
    go_wp2_with fail
    rw [← HW.out]
    have l6 := c6
    have l7 := c7
    go_region_with (go_at_call 46; (with_reducible refine NC.out.mono ?_); rintro e w3 ⟨v, rfl, hO, b3⟩; have p6 := cell_b l6 b3; obtain ⟨a3, c3, rfl, _, r3⟩ := hO.row; have cv := Wi.conv_str w3 a3 _ c3 _ r3; rw [show Wi.mkS (lf L) L.length = sx from HSX.out] at cv; have B3 := hid (HBW.out.trans (b3.mono HBW.out.size)); clear hO r3 b3)
    all_goals (go_wp2_with fail; go_ret; exact ⟨rfl, B3.out⟩)
end Go.Proofs.YtfinaichajbnkaaGreatDoor
