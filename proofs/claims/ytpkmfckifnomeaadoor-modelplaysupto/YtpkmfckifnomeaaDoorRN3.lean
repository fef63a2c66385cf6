/-
  Next of the reference: append, prepend, touch, what is none.
-/
import Derived.Test.YtpkmfckifnomeaaDoorRN0
namespace Go.Proofs.YtpkmfckifnomeaaDoor
open Go.RowKit

open Go.Lib (TabIs pow10Tab)
set_option maxRecDepth 100000 in
set_option maxHeartbeats 1000000 in
theorem rn_oth (now : Int) (ka : Option Addr) (kn kc : Nat) (fl exp by_ cas : Int) (dd : Nat) (qu : Bool) (da : ByteArray) (e : En) (ver : Int) (b : Bool) (v : Int) (g3 : (v == 3) = false) (g4 : (v == 4) = false) (g5 : (v == 5) = false) (g6 : (v == 6) = false) (g7 : (v == 7) = false) (g8 : (v == 8) = false) (g9 : (v == 9) = false) (g10 : (v == 10) = false) (g11 : (v == 11) = false) (g12 : (v == 12) = false) (w : World) : Calls Tryd.prog 21 #[.agg #[Value.int .i64 v, .slice ka kn kc, .int .i64 fl, .int .i64 exp, .int .i64 by_, .int .i64 cas, .int .u64 (dd : Int), .bool qu, .string da], .agg #[Value.string e.key, .int .i64 e.fl, .int .i64 e.dl, .string e.val, .int .i64 e.cas], .bool b, .int .i64 now, .int .i64 ver] w (OutR w (tld (ab 0))) := by
  obtain ⟨D, hD⟩ : ∃ D, dl exp now = D := ⟨_, rfl⟩
  have DC := Lib.hid (rdead_c exp now D hD)
  try rw [hD]
  clear hD
  obtain ⟨R, hR⟩ : ∃ R : List Value, R = [Value.int .i64 v, .slice ka kn kc, .int .i64 fl, .int .i64 exp, .int .i64 by_, .int .i64 cas, .int .u64 (dd : Int), .bool qu, .string da] := ⟨_, rfl⟩
  obtain ⟨E, hE⟩ : ∃ E : List Value, E = [Value.string e.key, .int .i64 e.fl, .int .i64 e.dl, .string e.val, .int .i64 e.cas] := ⟨_, rfl⟩
  have HR0 := Lib.hid hR
  have HE0 := Lib.hid hE
  have HX1 := Lib.hid (RX.new w R E)
  rw [hR, hE] at HX1
  clear hR hE
  obtain ⟨A, hA⟩ : ∃ A, A = (ab 0).cs := ⟨_, rfl⟩
  obtain ⟨X, hX⟩ : ∃ X : List Value, X = [Value.string e.key, .int .i64 fl, .int .i64 D, .string da, .int .i64 ver] := ⟨_, rfl⟩
  have HA0 := Lib.hid hA
  have HX0 := Lib.hid hX
  have HLA : Hid (A.length = 9) := Lib.hid (by rw [hA]; rfl)
  have HOA : Hid (∀ u ∈ A, u.oneCell' = true) := Lib.hid (by rw [hA]; exact Ab.one _)
  have HLX : Hid (X.length = 5) := Lib.hid (by rw [hX]; rfl)
  have HOX : Hid (∀ u ∈ X, u.oneCell' = true) := Lib.hid (by rw [hX]; exact En.one ⟨e.key, fl, D, da, ver⟩)
  clear hA hX
  go_enter Tryd.func21, Tryd.ntmps21
  go_wp2_with fail
  refine wp_joinA ?_ (fun W => RX w W R E [Value.string e.key, .int .i64 fl, .int .i64 D, .string da, .int .i64 ver]) ?_ ?_
  rotate_left
  focus
    refine wp_region_held_drew (S := fun W => ∃ Z, RX w W R E Z) (by kernel_rfl) ⟨e0.cs, by rw [HR0.out, HE0.out]; exact HX1.out.drew⟩ (fun hS => ?_)
    refine wpAnyH_take (i := 0) (v := .pointer (some ⟨w.heap.size + 1, 0, none⟩)) rfl (by kernel_rfl) (by kernel_rfl) (by kernel_rfl) (fun _ _ _ h => (h : False).elim) (Or.inl ⟨by kernel_rfl, by intro W hW; go_simp⟩) hS ?_
    refine wpAnyH_take (i := 1) (v := .string e.key) rfl (by kernel_rfl) (by kernel_rfl) (by kernel_rfl) (fun _ _ _ h => (h : False).elim) (Or.inl ⟨by kernel_rfl, by intro W hW; have c := hW.choose_spec.cellE 0 (.string e.key) (by rw [HE0.out]; rfl); go_simp⟩) hS ?_
    refine wpAnyH_take (i := 2) (v := .pointer (some ⟨w.heap.size, 2, none⟩)) rfl (by kernel_rfl) (by kernel_rfl) (by kernel_rfl) (fun _ _ _ h => (h : False).elim) (Or.inl ⟨by kernel_rfl, by intro W hW; go_simp⟩) hS ?_
    refine wpAnyH_take (i := 3) (v := .int .i64 fl) rfl (by kernel_rfl) (by kernel_rfl) (by kernel_rfl) (fun _ _ _ h => (h : False).elim) (Or.inl ⟨by kernel_rfl, by intro W hW; have c := hW.choose_spec.cellR 2 (.int .i64 fl) (by rw [HR0.out]; rfl); go_simp⟩) hS ?_
    refine wpAnyH_take (i := 4) (v := .pointer (some ⟨w.heap.size, 3, none⟩)) rfl (by kernel_rfl) (by kernel_rfl) (by kernel_rfl) (fun _ _ _ h => (h : False).elim) (Or.inl ⟨by kernel_rfl, by intro W hW; go_simp⟩) hS ?_
    refine wpAnyH_take (i := 5) (v := .int .i64 exp) rfl (by kernel_rfl) (by kernel_rfl) (by kernel_rfl) (fun _ _ _ h => (h : False).elim) (Or.inl ⟨by kernel_rfl, by intro W hW; have c := hW.choose_spec.cellR 3 (.int .i64 exp) (by rw [HR0.out]; rfl); go_simp⟩) hS ?_
    refine wpAnyH_take (i := 6) (v := .int .i64 now) rfl (by kernel_rfl) (by kernel_rfl) (by kernel_rfl) (fun _ _ _ h => (h : False).elim) (Or.inl ⟨by kernel_rfl, by intro W hW; go_simp⟩) hS ?_
    refine wpAnyH_take (i := 8) (v := .pointer (some ⟨w.heap.size, 8, none⟩)) rfl (by kernel_rfl) (by kernel_rfl) (by kernel_rfl) (fun _ _ _ h => (h : False).elim) (Or.inl ⟨by kernel_rfl, by intro W hW; go_simp⟩) hS ?_
    refine wpAnyH_take (i := 9) (v := .string da) rfl (by kernel_rfl) (by kernel_rfl) (by kernel_rfl) (fun _ _ _ h => (h : False).elim) (Or.inl ⟨by kernel_rfl, by intro W hW; have c := hW.choose_spec.cellR 8 (.string da) (by rw [HR0.out]; rfl); go_simp⟩) hS ?_
    refine wpAnyH_take (i := 10) (v := .int .i64 ver) rfl (by kernel_rfl) (by kernel_rfl) (by kernel_rfl) (fun _ _ _ h => (h : False).elim) (Or.inl ⟨by kernel_rfl, by intro W hW; go_simp⟩) hS ?_
    refine oneH (i := 7) (by kernel_rfl) rfl (fun K hK => ?_)
    go_simp
    refine (DC.out _).mono ?_
    rintro e1 w1 ⟨rfl, rfl⟩
    refine hK _ _ ⟨hS, ?_⟩
    refine wpAnyH_take (i := 11) (v := .agg #[Value.string e.key, .int .i64 fl, .int .i64 D, .string da, .int .i64 ver]) rfl (by kernel_rfl) (by kernel_rfl) (by kernel_rfl) (fun _ _ _ h => (h : False).elim) (Or.inl ⟨by kernel_rfl, by intro W hW; go_simp⟩) hS ?_
    refine oneH (i := 12) (by kernel_rfl) rfl (fun K hK => ?_)
    obtain ⟨Z, hS⟩ := hS
    refine step_store (b := w.heap.size + 1 + 1 + 1) (o := 0) (cells := #[Value.string e.key, .int .i64 fl, .int .i64 D, .string da, .int .i64 ver]) hS.tx (all_oneCell_toArray (En.one ⟨e.key, fl, D, da, ver⟩)) 49 (.tmp 11) (.tmp 26) rfl rfl rfl rfl rfl (by kernel_rfl) ?_
    have h5 := hS.set [Value.string e.key, .int .i64 fl, .int .i64 D, .string da, .int .i64 ver] rfl
    refine hK _ _ ⟨⟨_, h5⟩, ?_⟩
    refine wpAnyH_done (by kernel_rfl) ?_ _
    refine And.intro ?_ h5
    go_simp
    exact rfl
  intro w1 hx
  have v0 := hx.cellR 0 (.int .i64 v) (by rw [HR0.out]; rfl)
  go_wp2_with fail
  rw [← HX0.out] at hx
  refine wp_joinA ?_ (fun W => W.rangeAt (w.heap.size + 1 + 1) 0 A ∧ W.rangeAt (w.heap.size + 1 + 1 + 1) 0 X ∧ Below w.heap.size w W) ?_ ?_
  rotate_left
  focus
    have h2 := hx.drew
    obtain ⟨w2, hw2⟩ : ∃ w2, w2 = w1.drew := ⟨_, rfl⟩
    refine wp_region_held_drew (S := fun W => RX w W R E X) (by kernel_rfl) h2 (fun hS => ?_)
    rw [← hw2] at h2 hS ⊢
    clear hw2
    refine wpAnyH_take (i := 0) (v := .agg #[Value.int .i64 0, .slice none 0 0, .bool false, .int .u64 0, .string ⟨#[]⟩, .int .i64 0, .int .i64 0, .int .i64 0, .int .i64 0]) rfl (by kernel_rfl) (by kernel_rfl) (by kernel_rfl) (fun _ _ _ h => (h : False).elim) (Or.inl ⟨by kernel_rfl, by intro W hW; go_simp; try rfl⟩) hS ?_
    rw [show (#[Value.int .i64 0, .slice none 0 0, .bool false, .int .u64 0, .string ⟨#[]⟩, .int .i64 0, .int .i64 0, .int .i64 0, .int .i64 0] : Array Value) = A.toArray by rw [HA0.out]; rfl]
    refine wpAnyH_take (i := 1) (v := .agg X.toArray) rfl (by kernel_rfl) (by kernel_rfl) (by kernel_rfl) (fun _ _ _ h => (h : False).elim) (yieldsIf_load_mid (by kernel_rfl) 49 (.tmp 11) rfl (w.heap.size + 1 + 1 + 1) 0 rfl X _ (fun _ h => h.x) Tryd.underlying49 rfl (by rw [HLX.out]; kernel_rfl)) hS ?_
    obtain ⟨t1, t2, r1, r2, b2⟩ := two_fin (w := w) (W := w2) (b := w.heap.size + 1 + 1) HLA.out HLX.out (by omega) h2.b h2.ta h2.tx
    have h3 := h2.setA A HLA.out
    have h4 := h3.set X HLX.out
    refine storeH (i := 2) (by kernel_rfl) rfl rfl t1 (all_oneCell_toArray HOA.out) 32 (.tmp 10) (.tmp 130) rfl rfl rfl (by rw [List.size_toArray, HLA.out]; kernel_rfl) h3 ?_
    refine storeH (i := 3) (by kernel_rfl) rfl rfl t2 (all_oneCell_toArray HOX.out) 49 (.tmp 11) (.tmp 131) rfl rfl rfl (by rw [List.size_toArray, HLX.out]; kernel_rfl) h4 ?_
    refine constH (i := 4) (v := .bool false) (by kernel_rfl) rfl rfl rfl h4 ?_
    refine constH (i := 5) (v := .bool false) (by kernel_rfl) rfl rfl rfl h4 ?_
    refine wpAnyH_done (by kernel_rfl) ?_ _
    refine And.intro ?_ (And.intro r1 (And.intro r2 b2))
    go_simp
    exact rfl
  intro w3 hw3
  obtain ⟨r1, r2, b2⟩ := hw3
  go_wp2_with fail
  exact bodyPost_ret (v := .tuple #[.agg A.toArray, .agg X.toArray, .bool false, .bool false]) (res4 Tryd.results21 rfl rfl rfl rfl r1 r2 HLA.out HLX.out) rfl ⟨⟨e.key, fl, D, da, ver⟩, by rw [HA0.out, HX0.out]; rfl, (fun h => by cases h), b2⟩
set_option maxRecDepth 100000 in
set_option maxHeartbeats 1000000 in
theorem rn_app_big (now : Int) (ka : Option Addr) (kn kc : Nat) (fl exp by_ cas : Int) (dd : Nat) (qu : Bool) (da : ByteArray) (e : En) (ver : Int) (hv : e.val.size ≤ 140737488355328) (hdz : da.size ≤ 140737488355328) (hb : 1048576 < e.val.size + da.size) (w : World) : Calls Tryd.prog 21 #[.agg #[Value.int .i64 6, .slice ka kn kc, .int .i64 fl, .int .i64 exp, .int .i64 by_, .int .i64 cas, .int .u64 (dd : Int), .bool qu, .string da], .agg #[Value.string e.key, .int .i64 e.fl, .int .i64 e.dl, .string e.val, .int .i64 e.cas], .bool true, .int .i64 now, .int .i64 ver] w (OutR w (tld ⟨14, 0, tooLarge⟩)) := by
  obtain ⟨D, hD⟩ : ∃ D, dl exp now = D := ⟨_, rfl⟩
  have DC := Lib.hid (rdead_c exp now D hD)
  try rw [hD]
  clear hD
  obtain ⟨R, hR⟩ : ∃ R : List Value, R = [Value.int .i64 6, .slice ka kn kc, .int .i64 fl, .int .i64 exp, .int .i64 by_, .int .i64 cas, .int .u64 (dd : Int), .bool qu, .string da] := ⟨_, rfl⟩
  obtain ⟨E, hE⟩ : ∃ E : List Value, E = [Value.string e.key, .int .i64 e.fl, .int .i64 e.dl, .string e.val, .int .i64 e.cas] := ⟨_, rfl⟩
  have HR0 := Lib.hid hR
  have HE0 := Lib.hid hE
  have HX1 := Lib.hid (RX.new w R E)
  rw [hR, hE] at HX1
  clear hR hE
  obtain ⟨A, hA⟩ : ∃ A, A = (Ab.mk 14 0 tooLarge).cs := ⟨_, rfl⟩
  obtain ⟨X, hX⟩ : ∃ X : List Value, X = [Value.string e.key, .int .i64 fl, .int .i64 D, .string da, .int .i64 ver] := ⟨_, rfl⟩
  have HA0 := Lib.hid hA
  have HX0 := Lib.hid hX
  have HLA : Hid (A.length = 9) := Lib.hid (by rw [hA]; rfl)
  have HOA : Hid (∀ u ∈ A, u.oneCell' = true) := Lib.hid (by rw [hA]; exact Ab.one _)
  have HLX : Hid (X.length = 5) := Lib.hid (by rw [hX]; rfl)
  have HOX : Hid (∀ u ∈ X, u.oneCell' = true) := Lib.hid (by rw [hX]; exact En.one ⟨e.key, fl, D, da, ver⟩)
  clear hA hX
  have g1 : decide ((1048576 : Int) < (e.val.size : Int) + (da.size : Int)) = true := decide_eq_true (by omega)
  clear hb
  go_enter Tryd.func21, Tryd.ntmps21
  go_wp2_with fail
  refine wp_joinA ?_ (fun W => RX w W R E [Value.string e.key, .int .i64 fl, .int .i64 D, .string da, .int .i64 ver]) ?_ ?_
  rotate_left
  focus
    refine wp_region_held_drew (S := fun W => ∃ Z, RX w W R E Z) (by kernel_rfl) ⟨e0.cs, by rw [HR0.out, HE0.out]; exact HX1.out.drew⟩ (fun hS => ?_)
    refine wpAnyH_take (i := 0) (v := .pointer (some ⟨w.heap.size + 1, 0, none⟩)) rfl (by kernel_rfl) (by kernel_rfl) (by kernel_rfl) (fun _ _ _ h => (h : False).elim) (Or.inl ⟨by kernel_rfl, by intro W hW; go_simp⟩) hS ?_
    refine wpAnyH_take (i := 1) (v := .string e.key) rfl (by kernel_rfl) (by kernel_rfl) (by kernel_rfl) (fun _ _ _ h => (h : False).elim) (Or.inl ⟨by kernel_rfl, by intro W hW; have c := hW.choose_spec.cellE 0 (.string e.key) (by rw [HE0.out]; rfl); go_simp⟩) hS ?_
    refine wpAnyH_take (i := 2) (v := .pointer (some ⟨w.heap.size, 2, none⟩)) rfl (by kernel_rfl) (by kernel_rfl) (by kernel_rfl) (fun _ _ _ h => (h : False).elim) (Or.inl ⟨by kernel_rfl, by intro W hW; go_simp⟩) hS ?_
    refine wpAnyH_take (i := 3) (v := .int .i64 fl) rfl (by kernel_rfl) (by kernel_rfl) (by kernel_rfl) (fun _ _ _ h => (h : False).elim) (Or.inl ⟨by kernel_rfl, by intro W hW; have c := hW.choose_spec.cellR 2 (.int .i64 fl) (by rw [HR0.out]; rfl); go_simp⟩) hS ?_
    refine wpAnyH_take (i := 4) (v := .pointer (some ⟨w.heap.size, 3, none⟩)) rfl (by kernel_rfl) (by kernel_rfl) (by kernel_rfl) (fun _ _ _ h => (h : False).elim) (Or.inl ⟨by kernel_rfl, by intro W hW; go_simp⟩) hS ?_
    refine wpAnyH_take (i := 5) (v := .int .i64 exp) rfl (by kernel_rfl) (by kernel_rfl) (by kernel_rfl) (fun _ _ _ h => (h : False).elim) (Or.inl ⟨by kernel_rfl, by intro W hW; have c := hW.choose_spec.cellR 3 (.int .i64 exp) (by rw [HR0.out]; rfl); go_simp⟩) hS ?_
    refine wpAnyH_take (i := 6) (v := .int .i64 now) rfl (by kernel_rfl) (by kernel_rfl) (by kernel_rfl) (fun _ _ _ h => (h : False).elim) (Or.inl ⟨by kernel_rfl, by intro W hW; go_simp⟩) hS ?_
    refine wpAnyH_take (i := 8) (v := .pointer (some ⟨w.heap.size, 8, none⟩)) rfl (by kernel_rfl) (by kernel_rfl) (by kernel_rfl) (fun _ _ _ h => (h : False).elim) (Or.inl ⟨by kernel_rfl, by intro W hW; go_simp⟩) hS ?_
    refine wpAnyH_take (i := 9) (v := .string da) rfl (by kernel_rfl) (by kernel_rfl) (by kernel_rfl) (fun _ _ _ h => (h : False).elim) (Or.inl ⟨by kernel_rfl, by intro W hW; have c := hW.choose_spec.cellR 8 (.string da) (by rw [HR0.out]; rfl); go_simp⟩) hS ?_
    refine wpAnyH_take (i := 10) (v := .int .i64 ver) rfl (by kernel_rfl) (by kernel_rfl) (by kernel_rfl) (fun _ _ _ h => (h : False).elim) (Or.inl ⟨by kernel_rfl, by intro W hW; go_simp⟩) hS ?_
    refine oneH (i := 7) (by kernel_rfl) rfl (fun K hK => ?_)
    go_simp
    refine (DC.out _).mono ?_
    rintro e1 w1 ⟨rfl, rfl⟩
    refine hK _ _ ⟨hS, ?_⟩
    refine wpAnyH_take (i := 11) (v := .agg #[Value.string e.key, .int .i64 fl, .int .i64 D, .string da, .int .i64 ver]) rfl (by kernel_rfl) (by kernel_rfl) (by kernel_rfl) (fun _ _ _ h => (h : False).elim) (Or.inl ⟨by kernel_rfl, by intro W hW; go_simp⟩) hS ?_
    refine oneH (i := 12) (by kernel_rfl) rfl (fun K hK => ?_)
    obtain ⟨Z, hS⟩ := hS
    refine step_store (b := w.heap.size + 1 + 1 + 1) (o := 0) (cells := #[Value.string e.key, .int .i64 fl, .int .i64 D, .string da, .int .i64 ver]) hS.tx (all_oneCell_toArray (En.one ⟨e.key, fl, D, da, ver⟩)) 49 (.tmp 11) (.tmp 26) rfl rfl rfl rfl rfl (by kernel_rfl) ?_
    have h5 := hS.set [Value.string e.key, .int .i64 fl, .int .i64 D, .string da, .int .i64 ver] rfl
    refine hK _ _ ⟨⟨_, h5⟩, ?_⟩
    refine wpAnyH_done (by kernel_rfl) ?_ _
    refine And.intro ?_ h5
    go_simp
    exact rfl
  intro w1 hx
  have v0 := hx.cellR 0 (.int .i64 6) (by rw [HR0.out]; rfl)
  have e3 := hx.cellE 3 (.string e.val) (by rw [HE0.out]; rfl)
  have r8 := hx.cellR 8 (.string da) (by rw [HR0.out]; rfl)
  go_wp2_with fail
  rw [← HX0.out] at hx
  refine wp_joinA ?_ (fun W => W.rangeAt (w.heap.size + 1 + 1) 0 A ∧ W.rangeAt (w.heap.size + 1 + 1 + 1) 0 X ∧ Below w.heap.size w W) ?_ ?_
  rotate_left
  focus
    have h2 := hx.drew
    obtain ⟨w2, hw2⟩ : ∃ w2, w2 = w1.drew := ⟨_, rfl⟩
    refine wp_region_held_drew (S := fun W => RX w W R E X) (by kernel_rfl) h2 (fun hS => ?_)
    rw [← hw2] at h2 hS ⊢
    clear hw2
    refine wpAnyH_take (i := 0) (v := .agg #[Value.int .i64 14, .slice none 0 0, .bool false, .int .u64 0, .string tooLarge, .int .i64 0, .int .i64 0, .int .i64 0, .int .i64 0]) rfl (by kernel_rfl) (by kernel_rfl) (by kernel_rfl) (fun _ _ _ h => (h : False).elim) (Or.inl ⟨by kernel_rfl, by intro W hW; go_simp; try rfl⟩) hS ?_
    rw [show (#[Value.int .i64 14, .slice none 0 0, .bool false, .int .u64 0, .string tooLarge, .int .i64 0, .int .i64 0, .int .i64 0, .int .i64 0] : Array Value) = A.toArray by rw [HA0.out]; rfl]
    refine wpAnyH_take (i := 1) (v := .agg X.toArray) rfl (by kernel_rfl) (by kernel_rfl) (by kernel_rfl) (fun _ _ _ h => (h : False).elim) (yieldsIf_load_mid (by kernel_rfl) 49 (.tmp 11) rfl (w.heap.size + 1 + 1 + 1) 0 rfl X _ (fun _ h => h.x) Tryd.underlying49 rfl (by rw [HLX.out]; kernel_rfl)) hS ?_
    obtain ⟨t1, t2, r1, r2, b2⟩ := two_fin (w := w) (W := w2) (b := w.heap.size + 1 + 1) HLA.out HLX.out (by omega) h2.b h2.ta h2.tx
    have h3 := h2.setA A HLA.out
    have h4 := h3.set X HLX.out
    refine storeH (i := 2) (by kernel_rfl) rfl rfl t1 (all_oneCell_toArray HOA.out) 32 (.tmp 10) (.tmp 60) rfl rfl rfl (by rw [List.size_toArray, HLA.out]; kernel_rfl) h3 ?_
    refine storeH (i := 3) (by kernel_rfl) rfl rfl t2 (all_oneCell_toArray HOX.out) 49 (.tmp 11) (.tmp 61) rfl rfl rfl (by rw [List.size_toArray, HLX.out]; kernel_rfl) h4 ?_
    refine constH (i := 4) (v := .bool false) (by kernel_rfl) rfl rfl rfl h4 ?_
    refine constH (i := 5) (v := .bool false) (by kernel_rfl) rfl rfl rfl h4 ?_
    refine wpAnyH_done (by kernel_rfl) ?_ _
    refine And.intro ?_ (And.intro r1 (And.intro r2 b2))
    go_simp
    exact rfl
  intro w3 hw3
  obtain ⟨r1, r2, b2⟩ := hw3
  go_wp2_with fail
  exact bodyPost_ret (v := .tuple #[.agg A.toArray, .agg X.toArray, .bool false, .bool false]) (res4 Tryd.results21 rfl rfl rfl rfl r1 r2 HLA.out HLX.out) rfl ⟨⟨e.key, fl, D, da, ver⟩, by rw [HA0.out, HX0.out]; rfl, (fun h => by cases h), b2⟩
set_option maxRecDepth 100000 in
set_option maxHeartbeats 1000000 in
theorem rn_pre_big (now : Int) (ka : Option Addr) (kn kc : Nat) (fl exp by_ cas : Int) (dd : Nat) (qu : Bool) (da : ByteArray) (e : En) (ver : Int) (hv : e.val.size ≤ 140737488355328) (hdz : da.size ≤ 140737488355328) (hb : 1048576 < e.val.size + da.size) (w : World) : Calls Tryd.prog 21 #[.agg #[Value.int .i64 7, .slice ka kn kc, .int .i64 fl, .int .i64 exp, .int .i64 by_, .int .i64 cas, .int .u64 (dd : Int), .bool qu, .string da], .agg #[Value.string e.key, .int .i64 e.fl, .int .i64 e.dl, .string e.val, .int .i64 e.cas], .bool true, .int .i64 now, .int .i64 ver] w (OutR w (tld ⟨14, 0, tooLarge⟩)) := by
  obtain ⟨D, hD⟩ : ∃ D, dl exp now = D := ⟨_, rfl⟩
  have DC := Lib.hid (rdead_c exp now D hD)
  try rw [hD]
  clear hD
  obtain ⟨R, hR⟩ : ∃ R : List Value, R = [Value.int .i64 7, .slice ka kn kc, .int .i64 fl, .int .i64 exp, .int .i64 by_, .int .i64 cas, .int .u64 (dd : Int), .bool qu, .string da] := ⟨_, rfl⟩
  obtain ⟨E, hE⟩ : ∃ E : List Value, E = [Value.string e.key, .int .i64 e.fl, .int .i64 e.dl, .string e.val, .int .i64 e.cas] := ⟨_, rfl⟩
  have HR0 := Lib.hid hR
  have HE0 := Lib.hid hE
  have HX1 := Lib.hid (RX.new w R E)
  rw [hR, hE] at HX1
  clear hR hE
  obtain ⟨A, hA⟩ : ∃ A, A = (Ab.mk 14 0 tooLarge).cs := ⟨_, rfl⟩
  obtain ⟨X, hX⟩ : ∃ X : List Value, X = [Value.string e.key, .int .i64 fl, .int .i64 D, .string da, .int .i64 ver] := ⟨_, rfl⟩
  have HA0 := Lib.hid hA
  have HX0 := Lib.hid hX
  have HLA : Hid (A.length = 9) := Lib.hid (by rw [hA]; rfl)
  have HOA : Hid (∀ u ∈ A, u.oneCell' = true) := Lib.hid (by rw [hA]; exact Ab.one _)
  have HLX : Hid (X.length = 5) := Lib.hid (by rw [hX]; rfl)
  have HOX : Hid (∀ u ∈ X, u.oneCell' = true) := Lib.hid (by rw [hX]; exact En.one ⟨e.key, fl, D, da, ver⟩)
  clear hA hX
  have g1 : decide ((1048576 : Int) < (e.val.size : Int) + (da.size : Int)) = true := decide_eq_true (by omega)
  clear hb
  go_enter Tryd.func21, Tryd.ntmps21
  go_wp2_with fail
  refine wp_joinA ?_ (fun W => RX w W R E [Value.string e.key, .int .i64 fl, .int .i64 D, .string da, .int .i64 ver]) ?_ ?_
  rotate_left
  focus
    refine wp_region_held_drew (S := fun W => ∃ Z, RX w W R E Z) (by kernel_rfl) ⟨e0.cs, by rw [HR0.out, HE0.out]; exact HX1.out.drew⟩ (fun hS => ?_)
    refine wpAnyH_take (i := 0) (v := .pointer (some ⟨w.heap.size + 1, 0, none⟩)) rfl (by kernel_rfl) (by kernel_rfl) (by kernel_rfl) (fun _ _ _ h => (h : False).elim) (Or.inl ⟨by kernel_rfl, by intro W hW; go_simp⟩) hS ?_
    refine wpAnyH_take (i := 1) (v := .string e.key) rfl (by kernel_rfl) (by kernel_rfl) (by kernel_rfl) (fun _ _ _ h => (h : False).elim) (Or.inl ⟨by kernel_rfl, by intro W hW; have c := hW.choose_spec.cellE 0 (.string e.key) (by rw [HE0.out]; rfl); go_simp⟩) hS ?_
    refine wpAnyH_take (i := 2) (v := .pointer (some ⟨w.heap.size, 2, none⟩)) rfl (by kernel_rfl) (by kernel_rfl) (by kernel_rfl) (fun _ _ _ h => (h : False).elim) (Or.inl ⟨by kernel_rfl, by intro W hW; go_simp⟩) hS ?_
    refine wpAnyH_take (i := 3) (v := .int .i64 fl) rfl (by kernel_rfl) (by kernel_rfl) (by kernel_rfl) (fun _ _ _ h => (h : False).elim) (Or.inl ⟨by kernel_rfl, by intro W hW; have c := hW.choose_spec.cellR 2 (.int .i64 fl) (by rw [HR0.out]; rfl); go_simp⟩) hS ?_
    refine wpAnyH_take (i := 4) (v := .pointer (some ⟨w.heap.size, 3, none⟩)) rfl (by kernel_rfl) (by kernel_rfl) (by kernel_rfl) (fun _ _ _ h => (h : False).elim) (Or.inl ⟨by kernel_rfl, by intro W hW; go_simp⟩) hS ?_
    refine wpAnyH_take (i := 5) (v := .int .i64 exp) rfl (by kernel_rfl) (by kernel_rfl) (by kernel_rfl) (fun _ _ _ h => (h : False).elim) (Or.inl ⟨by kernel_rfl, by intro W hW; have c := hW.choose_spec.cellR 3 (.int .i64 exp) (by rw [HR0.out]; rfl); go_simp⟩) hS ?_
    refine wpAnyH_take (i := 6) (v := .int .i64 now) rfl (by kernel_rfl) (by kernel_rfl) (by kernel_rfl) (fun _ _ _ h => (h : False).elim) (Or.inl ⟨by kernel_rfl, by intro W hW; go_simp⟩) hS ?_
    refine wpAnyH_take (i := 8) (v := .pointer (some ⟨w.heap.size, 8, none⟩)) rfl (by kernel_rfl) (by kernel_rfl) (by kernel_rfl) (fun _ _ _ h => (h : False).elim) (Or.inl ⟨by kernel_rfl, by intro W hW; go_simp⟩) hS ?_
    refine wpAnyH_take (i := 9) (v := .string da) rfl (by kernel_rfl) (by kernel_rfl) (by kernel_rfl) (fun _ _ _ h => (h : False).elim) (Or.inl ⟨by kernel_rfl, by intro W hW; have c := hW.choose_spec.cellR 8 (.string da) (by rw [HR0.out]; rfl); go_simp⟩) hS ?_
    refine wpAnyH_take (i := 10) (v := .int .i64 ver) rfl (by kernel_rfl) (by kernel_rfl) (by kernel_rfl) (fun _ _ _ h => (h : False).elim) (Or.inl ⟨by kernel_rfl, by intro W hW; go_simp⟩) hS ?_
    refine oneH (i := 7) (by kernel_rfl) rfl (fun K hK => ?_)
    go_simp
    refine (DC.out _).mono ?_
    rintro e1 w1 ⟨rfl, rfl⟩
    refine hK _ _ ⟨hS, ?_⟩
    refine wpAnyH_take (i := 11) (v := .agg #[Value.string e.key, .int .i64 fl, .int .i64 D, .string da, .int .i64 ver]) rfl (by kernel_rfl) (by kernel_rfl) (by kernel_rfl) (fun _ _ _ h => (h : False).elim) (Or.inl ⟨by kernel_rfl, by intro W hW; go_simp⟩) hS ?_
    refine oneH (i := 12) (by kernel_rfl) rfl (fun K hK => ?_)
    obtain ⟨Z, hS⟩ := hS
    refine step_store (b := w.heap.size + 1 + 1 + 1) (o := 0) (cells := #[Value.string e.key, .int .i64 fl, .int .i64 D, .string da, .int .i64 ver]) hS.tx (all_oneCell_toArray (En.one ⟨e.key, fl, D, da, ver⟩)) 49 (.tmp 11) (.tmp 26) rfl rfl rfl rfl rfl (by kernel_rfl) ?_
    have h5 := hS.set [Value.string e.key, .int .i64 fl, .int .i64 D, .string da, .int .i64 ver] rfl
    refine hK _ _ ⟨⟨_, h5⟩, ?_⟩
    refine wpAnyH_done (by kernel_rfl) ?_ _
    refine And.intro ?_ h5
    go_simp
    exact rfl
  intro w1 hx
  have v0 := hx.cellR 0 (.int .i64 7) (by rw [HR0.out]; rfl)
  have e3 := hx.cellE 3 (.string e.val) (by rw [HE0.out]; rfl)
  have r8 := hx.cellR 8 (.string da) (by rw [HR0.out]; rfl)
  go_wp2_with fail
  rw [← HX0.out] at hx
  refine wp_joinA ?_ (fun W => W.rangeAt (w.heap.size + 1 + 1) 0 A ∧ W.rangeAt (w.heap.size + 1 + 1 + 1) 0 X ∧ Below w.heap.size w W) ?_ ?_
  rotate_left
  focus
    have h2 := hx.drew
    obtain ⟨w2, hw2⟩ : ∃ w2, w2 = w1.drew := ⟨_, rfl⟩
    refine wp_region_held_drew (S := fun W => RX w W R E X) (by kernel_rfl) h2 (fun hS => ?_)
    rw [← hw2] at h2 hS ⊢
    clear hw2
    refine wpAnyH_take (i := 0) (v := .agg #[Value.int .i64 14, .slice none 0 0, .bool false, .int .u64 0, .string tooLarge, .int .i64 0, .int .i64 0, .int .i64 0, .int .i64 0]) rfl (by kernel_rfl) (by kernel_rfl) (by kernel_rfl) (fun _ _ _ h => (h : False).elim) (Or.inl ⟨by kernel_rfl, by intro W hW; go_simp; try rfl⟩) hS ?_
    rw [show (#[Value.int .i64 14, .slice none 0 0, .bool false, .int .u64 0, .string tooLarge, .int .i64 0, .int .i64 0, .int .i64 0, .int .i64 0] : Array Value) = A.toArray by rw [HA0.out]; rfl]
    refine wpAnyH_take (i := 1) (v := .agg X.toArray) rfl (by kernel_rfl) (by kernel_rfl) (by kernel_rfl) (fun _ _ _ h => (h : False).elim) (yieldsIf_load_mid (by kernel_rfl) 49 (.tmp 11) rfl (w.heap.size + 1 + 1 + 1) 0 rfl X _ (fun _ h => h.x) Tryd.underlying49 rfl (by rw [HLX.out]; kernel_rfl)) hS ?_
    obtain ⟨t1, t2, r1, r2, b2⟩ := two_fin (w := w) (W := w2) (b := w.heap.size + 1 + 1) HLA.out HLX.out (by omega) h2.b h2.ta h2.tx
    have h3 := h2.setA A HLA.out
    have h4 := h3.set X HLX.out
    refine storeH (i := 2) (by kernel_rfl) rfl rfl t1 (all_oneCell_toArray HOA.out) 32 (.tmp 10) (.tmp 60) rfl rfl rfl (by rw [List.size_toArray, HLA.out]; kernel_rfl) h3 ?_
    refine storeH (i := 3) (by kernel_rfl) rfl rfl t2 (all_oneCell_toArray HOX.out) 49 (.tmp 11) (.tmp 61) rfl rfl rfl (by rw [List.size_toArray, HLX.out]; kernel_rfl) h4 ?_
    refine constH (i := 4) (v := .bool false) (by kernel_rfl) rfl rfl rfl h4 ?_
    refine constH (i := 5) (v := .bool false) (by kernel_rfl) rfl rfl rfl h4 ?_
    refine wpAnyH_done (by kernel_rfl) ?_ _
    refine And.intro ?_ (And.intro r1 (And.intro r2 b2))
    go_simp
    exact rfl
  intro w3 hw3
  obtain ⟨r1, r2, b2⟩ := hw3
  go_wp2_with fail
  exact bodyPost_ret (v := .tuple #[.agg A.toArray, .agg X.toArray, .bool false, .bool false]) (res4 Tryd.results21 rfl rfl rfl rfl r1 r2 HLA.out HLX.out) rfl ⟨⟨e.key, fl, D, da, ver⟩, by rw [HA0.out, HX0.out]; rfl, (fun h => by cases h), b2⟩
end Go.Proofs.YtpkmfckifnomeaaDoor
