/-
  Next of the reference: cas, delete.
-/
import Derived.Test.YtpkmfckifnomeaaDoorRN0
namespace Go.Proofs.YtpkmfckifnomeaaDoor
open Go.RowKit

open Go.Lib (TabIs pow10Tab)
set_option maxRecDepth 100000 in
set_option maxHeartbeats 1000000 in
theorem rn_cas_f (now : Int) (ka : Option Addr) (kn kc : Nat) (fl exp by_ cas : Int) (dd : Nat) (qu : Bool) (da : ByteArray) (e : En) (ver : Int) (w : World) : Calls Tryd.prog 21 #[.agg #[Value.int .i64 8, .slice ka kn kc, .int .i64 fl, .int .i64 exp, .int .i64 by_, .int .i64 cas, .int .u64 (dd : Int), .bool qu, .string da], .agg #[Value.string e.key, .int .i64 e.fl, .int .i64 e.dl, .string e.val, .int .i64 e.cas], .bool false, .int .i64 now, .int .i64 ver] w (OutR w (tld (ab 5))) := by
  obtain ⟨D, hD⟩ : ∃ D, dl exp now = D := ⟨_, rfl⟩
  have DC := Lib.hid (rdead_c exp now D hD)
  try rw [hD]
  clear hD
  obtain ⟨R, hR⟩ : ∃ R : List Value, R = [Value.int .i64 8, .slice ka kn kc, .int .i64 fl, .int .i64 exp, .int .i64 by_, .int .i64 cas, .int .u64 (dd : Int), .bool qu, .string da] := ⟨_, rfl⟩
  obtain ⟨E, hE⟩ : ∃ E : List Value, E = [Value.string e.key, .int .i64 e.fl, .int .i64 e.dl, .string e.val, .int .i64 e.cas] := ⟨_, rfl⟩
  have HR0 := Lib.hid hR
  have HE0 := Lib.hid hE
  have HX1 := Lib.hid (RX.new w R E)
  rw [hR, hE] at HX1
  clear hR hE
  obtain ⟨A, hA⟩ : ∃ A, A = (ab 5).cs := ⟨_, rfl⟩
  obtain ⟨X, hX⟩ : ∃ X : List Value, X = [Value.string e.key, .int .i64 fl, .int .i64 D, .string da, .int .i64 ver] := ⟨_, rfl⟩
  have HA0 := Lib.hid hA
  have HX0 := Lib.hid hX
  have HLA : Hid (A.length = 9) := Lib.hid (by rw [hA]; rfl)
  have HOA : Hid (∀ u ∈ A, u.oneCell' = true) := Lib.hid (by rw [hA]; exact Ab.one _)
  have HLX : Hid (X.length = 5) := Lib.hid (by rw [hX]; rfl)
  have HOX : Hid (∀ u ∈ X, u.oneCell' = true) := Lib.hid (by rw [hX]; exact En.one ⟨e.key, fl, D, da, ver⟩)
  clear hA hX
  have SY : Hid (∀ W, Calls Tryd.prog 43 #[.int .i64 5] W fun e w' => e = .returned (.agg A.toArray) ∧ Below W.heap.size W w') := Lib.hid (by rw [HA0.out]; exact say_any 5)
  go_enter Tryd.func21, Tryd.ntmps21
  go_wp2_with fail
  refine wp_joinA ?_ (fun W => RX w W R E [Value.string e.key, .int .i64 fl, .int .i64 D, .string da, .int .i64 ver]) ?_ ?_
  rotate_left
  focus
    refine wp_region_held_drew (S := fun W => ∃ Z, RX w W R E Z) (by kernel_rfl) ⟨e0.cs, by rw [HR0.out, HE0.out]; exact HX1.out.drew⟩ (fun hS => ?_)
    refine wpAnyH_take (i := 0) (v := .pointer (some ⟨w.heap.size + 1, 0, none⟩)) rfl (by kernel_rfl) (by kernel_rfl) (by kernel_rfl) (fun _ _ _ h => (h : False).elim) (Or.inl ⟨by kernel_rfl, by intro W hW; go_simp⟩) hS ?_
    refine wpAnyH_take (i := 1) (v := .string e.key) rfl (by kernel_rfl) (by kernel_rfl) (by kernel_rfl) (fun _ _ _ h => (h : False).elim) (Or.inl ⟨by kernel_rfl, by intro W hW; have c := hW.choose_spec.cellE 0 (.string e.key) (by rw [HE0.out]; rfl); go_simp⟩) hS ?_
    refine wpAnyH_take (i := 2) (v := .pointer (some ⟨w.heap.size, 2, none⟩)) rfl (by kernel_rfl) (by kernel_rfl) (by kernel_rfl) (fun _ _ _ h => (h : False).elim) (Or.inl ⟨by kernel_rfl, by intro W hW; go_simp⟩) hS ?_
    refine wpAnyH_take (i := 3) (v := .int .i64 fl) rfl (by kernel_rfl) (by kernel_rfl) (by kernel_rfl) (fun _ _ _ h => (h : False).elim) (Or.inl ⟨by kernel_rfl, by intro W hW; have c := hW.choose_spec.cellR 2 (.int .i64 fl) (by rw [HR0.out]; rfl); go_simp⟩) hS ?_
    refine wpAnyH_take (i := 4) (v := .pointer (some ⟨w.heap.size, 3, none⟩)) rfl (by kernel_rfl) (by kernel_rfl) (by kernel_rfl) (fun _ _ _ h => (h : False).elim) (Or.inl ⟨by kernel_rfl, by intro W hW; go_simp⟩) hS ?_
    refine wpAnyH_take (i := 5) (v := .int .i64 exp) rfl (by kernel_rfl) (by kernel_rfl) (by kernel_rfl) (fun _ _ _ h => (h : False).elim) (Or.inl ⟨by kernel_rfl, by intro W hW; have c := hW.choose_spec.cellR 3 (.int .i64 exp) (by rw [HR0.out]; rfl); go_simp⟩) hS ?_
    refine wpAnyH_take (i := 6) (v := .int .i64 now) rfl (by kernel_rfl) (by kernel_rfl) (by kernel_rfl) (fun _ _ _ h => (h : False).elim) (Or.inl ⟨by kernel_rfl, by intro W hW; go_simp⟩) hS ?_
    refine wpAnyH_take (i := 8) (v := .pointer (some ⟨w.heap.size, 8, none⟩)) rfl (by kernel_rfl) (by kernel_rfl) (by kernel_rfl) (fun _ _ _ h => (h : False).elim) (Or.inl ⟨by kernel_rfl, by intro W hW; go_simp⟩) hS ?_
    refine wpAnyH_take (i := 9) (v := .string da) rfl (by kernel_rfl) (by kernel_rfl) (by kernel_rfl) (fun _ _ _ h => (h : False).elim) (Or.inl ⟨by kernel_rfl, by intro W hW; have c := hW.choose_spec.cellR 8 (.string da) (by rw [HR0.out]; rfl); go_simp⟩) hS ?_
    refine wpAnyH_take (i := 10) (v := .int .i64 ver) rfl (by kernel_rfl) (by kernel_rfl) (by kernel_rfl) (fun _ _ _ h => (h : False).elim) (Or.inl ⟨by kernel_rfl, by intro W hW; go_simp⟩) hS ?_
    refine oneH (i := 7) (by kernel_rfl) rfl (fun K hK => ?_)
    go_simp
    refine (DC.out _).mono ?_
    rintro e1 w1 ⟨rfl, rfl⟩
    refine hK _ _ ⟨hS, ?_⟩
    refine wpAnyH_take (i := 11) (v := .agg #[Value.string e.key, .int .i64 fl, .int .i64 D, .string da, .int .i64 ver]) rfl (by kernel_rfl) (by kernel_rfl) (by kernel_rfl) (fun _ _ _ h => (h : False).elim) (Or.inl ⟨by kernel_rfl, by intro W hW; go_simp⟩) hS ?_
    refine oneH (i := 12) (by kernel_rfl) rfl (fun K hK => ?_)
    obtain ⟨Z, hS⟩ := hS
    refine step_store (b := w.heap.size + 1 + 1 + 1) (o := 0) (cells := #[Value.string e.key, .int .i64 fl, .int .i64 D, .string da, .int .i64 ver]) hS.tx (all_oneCell_toArray (En.one ⟨e.key, fl, D, da, ver⟩)) 49 (.tmp 11) (.tmp 26) rfl rfl rfl rfl rfl (by kernel_rfl) ?_
    have h5 := hS.set [Value.string e.key, .int .i64 fl, .int .i64 D, .string da, .int .i64 ver] rfl
    refine hK _ _ ⟨⟨_, h5⟩, ?_⟩
    refine wpAnyH_done (by kernel_rfl) ?_ _
    refine And.intro ?_ h5
    go_simp
    exact rfl
  intro w1 hx
  have v0 := hx.cellR 0 (.int .i64 8) (by rw [HR0.out]; rfl)
  go_wp2_with fail
  refine wp_joinA ?_ (fun W => W.rangeAt (w.heap.size + 1 + 1) 0 A ∧ W.rangeAt (w.heap.size + 1 + 1 + 1) 0 X ∧ Below w.heap.size w W) ?_ ?_
  rotate_left
  focus
    refine wp_region_held_drew (S := fun W => RX w W R E X) (by kernel_rfl) (by rw [HX0.out]; exact hx.drew) (fun hS => ?_)
    refine wpAnyH_take (i := 1) (v := .agg X.toArray) rfl (by kernel_rfl) (by kernel_rfl) (by kernel_rfl) (fun _ _ _ h => (h : False).elim) (yieldsIf_load_mid (by kernel_rfl) 49 (.tmp 11) rfl (w.heap.size + 1 + 1 + 1) 0 rfl X _ (fun _ h => h.x) Tryd.underlying49 rfl (by rw [HLX.out]; kernel_rfl)) hS ?_
    refine oneH (i := 0) (by kernel_rfl) rfl (fun K hK => ?_)
    go_simp
    refine (SY.out _).mono ?_
    rintro e1 w2 ⟨rfl, hb⟩
    have h2 := hS.below hb
    refine hK _ _ ⟨h2, ?_⟩
    clear hK K
    obtain ⟨t1, t2, r1, r2, b2⟩ := two_fin (w := w) (W := w2) (b := w.heap.size + 1 + 1) HLA.out HLX.out (by omega) h2.b h2.ta h2.tx
    have h3 := h2.setA A HLA.out
    have h4 := h3.set X HLX.out
    refine storeH (i := 2) (by kernel_rfl) rfl rfl t1 (all_oneCell_toArray HOA.out) 32 (.tmp 10) (.tmp 86) rfl rfl rfl (by rw [List.size_toArray, HLA.out]; kernel_rfl) h3 ?_
    refine storeH (i := 3) (by kernel_rfl) rfl rfl t2 (all_oneCell_toArray HOX.out) 49 (.tmp 11) (.tmp 87) rfl rfl rfl (by rw [List.size_toArray, HLX.out]; kernel_rfl) h4 ?_
    refine constH (i := 4) (v := .bool false) (by kernel_rfl) rfl rfl rfl h4 ?_
    refine constH (i := 5) (v := .bool false) (by kernel_rfl) rfl rfl rfl h4 ?_
    refine wpAnyH_done (by kernel_rfl) ?_ _
    refine And.intro ?_ (And.intro r1 (And.intro r2 b2))
    go_simp
    exact rfl
  intro w3 hw3
  obtain ⟨r1, r2, b2⟩ := hw3
  go_wp2_with fail
  exact bodyPost_ret (v := .tuple #[.agg A.toArray, .agg X.toArray, .bool false, .bool false]) (res4 Tryd.results21 rfl rfl rfl rfl r1 r2 HLA.out HLX.out) rfl ⟨⟨e.key, fl, D, da, ver⟩, by rw [HA0.out, HX0.out]; rfl, (fun h => by cases h), b2⟩
set_option maxRecDepth 100000 in
set_option maxHeartbeats 1000000 in
theorem rn_cas_o (now : Int) (ka : Option Addr) (kn kc : Nat) (fl exp by_ cas : Int) (dd : Nat) (qu : Bool) (da : ByteArray) (e : En) (ver : Int) (hc : e.cas ≠ cas) (w : World) : Calls Tryd.prog 21 #[.agg #[Value.int .i64 8, .slice ka kn kc, .int .i64 fl, .int .i64 exp, .int .i64 by_, .int .i64 cas, .int .u64 (dd : Int), .bool qu, .string da], .agg #[Value.string e.key, .int .i64 e.fl, .int .i64 e.dl, .string e.val, .int .i64 e.cas], .bool true, .int .i64 now, .int .i64 ver] w (OutR w (tld (ab 4))) := by
  obtain ⟨D, hD⟩ : ∃ D, dl exp now = D := ⟨_, rfl⟩
  have DC := Lib.hid (rdead_c exp now D hD)
  try rw [hD]
  clear hD
  obtain ⟨R, hR⟩ : ∃ R : List Value, R = [Value.int .i64 8, .slice ka kn kc, .int .i64 fl, .int .i64 exp, .int .i64 by_, .int .i64 cas, .int .u64 (dd : Int), .bool qu, .string da] := ⟨_, rfl⟩
  obtain ⟨E, hE⟩ : ∃ E : List Value, E = [Value.string e.key, .int .i64 e.fl, .int .i64 e.dl, .string e.val, .int .i64 e.cas] := ⟨_, rfl⟩
  have HR0 := Lib.hid hR
  have HE0 := Lib.hid hE
  have HX1 := Lib.hid (RX.new w R E)
  rw [hR, hE] at HX1
  clear hR hE
  obtain ⟨A, hA⟩ : ∃ A, A = (ab 4).cs := ⟨_, rfl⟩
  obtain ⟨X, hX⟩ : ∃ X : List Value, X = [Value.string e.key, .int .i64 fl, .int .i64 D, .string da, .int .i64 ver] := ⟨_, rfl⟩
  have HA0 := Lib.hid hA
  have HX0 := Lib.hid hX
  have HLA : Hid (A.length = 9) := Lib.hid (by rw [hA]; rfl)
  have HOA : Hid (∀ u ∈ A, u.oneCell' = true) := Lib.hid (by rw [hA]; exact Ab.one _)
  have HLX : Hid (X.length = 5) := Lib.hid (by rw [hX]; rfl)
  have HOX : Hid (∀ u ∈ X, u.oneCell' = true) := Lib.hid (by rw [hX]; exact En.one ⟨e.key, fl, D, da, ver⟩)
  clear hA hX
  have SY : Hid (∀ W, Calls Tryd.prog 43 #[.int .i64 4] W fun e w' => e = .returned (.agg A.toArray) ∧ Below W.heap.size W w') := Lib.hid (by rw [HA0.out]; exact say_any 4)
  have g1 : (e.cas == cas) = false := by simp [hc]
  clear hc
  go_enter Tryd.func21, Tryd.ntmps21
  go_wp2_with fail
  refine wp_joinA ?_ (fun W => RX w W R E [Value.string e.key, .int .i64 fl, .int .i64 D, .string da, .int .i64 ver]) ?_ ?_
  rotate_left
  focus
    refine wp_region_held_drew (S := fun W => ∃ Z, RX w W R E Z) (by kernel_rfl) ⟨e0.cs, by rw [HR0.out, HE0.out]; exact HX1.out.drew⟩ (fun hS => ?_)
    refine wpAnyH_take (i := 0) (v := .pointer (some ⟨w.heap.size + 1, 0, none⟩)) rfl (by kernel_rfl) (by kernel_rfl) (by kernel_rfl) (fun _ _ _ h => (h : False).elim) (Or.inl ⟨by kernel_rfl, by intro W hW; go_simp⟩) hS ?_
    refine wpAnyH_take (i := 1) (v := .string e.key) rfl (by kernel_rfl) (by kernel_rfl) (by kernel_rfl) (fun _ _ _ h => (h : False).elim) (Or.inl ⟨by kernel_rfl, by intro W hW; have c := hW.choose_spec.cellE 0 (.string e.key) (by rw [HE0.out]; rfl); go_simp⟩) hS ?_
    refine wpAnyH_take (i := 2) (v := .pointer (some ⟨w.heap.size, 2, none⟩)) rfl (by kernel_rfl) (by kernel_rfl) (by kernel_rfl) (fun _ _ _ h => (h : False).elim) (Or.inl ⟨by kernel_rfl, by intro W hW; go_simp⟩) hS ?_
    refine wpAnyH_take (i := 3) (v := .int .i64 fl) rfl (by kernel_rfl) (by kernel_rfl) (by kernel_rfl) (fun _ _ _ h => (h : False).elim) (Or.inl ⟨by kernel_rfl, by intro W hW; have c := hW.choose_spec.cellR 2 (.int .i64 fl) (by rw [HR0.out]; rfl); go_simp⟩) hS ?_
    refine wpAnyH_take (i := 4) (v := .pointer (some ⟨w.heap.size, 3, none⟩)) rfl (by kernel_rfl) (by kernel_rfl) (by kernel_rfl) (fun _ _ _ h => (h : False).elim) (Or.inl ⟨by kernel_rfl, by intro W hW; go_simp⟩) hS ?_
    refine wpAnyH_take (i := 5) (v := .int .i64 exp) rfl (by kernel_rfl) (by kernel_rfl) (by kernel_rfl) (fun _ _ _ h => (h : False).elim) (Or.inl ⟨by kernel_rfl, by intro W hW; have c := hW.choose_spec.cellR 3 (.int .i64 exp) (by rw [HR0.out]; rfl); go_simp⟩) hS ?_
    refine wpAnyH_take (i := 6) (v := .int .i64 now) rfl (by kernel_rfl) (by kernel_rfl) (by kernel_rfl) (fun _ _ _ h => (h : False).elim) (Or.inl ⟨by kernel_rfl, by intro W hW; go_simp⟩) hS ?_
    refine wpAnyH_take (i := 8) (v := .pointer (some ⟨w.heap.size, 8, none⟩)) rfl (by kernel_rfl) (by kernel_rfl) (by kernel_rfl) (fun _ _ _ h => (h : False).elim) (Or.inl ⟨by kernel_rfl, by intro W hW; go_simp⟩) hS ?_
    refine wpAnyH_take (i := 9) (v := .string da) rfl (by kernel_rfl) (by kernel_rfl) (by kernel_rfl) (fun _ _ _ h => (h : False).elim) (Or.inl ⟨by kernel_rfl, by intro W hW; have c := hW.choose_spec.cellR 8 (.string da) (by rw [HR0.out]; rfl); go_simp⟩) hS ?_
    refine wpAnyH_take (i := 10) (v := .int .i64 ver) rfl (by kernel_rfl) (by kernel_rfl) (by kernel_rfl) (fun _ _ _ h => (h : False).elim) (Or.inl ⟨by kernel_rfl, by intro W hW; go_simp⟩) hS ?_
    refine oneH (i := 7) (by kernel_rfl) rfl (fun K hK => ?_)
    go_simp
    refine (DC.out _).mono ?_
    rintro e1 w1 ⟨rfl, rfl⟩
    refine hK _ _ ⟨hS, ?_⟩
    refine wpAnyH_take (i := 11) (v := .agg #[Value.string e.key, .int .i64 fl, .int .i64 D, .string da, .int .i64 ver]) rfl (by kernel_rfl) (by kernel_rfl) (by kernel_rfl) (fun _ _ _ h => (h : False).elim) (Or.inl ⟨by kernel_rfl, by intro W hW; go_simp⟩) hS ?_
    refine oneH (i := 12) (by kernel_rfl) rfl (fun K hK => ?_)
    obtain ⟨Z, hS⟩ := hS
    refine step_store (b := w.heap.size + 1 + 1 + 1) (o := 0) (cells := #[Value.string e.key, .int .i64 fl, .int .i64 D, .string da, .int .i64 ver]) hS.tx (all_oneCell_toArray (En.one ⟨e.key, fl, D, da, ver⟩)) 49 (.tmp 11) (.tmp 26) rfl rfl rfl rfl rfl (by kernel_rfl) ?_
    have h5 := hS.set [Value.string e.key, .int .i64 fl, .int .i64 D, .string da, .int .i64 ver] rfl
    refine hK _ _ ⟨⟨_, h5⟩, ?_⟩
    refine wpAnyH_done (by kernel_rfl) ?_ _
    refine And.intro ?_ h5
    go_simp
    exact rfl
  intro w1 hx
  have v0 := hx.cellR 0 (.int .i64 8) (by rw [HR0.out]; rfl)
  have v5 := hx.cellR 5 (.int .i64 cas) (by rw [HR0.out]; rfl)
  have v4 := hx.cellE 4 (.int .i64 e.cas) (by rw [HE0.out]; rfl)
  go_wp2_with fail
  refine wp_joinA ?_ (fun W => W.rangeAt (w.heap.size + 1 + 1) 0 A ∧ W.rangeAt (w.heap.size + 1 + 1 + 1) 0 X ∧ Below w.heap.size w W) ?_ ?_
  rotate_left
  focus
    refine wp_region_held_drew (S := fun W => RX w W R E X) (by kernel_rfl) (by rw [HX0.out]; exact hx.drew) (fun hS => ?_)
    refine wpAnyH_take (i := 1) (v := .agg X.toArray) rfl (by kernel_rfl) (by kernel_rfl) (by kernel_rfl) (fun _ _ _ h => (h : False).elim) (yieldsIf_load_mid (by kernel_rfl) 49 (.tmp 11) rfl (w.heap.size + 1 + 1 + 1) 0 rfl X _ (fun _ h => h.x) Tryd.underlying49 rfl (by rw [HLX.out]; kernel_rfl)) hS ?_
    refine oneH (i := 0) (by kernel_rfl) rfl (fun K hK => ?_)
    go_simp
    refine (SY.out _).mono ?_
    rintro e1 w2 ⟨rfl, hb⟩
    have h2 := hS.below hb
    refine hK _ _ ⟨h2, ?_⟩
    clear hK K
    obtain ⟨t1, t2, r1, r2, b2⟩ := two_fin (w := w) (W := w2) (b := w.heap.size + 1 + 1) HLA.out HLX.out (by omega) h2.b h2.ta h2.tx
    have h3 := h2.setA A HLA.out
    have h4 := h3.set X HLX.out
    refine storeH (i := 2) (by kernel_rfl) rfl rfl t1 (all_oneCell_toArray HOA.out) 32 (.tmp 10) (.tmp 93) rfl rfl rfl (by rw [List.size_toArray, HLA.out]; kernel_rfl) h3 ?_
    refine storeH (i := 3) (by kernel_rfl) rfl rfl t2 (all_oneCell_toArray HOX.out) 49 (.tmp 11) (.tmp 94) rfl rfl rfl (by rw [List.size_toArray, HLX.out]; kernel_rfl) h4 ?_
    refine constH (i := 4) (v := .bool false) (by kernel_rfl) rfl rfl rfl h4 ?_
    refine constH (i := 5) (v := .bool false) (by kernel_rfl) rfl rfl rfl h4 ?_
    refine wpAnyH_done (by kernel_rfl) ?_ _
    refine And.intro ?_ (And.intro r1 (And.intro r2 b2))
    go_simp
    exact rfl
  intro w3 hw3
  obtain ⟨r1, r2, b2⟩ := hw3
  go_wp2_with fail
  exact bodyPost_ret (v := .tuple #[.agg A.toArray, .agg X.toArray, .bool false, .bool false]) (res4 Tryd.results21 rfl rfl rfl rfl r1 r2 HLA.out HLX.out) rfl ⟨⟨e.key, fl, D, da, ver⟩, by rw [HA0.out, HX0.out]; rfl, (fun h => by cases h), b2⟩
set_option maxRecDepth 100000 in
set_option maxHeartbeats 1000000 in
theorem rn_cas_t (now : Int) (ka : Option Addr) (kn kc : Nat) (fl exp by_ cas : Int) (dd : Nat) (qu : Bool) (da : ByteArray) (e : En) (ver : Int) (hc : e.cas = cas) (w : World) : Calls Tryd.prog 21 #[.agg #[Value.int .i64 8, .slice ka kn kc, .int .i64 fl, .int .i64 exp, .int .i64 by_, .int .i64 cas, .int .u64 (dd : Int), .bool qu, .string da], .agg #[Value.string e.key, .int .i64 e.fl, .int .i64 e.dl, .string e.val, .int .i64 e.cas], .bool true, .int .i64 now, .int .i64 ver] w (OutR w (kpt (ab 2) ⟨e.key, fl, dl exp now, da, ver⟩)) := by
  obtain ⟨D, hD⟩ : ∃ D, dl exp now = D := ⟨_, rfl⟩
  have DC := Lib.hid (rdead_c exp now D hD)
  try rw [hD]
  clear hD
  obtain ⟨R, hR⟩ : ∃ R : List Value, R = [Value.int .i64 8, .slice ka kn kc, .int .i64 fl, .int .i64 exp, .int .i64 by_, .int .i64 cas, .int .u64 (dd : Int), .bool qu, .string da] := ⟨_, rfl⟩
  obtain ⟨E, hE⟩ : ∃ E : List Value, E = [Value.string e.key, .int .i64 e.fl, .int .i64 e.dl, .string e.val, .int .i64 e.cas] := ⟨_, rfl⟩
  have HR0 := Lib.hid hR
  have HE0 := Lib.hid hE
  have HX1 := Lib.hid (RX.new w R E)
  rw [hR, hE] at HX1
  clear hR hE
  obtain ⟨A, hA⟩ : ∃ A, A = (ab 2).cs := ⟨_, rfl⟩
  obtain ⟨X, hX⟩ : ∃ X : List Value, X = [Value.string e.key, .int .i64 fl, .int .i64 D, .string da, .int .i64 ver] := ⟨_, rfl⟩
  have HA0 := Lib.hid hA
  have HX0 := Lib.hid hX
  have HLA : Hid (A.length = 9) := Lib.hid (by rw [hA]; rfl)
  have HOA : Hid (∀ u ∈ A, u.oneCell' = true) := Lib.hid (by rw [hA]; exact Ab.one _)
  have HLX : Hid (X.length = 5) := Lib.hid (by rw [hX]; rfl)
  have HOX : Hid (∀ u ∈ X, u.oneCell' = true) := Lib.hid (by rw [hX]; exact En.one ⟨e.key, fl, D, da, ver⟩)
  clear hA hX
  have SY : Hid (∀ W, Calls Tryd.prog 43 #[.int .i64 2] W fun e w' => e = .returned (.agg A.toArray) ∧ Below W.heap.size W w') := Lib.hid (by rw [HA0.out]; exact say_any 2)
  have g1 : (e.cas == cas) = true := by simp [hc]
  clear hc
  go_enter Tryd.func21, Tryd.ntmps21
  go_wp2_with fail
  refine wp_joinA ?_ (fun W => RX w W R E [Value.string e.key, .int .i64 fl, .int .i64 D, .string da, .int .i64 ver]) ?_ ?_
  rotate_left
  focus
    refine wp_region_held_drew (S := fun W => ∃ Z, RX w W R E Z) (by kernel_rfl) ⟨e0.cs, by rw [HR0.out, HE0.out]; exact HX1.out.drew⟩ (fun hS => ?_)
    refine wpAnyH_take (i := 0) (v := .pointer (some ⟨w.heap.size + 1, 0, none⟩)) rfl (by kernel_rfl) (by kernel_rfl) (by kernel_rfl) (fun _ _ _ h => (h : False).elim) (Or.inl ⟨by kernel_rfl, by intro W hW; go_simp⟩) hS ?_
    refine wpAnyH_take (i := 1) (v := .string e.key) rfl (by kernel_rfl) (by kernel_rfl) (by kernel_rfl) (fun _ _ _ h => (h : False).elim) (Or.inl ⟨by kernel_rfl, by intro W hW; have c := hW.choose_spec.cellE 0 (.string e.key) (by rw [HE0.out]; rfl); go_simp⟩) hS ?_
    refine wpAnyH_take (i := 2) (v := .pointer (some ⟨w.heap.size, 2, none⟩)) rfl (by kernel_rfl) (by kernel_rfl) (by kernel_rfl) (fun _ _ _ h => (h : False).elim) (Or.inl ⟨by kernel_rfl, by intro W hW; go_simp⟩) hS ?_
    refine wpAnyH_take (i := 3) (v := .int .i64 fl) rfl (by kernel_rfl) (by kernel_rfl) (by kernel_rfl) (fun _ _ _ h => (h : False).elim) (Or.inl ⟨by kernel_rfl, by intro W hW; have c := hW.choose_spec.cellR 2 (.int .i64 fl) (by rw [HR0.out]; rfl); go_simp⟩) hS ?_
    refine wpAnyH_take (i := 4) (v := .pointer (some ⟨w.heap.size, 3, none⟩)) rfl (by kernel_rfl) (by kernel_rfl) (by kernel_rfl) (fun _ _ _ h => (h : False).elim) (Or.inl ⟨by kernel_rfl, by intro W hW; go_simp⟩) hS ?_
    refine wpAnyH_take (i := 5) (v := .int .i64 exp) rfl (by kernel_rfl) (by kernel_rfl) (by kernel_rfl) (fun _ _ _ h => (h : False).elim) (Or.inl ⟨by kernel_rfl, by intro W hW; have c := hW.choose_spec.cellR 3 (.int .i64 exp) (by rw [HR0.out]; rfl); go_simp⟩) hS ?_
    refine wpAnyH_take (i := 6) (v := .int .i64 now) rfl (by kernel_rfl) (by kernel_rfl) (by kernel_rfl) (fun _ _ _ h => (h : False).elim) (Or.inl ⟨by kernel_rfl, by intro W hW; go_simp⟩) hS ?_
    refine wpAnyH_take (i := 8) (v := .pointer (some ⟨w.heap.size, 8, none⟩)) rfl (by kernel_rfl) (by kernel_rfl) (by kernel_rfl) (fun _ _ _ h => (h : False).elim) (Or.inl ⟨by kernel_rfl, by intro W hW; go_simp⟩) hS ?_
    refine wpAnyH_take (i := 9) (v := .string da) rfl (by kernel_rfl) (by kernel_rfl) (by kernel_rfl) (fun _ _ _ h => (h : False).elim) (Or.inl ⟨by kernel_rfl, by intro W hW; have c := hW.choose_spec.cellR 8 (.string da) (by rw [HR0.out]; rfl); go_simp⟩) hS ?_
    refine wpAnyH_take (i := 10) (v := .int .i64 ver) rfl (by kernel_rfl) (by kernel_rfl) (by kernel_rfl) (fun _ _ _ h => (h : False).elim) (Or.inl ⟨by kernel_rfl, by intro W hW; go_simp⟩) hS ?_
    refine oneH (i := 7) (by kernel_rfl) rfl (fun K hK => ?_)
    go_simp
    refine (DC.out _).mono ?_
    rintro e1 w1 ⟨rfl, rfl⟩
    refine hK _ _ ⟨hS, ?_⟩
    refine wpAnyH_take (i := 11) (v := .agg #[Value.string e.key, .int .i64 fl, .int .i64 D, .string da, .int .i64 ver]) rfl (by kernel_rfl) (by kernel_rfl) (by kernel_rfl) (fun _ _ _ h => (h : False).elim) (Or.inl ⟨by kernel_rfl, by intro W hW; go_simp⟩) hS ?_
    refine oneH (i := 12) (by kernel_rfl) rfl (fun K hK => ?_)
    obtain ⟨Z, hS⟩ := hS
    refine step_store (b := w.heap.size + 1 + 1 + 1) (o := 0) (cells := #[Value.string e.key, .int .i64 fl, .int .i64 D, .string da, .int .i64 ver]) hS.tx (all_oneCell_toArray (En.one ⟨e.key, fl, D, da, ver⟩)) 49 (.tmp 11) (.tmp 26) rfl rfl rfl rfl rfl (by kernel_rfl) ?_
    have h5 := hS.set [Value.string e.key, .int .i64 fl, .int .i64 D, .string da, .int .i64 ver] rfl
    refine hK _ _ ⟨⟨_, h5⟩, ?_⟩
    refine wpAnyH_done (by kernel_rfl) ?_ _
    refine And.intro ?_ h5
    go_simp
    exact rfl
  intro w1 hx
  have v0 := hx.cellR 0 (.int .i64 8) (by rw [HR0.out]; rfl)
  have v5 := hx.cellR 5 (.int .i64 cas) (by rw [HR0.out]; rfl)
  have v4 := hx.cellE 4 (.int .i64 e.cas) (by rw [HE0.out]; rfl)
  go_wp2_with fail
  refine wp_joinA ?_ (fun W => W.rangeAt (w.heap.size + 1 + 1) 0 A ∧ W.rangeAt (w.heap.size + 1 + 1 + 1) 0 X ∧ Below w.heap.size w W) ?_ ?_
  rotate_left
  focus
    refine wp_region_held_drew (S := fun W => RX w W R E X) (by kernel_rfl) (by rw [HX0.out]; exact hx.drew) (fun hS => ?_)
    refine wpAnyH_take (i := 1) (v := .agg X.toArray) rfl (by kernel_rfl) (by kernel_rfl) (by kernel_rfl) (fun _ _ _ h => (h : False).elim) (yieldsIf_load_mid (by kernel_rfl) 49 (.tmp 11) rfl (w.heap.size + 1 + 1 + 1) 0 rfl X _ (fun _ h => h.x) Tryd.underlying49 rfl (by rw [HLX.out]; kernel_rfl)) hS ?_
    refine oneH (i := 0) (by kernel_rfl) rfl (fun K hK => ?_)
    go_simp
    refine (SY.out _).mono ?_
    rintro e1 w2 ⟨rfl, hb⟩
    have h2 := hS.below hb
    refine hK _ _ ⟨h2, ?_⟩
    clear hK K
    obtain ⟨t1, t2, r1, r2, b2⟩ := two_fin (w := w) (W := w2) (b := w.heap.size + 1 + 1) HLA.out HLX.out (by omega) h2.b h2.ta h2.tx
    have h3 := h2.setA A HLA.out
    have h4 := h3.set X HLX.out
    refine storeH (i := 2) (by kernel_rfl) rfl rfl t1 (all_oneCell_toArray HOA.out) 32 (.tmp 10) (.tmp 95) rfl rfl rfl (by rw [List.size_toArray, HLA.out]; kernel_rfl) h3 ?_
    refine storeH (i := 3) (by kernel_rfl) rfl rfl t2 (all_oneCell_toArray HOX.out) 49 (.tmp 11) (.tmp 96) rfl rfl rfl (by rw [List.size_toArray, HLX.out]; kernel_rfl) h4 ?_
    refine constH (i := 4) (v := .bool true) (by kernel_rfl) rfl rfl rfl h4 ?_
    refine constH (i := 5) (v := .bool false) (by kernel_rfl) rfl rfl rfl h4 ?_
    refine wpAnyH_done (by kernel_rfl) ?_ _
    refine And.intro ?_ (And.intro r1 (And.intro r2 b2))
    go_simp
    exact rfl
  intro w3 hw3
  obtain ⟨r1, r2, b2⟩ := hw3
  go_wp2_with fail
  exact bodyPost_ret (v := .tuple #[.agg A.toArray, .agg X.toArray, .bool true, .bool false]) (res4 Tryd.results21 rfl rfl rfl rfl r1 r2 HLA.out HLX.out) rfl ⟨⟨e.key, fl, D, da, ver⟩, by rw [HA0.out, HX0.out]; rfl, fun _ => rfl, b2⟩
set_option maxRecDepth 100000 in
set_option maxHeartbeats 1000000 in
theorem rn_del_f (now : Int) (ka : Option Addr) (kn kc : Nat) (fl exp by_ cas : Int) (dd : Nat) (qu : Bool) (da : ByteArray) (e : En) (ver : Int) (w : World) : Calls Tryd.prog 21 #[.agg #[Value.int .i64 9, .slice ka kn kc, .int .i64 fl, .int .i64 exp, .int .i64 by_, .int .i64 cas, .int .u64 (dd : Int), .bool qu, .string da], .agg #[Value.string e.key, .int .i64 e.fl, .int .i64 e.dl, .string e.val, .int .i64 e.cas], .bool false, .int .i64 now, .int .i64 ver] w (OutR w (tld (ab 5))) := by
  obtain ⟨D, hD⟩ : ∃ D, dl exp now = D := ⟨_, rfl⟩
  have DC := Lib.hid (rdead_c exp now D hD)
  try rw [hD]
  clear hD
  obtain ⟨R, hR⟩ : ∃ R : List Value, R = [Value.int .i64 9, .slice ka kn kc, .int .i64 fl, .int .i64 exp, .int .i64 by_, .int .i64 cas, .int .u64 (dd : Int), .bool qu, .string da] := ⟨_, rfl⟩
  obtain ⟨E, hE⟩ : ∃ E : List Value, E = [Value.string e.key, .int .i64 e.fl, .int .i64 e.dl, .string e.val, .int .i64 e.cas] := ⟨_, rfl⟩
  have HR0 := Lib.hid hR
  have HE0 := Lib.hid hE
  have HX1 := Lib.hid (RX.new w R E)
  rw [hR, hE] at HX1
  clear hR hE
  obtain ⟨A, hA⟩ : ∃ A, A = (ab 5).cs := ⟨_, rfl⟩
  obtain ⟨X, hX⟩ : ∃ X : List Value, X = [Value.string e.key, .int .i64 fl, .int .i64 D, .string da, .int .i64 ver] := ⟨_, rfl⟩
  have HA0 := Lib.hid hA
  have HX0 := Lib.hid hX
  have HLA : Hid (A.length = 9) := Lib.hid (by rw [hA]; rfl)
  have HOA : Hid (∀ u ∈ A, u.oneCell' = true) := Lib.hid (by rw [hA]; exact Ab.one _)
  have HLX : Hid (X.length = 5) := Lib.hid (by rw [hX]; rfl)
  have HOX : Hid (∀ u ∈ X, u.oneCell' = true) := Lib.hid (by rw [hX]; exact En.one ⟨e.key, fl, D, da, ver⟩)
  clear hA hX
  have SY : Hid (∀ W, Calls Tryd.prog 43 #[.int .i64 5] W fun e w' => e = .returned (.agg A.toArray) ∧ Below W.heap.size W w') := Lib.hid (by rw [HA0.out]; exact say_any 5)
  go_enter Tryd.func21, Tryd.ntmps21
  go_wp2_with fail
  refine wp_joinA ?_ (fun W => RX w W R E [Value.string e.key, .int .i64 fl, .int .i64 D, .string da, .int .i64 ver]) ?_ ?_
  rotate_left
  focus
    refine wp_region_held_drew (S := fun W => ∃ Z, RX w W R E Z) (by kernel_rfl) ⟨e0.cs, by rw [HR0.out, HE0.out]; exact HX1.out.drew⟩ (fun hS => ?_)
    refine wpAnyH_take (i := 0) (v := .pointer (some ⟨w.heap.size + 1, 0, none⟩)) rfl (by kernel_rfl) (by kernel_rfl) (by kernel_rfl) (fun _ _ _ h => (h : False).elim) (Or.inl ⟨by kernel_rfl, by intro W hW; go_simp⟩) hS ?_
    refine wpAnyH_take (i := 1) (v := .string e.key) rfl (by kernel_rfl) (by kernel_rfl) (by kernel_rfl) (fun _ _ _ h => (h : False).elim) (Or.inl ⟨by kernel_rfl, by intro W hW; have c := hW.choose_spec.cellE 0 (.string e.key) (by rw [HE0.out]; rfl); go_simp⟩) hS ?_
    refine wpAnyH_take (i := 2) (v := .pointer (some ⟨w.heap.size, 2, none⟩)) rfl (by kernel_rfl) (by kernel_rfl) (by kernel_rfl) (fun _ _ _ h => (h : False).elim) (Or.inl ⟨by kernel_rfl, by intro W hW; go_simp⟩) hS ?_
    refine wpAnyH_take (i := 3) (v := .int .i64 fl) rfl (by kernel_rfl) (by kernel_rfl) (by kernel_rfl) (fun _ _ _ h => (h : False).elim) (Or.inl ⟨by kernel_rfl, by intro W hW; have c := hW.choose_spec.cellR 2 (.int .i64 fl) (by rw [HR0.out]; rfl); go_simp⟩) hS ?_
    refine wpAnyH_take (i := 4) (v := .pointer (some ⟨w.heap.size, 3, none⟩)) rfl (by kernel_rfl) (by kernel_rfl) (by kernel_rfl) (fun _ _ _ h => (h : False).elim) (Or.inl ⟨by kernel_rfl, by intro W hW; go_simp⟩) hS ?_
    refine wpAnyH_take (i := 5) (v := .int .i64 exp) rfl (by kernel_rfl) (by kernel_rfl) (by kernel_rfl) (fun _ _ _ h => (h : False).elim) (Or.inl ⟨by kernel_rfl, by intro W hW; have c := hW.choose_spec.cellR 3 (.int .i64 exp) (by rw [HR0.out]; rfl); go_simp⟩) hS ?_
    refine wpAnyH_take (i := 6) (v := .int .i64 now) rfl (by kernel_rfl) (by kernel_rfl) (by kernel_rfl) (fun _ _ _ h => (h : False).elim) (Or.inl ⟨by kernel_rfl, by intro W hW; go_simp⟩) hS ?_
    refine wpAnyH_take (i := 8) (v := .pointer (some ⟨w.heap.size, 8, none⟩)) rfl (by kernel_rfl) (by kernel_rfl) (by kernel_rfl) (fun _ _ _ h => (h : False).elim) (Or.inl ⟨by kernel_rfl, by intro W hW; go_simp⟩) hS ?_
    refine wpAnyH_take (i := 9) (v := .string da) rfl (by kernel_rfl) (by kernel_rfl) (by kernel_rfl) (fun _ _ _ h => (h : False).elim) (Or.inl ⟨by kernel_rfl, by intro W hW; have c := hW.choose_spec.cellR 8 (.string da) (by rw [HR0.out]; rfl); go_simp⟩) hS ?_
    refine wpAnyH_take (i := 10) (v := .int .i64 ver) rfl (by kernel_rfl) (by kernel_rfl) (by kernel_rfl) (fun _ _ _ h => (h : False).elim) (Or.inl ⟨by kernel_rfl, by intro W hW; go_simp⟩) hS ?_
    refine oneH (i := 7) (by kernel_rfl) rfl (fun K hK => ?_)
    go_simp
    refine (DC.out _).mono ?_
    rintro e1 w1 ⟨rfl, rfl⟩
    refine hK _ _ ⟨hS, ?_⟩
    refine wpAnyH_take (i := 11) (v := .agg #[Value.string e.key, .int .i64 fl, .int .i64 D, .string da, .int .i64 ver]) rfl (by kernel_rfl) (by kernel_rfl) (by kernel_rfl) (fun _ _ _ h => (h : False).elim) (Or.inl ⟨by kernel_rfl, by intro W hW; go_simp⟩) hS ?_
    refine oneH (i := 12) (by kernel_rfl) rfl (fun K hK => ?_)
    obtain ⟨Z, hS⟩ := hS
    refine step_store (b := w.heap.size + 1 + 1 + 1) (o := 0) (cells := #[Value.string e.key, .int .i64 fl, .int .i64 D, .string da, .int .i64 ver]) hS.tx (all_oneCell_toArray (En.one ⟨e.key, fl, D, da, ver⟩)) 49 (.tmp 11) (.tmp 26) rfl rfl rfl rfl rfl (by kernel_rfl) ?_
    have h5 := hS.set [Value.string e.key, .int .i64 fl, .int .i64 D, .string da, .int .i64 ver] rfl
    refine hK _ _ ⟨⟨_, h5⟩, ?_⟩
    refine wpAnyH_done (by kernel_rfl) ?_ _
    refine And.intro ?_ h5
    go_simp
    exact rfl
  intro w1 hx
  have v0 := hx.cellR 0 (.int .i64 9) (by rw [HR0.out]; rfl)
  go_wp2_with fail
  refine wp_joinA ?_ (fun W => W.rangeAt (w.heap.size + 1 + 1) 0 A ∧ W.rangeAt (w.heap.size + 1 + 1 + 1) 0 X ∧ Below w.heap.size w W) ?_ ?_
  rotate_left
  focus
    refine wp_region_held_drew (S := fun W => RX w W R E X) (by kernel_rfl) (by rw [HX0.out]; exact hx.drew) (fun hS => ?_)
    refine wpAnyH_take (i := 1) (v := .agg X.toArray) rfl (by kernel_rfl) (by kernel_rfl) (by kernel_rfl) (fun _ _ _ h => (h : False).elim) (yieldsIf_load_mid (by kernel_rfl) 49 (.tmp 11) rfl (w.heap.size + 1 + 1 + 1) 0 rfl X _ (fun _ h => h.x) Tryd.underlying49 rfl (by rw [HLX.out]; kernel_rfl)) hS ?_
    refine oneH (i := 0) (by kernel_rfl) rfl (fun K hK => ?_)
    go_simp
    refine (SY.out _).mono ?_
    rintro e1 w2 ⟨rfl, hb⟩
    have h2 := hS.below hb
    refine hK _ _ ⟨h2, ?_⟩
    clear hK K
    obtain ⟨t1, t2, r1, r2, b2⟩ := two_fin (w := w) (W := w2) (b := w.heap.size + 1 + 1) HLA.out HLX.out (by omega) h2.b h2.ta h2.tx
    have h3 := h2.setA A HLA.out
    have h4 := h3.set X HLX.out
    refine storeH (i := 2) (by kernel_rfl) rfl rfl t1 (all_oneCell_toArray HOA.out) 32 (.tmp 10) (.tmp 101) rfl rfl rfl (by rw [List.size_toArray, HLA.out]; kernel_rfl) h3 ?_
    refine storeH (i := 3) (by kernel_rfl) rfl rfl t2 (all_oneCell_toArray HOX.out) 49 (.tmp 11) (.tmp 102) rfl rfl rfl (by rw [List.size_toArray, HLX.out]; kernel_rfl) h4 ?_
    refine constH (i := 4) (v := .bool false) (by kernel_rfl) rfl rfl rfl h4 ?_
    refine constH (i := 5) (v := .bool false) (by kernel_rfl) rfl rfl rfl h4 ?_
    refine wpAnyH_done (by kernel_rfl) ?_ _
    refine And.intro ?_ (And.intro r1 (And.intro r2 b2))
    go_simp
    exact rfl
  intro w3 hw3
  obtain ⟨r1, r2, b2⟩ := hw3
  go_wp2_with fail
  exact bodyPost_ret (v := .tuple #[.agg A.toArray, .agg X.toArray, .bool false, .bool false]) (res4 Tryd.results21 rfl rfl rfl rfl r1 r2 HLA.out HLX.out) rfl ⟨⟨e.key, fl, D, da, ver⟩, by rw [HA0.out, HX0.out]; rfl, (fun h => by cases h), b2⟩
set_option maxRecDepth 100000 in
set_option maxHeartbeats 1000000 in
theorem rn_del_t (now : Int) (ka : Option Addr) (kn kc : Nat) (fl exp by_ cas : Int) (dd : Nat) (qu : Bool) (da : ByteArray) (e : En) (ver : Int) (w : World) : Calls Tryd.prog 21 #[.agg #[Value.int .i64 9, .slice ka kn kc, .int .i64 fl, .int .i64 exp, .int .i64 by_, .int .i64 cas, .int .u64 (dd : Int), .bool qu, .string da], .agg #[Value.string e.key, .int .i64 e.fl, .int .i64 e.dl, .string e.val, .int .i64 e.cas], .bool true, .int .i64 now, .int .i64 ver] w (OutR w ((ab 6, e0, false, true))) := by
  obtain ⟨D, hD⟩ : ∃ D, dl exp now = D := ⟨_, rfl⟩
  have DC := Lib.hid (rdead_c exp now D hD)
  try rw [hD]
  clear hD
  obtain ⟨R, hR⟩ : ∃ R : List Value, R = [Value.int .i64 9, .slice ka kn kc, .int .i64 fl, .int .i64 exp, .int .i64 by_, .int .i64 cas, .int .u64 (dd : Int), .bool qu, .string da] := ⟨_, rfl⟩
  obtain ⟨E, hE⟩ : ∃ E : List Value, E = [Value.string e.key, .int .i64 e.fl, .int .i64 e.dl, .string e.val, .int .i64 e.cas] := ⟨_, rfl⟩
  have HR0 := Lib.hid hR
  have HE0 := Lib.hid hE
  have HX1 := Lib.hid (RX.new w R E)
  rw [hR, hE] at HX1
  clear hR hE
  obtain ⟨A, hA⟩ : ∃ A, A = (ab 6).cs := ⟨_, rfl⟩
  obtain ⟨X, hX⟩ : ∃ X : List Value, X = [Value.string e.key, .int .i64 fl, .int .i64 D, .string da, .int .i64 ver] := ⟨_, rfl⟩
  have HA0 := Lib.hid hA
  have HX0 := Lib.hid hX
  have HLA : Hid (A.length = 9) := Lib.hid (by rw [hA]; rfl)
  have HOA : Hid (∀ u ∈ A, u.oneCell' = true) := Lib.hid (by rw [hA]; exact Ab.one _)
  have HLX : Hid (X.length = 5) := Lib.hid (by rw [hX]; rfl)
  have HOX : Hid (∀ u ∈ X, u.oneCell' = true) := Lib.hid (by rw [hX]; exact En.one ⟨e.key, fl, D, da, ver⟩)
  clear hA hX
  have SY : Hid (∀ W, Calls Tryd.prog 43 #[.int .i64 6] W fun e w' => e = .returned (.agg A.toArray) ∧ Below W.heap.size W w') := Lib.hid (by rw [HA0.out]; exact say_any 6)
  go_enter Tryd.func21, Tryd.ntmps21
  go_wp2_with fail
  refine wp_joinA ?_ (fun W => RX w W R E [Value.string e.key, .int .i64 fl, .int .i64 D, .string da, .int .i64 ver]) ?_ ?_
  rotate_left
  focus
    refine wp_region_held_drew (S := fun W => ∃ Z, RX w W R E Z) (by kernel_rfl) ⟨e0.cs, by rw [HR0.out, HE0.out]; exact HX1.out.drew⟩ (fun hS => ?_)
    refine wpAnyH_take (i := 0) (v := .pointer (some ⟨w.heap.size + 1, 0, none⟩)) rfl (by kernel_rfl) (by kernel_rfl) (by kernel_rfl) (fun _ _ _ h => (h : False).elim) (Or.inl ⟨by kernel_rfl, by intro W hW; go_simp⟩) hS ?_
    refine wpAnyH_take (i := 1) (v := .string e.key) rfl (by kernel_rfl) (by kernel_rfl) (by kernel_rfl) (fun _ _ _ h => (h : False).elim) (Or.inl ⟨by kernel_rfl, by intro W hW; have c := hW.choose_spec.cellE 0 (.string e.key) (by rw [HE0.out]; rfl); go_simp⟩) hS ?_
    refine wpAnyH_take (i := 2) (v := .pointer (some ⟨w.heap.size, 2, none⟩)) rfl (by kernel_rfl) (by kernel_rfl) (by kernel_rfl) (fun _ _ _ h => (h : False).elim) (Or.inl ⟨by kernel_rfl, by intro W hW; go_simp⟩) hS ?_
    refine wpAnyH_take (i := 3) (v := .int .i64 fl) rfl (by kernel_rfl) (by kernel_rfl) (by kernel_rfl) (fun _ _ _ h => (h : False).elim) (Or.inl ⟨by kernel_rfl, by intro W hW; have c := hW.choose_spec.cellR 2 (.int .i64 fl) (by rw [HR0.out]; rfl); go_simp⟩) hS ?_
    refine wpAnyH_take (i := 4) (v := .pointer (some ⟨w.heap.size, 3, none⟩)) rfl (by kernel_rfl) (by kernel_rfl) (by kernel_rfl) (fun _ _ _ h => (h : False).elim) (Or.inl ⟨by kernel_rfl, by intro W hW; go_simp⟩) hS ?_
    refine wpAnyH_take (i := 5) (v := .int .i64 exp) rfl (by kernel_rfl) (by kernel_rfl) (by kernel_rfl) (fun _ _ _ h => (h : False).elim) (Or.inl ⟨by kernel_rfl, by intro W hW; have c := hW.choose_spec.cellR 3 (.int .i64 exp) (by rw [HR0.out]; rfl); go_simp⟩) hS ?_
    refine wpAnyH_take (i := 6) (v := .int .i64 now) rfl (by kernel_rfl) (by kernel_rfl) (by kernel_rfl) (fun _ _ _ h => (h : False).elim) (Or.inl ⟨by kernel_rfl, by intro W hW; go_simp⟩) hS ?_
    refine wpAnyH_take (i := 8) (v := .pointer (some ⟨w.heap.size, 8, none⟩)) rfl (by kernel_rfl) (by kernel_rfl) (by kernel_rfl) (fun _ _ _ h => (h : False).elim) (Or.inl ⟨by kernel_rfl, by intro W hW; go_simp⟩) hS ?_
    refine wpAnyH_take (i := 9) (v := .string da) rfl (by kernel_rfl) (by kernel_rfl) (by kernel_rfl) (fun _ _ _ h => (h : False).elim) (Or.inl ⟨by kernel_rfl, by intro W hW; have c := hW.choose_spec.cellR 8 (.string da) (by rw [HR0.out]; rfl); go_simp⟩) hS ?_
    refine wpAnyH_take (i := 10) (v := .int .i64 ver) rfl (by kernel_rfl) (by kernel_rfl) (by kernel_rfl) (fun _ _ _ h => (h : False).elim) (Or.inl ⟨by kernel_rfl, by intro W hW; go_simp⟩) hS ?_
    refine oneH (i := 7) (by kernel_rfl) rfl (fun K hK => ?_)
    go_simp
    refine (DC.out _).mono ?_
    rintro e1 w1 ⟨rfl, rfl⟩
    refine hK _ _ ⟨hS, ?_⟩
    refine wpAnyH_take (i := 11) (v := .agg #[Value.string e.key, .int .i64 fl, .int .i64 D, .string da, .int .i64 ver]) rfl (by kernel_rfl) (by kernel_rfl) (by kernel_rfl) (fun _ _ _ h => (h : False).elim) (Or.inl ⟨by kernel_rfl, by intro W hW; go_simp⟩) hS ?_
    refine oneH (i := 12) (by kernel_rfl) rfl (fun K hK => ?_)
    obtain ⟨Z, hS⟩ := hS
    refine step_store (b := w.heap.size + 1 + 1 + 1) (o := 0) (cells := #[Value.string e.key, .int .i64 fl, .int .i64 D, .string da, .int .i64 ver]) hS.tx (all_oneCell_toArray (En.one ⟨e.key, fl, D, da, ver⟩)) 49 (.tmp 11) (.tmp 26) rfl rfl rfl rfl rfl (by kernel_rfl) ?_
    have h5 := hS.set [Value.string e.key, .int .i64 fl, .int .i64 D, .string da, .int .i64 ver] rfl
    refine hK _ _ ⟨⟨_, h5⟩, ?_⟩
    refine wpAnyH_done (by kernel_rfl) ?_ _
    refine And.intro ?_ h5
    go_simp
    exact rfl
  intro w1 hx
  have v0 := hx.cellR 0 (.int .i64 9) (by rw [HR0.out]; rfl)
  go_wp2_with fail
  refine wp_joinA ?_ (fun W => W.rangeAt (w.heap.size + 1 + 1) 0 A ∧ W.rangeAt (w.heap.size + 1 + 1 + 1) 0 X ∧ Below w.heap.size w W) ?_ ?_
  rotate_left
  focus
    refine wp_region_held_drew (S := fun W => RX w W R E X) (by kernel_rfl) (by rw [HX0.out]; exact hx.drew) (fun hS => ?_)
    refine wpAnyH_take (i := 1) (v := .agg X.toArray) rfl (by kernel_rfl) (by kernel_rfl) (by kernel_rfl) (fun _ _ _ h => (h : False).elim) (yieldsIf_load_mid (by kernel_rfl) 49 (.tmp 11) rfl (w.heap.size + 1 + 1 + 1) 0 rfl X _ (fun _ h => h.x) Tryd.underlying49 rfl (by rw [HLX.out]; kernel_rfl)) hS ?_
    refine oneH (i := 0) (by kernel_rfl) rfl (fun K hK => ?_)
    go_simp
    refine (SY.out _).mono ?_
    rintro e1 w2 ⟨rfl, hb⟩
    have h2 := hS.below hb
    refine hK _ _ ⟨h2, ?_⟩
    clear hK K
    obtain ⟨t1, t2, r1, r2, b2⟩ := two_fin (w := w) (W := w2) (b := w.heap.size + 1 + 1) HLA.out HLX.out (by omega) h2.b h2.ta h2.tx
    have h3 := h2.setA A HLA.out
    have h4 := h3.set X HLX.out
    refine storeH (i := 2) (by kernel_rfl) rfl rfl t1 (all_oneCell_toArray HOA.out) 32 (.tmp 10) (.tmp 103) rfl rfl rfl (by rw [List.size_toArray, HLA.out]; kernel_rfl) h3 ?_
    refine storeH (i := 3) (by kernel_rfl) rfl rfl t2 (all_oneCell_toArray HOX.out) 49 (.tmp 11) (.tmp 104) rfl rfl rfl (by rw [List.size_toArray, HLX.out]; kernel_rfl) h4 ?_
    refine constH (i := 4) (v := .bool false) (by kernel_rfl) rfl rfl rfl h4 ?_
    refine constH (i := 5) (v := .bool true) (by kernel_rfl) rfl rfl rfl h4 ?_
    refine wpAnyH_done (by kernel_rfl) ?_ _
    refine And.intro ?_ (And.intro r1 (And.intro r2 b2))
    go_simp
    exact rfl
  intro w3 hw3
  obtain ⟨r1, r2, b2⟩ := hw3
  go_wp2_with fail
  exact bodyPost_ret (v := .tuple #[.agg A.toArray, .agg X.toArray, .bool false, .bool true]) (res4 Tryd.results21 rfl rfl rfl rfl r1 r2 HLA.out HLX.out) rfl ⟨⟨e.key, fl, D, da, ver⟩, by rw [HA0.out, HX0.out]; rfl, (fun h => by cases h), b2⟩
set_option maxRecDepth 100000 in
set_option maxHeartbeats 1000000 in
theorem rn_tou_f (now : Int) (ka : Option Addr) (kn kc : Nat) (fl exp by_ cas : Int) (dd : Nat) (qu : Bool) (da : ByteArray) (e : En) (ver : Int) (w : World) : Calls Tryd.prog 21 #[.agg #[Value.int .i64 12, .slice ka kn kc, .int .i64 fl, .int .i64 exp, .int .i64 by_, .int .i64 cas, .int .u64 (dd : Int), .bool qu, .string da], .agg #[Value.string e.key, .int .i64 e.fl, .int .i64 e.dl, .string e.val, .int .i64 e.cas], .bool false, .int .i64 now, .int .i64 ver] w (OutR w (tld (ab 5))) := by
  obtain ⟨D, hD⟩ : ∃ D, dl exp now = D := ⟨_, rfl⟩
  have DC := Lib.hid (rdead_c exp now D hD)
  try rw [hD]
  clear hD
  obtain ⟨R, hR⟩ : ∃ R : List Value, R = [Value.int .i64 12, .slice ka kn kc, .int .i64 fl, .int .i64 exp, .int .i64 by_, .int .i64 cas, .int .u64 (dd : Int), .bool qu, .string da] := ⟨_, rfl⟩
  obtain ⟨E, hE⟩ : ∃ E : List Value, E = [Value.string e.key, .int .i64 e.fl, .int .i64 e.dl, .string e.val, .int .i64 e.cas] := ⟨_, rfl⟩
  have HR0 := Lib.hid hR
  have HE0 := Lib.hid hE
  have HX1 := Lib.hid (RX.new w R E)
  rw [hR, hE] at HX1
  clear hR hE
  obtain ⟨A, hA⟩ : ∃ A, A = (ab 5).cs := ⟨_, rfl⟩
  obtain ⟨X, hX⟩ : ∃ X : List Value, X = [Value.string e.key, .int .i64 fl, .int .i64 D, .string da, .int .i64 ver] := ⟨_, rfl⟩
  have HA0 := Lib.hid hA
  have HX0 := Lib.hid hX
  have HLA : Hid (A.length = 9) := Lib.hid (by rw [hA]; rfl)
  have HOA : Hid (∀ u ∈ A, u.oneCell' = true) := Lib.hid (by rw [hA]; exact Ab.one _)
  have HLX : Hid (X.length = 5) := Lib.hid (by rw [hX]; rfl)
  have HOX : Hid (∀ u ∈ X, u.oneCell' = true) := Lib.hid (by rw [hX]; exact En.one ⟨e.key, fl, D, da, ver⟩)
  clear hA hX
  have SY : Hid (∀ W, Calls Tryd.prog 43 #[.int .i64 5] W fun e w' => e = .returned (.agg A.toArray) ∧ Below W.heap.size W w') := Lib.hid (by rw [HA0.out]; exact say_any 5)
  go_enter Tryd.func21, Tryd.ntmps21
  go_wp2_with fail
  refine wp_joinA ?_ (fun W => RX w W R E [Value.string e.key, .int .i64 fl, .int .i64 D, .string da, .int .i64 ver]) ?_ ?_
  rotate_left
  focus
    refine wp_region_held_drew (S := fun W => ∃ Z, RX w W R E Z) (by kernel_rfl) ⟨e0.cs, by rw [HR0.out, HE0.out]; exact HX1.out.drew⟩ (fun hS => ?_)
    refine wpAnyH_take (i := 0) (v := .pointer (some ⟨w.heap.size + 1, 0, none⟩)) rfl (by kernel_rfl) (by kernel_rfl) (by kernel_rfl) (fun _ _ _ h => (h : False).elim) (Or.inl ⟨by kernel_rfl, by intro W hW; go_simp⟩) hS ?_
    refine wpAnyH_take (i := 1) (v := .string e.key) rfl (by kernel_rfl) (by kernel_rfl) (by kernel_rfl) (fun _ _ _ h => (h : False).elim) (Or.inl ⟨by kernel_rfl, by intro W hW; have c := hW.choose_spec.cellE 0 (.string e.key) (by rw [HE0.out]; rfl); go_simp⟩) hS ?_
    refine wpAnyH_take (i := 2) (v := .pointer (some ⟨w.heap.size, 2, none⟩)) rfl (by kernel_rfl) (by kernel_rfl) (by kernel_rfl) (fun _ _ _ h => (h : False).elim) (Or.inl ⟨by kernel_rfl, by intro W hW; go_simp⟩) hS ?_
    refine wpAnyH_take (i := 3) (v := .int .i64 fl) rfl (by kernel_rfl) (by kernel_rfl) (by kernel_rfl) (fun _ _ _ h => (h : False).elim) (Or.inl ⟨by kernel_rfl, by intro W hW; have c := hW.choose_spec.cellR 2 (.int .i64 fl) (by rw [HR0.out]; rfl); go_simp⟩) hS ?_
    refine wpAnyH_take (i := 4) (v := .pointer (some ⟨w.heap.size, 3, none⟩)) rfl (by kernel_rfl) (by kernel_rfl) (by kernel_rfl) (fun _ _ _ h => (h : False).elim) (Or.inl ⟨by kernel_rfl, by intro W hW; go_simp⟩) hS ?_
    refine wpAnyH_take (i := 5) (v := .int .i64 exp) rfl (by kernel_rfl) (by kernel_rfl) (by kernel_rfl) (fun _ _ _ h => (h : False).elim) (Or.inl ⟨by kernel_rfl, by intro W hW; have c := hW.choose_spec.cellR 3 (.int .i64 exp) (by rw [HR0.out]; rfl); go_simp⟩) hS ?_
    refine wpAnyH_take (i := 6) (v := .int .i64 now) rfl (by kernel_rfl) (by kernel_rfl) (by kernel_rfl) (fun _ _ _ h => (h : False).elim) (Or.inl ⟨by kernel_rfl, by intro W hW; go_simp⟩) hS ?_
    refine wpAnyH_take (i := 8) (v := .pointer (some ⟨w.heap.size, 8, none⟩)) rfl (by kernel_rfl) (by kernel_rfl) (by kernel_rfl) (fun _ _ _ h => (h : False).elim) (Or.inl ⟨by kernel_rfl, by intro W hW; go_simp⟩) hS ?_
    refine wpAnyH_take (i := 9) (v := .string da) rfl (by kernel_rfl) (by kernel_rfl) (by kernel_rfl) (fun _ _ _ h => (h : False).elim) (Or.inl ⟨by kernel_rfl, by intro W hW; have c := hW.choose_spec.cellR 8 (.string da) (by rw [HR0.out]; rfl); go_simp⟩) hS ?_
    refine wpAnyH_take (i := 10) (v := .int .i64 ver) rfl (by kernel_rfl) (by kernel_rfl) (by kernel_rfl) (fun _ _ _ h => (h : False).elim) (Or.inl ⟨by kernel_rfl, by intro W hW; go_simp⟩) hS ?_
    refine oneH (i := 7) (by kernel_rfl) rfl (fun K hK => ?_)
    go_simp
    refine (DC.out _).mono ?_
    rintro e1 w1 ⟨rfl, rfl⟩
    refine hK _ _ ⟨hS, ?_⟩
    refine wpAnyH_take (i := 11) (v := .agg #[Value.string e.key, .int .i64 fl, .int .i64 D, .string da, .int .i64 ver]) rfl (by kernel_rfl) (by kernel_rfl) (by kernel_rfl) (fun _ _ _ h => (h : False).elim) (Or.inl ⟨by kernel_rfl, by intro W hW; go_simp⟩) hS ?_
    refine oneH (i := 12) (by kernel_rfl) rfl (fun K hK => ?_)
    obtain ⟨Z, hS⟩ := hS
    refine step_store (b := w.heap.size + 1 + 1 + 1) (o := 0) (cells := #[Value.string e.key, .int .i64 fl, .int .i64 D, .string da, .int .i64 ver]) hS.tx (all_oneCell_toArray (En.one ⟨e.key, fl, D, da, ver⟩)) 49 (.tmp 11) (.tmp 26) rfl rfl rfl rfl rfl (by kernel_rfl) ?_
    have h5 := hS.set [Value.string e.key, .int .i64 fl, .int .i64 D, .string da, .int .i64 ver] rfl
    refine hK _ _ ⟨⟨_, h5⟩, ?_⟩
    refine wpAnyH_done (by kernel_rfl) ?_ _
    refine And.intro ?_ h5
    go_simp
    exact rfl
  intro w1 hx
  have v0 := hx.cellR 0 (.int .i64 12) (by rw [HR0.out]; rfl)
  go_wp2_with fail
  refine wp_joinA ?_ (fun W => W.rangeAt (w.heap.size + 1 + 1) 0 A ∧ W.rangeAt (w.heap.size + 1 + 1 + 1) 0 X ∧ Below w.heap.size w W) ?_ ?_
  rotate_left
  focus
    refine wp_region_held_drew (S := fun W => RX w W R E X) (by kernel_rfl) (by rw [HX0.out]; exact hx.drew) (fun hS => ?_)
    refine wpAnyH_take (i := 1) (v := .agg X.toArray) rfl (by kernel_rfl) (by kernel_rfl) (by kernel_rfl) (fun _ _ _ h => (h : False).elim) (yieldsIf_load_mid (by kernel_rfl) 49 (.tmp 11) rfl (w.heap.size + 1 + 1 + 1) 0 rfl X _ (fun _ h => h.x) Tryd.underlying49 rfl (by rw [HLX.out]; kernel_rfl)) hS ?_
    refine oneH (i := 0) (by kernel_rfl) rfl (fun K hK => ?_)
    go_simp
    refine (SY.out _).mono ?_
    rintro e1 w2 ⟨rfl, hb⟩
    have h2 := hS.below hb
    refine hK _ _ ⟨h2, ?_⟩
    clear hK K
    obtain ⟨t1, t2, r1, r2, b2⟩ := two_fin (w := w) (W := w2) (b := w.heap.size + 1 + 1) HLA.out HLX.out (by omega) h2.b h2.ta h2.tx
    have h3 := h2.setA A HLA.out
    have h4 := h3.set X HLX.out
    refine storeH (i := 2) (by kernel_rfl) rfl rfl t1 (all_oneCell_toArray HOA.out) 32 (.tmp 10) (.tmp 109) rfl rfl rfl (by rw [List.size_toArray, HLA.out]; kernel_rfl) h3 ?_
    refine storeH (i := 3) (by kernel_rfl) rfl rfl t2 (all_oneCell_toArray HOX.out) 49 (.tmp 11) (.tmp 110) rfl rfl rfl (by rw [List.size_toArray, HLX.out]; kernel_rfl) h4 ?_
    refine constH (i := 4) (v := .bool false) (by kernel_rfl) rfl rfl rfl h4 ?_
    refine constH (i := 5) (v := .bool false) (by kernel_rfl) rfl rfl rfl h4 ?_
    refine wpAnyH_done (by kernel_rfl) ?_ _
    refine And.intro ?_ (And.intro r1 (And.intro r2 b2))
    go_simp
    exact rfl
  intro w3 hw3
  obtain ⟨r1, r2, b2⟩ := hw3
  go_wp2_with fail
  exact bodyPost_ret (v := .tuple #[.agg A.toArray, .agg X.toArray, .bool false, .bool false]) (res4 Tryd.results21 rfl rfl rfl rfl r1 r2 HLA.out HLX.out) rfl ⟨⟨e.key, fl, D, da, ver⟩, by rw [HA0.out, HX0.out]; rfl, (fun h => by cases h), b2⟩
set_option maxRecDepth 100000 in
set_option maxHeartbeats 1000000 in
theorem rn_app_f (now : Int) (ka : Option Addr) (kn kc : Nat) (fl exp by_ cas : Int) (dd : Nat) (qu : Bool) (da : ByteArray) (e : En) (ver : Int) (w : World) : Calls Tryd.prog 21 #[.agg #[Value.int .i64 6, .slice ka kn kc, .int .i64 fl, .int .i64 exp, .int .i64 by_, .int .i64 cas, .int .u64 (dd : Int), .bool qu, .string da], .agg #[Value.string e.key, .int .i64 e.fl, .int .i64 e.dl, .string e.val, .int .i64 e.cas], .bool false, .int .i64 now, .int .i64 ver] w (OutR w (tld (ab 3))) := by
  obtain ⟨D, hD⟩ : ∃ D, dl exp now = D := ⟨_, rfl⟩
  have DC := Lib.hid (rdead_c exp now D hD)
  try rw [hD]
  clear hD
  obtain ⟨R, hR⟩ : ∃ R : List Value, R = [Value.int .i64 6, .slice ka kn kc, .int .i64 fl, .int .i64 exp, .int .i64 by_, .int .i64 cas, .int .u64 (dd : Int), .bool qu, .string da] := ⟨_, rfl⟩
  obtain ⟨E, hE⟩ : ∃ E : List Value, E = [Value.string e.key, .int .i64 e.fl, .int .i64 e.dl, .string e.val, .int .i64 e.cas] := ⟨_, rfl⟩
  have HR0 := Lib.hid hR
  have HE0 := Lib.hid hE
  have HX1 := Lib.hid (RX.new w R E)
  rw [hR, hE] at HX1
  clear hR hE
  obtain ⟨A, hA⟩ : ∃ A, A = (ab 3).cs := ⟨_, rfl⟩
  obtain ⟨X, hX⟩ : ∃ X : List Value, X = [Value.string e.key, .int .i64 fl, .int .i64 D, .string da, .int .i64 ver] := ⟨_, rfl⟩
  have HA0 := Lib.hid hA
  have HX0 := Lib.hid hX
  have HLA : Hid (A.length = 9) := Lib.hid (by rw [hA]; rfl)
  have HOA : Hid (∀ u ∈ A, u.oneCell' = true) := Lib.hid (by rw [hA]; exact Ab.one _)
  have HLX : Hid (X.length = 5) := Lib.hid (by rw [hX]; rfl)
  have HOX : Hid (∀ u ∈ X, u.oneCell' = true) := Lib.hid (by rw [hX]; exact En.one ⟨e.key, fl, D, da, ver⟩)
  clear hA hX
  have SY : Hid (∀ W, Calls Tryd.prog 43 #[.int .i64 3] W fun e w' => e = .returned (.agg A.toArray) ∧ Below W.heap.size W w') := Lib.hid (by rw [HA0.out]; exact say_any 3)
  go_enter Tryd.func21, Tryd.ntmps21
  go_wp2_with fail
  refine wp_joinA ?_ (fun W => RX w W R E [Value.string e.key, .int .i64 fl, .int .i64 D, .string da, .int .i64 ver]) ?_ ?_
  rotate_left
  focus
    refine wp_region_held_drew (S := fun W => ∃ Z, RX w W R E Z) (by kernel_rfl) ⟨e0.cs, by rw [HR0.out, HE0.out]; exact HX1.out.drew⟩ (fun hS => ?_)
    refine wpAnyH_take (i := 0) (v := .pointer (some ⟨w.heap.size + 1, 0, none⟩)) rfl (by kernel_rfl) (by kernel_rfl) (by kernel_rfl) (fun _ _ _ h => (h : False).elim) (Or.inl ⟨by kernel_rfl, by intro W hW; go_simp⟩) hS ?_
    refine wpAnyH_take (i := 1) (v := .string e.key) rfl (by kernel_rfl) (by kernel_rfl) (by kernel_rfl) (fun _ _ _ h => (h : False).elim) (Or.inl ⟨by kernel_rfl, by intro W hW; have c := hW.choose_spec.cellE 0 (.string e.key) (by rw [HE0.out]; rfl); go_simp⟩) hS ?_
    refine wpAnyH_take (i := 2) (v := .pointer (some ⟨w.heap.size, 2, none⟩)) rfl (by kernel_rfl) (by kernel_rfl) (by kernel_rfl) (fun _ _ _ h => (h : False).elim) (Or.inl ⟨by kernel_rfl, by intro W hW; go_simp⟩) hS ?_
    refine wpAnyH_take (i := 3) (v := .int .i64 fl) rfl (by kernel_rfl) (by kernel_rfl) (by kernel_rfl) (fun _ _ _ h => (h : False).elim) (Or.inl ⟨by kernel_rfl, by intro W hW; have c := hW.choose_spec.cellR 2 (.int .i64 fl) (by rw [HR0.out]; rfl); go_simp⟩) hS ?_
    refine wpAnyH_take (i := 4) (v := .pointer (some ⟨w.heap.size, 3, none⟩)) rfl (by kernel_rfl) (by kernel_rfl) (by kernel_rfl) (fun _ _ _ h => (h : False).elim) (Or.inl ⟨by kernel_rfl, by intro W hW; go_simp⟩) hS ?_
    refine wpAnyH_take (i := 5) (v := .int .i64 exp) rfl (by kernel_rfl) (by kernel_rfl) (by kernel_rfl) (fun _ _ _ h => (h : False).elim) (Or.inl ⟨by kernel_rfl, by intro W hW; have c := hW.choose_spec.cellR 3 (.int .i64 exp) (by rw [HR0.out]; rfl); go_simp⟩) hS ?_
    refine wpAnyH_take (i := 6) (v := .int .i64 now) rfl (by kernel_rfl) (by kernel_rfl) (by kernel_rfl) (fun _ _ _ h => (h : False).elim) (Or.inl ⟨by kernel_rfl, by intro W hW; go_simp⟩) hS ?_
    refine wpAnyH_take (i := 8) (v := .pointer (some ⟨w.heap.size, 8, none⟩)) rfl (by kernel_rfl) (by kernel_rfl) (by kernel_rfl) (fun _ _ _ h => (h : False).elim) (Or.inl ⟨by kernel_rfl, by intro W hW; go_simp⟩) hS ?_
    refine wpAnyH_take (i := 9) (v := .string da) rfl (by kernel_rfl) (by kernel_rfl) (by kernel_rfl) (fun _ _ _ h => (h : False).elim) (Or.inl ⟨by kernel_rfl, by intro W hW; have c := hW.choose_spec.cellR 8 (.string da) (by rw [HR0.out]; rfl); go_simp⟩) hS ?_
    refine wpAnyH_take (i := 10) (v := .int .i64 ver) rfl (by kernel_rfl) (by kernel_rfl) (by kernel_rfl) (fun _ _ _ h => (h : False).elim) (Or.inl ⟨by kernel_rfl, by intro W hW; go_simp⟩) hS ?_
    refine oneH (i := 7) (by kernel_rfl) rfl (fun K hK => ?_)
    go_simp
    refine (DC.out _).mono ?_
    rintro e1 w1 ⟨rfl, rfl⟩
    refine hK _ _ ⟨hS, ?_⟩
    refine wpAnyH_take (i := 11) (v := .agg #[Value.string e.key, .int .i64 fl, .int .i64 D, .string da, .int .i64 ver]) rfl (by kernel_rfl) (by kernel_rfl) (by kernel_rfl) (fun _ _ _ h => (h : False).elim) (Or.inl ⟨by kernel_rfl, by intro W hW; go_simp⟩) hS ?_
    refine oneH (i := 12) (by kernel_rfl) rfl (fun K hK => ?_)
    obtain ⟨Z, hS⟩ := hS
    refine step_store (b := w.heap.size + 1 + 1 + 1) (o := 0) (cells := #[Value.string e.key, .int .i64 fl, .int .i64 D, .string da, .int .i64 ver]) hS.tx (all_oneCell_toArray (En.one ⟨e.key, fl, D, da, ver⟩)) 49 (.tmp 11) (.tmp 26) rfl rfl rfl rfl rfl (by kernel_rfl) ?_
    have h5 := hS.set [Value.string e.key, .int .i64 fl, .int .i64 D, .string da, .int .i64 ver] rfl
    refine hK _ _ ⟨⟨_, h5⟩, ?_⟩
    refine wpAnyH_done (by kernel_rfl) ?_ _
    refine And.intro ?_ h5
    go_simp
    exact rfl
  intro w1 hx
  have v0 := hx.cellR 0 (.int .i64 6) (by rw [HR0.out]; rfl)
  go_wp2_with fail
  refine wp_joinA ?_ (fun W => W.rangeAt (w.heap.size + 1 + 1) 0 A ∧ W.rangeAt (w.heap.size + 1 + 1 + 1) 0 X ∧ Below w.heap.size w W) ?_ ?_
  rotate_left
  focus
    refine wp_region_held_drew (S := fun W => RX w W R E X) (by kernel_rfl) (by rw [HX0.out]; exact hx.drew) (fun hS => ?_)
    refine wpAnyH_take (i := 1) (v := .agg X.toArray) rfl (by kernel_rfl) (by kernel_rfl) (by kernel_rfl) (fun _ _ _ h => (h : False).elim) (yieldsIf_load_mid (by kernel_rfl) 49 (.tmp 11) rfl (w.heap.size + 1 + 1 + 1) 0 rfl X _ (fun _ h => h.x) Tryd.underlying49 rfl (by rw [HLX.out]; kernel_rfl)) hS ?_
    refine oneH (i := 0) (by kernel_rfl) rfl (fun K hK => ?_)
    go_simp
    refine (SY.out _).mono ?_
    rintro e1 w2 ⟨rfl, hb⟩
    have h2 := hS.below hb
    refine hK _ _ ⟨h2, ?_⟩
    clear hK K
    obtain ⟨t1, t2, r1, r2, b2⟩ := two_fin (w := w) (W := w2) (b := w.heap.size + 1 + 1) HLA.out HLX.out (by omega) h2.b h2.ta h2.tx
    have h3 := h2.setA A HLA.out
    have h4 := h3.set X HLX.out
    refine storeH (i := 2) (by kernel_rfl) rfl rfl t1 (all_oneCell_toArray HOA.out) 32 (.tmp 10) (.tmp 50) rfl rfl rfl (by rw [List.size_toArray, HLA.out]; kernel_rfl) h3 ?_
    refine storeH (i := 3) (by kernel_rfl) rfl rfl t2 (all_oneCell_toArray HOX.out) 49 (.tmp 11) (.tmp 51) rfl rfl rfl (by rw [List.size_toArray, HLX.out]; kernel_rfl) h4 ?_
    refine constH (i := 4) (v := .bool false) (by kernel_rfl) rfl rfl rfl h4 ?_
    refine constH (i := 5) (v := .bool false) (by kernel_rfl) rfl rfl rfl h4 ?_
    refine wpAnyH_done (by kernel_rfl) ?_ _
    refine And.intro ?_ (And.intro r1 (And.intro r2 b2))
    go_simp
    exact rfl
  intro w3 hw3
  obtain ⟨r1, r2, b2⟩ := hw3
  go_wp2_with fail
  exact bodyPost_ret (v := .tuple #[.agg A.toArray, .agg X.toArray, .bool false, .bool false]) (res4 Tryd.results21 rfl rfl rfl rfl r1 r2 HLA.out HLX.out) rfl ⟨⟨e.key, fl, D, da, ver⟩, by rw [HA0.out, HX0.out]; rfl, (fun h => by cases h), b2⟩
set_option maxRecDepth 100000 in
set_option maxHeartbeats 1000000 in
theorem rn_pre_f (now : Int) (ka : Option Addr) (kn kc : Nat) (fl exp by_ cas : Int) (dd : Nat) (qu : Bool) (da : ByteArray) (e : En) (ver : Int) (w : World) : Calls Tryd.prog 21 #[.agg #[Value.int .i64 7, .slice ka kn kc, .int .i64 fl, .int .i64 exp, .int .i64 by_, .int .i64 cas, .int .u64 (dd : Int), .bool qu, .string da], .agg #[Value.string e.key, .int .i64 e.fl, .int .i64 e.dl, .string e.val, .int .i64 e.cas], .bool false, .int .i64 now, .int .i64 ver] w (OutR w (tld (ab 3))) := by
  obtain ⟨D, hD⟩ : ∃ D, dl exp now = D := ⟨_, rfl⟩
  have DC := Lib.hid (rdead_c exp now D hD)
  try rw [hD]
  clear hD
  obtain ⟨R, hR⟩ : ∃ R : List Value, R = [Value.int .i64 7, .slice ka kn kc, .int .i64 fl, .int .i64 exp, .int .i64 by_, .int .i64 cas, .int .u64 (dd : Int), .bool qu, .string da] := ⟨_, rfl⟩
  obtain ⟨E, hE⟩ : ∃ E : List Value, E = [Value.string e.key, .int .i64 e.fl, .int .i64 e.dl, .string e.val, .int .i64 e.cas] := ⟨_, rfl⟩
  have HR0 := Lib.hid hR
  have HE0 := Lib.hid hE
  have HX1 := Lib.hid (RX.new w R E)
  rw [hR, hE] at HX1
  clear hR hE
  obtain ⟨A, hA⟩ : ∃ A, A = (ab 3).cs := ⟨_, rfl⟩
  obtain ⟨X, hX⟩ : ∃ X : List Value, X = [Value.string e.key, .int .i64 fl, .int .i64 D, .string da, .int .i64 ver] := ⟨_, rfl⟩
  have HA0 := Lib.hid hA
  have HX0 := Lib.hid hX
  have HLA : Hid (A.length = 9) := Lib.hid (by rw [hA]; rfl)
  have HOA : Hid (∀ u ∈ A, u.oneCell' = true) := Lib.hid (by rw [hA]; exact Ab.one _)
  have HLX : Hid (X.length = 5) := Lib.hid (by rw [hX]; rfl)
  have HOX : Hid (∀ u ∈ X, u.oneCell' = true) := Lib.hid (by rw [hX]; exact En.one ⟨e.key, fl, D, da, ver⟩)
  clear hA hX
  have SY : Hid (∀ W, Calls Tryd.prog 43 #[.int .i64 3] W fun e w' => e = .returned (.agg A.toArray) ∧ Below W.heap.size W w') := Lib.hid (by rw [HA0.out]; exact say_any 3)
  go_enter Tryd.func21, Tryd.ntmps21
  go_wp2_with fail
  refine wp_joinA ?_ (fun W => RX w W R E [Value.string e.key, .int .i64 fl, .int .i64 D, .string da, .int .i64 ver]) ?_ ?_
  rotate_left
  focus
    refine wp_region_held_drew (S := fun W => ∃ Z, RX w W R E Z) (by kernel_rfl) ⟨e0.cs, by rw [HR0.out, HE0.out]; exact HX1.out.drew⟩ (fun hS => ?_)
    refine wpAnyH_take (i := 0) (v := .pointer (some ⟨w.heap.size + 1, 0, none⟩)) rfl (by kernel_rfl) (by kernel_rfl) (by kernel_rfl) (fun _ _ _ h => (h : False).elim) (Or.inl ⟨by kernel_rfl, by intro W hW; go_simp⟩) hS ?_
    refine wpAnyH_take (i := 1) (v := .string e.key) rfl (by kernel_rfl) (by kernel_rfl) (by kernel_rfl) (fun _ _ _ h => (h : False).elim) (Or.inl ⟨by kernel_rfl, by intro W hW; have c := hW.choose_spec.cellE 0 (.string e.key) (by rw [HE0.out]; rfl); go_simp⟩) hS ?_
    refine wpAnyH_take (i := 2) (v := .pointer (some ⟨w.heap.size, 2, none⟩)) rfl (by kernel_rfl) (by kernel_rfl) (by kernel_rfl) (fun _ _ _ h => (h : False).elim) (Or.inl ⟨by kernel_rfl, by intro W hW; go_simp⟩) hS ?_
    refine wpAnyH_take (i := 3) (v := .int .i64 fl) rfl (by kernel_rfl) (by kernel_rfl) (by kernel_rfl) (fun _ _ _ h => (h : False).elim) (Or.inl ⟨by kernel_rfl, by intro W hW; have c := hW.choose_spec.cellR 2 (.int .i64 fl) (by rw [HR0.out]; rfl); go_simp⟩) hS ?_
    refine wpAnyH_take (i := 4) (v := .pointer (some ⟨w.heap.size, 3, none⟩)) rfl (by kernel_rfl) (by kernel_rfl) (by kernel_rfl) (fun _ _ _ h => (h : False).elim) (Or.inl ⟨by kernel_rfl, by intro W hW; go_simp⟩) hS ?_
    refine wpAnyH_take (i := 5) (v := .int .i64 exp) rfl (by kernel_rfl) (by kernel_rfl) (by kernel_rfl) (fun _ _ _ h => (h : False).elim) (Or.inl ⟨by kernel_rfl, by intro W hW; have c := hW.choose_spec.cellR 3 (.int .i64 exp) (by rw [HR0.out]; rfl); go_simp⟩) hS ?_
    refine wpAnyH_take (i := 6) (v := .int .i64 now) rfl (by kernel_rfl) (by kernel_rfl) (by kernel_rfl) (fun _ _ _ h => (h : False).elim) (Or.inl ⟨by kernel_rfl, by intro W hW; go_simp⟩) hS ?_
    refine wpAnyH_take (i := 8) (v := .pointer (some ⟨w.heap.size, 8, none⟩)) rfl (by kernel_rfl) (by kernel_rfl) (by kernel_rfl) (fun _ _ _ h => (h : False).elim) (Or.inl ⟨by kernel_rfl, by intro W hW; go_simp⟩) hS ?_
    refine wpAnyH_take (i := 9) (v := .string da) rfl (by kernel_rfl) (by kernel_rfl) (by kernel_rfl) (fun _ _ _ h => (h : False).elim) (Or.inl ⟨by kernel_rfl, by intro W hW; have c := hW.choose_spec.cellR 8 (.string da) (by rw [HR0.out]; rfl); go_simp⟩) hS ?_
    refine wpAnyH_take (i := 10) (v := .int .i64 ver) rfl (by kernel_rfl) (by kernel_rfl) (by kernel_rfl) (fun _ _ _ h => (h : False).elim) (Or.inl ⟨by kernel_rfl, by intro W hW; go_simp⟩) hS ?_
    refine oneH (i := 7) (by kernel_rfl) rfl (fun K hK => ?_)
    go_simp
    refine (DC.out _).mono ?_
    rintro e1 w1 ⟨rfl, rfl⟩
    refine hK _ _ ⟨hS, ?_⟩
    refine wpAnyH_take (i := 11) (v := .agg #[Value.string e.key, .int .i64 fl, .int .i64 D, .string da, .int .i64 ver]) rfl (by kernel_rfl) (by kernel_rfl) (by kernel_rfl) (fun _ _ _ h => (h : False).elim) (Or.inl ⟨by kernel_rfl, by intro W hW; go_simp⟩) hS ?_
    refine oneH (i := 12) (by kernel_rfl) rfl (fun K hK => ?_)
    obtain ⟨Z, hS⟩ := hS
    refine step_store (b := w.heap.size + 1 + 1 + 1) (o := 0) (cells := #[Value.string e.key, .int .i64 fl, .int .i64 D, .string da, .int .i64 ver]) hS.tx (all_oneCell_toArray (En.one ⟨e.key, fl, D, da, ver⟩)) 49 (.tmp 11) (.tmp 26) rfl rfl rfl rfl rfl (by kernel_rfl) ?_
    have h5 := hS.set [Value.string e.key, .int .i64 fl, .int .i64 D, .string da, .int .i64 ver] rfl
    refine hK _ _ ⟨⟨_, h5⟩, ?_⟩
    refine wpAnyH_done (by kernel_rfl) ?_ _
    refine And.intro ?_ h5
    go_simp
    exact rfl
  intro w1 hx
  have v0 := hx.cellR 0 (.int .i64 7) (by rw [HR0.out]; rfl)
  go_wp2_with fail
  refine wp_joinA ?_ (fun W => W.rangeAt (w.heap.size + 1 + 1) 0 A ∧ W.rangeAt (w.heap.size + 1 + 1 + 1) 0 X ∧ Below w.heap.size w W) ?_ ?_
  rotate_left
  focus
    refine wp_region_held_drew (S := fun W => RX w W R E X) (by kernel_rfl) (by rw [HX0.out]; exact hx.drew) (fun hS => ?_)
    refine wpAnyH_take (i := 1) (v := .agg X.toArray) rfl (by kernel_rfl) (by kernel_rfl) (by kernel_rfl) (fun _ _ _ h => (h : False).elim) (yieldsIf_load_mid (by kernel_rfl) 49 (.tmp 11) rfl (w.heap.size + 1 + 1 + 1) 0 rfl X _ (fun _ h => h.x) Tryd.underlying49 rfl (by rw [HLX.out]; kernel_rfl)) hS ?_
    refine oneH (i := 0) (by kernel_rfl) rfl (fun K hK => ?_)
    go_simp
    refine (SY.out _).mono ?_
    rintro e1 w2 ⟨rfl, hb⟩
    have h2 := hS.below hb
    refine hK _ _ ⟨h2, ?_⟩
    clear hK K
    obtain ⟨t1, t2, r1, r2, b2⟩ := two_fin (w := w) (W := w2) (b := w.heap.size + 1 + 1) HLA.out HLX.out (by omega) h2.b h2.ta h2.tx
    have h3 := h2.setA A HLA.out
    have h4 := h3.set X HLX.out
    refine storeH (i := 2) (by kernel_rfl) rfl rfl t1 (all_oneCell_toArray HOA.out) 32 (.tmp 10) (.tmp 50) rfl rfl rfl (by rw [List.size_toArray, HLA.out]; kernel_rfl) h3 ?_
    refine storeH (i := 3) (by kernel_rfl) rfl rfl t2 (all_oneCell_toArray HOX.out) 49 (.tmp 11) (.tmp 51) rfl rfl rfl (by rw [List.size_toArray, HLX.out]; kernel_rfl) h4 ?_
    refine constH (i := 4) (v := .bool false) (by kernel_rfl) rfl rfl rfl h4 ?_
    refine constH (i := 5) (v := .bool false) (by kernel_rfl) rfl rfl rfl h4 ?_
    refine wpAnyH_done (by kernel_rfl) ?_ _
    refine And.intro ?_ (And.intro r1 (And.intro r2 b2))
    go_simp
    exact rfl
  intro w3 hw3
  obtain ⟨r1, r2, b2⟩ := hw3
  go_wp2_with fail
  exact bodyPost_ret (v := .tuple #[.agg A.toArray, .agg X.toArray, .bool false, .bool false]) (res4 Tryd.results21 rfl rfl rfl rfl r1 r2 HLA.out HLX.out) rfl ⟨⟨e.key, fl, D, da, ver⟩, by rw [HA0.out, HX0.out]; rfl, (fun h => by cases h), b2⟩
end Go.Proofs.YtpkmfckifnomeaaDoor
