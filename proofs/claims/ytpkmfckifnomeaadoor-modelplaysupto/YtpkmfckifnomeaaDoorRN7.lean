/-
  Next of the reference: touch.
-/
import Derived.Test.YtpkmfckifnomeaaDoorRN0
namespace Go.Proofs.YtpkmfckifnomeaaDoor
open Go.RowKit

open Go.Lib (TabIs pow10Tab)
set_option maxRecDepth 100000 in
set_option maxHeartbeats 1000000 in
theorem rn_tou_t (now : Int) (ka : Option Addr) (kn kc : Nat) (fl exp by_ cas : Int) (dd : Nat) (qu : Bool) (da : ByteArray) (e : En) (ver : Int) (w : World) : Calls Tryd.prog 21 #[.agg #[Value.int .i64 12, .slice ka kn kc, .int .i64 fl, .int .i64 exp, .int .i64 by_, .int .i64 cas, .int .u64 (dd : Int), .bool qu, .string da], .agg #[Value.string e.key, .int .i64 e.fl, .int .i64 e.dl, .string e.val, .int .i64 e.cas], .bool true, .int .i64 now, .int .i64 ver] w (OutR w (kpt (ab 7) ⟨e.key, e.fl, dl exp now, e.val, e.cas⟩)) := by
  obtain ⟨D, hD⟩ : ∃ D, dl exp now = D := ⟨_, rfl⟩
  have DC := Lib.hid (rdead_c exp now D hD)
  try rw [hD]
  clear hD
  obtain ⟨R, hR⟩ : ∃ R : List Value, R = [Value.int .i64 12, .slice ka kn kc, .int .i64 fl, .int .i64 exp, .int .i64 by_, .int .i64 cas, .int .u64 (dd : Int), .bool qu, .string da] := ⟨_, rfl⟩
  obtain ⟨E, hE⟩ : ∃ E : List Value, E = [Value.string e.key, .int .i64 e.fl, .int .i64 e.dl, .string e.val, .int .i64 e.cas] := ⟨_, rfl⟩
  have HR0 := Lib.hid hR
  have HE0 := Lib.hid hE
  have HX1 := Lib.hid (RX.new w R E)
  rw [hR, hE] at HX1
  clear hR hE
  have HLE : Hid (E.length = 5) := Lib.hid (by rw [HE0.out]; rfl)
  have HOE : Hid (∀ u ∈ E, u.oneCell' = true) := Lib.hid (by rw [HE0.out]; exact e.one)
  obtain ⟨A, hA⟩ : ∃ A, A = (ab 7).cs := ⟨_, rfl⟩
  obtain ⟨X, hX⟩ : ∃ X : List Value, X = [Value.string e.key, .int .i64 e.fl, .int .i64 D, .string e.val, .int .i64 e.cas] := ⟨_, rfl⟩
  have HA0 := Lib.hid hA
  have HX0 := Lib.hid hX
  have HLA : Hid (A.length = 9) := Lib.hid (by rw [hA]; rfl)
  have HOA : Hid (∀ u ∈ A, u.oneCell' = true) := Lib.hid (by rw [hA]; exact Ab.one _)
  have HLX : Hid (X.length = 5) := Lib.hid (by rw [hX]; rfl)
  have HOX : Hid (∀ u ∈ X, u.oneCell' = true) := Lib.hid (by rw [hX]; exact En.one ⟨e.key, e.fl, D, e.val, e.cas⟩)
  clear hA hX
  have SY : Hid (∀ W, Calls Tryd.prog 43 #[.int .i64 7] W fun e w' => e = .returned (.agg A.toArray) ∧ Below W.heap.size W w') := Lib.hid (by rw [HA0.out]; exact say_any 7)
  go_enter Tryd.func21, Tryd.ntmps21
  go_wp2_with fail
  refine wp_joinA ?_ (fun W => RX w W R E [Value.string e.key, .int .i64 fl, .int .i64 D, .string da, .int .i64 ver]) ?_ ?_
  rotate_left
  focus
    refine wp_region_held_drew (S := fun W => ∃ Z, RX w W R E Z) (by kernel_rfl) ⟨e0.cs, by rw [HR0.out, HE0.out]; exact HX1.out.drew⟩ (fun hS => ?_)
    refine wpAnyH_take (i := 0) (v := .pointer (some ⟨w.heap.size + 1, 0, none⟩)) rfl (by kernel_rfl) (by kernel_rfl) (by kernel_rfl) (fun _ _ _ h => (h : False).elim) (Or.inl ⟨by kernel_rfl, by intro W hW; go_simp⟩) hS ?_
    refine wpAnyH_take (i := 1) (v := .string e.key) rfl (by kernel_rfl) (by kernel_rfl) (by kernel_rfl) (fun _ _ _ h => (h : False).elim) (Or.inl ⟨by kernel_rfl, by intro W hW; have c := hW.choose_spec.cellE 0 (.string e.key) (by rw [HE0.out]; rfl); go_simp⟩) hS ?_
    refine wpAnyH_take (i := 2) (v := .pointer (some ⟨w.heap.size, 2, none⟩)) rfl (by kernel_rfl) (by kernel_rfl) (by kernel_rfl) (fun _ _ _ h => (h : False).elim) (Or.inl ⟨by kernel_rfl, by intro W hW; go_simp⟩) hS ?_
    refine wpAnyH_take (i := 3) (v := .int .i64 fl) rfl (by kernel_rfl) (by kernel_rfl) (by kernel_rfl) (fun _ _ _ h => (h : False).elim) (Or.inl ⟨by kernel_rfl, by intro W hW; have c := hW.choose_spec.cellR 2 (.int .i64 fl) (by rw [HR0.out]; rfl); go_simp⟩) hS ?_
    refine wpAnyH_take (i := 4) (v := .pointer (some ⟨w.heap.size, 3, none⟩)) rfl (by kernel_rfl) (by kernel_rfl) (by kernel_rfl) (fun _ _ _ h => (h : False).elim) (Or.inl ⟨by kernel_rfl, by intro W hW; go_simp⟩) hS ?_
    refine wpAnyH_take (i := 5) (v := .int .i64 exp) rfl (by kernel_rfl) (by kernel_rfl) (by kernel_rfl) (fun _ _ _ h => (h : False).elim) (Or.inl ⟨by kernel_rfl, by intro W hW; have c := hW.choose_spec.cellR 3 (.int .i64 exp) (by rw [HR0.out]; rfl); go_simp⟩) hS ?_
    refine wpAnyH_take (i := 6) (v := .int .i64 now) rfl (by kernel_rfl) (by kernel_rfl) (by kernel_rfl) (fun _ _ _ h => (h : False).elim) (Or.inl ⟨by kernel_rfl, by intro W hW; go_simp⟩) hS ?_
    refine wpAnyH_take (i := 8) (v := .pointer (some ⟨w.heap.size, 8, none⟩)) rfl (by kernel_rfl) (by kernel_rfl) (by kernel_rfl) (fun _ _ _ h => (h : False).elim) (Or.inl ⟨by kernel_rfl, by intro W hW; go_simp⟩) hS ?_
    refine wpAnyH_take (i := 9) (v := .string da) rfl (by kernel_rfl) (by kernel_rfl) (by kernel_rfl) (fun _ _ _ h => (h : False).elim) (Or.inl ⟨by kernel_rfl, by intro W hW; have c := hW.choose_spec.cellR 8 (.string da) (by rw [HR0.out]; rfl); go_simp⟩) hS ?_
    refine wpAnyH_take (i := 10) (v := .int .i64 ver) rfl (by kernel_rfl) (by kernel_rfl) (by kernel_rfl) (fun _ _ _ h => (h : False).elim) (Or.inl ⟨by kernel_rfl, by intro W hW; go_simp⟩) hS ?_
    refine oneH (i := 7) (by kernel_rfl) rfl (fun K hK => ?_)
    go_simp
    refine (DC.out _).mono ?_
    rintro e1 w1 ⟨rfl, rfl⟩
    refine hK _ _ ⟨hS, ?_⟩
    refine wpAnyH_take (i := 11) (v := .agg #[Value.string e.key, .int .i64 fl, .int .i64 D, .string da, .int .i64 ver]) rfl (by kernel_rfl) (by kernel_rfl) (by kernel_rfl) (fun _ _ _ h => (h : False).elim) (Or.inl ⟨by kernel_rfl, by intro W hW; go_simp⟩) hS ?_
    refine oneH (i := 12) (by kernel_rfl) rfl (fun K hK => ?_)
    obtain ⟨Z, hS⟩ := hS
    refine step_store (b := w.heap.size + 1 + 1 + 1) (o := 0) (cells := #[Value.string e.key, .int .i64 fl, .int .i64 D, .string da, .int .i64 ver]) hS.tx (all_oneCell_toArray (En.one ⟨e.key, fl, D, da, ver⟩)) 49 (.tmp 11) (.tmp 26) rfl rfl rfl rfl rfl (by kernel_rfl) ?_
    have h5 := hS.set [Value.string e.key, .int .i64 fl, .int .i64 D, .string da, .int .i64 ver] rfl
    refine hK _ _ ⟨⟨_, h5⟩, ?_⟩
    refine wpAnyH_done (by kernel_rfl) ?_ _
    refine And.intro ?_ h5
    go_simp
    exact rfl
  intro w1 hx
  have v0 := hx.cellR 0 (.int .i64 12) (by rw [HR0.out]; rfl)
  have HTE : Hid (w1.there (w.heap.size + 1 + 1 + 1) 0 E.toArray.size) := Lib.hid (by show w1.there _ 0 E.length; rw [HLE.out]; exact hx.tx)
  have k0 := hx.cellX 2 (.int .i64 D) rfl
  have hx2 := hx.set E HLE.out
  have k2 := hx2.cellX 2 (.int .i64 e.dl) (by rw [HE0.out]; rfl)
  have z2 := hx2.frz 2 (by omega)
  go_wp2_with (first
    | ((with_reducible show wpList _ _ _ (Oper.mk (some _) (Op.load 49 (.tmp 6)) _ _ _ _ :: _) _ _); refine wpList_load_mid (by rfl) 49 (.tmp 6) (by rfl) (w.heap.size + 1) 0 (by rfl) E _ hx.e Tryd.underlying49 (by rfl) (by rw [HLE.out]; kernel_rfl) ?_)
    | ((with_reducible show wpList _ _ _ (Oper.mk none (Op.store 49 (.tmp 11) _) _ _ _ _ :: _) _ _); refine wpList_store_mid (by rfl) 49 (.tmp 11) (.tmp 113) (by rfl) (w.heap.size + 1 + 1 + 1) 0 E.toArray (by rfl) (by rfl) HTE.out (by rw [List.size_toArray, HLE.out]; kernel_rfl) (all_oneCell_toArray HOE.out) ?_; rw [show E.toArray.toList = E from rfl]))
  replace hx : RX w ((w1.setCells (w.heap.size + 1 + 1 + 1) 0 E).setCell ⟨w.heap.size + 1 + 1 + 1, 2, none⟩ (.int .i64 D)) R E [Value.string e.key, .int .i64 e.fl, .int .i64 D, .string e.val, .int .i64 e.cas] := by
    have h := hx2.set1 2 (by omega) (.int .i64 D)
    rw [show E.set 2 (.int .i64 D) = [Value.string e.key, .int .i64 e.fl, .int .i64 D, .string e.val, .int .i64 e.cas] by rw [HE0.out]; rfl] at h
    exact h
  obtain ⟨w4, hw4⟩ : ∃ w4, w4 = (w1.setCells (w.heap.size + 1 + 1 + 1) 0 E).setCell ⟨w.heap.size + 1 + 1 + 1, 2, none⟩ (.int .i64 D) := ⟨_, rfl⟩
  rw [← hw4] at hx ⊢
  clear hw4 k0 k2 z2 hx2
  refine wp_joinA ?_ (fun W => W.rangeAt (w.heap.size + 1 + 1) 0 A ∧ W.rangeAt (w.heap.size + 1 + 1 + 1) 0 X ∧ Below w.heap.size w W) ?_ ?_
  rotate_left
  focus
    refine wp_region_held_drew (S := fun W => RX w W R E X) (by kernel_rfl) (by rw [HX0.out]; exact hx.drew) (fun hS => ?_)
    refine wpAnyH_take (i := 1) (v := .agg X.toArray) rfl (by kernel_rfl) (by kernel_rfl) (by kernel_rfl) (fun _ _ _ h => (h : False).elim) (yieldsIf_load_mid (by kernel_rfl) 49 (.tmp 11) rfl (w.heap.size + 1 + 1 + 1) 0 rfl X _ (fun _ h => h.x) Tryd.underlying49 rfl (by rw [HLX.out]; kernel_rfl)) hS ?_
    refine oneH (i := 0) (by kernel_rfl) rfl (fun K hK => ?_)
    go_simp
    refine (SY.out _).mono ?_
    rintro e1 w2 ⟨rfl, hb⟩
    have h2 := hS.below hb
    refine hK _ _ ⟨h2, ?_⟩
    clear hK K
    obtain ⟨t1, t2, r1, r2, b2⟩ := two_fin (w := w) (W := w2) (b := w.heap.size + 1 + 1) HLA.out HLX.out (by omega) h2.b h2.ta h2.tx
    have h3 := h2.setA A HLA.out
    have h4 := h3.set X HLX.out
    refine storeH (i := 2) (by kernel_rfl) rfl rfl t1 (all_oneCell_toArray HOA.out) 32 (.tmp 10) (.tmp 116) rfl rfl rfl (by rw [List.size_toArray, HLA.out]; kernel_rfl) h3 ?_
    refine storeH (i := 3) (by kernel_rfl) rfl rfl t2 (all_oneCell_toArray HOX.out) 49 (.tmp 11) (.tmp 117) rfl rfl rfl (by rw [List.size_toArray, HLX.out]; kernel_rfl) h4 ?_
    refine constH (i := 4) (v := .bool true) (by kernel_rfl) rfl rfl rfl h4 ?_
    refine constH (i := 5) (v := .bool false) (by kernel_rfl) rfl rfl rfl h4 ?_
    refine wpAnyH_done (by kernel_rfl) ?_ _
    refine And.intro ?_ (And.intro r1 (And.intro r2 b2))
    go_simp
    exact rfl
  intro w3 hw3
  obtain ⟨r1, r2, b2⟩ := hw3
  go_wp2_with fail
  exact bodyPost_ret (v := .tuple #[.agg A.toArray, .agg X.toArray, .bool true, .bool false]) (res4 Tryd.results21 rfl rfl rfl rfl r1 r2 HLA.out HLX.out) rfl ⟨⟨e.key, e.fl, D, e.val, e.cas⟩, by rw [HA0.out, HX0.out]; rfl, fun _ => rfl, b2⟩
end Go.Proofs.YtpkmfckifnomeaaDoor


namespace Go.Proofs.YtpkmfckifnomeaaDoor
open Go.RowKit

open Go.Lib (TabIs pow10Tab)
theorem rnumber_c (s : ByteArray) (n : Nat) (b : Bool) (hn : nv 18446744073709551615 (L s) = n) (hb : nb 18446744073709551615 (L s) = b) (w : World) : Calls Tryd.prog 57 #[.string s, .int .u64 18446744073709551615] w fun e w' => e = .returned (.tuple #[.int .u64 (n : Int), .bool b]) ∧ w = w' := by
  rw [← hn, ← hb]; exact rnumber_any s 18446744073709551615 (by omega) w
/-- One cell of the entry that was handed in stored. -/
theorem RX.setE1 {w W : World} {R E X : List Value} (h : RX w W R E X) (ht : W.there (w.heap.size + 1) 0 5) (j : Nat) (hj : j < 5) (v : Value) : RX w (W.setCell ⟨w.heap.size + 1, j, none⟩ v) R (E.set j v) X :=
  ⟨range_setOther h.r (by omega) j v, range_set1 h.e ht j hj v, range_setOther h.x (by omega) j v, there_setCell h.ta _ _, there_setCell h.tx _ _, h.b.setCell (p := ⟨w.heap.size + 1, j, none⟩) (by show w.heap.size ≤ w.heap.size + 1; omega) v⟩
set_option maxRecDepth 100000 in
set_option maxHeartbeats 1000000 in
theorem ct_no (ka : Option Addr) (kn kc : Nat) (fl exp by_ cas : Int) (dd : Nat) (qu : Bool) (da : ByteArray) (e : En) (ver : Int) (v : Int) (w : World) : Calls Tryd.prog 44 #[.agg #[Value.int .i64 v, .slice ka kn kc, .int .i64 fl, .int .i64 exp, .int .i64 by_, .int .i64 cas, .int .u64 (dd : Int), .bool qu, .string da], .agg #[Value.string e.key, .int .i64 e.fl, .int .i64 e.dl, .string e.val, .int .i64 e.cas], .bool false, .int .i64 ver] w (OutR w (tld (ab 5))) := by
  obtain ⟨R, hR⟩ : ∃ R : List Value, R = [Value.int .i64 v, .slice ka kn kc, .int .i64 fl, .int .i64 exp, .int .i64 by_, .int .i64 cas, .int .u64 (dd : Int), .bool qu, .string da] := ⟨_, rfl⟩
  have HR0 := Lib.hid hR
  have HX1 := Lib.hid (RX.new w R [Value.string e.key, .int .i64 e.fl, .int .i64 e.dl, .string e.val, .int .i64 e.cas])
  have HTE := Lib.hid (there_below (there_below (there_new (w.alloc (.cells R.toArray 27)) [Value.string e.key, .int .i64 e.fl, .int .i64 e.dl, .string e.val, .int .i64 e.cas] 49) (below_alloc _ (.cells zA.toArray 32))) (below_alloc _ (.cells e0.cs.toArray 49)))
  rw [hR] at HX1 HTE
  clear hR
  obtain ⟨A, hA⟩ : ∃ A, A = (ab 5).cs := ⟨_, rfl⟩
  obtain ⟨X, hX⟩ : ∃ X : List Value, X = [Value.string e.key, .int .i64 e.fl, .int .i64 e.dl, .string e.val, .int .i64 e.cas] := ⟨_, rfl⟩
  have HA0 := Lib.hid hA
  have HX0 := Lib.hid hX
  have HLA : Hid (A.length = 9) := Lib.hid (by rw [hA]; rfl)
  have HOA : Hid (∀ u ∈ A, u.oneCell' = true) := Lib.hid (by rw [hA]; exact Ab.one _)
  have HLX : Hid (X.length = 5) := Lib.hid (by rw [hX]; rfl)
  have HOX : Hid (∀ u ∈ X, u.oneCell' = true) := Lib.hid (by rw [hX]; exact En.one e)
  clear hA hX
  go_enter Tryd.func44, Tryd.ntmps44
  go_wp2_with fail
  have hx : RX w ((((w.alloc (.cells #[Value.int .i64 v, .slice ka kn kc, .int .i64 fl, .int .i64 exp, .int .i64 by_, .int .i64 cas, .int .u64 (dd : Int), .bool qu, .string da] 27)).alloc (.cells #[Value.string e.key, .int .i64 e.fl, .int .i64 e.dl, .string e.val, .int .i64 e.cas] 49)).alloc (.cells zA.toArray 32)).alloc (.cells e0.cs.toArray 49)) R X e0.cs := by rw [HR0.out, HX0.out]; exact HX1.out
  refine wp_joinA ?_ (fun W => W.rangeAt (w.heap.size + 1 + 1) 0 A ∧ W.rangeAt (w.heap.size + 1 + 1 + 1) 0 X ∧ Below w.heap.size w W) ?_ ?_
  rotate_left
  focus
    refine wp_region_held_drew (S := fun W => ∃ Z, RX w W R X Z) (by kernel_rfl) ⟨_, hx.drew⟩ (fun hS => ?_)
    have h2 := hx.drew
    refine wpAnyH_take (i := 0) (v := .agg #[Value.int .i64 5, .slice none 0 0, .bool false, .int .u64 0, .string ⟨#[]⟩, .int .i64 0, .int .i64 0, .int .i64 0, .int .i64 0]) rfl (by kernel_rfl) (by kernel_rfl) (by kernel_rfl) (fun _ _ _ h => (h : False).elim) (Or.inl ⟨by kernel_rfl, by intro W hW; go_simp; try rfl⟩) hS ?_
    rw [show (#[Value.int .i64 5, .slice none 0 0, .bool false, .int .u64 0, .string ⟨#[]⟩, .int .i64 0, .int .i64 0, .int .i64 0, .int .i64 0] : Array Value) = A.toArray by rw [HA0.out]; rfl]
    refine wpAnyH_take (i := 1) (v := .agg X.toArray) rfl (by kernel_rfl) (by kernel_rfl) (by kernel_rfl) (fun _ _ _ h => (h : False).elim) (yieldsIf_load_mid (by kernel_rfl) 49 (.tmp 5) rfl (w.heap.size + 1) 0 rfl X _ (fun _ h => h.choose_spec.e) Tryd.underlying49 rfl (by rw [HLX.out]; kernel_rfl)) hS ?_
    obtain ⟨t1, t2, r1, r2, b2⟩ := two_fin (w := w) (b := w.heap.size + 1 + 1) HLA.out HLX.out (by omega) h2.b h2.ta h2.tx
    have h3 := h2.setA A HLA.out
    have h4 := h3.set X HLX.out
    refine storeH (i := 2) (by kernel_rfl) rfl rfl t1 (all_oneCell_toArray HOA.out) 32 (.tmp 8) (.tmp 16) rfl rfl rfl (by rw [List.size_toArray, HLA.out]; kernel_rfl) ⟨_, h3⟩ ?_
    refine storeH (i := 3) (by kernel_rfl) rfl rfl t2 (all_oneCell_toArray HOX.out) 49 (.tmp 9) (.tmp 17) rfl rfl rfl (by rw [List.size_toArray, HLX.out]; kernel_rfl) ⟨_, h4⟩ ?_
    refine constH (i := 4) (v := .bool false) (by kernel_rfl) rfl rfl rfl ⟨_, h4⟩ ?_
    refine constH (i := 5) (v := .bool false) (by kernel_rfl) rfl rfl rfl ⟨_, h4⟩ ?_
    refine wpAnyH_done (by kernel_rfl) ?_ _
    refine And.intro ?_ (And.intro r1 (And.intro r2 b2))
    go_simp
    exact rfl
  intro w3 hw3
  obtain ⟨r1, r2, b2⟩ := hw3
  go_wp2_with fail
  exact bodyPost_ret (v := .tuple #[.agg A.toArray, .agg X.toArray, .bool false, .bool false]) (res4 Tryd.results44 rfl rfl rfl rfl r1 r2 HLA.out HLX.out) rfl ⟨e, by rw [HA0.out, HX0.out]; rfl, (fun h => by cases h), b2⟩
set_option maxRecDepth 100000 in
set_option maxHeartbeats 1000000 in
theorem ct_bad (ka : Option Addr) (kn kc : Nat) (fl exp by_ cas : Int) (dd : Nat) (qu : Bool) (da : ByteArray) (e : En) (ver : Int) (v : Int) (hb0 : nb 18446744073709551615 (L e.val) = false) (w : World) : Calls Tryd.prog 44 #[.agg #[Value.int .i64 v, .slice ka kn kc, .int .i64 fl, .int .i64 exp, .int .i64 by_, .int .i64 cas, .int .u64 (dd : Int), .bool qu, .string da], .agg #[Value.string e.key, .int .i64 e.fl, .int .i64 e.dl, .string e.val, .int .i64 e.cas], .bool true, .int .i64 ver] w (OutR w (tld ⟨13, 0, noNumber⟩)) := by
  have NC := Lib.hid (rnumber_c e.val _ _ rfl hb0)
  clear hb0
  obtain ⟨nn, hnn⟩ : ∃ nn, nv 18446744073709551615 (L e.val) = nn := ⟨_, rfl⟩
  rw [hnn] at NC
  clear hnn
  obtain ⟨R, hR⟩ : ∃ R : List Value, R = [Value.int .i64 v, .slice ka kn kc, .int .i64 fl, .int .i64 exp, .int .i64 by_, .int .i64 cas, .int .u64 (dd : Int), .bool qu, .string da] := ⟨_, rfl⟩
  have HR0 := Lib.hid hR
  have HX1 := Lib.hid (RX.new w R [Value.string e.key, .int .i64 e.fl, .int .i64 e.dl, .string e.val, .int .i64 e.cas])
  have HTE := Lib.hid (there_below (there_below (there_new (w.alloc (.cells R.toArray 27)) [Value.string e.key, .int .i64 e.fl, .int .i64 e.dl, .string e.val, .int .i64 e.cas] 49) (below_alloc _ (.cells zA.toArray 32))) (below_alloc _ (.cells e0.cs.toArray 49)))
  rw [hR] at HX1 HTE
  clear hR
  obtain ⟨A, hA⟩ : ∃ A, A = (Ab.mk 13 0 noNumber).cs := ⟨_, rfl⟩
  obtain ⟨X, hX⟩ : ∃ X : List Value, X = [Value.string e.key, .int .i64 e.fl, .int .i64 e.dl, .string e.val, .int .i64 e.cas] := ⟨_, rfl⟩
  have HA0 := Lib.hid hA
  have HX0 := Lib.hid hX
  have HLA : Hid (A.length = 9) := Lib.hid (by rw [hA]; rfl)
  have HOA : Hid (∀ u ∈ A, u.oneCell' = true) := Lib.hid (by rw [hA]; exact Ab.one _)
  have HLX : Hid (X.length = 5) := Lib.hid (by rw [hX]; rfl)
  have HOX : Hid (∀ u ∈ X, u.oneCell' = true) := Lib.hid (by rw [hX]; exact En.one e)
  clear hA hX
  go_enter Tryd.func44, Tryd.ntmps44
  go_wp2_with fail
  refine (NC.out _).mono ?_
  rintro e1 w0 ⟨rfl, rfl⟩
  go_wp2_with fail
  have hx : RX w ((((w.alloc (.cells #[Value.int .i64 v, .slice ka kn kc, .int .i64 fl, .int .i64 exp, .int .i64 by_, .int .i64 cas, .int .u64 (dd : Int), .bool qu, .string da] 27)).alloc (.cells #[Value.string e.key, .int .i64 e.fl, .int .i64 e.dl, .string e.val, .int .i64 e.cas] 49)).alloc (.cells zA.toArray 32)).alloc (.cells e0.cs.toArray 49)) R X e0.cs := by rw [HR0.out, HX0.out]; exact HX1.out
  refine wp_joinA ?_ (fun W => W.rangeAt (w.heap.size + 1 + 1) 0 A ∧ W.rangeAt (w.heap.size + 1 + 1 + 1) 0 X ∧ Below w.heap.size w W) ?_ ?_
  rotate_left
  focus
    refine wp_region_held_drew (S := fun W => ∃ Z, RX w W R X Z) (by kernel_rfl) ⟨_, hx.drew⟩ (fun hS => ?_)
    have h2 := hx.drew
    refine wpAnyH_take (i := 0) (v := .agg #[Value.int .i64 13, .slice none 0 0, .bool false, .int .u64 0, .string noNumber, .int .i64 0, .int .i64 0, .int .i64 0, .int .i64 0]) rfl (by kernel_rfl) (by kernel_rfl) (by kernel_rfl) (fun _ _ _ h => (h : False).elim) (Or.inl ⟨by kernel_rfl, by intro W hW; go_simp; try rfl⟩) hS ?_
    rw [show (#[Value.int .i64 13, .slice none 0 0, .bool false, .int .u64 0, .string noNumber, .int .i64 0, .int .i64 0, .int .i64 0, .int .i64 0] : Array Value) = A.toArray by rw [HA0.out]; rfl]
    refine wpAnyH_take (i := 1) (v := .agg X.toArray) rfl (by kernel_rfl) (by kernel_rfl) (by kernel_rfl) (fun _ _ _ h => (h : False).elim) (yieldsIf_load_mid (by kernel_rfl) 49 (.tmp 5) rfl (w.heap.size + 1) 0 rfl X _ (fun _ h => h.choose_spec.e) Tryd.underlying49 rfl (by rw [HLX.out]; kernel_rfl)) hS ?_
    obtain ⟨t1, t2, r1, r2, b2⟩ := two_fin (w := w) (b := w.heap.size + 1 + 1) HLA.out HLX.out (by omega) h2.b h2.ta h2.tx
    have h3 := h2.setA A HLA.out
    have h4 := h3.set X HLX.out
    refine storeH (i := 2) (by kernel_rfl) rfl rfl t1 (all_oneCell_toArray HOA.out) 32 (.tmp 8) (.tmp 26) rfl rfl rfl (by rw [List.size_toArray, HLA.out]; kernel_rfl) ⟨_, h3⟩ ?_
    refine storeH (i := 3) (by kernel_rfl) rfl rfl t2 (all_oneCell_toArray HOX.out) 49 (.tmp 9) (.tmp 27) rfl rfl rfl (by rw [List.size_toArray, HLX.out]; kernel_rfl) ⟨_, h4⟩ ?_
    refine constH (i := 4) (v := .bool false) (by kernel_rfl) rfl rfl rfl ⟨_, h4⟩ ?_
    refine constH (i := 5) (v := .bool false) (by kernel_rfl) rfl rfl rfl ⟨_, h4⟩ ?_
    refine wpAnyH_done (by kernel_rfl) ?_ _
    refine And.intro ?_ (And.intro r1 (And.intro r2 b2))
    go_simp
    exact rfl
  intro w3 hw3
  obtain ⟨r1, r2, b2⟩ := hw3
  go_wp2_with fail
  exact bodyPost_ret (v := .tuple #[.agg A.toArray, .agg X.toArray, .bool false, .bool false]) (res4 Tryd.results44 rfl rfl rfl rfl r1 r2 HLA.out HLX.out) rfl ⟨e, by rw [HA0.out, HX0.out]; rfl, (fun h => by cases h), b2⟩
set_option maxRecDepth 100000 in
set_option maxHeartbeats 1000000 in
theorem ct_up (ka : Option Addr) (kn kc : Nat) (fl exp by_ cas : Int) (dd : Nat) (qu : Bool) (da : ByteArray) (e : En) (ver : Int) (n c : Nat) (hn : nv 18446744073709551615 (L e.val) = n) (hb0 : nb 18446744073709551615 (L e.val) = true) (hn2 : n < 18446744073709551616) (hc : cnt true n dd = c) (w : World) : Calls Tryd.prog 44 #[.agg #[Value.int .i64 10, .slice ka kn kc, .int .i64 fl, .int .i64 exp, .int .i64 by_, .int .i64 cas, .int .u64 (dd : Int), .bool qu, .string da], .agg #[Value.string e.key, .int .i64 e.fl, .int .i64 e.dl, .string e.val, .int .i64 e.cas], .bool true, .int .i64 ver] w (OutR w (kpt ⟨8, (c : Int), ⟨#[]⟩⟩ ⟨e.key, e.fl, e.dl, S (Lib.decDigits c), ver⟩)) := by
  have hc2 : c < 18446744073709551616 := by rw [← hc]; exact cnt_lt _ _ _ hn2
  have g1 : IntKind.u64.wrap ((n : Int) + (dd : Int)) = (c : Int) := by rw [IntKind.wrap_u64, ← hc]; simp only [cnt, if_true]; omega
  have NC := Lib.hid (rnumber_c e.val n true hn hb0)
  clear hb0 hn hc
  have DG := Lib.hid (fun W => rdigits_any c hc2 W)
  obtain ⟨ds, hds⟩ : ∃ ds, S (Lib.decDigits c) = ds := ⟨_, rfl⟩
  rw [hds] at DG
  have HD0 := Lib.hid hds
  rw [hds]
  clear hds
  obtain ⟨R, hR⟩ : ∃ R : List Value, R = [Value.int .i64 10, .slice ka kn kc, .int .i64 fl, .int .i64 exp, .int .i64 by_, .int .i64 cas, .int .u64 (dd : Int), .bool qu, .string da] := ⟨_, rfl⟩
  have HR0 := Lib.hid hR
  have HX1 := Lib.hid (RX.new w R [Value.string e.key, .int .i64 e.fl, .int .i64 e.dl, .string e.val, .int .i64 e.cas])
  have HTE := Lib.hid (there_below (there_below (there_new (w.alloc (.cells R.toArray 27)) [Value.string e.key, .int .i64 e.fl, .int .i64 e.dl, .string e.val, .int .i64 e.cas] 49) (below_alloc _ (.cells zA.toArray 32))) (below_alloc _ (.cells e0.cs.toArray 49)))
  rw [hR] at HX1 HTE
  clear hR
  obtain ⟨A, hA⟩ : ∃ A, A = (Ab.mk 8 (c : Int) ⟨#[]⟩).cs := ⟨_, rfl⟩
  obtain ⟨X, hX⟩ : ∃ X : List Value, X = [Value.string e.key, .int .i64 e.fl, .int .i64 e.dl, .string ds, .int .i64 ver] := ⟨_, rfl⟩
  have HA0 := Lib.hid hA
  have HX0 := Lib.hid hX
  have HLA : Hid (A.length = 9) := Lib.hid (by rw [hA]; rfl)
  have HOA : Hid (∀ u ∈ A, u.oneCell' = true) := Lib.hid (by rw [hA]; exact Ab.one _)
  have HLX : Hid (X.length = 5) := Lib.hid (by rw [hX]; rfl)
  have HOX : Hid (∀ u ∈ X, u.oneCell' = true) := Lib.hid (by rw [hX]; exact En.one ⟨e.key, e.fl, e.dl, ds, ver⟩)
  clear hA hX
  go_enter Tryd.func44, Tryd.ntmps44
  go_wp2_with fail
  refine (NC.out _).mono ?_
  rintro e1 w0 ⟨rfl, rfl⟩
  go_wp2_with fail
  refine (DG.out _).mono ?_
  rintro e1 w2 ⟨rfl, hb⟩
  have hy := HX1.out.below hb
  have ht := there_below HTE.out hb
  rw [World.size_alloc] at ht
  have k3 := hy.cellE 3 (.string e.val) rfl
  have k4 := hy.cellE 4 (.int .i64 e.cas) rfl
  have z3 := (ht 3 (show 3 < 5 by omega)).2
  have z4 := (ht 4 (show 4 < 5 by omega)).2
  simp only [Nat.zero_add] at z3 z4
  have hy2 := (hy.setE1 ht 3 (by omega) (.string ds)).setE1 (there_setCell ht _ _) 4 (by omega) (.int .i64 ver)
  clear hb
  go_wp2_with fail
  have hx : RX w ((w2.setCell ⟨w.heap.size + 1, 3, none⟩ (.string ds)).setCell ⟨w.heap.size + 1, 4, none⟩ (.int .i64 ver)) R X e0.cs := by rw [HR0.out, HX0.out]; exact hy2
  refine wp_joinA ?_ (fun W => W.rangeAt (w.heap.size + 1 + 1) 0 A ∧ W.rangeAt (w.heap.size + 1 + 1 + 1) 0 X ∧ Below w.heap.size w W) ?_ ?_
  rotate_left
  focus
    refine wp_region_held_drew (S := fun W => ∃ Z, RX w W R X Z) (by kernel_rfl) ⟨_, hx.drew⟩ (fun hS => ?_)
    have h2 := hx.drew
    refine wpAnyH_take (i := 0) (v := .int .u64 (c : Int)) rfl (by kernel_rfl) (by kernel_rfl) (by kernel_rfl) (fun _ _ _ h => (h : False).elim) (Or.inl ⟨by kernel_rfl, by intro W hW; go_simp⟩) hS ?_
    refine wpAnyH_take (i := 1) (v := .agg #[Value.int .i64 8, .slice none 0 0, .bool false, .int .u64 (c : Int), .string ⟨#[]⟩, .int .i64 0, .int .i64 0, .int .i64 0, .int .i64 0]) rfl (by kernel_rfl) (by kernel_rfl) (by kernel_rfl) (fun _ _ _ h => (h : False).elim) (Or.inl ⟨by kernel_rfl, by intro W hW; go_simp; try rfl⟩) hS ?_
    rw [show (#[Value.int .i64 8, .slice none 0 0, .bool false, .int .u64 (c : Int), .string ⟨#[]⟩, .int .i64 0, .int .i64 0, .int .i64 0, .int .i64 0] : Array Value) = A.toArray by rw [HA0.out]; rfl]
    refine wpAnyH_take (i := 2) (v := .agg X.toArray) rfl (by kernel_rfl) (by kernel_rfl) (by kernel_rfl) (fun _ _ _ h => (h : False).elim) (yieldsIf_load_mid (by kernel_rfl) 49 (.tmp 5) rfl (w.heap.size + 1) 0 rfl X _ (fun _ h => h.choose_spec.e) Tryd.underlying49 rfl (by rw [HLX.out]; kernel_rfl)) hS ?_
    obtain ⟨t1, t2, r1, r2, b2⟩ := two_fin (w := w) (b := w.heap.size + 1 + 1) HLA.out HLX.out (by omega) h2.b h2.ta h2.tx
    have h3 := h2.setA A HLA.out
    have h4 := h3.set X HLX.out
    refine storeH (i := 3) (by kernel_rfl) rfl rfl t1 (all_oneCell_toArray HOA.out) 32 (.tmp 8) (.tmp 47) rfl rfl rfl (by rw [List.size_toArray, HLA.out]; kernel_rfl) ⟨_, h3⟩ ?_
    refine storeH (i := 4) (by kernel_rfl) rfl rfl t2 (all_oneCell_toArray HOX.out) 49 (.tmp 9) (.tmp 48) rfl rfl rfl (by rw [List.size_toArray, HLX.out]; kernel_rfl) ⟨_, h4⟩ ?_
    refine constH (i := 5) (v := .bool true) (by kernel_rfl) rfl rfl rfl ⟨_, h4⟩ ?_
    refine constH (i := 6) (v := .bool false) (by kernel_rfl) rfl rfl rfl ⟨_, h4⟩ ?_
    refine wpAnyH_done (by kernel_rfl) ?_ _
    refine And.intro ?_ (And.intro r1 (And.intro r2 b2))
    go_simp
    exact rfl
  intro w3 hw3
  obtain ⟨r1, r2, b2⟩ := hw3
  go_wp2_with fail
  exact bodyPost_ret (v := .tuple #[.agg A.toArray, .agg X.toArray, .bool true, .bool false]) (res4 Tryd.results44 rfl rfl rfl rfl r1 r2 HLA.out HLX.out) rfl ⟨⟨e.key, e.fl, e.dl, ds, ver⟩, by rw [HA0.out, HX0.out]; rfl, fun _ => rfl, b2⟩
set_option maxRecDepth 100000 in
set_option maxHeartbeats 1000000 in
theorem ct_down (ka : Option Addr) (kn kc : Nat) (fl exp by_ cas : Int) (dd : Nat) (qu : Bool) (da : ByteArray) (e : En) (ver : Int) (n c : Nat) (hn : nv 18446744073709551615 (L e.val) = n) (hb0 : nb 18446744073709551615 (L e.val) = true) (hn2 : n < 18446744073709551616) (hc : cnt false n dd = c) (w : World) : Calls Tryd.prog 44 #[.agg #[Value.int .i64 11, .slice ka kn kc, .int .i64 fl, .int .i64 exp, .int .i64 by_, .int .i64 cas, .int .u64 (dd : Int), .bool qu, .string da], .agg #[Value.string e.key, .int .i64 e.fl, .int .i64 e.dl, .string e.val, .int .i64 e.cas], .bool true, .int .i64 ver] w (OutR w (kpt ⟨8, (c : Int), ⟨#[]⟩⟩ ⟨e.key, e.fl, e.dl, S (Lib.decDigits c), ver⟩)) := by
  have hc2 : c < 18446744073709551616 := by rw [← hc]; exact cnt_lt _ _ _ hn2
  obtain ⟨m, hm⟩ : ∃ m : Nat, min n dd = m := ⟨_, rfl⟩
  have g0 : min (n : Int) (dd : Int) = (m : Int) := by omega
  have g1 : IntKind.u64.wrap ((n : Int) - (m : Int)) = (c : Int) := by rw [IntKind.wrap_u64, ← hc]; simp only [cnt]; simp only [Bool.false_eq_true, if_false]; omega
  clear hm
  have NC := Lib.hid (rnumber_c e.val n true hn hb0)
  clear hb0 hn hc
  have DG := Lib.hid (fun W => rdigits_any c hc2 W)
  obtain ⟨ds, hds⟩ : ∃ ds, S (Lib.decDigits c) = ds := ⟨_, rfl⟩
  rw [hds] at DG
  have HD0 := Lib.hid hds
  rw [hds]
  clear hds
  obtain ⟨R, hR⟩ : ∃ R : List Value, R = [Value.int .i64 11, .slice ka kn kc, .int .i64 fl, .int .i64 exp, .int .i64 by_, .int .i64 cas, .int .u64 (dd : Int), .bool qu, .string da] := ⟨_, rfl⟩
  have HR0 := Lib.hid hR
  have HX1 := Lib.hid (RX.new w R [Value.string e.key, .int .i64 e.fl, .int .i64 e.dl, .string e.val, .int .i64 e.cas])
  have HTE := Lib.hid (there_below (there_below (there_new (w.alloc (.cells R.toArray 27)) [Value.string e.key, .int .i64 e.fl, .int .i64 e.dl, .string e.val, .int .i64 e.cas] 49) (below_alloc _ (.cells zA.toArray 32))) (below_alloc _ (.cells e0.cs.toArray 49)))
  rw [hR] at HX1 HTE
  clear hR
  obtain ⟨A, hA⟩ : ∃ A, A = (Ab.mk 8 (c : Int) ⟨#[]⟩).cs := ⟨_, rfl⟩
  obtain ⟨X, hX⟩ : ∃ X : List Value, X = [Value.string e.key, .int .i64 e.fl, .int .i64 e.dl, .string ds, .int .i64 ver] := ⟨_, rfl⟩
  have HA0 := Lib.hid hA
  have HX0 := Lib.hid hX
  have HLA : Hid (A.length = 9) := Lib.hid (by rw [hA]; rfl)
  have HOA : Hid (∀ u ∈ A, u.oneCell' = true) := Lib.hid (by rw [hA]; exact Ab.one _)
  have HLX : Hid (X.length = 5) := Lib.hid (by rw [hX]; rfl)
  have HOX : Hid (∀ u ∈ X, u.oneCell' = true) := Lib.hid (by rw [hX]; exact En.one ⟨e.key, e.fl, e.dl, ds, ver⟩)
  clear hA hX
  go_enter Tryd.func44, Tryd.ntmps44
  go_wp2_with fail
  refine (NC.out _).mono ?_
  rintro e1 w0 ⟨rfl, rfl⟩
  go_wp2_with fail
  refine (DG.out _).mono ?_
  rintro e1 w2 ⟨rfl, hb⟩
  have hy := HX1.out.below hb
  have ht := there_below HTE.out hb
  rw [World.size_alloc] at ht
  have k3 := hy.cellE 3 (.string e.val) rfl
  have k4 := hy.cellE 4 (.int .i64 e.cas) rfl
  have z3 := (ht 3 (show 3 < 5 by omega)).2
  have z4 := (ht 4 (show 4 < 5 by omega)).2
  simp only [Nat.zero_add] at z3 z4
  have hy2 := (hy.setE1 ht 3 (by omega) (.string ds)).setE1 (there_setCell ht _ _) 4 (by omega) (.int .i64 ver)
  clear hb
  go_wp2_with fail
  have hx : RX w ((w2.setCell ⟨w.heap.size + 1, 3, none⟩ (.string ds)).setCell ⟨w.heap.size + 1, 4, none⟩ (.int .i64 ver)) R X e0.cs := by rw [HR0.out, HX0.out]; exact hy2
  refine wp_joinA ?_ (fun W => W.rangeAt (w.heap.size + 1 + 1) 0 A ∧ W.rangeAt (w.heap.size + 1 + 1 + 1) 0 X ∧ Below w.heap.size w W) ?_ ?_
  rotate_left
  focus
    refine wp_region_held_drew (S := fun W => ∃ Z, RX w W R X Z) (by kernel_rfl) ⟨_, hx.drew⟩ (fun hS => ?_)
    have h2 := hx.drew
    refine wpAnyH_take (i := 0) (v := .int .u64 (c : Int)) rfl (by kernel_rfl) (by kernel_rfl) (by kernel_rfl) (fun _ _ _ h => (h : False).elim) (Or.inl ⟨by kernel_rfl, by intro W hW; go_simp⟩) hS ?_
    refine wpAnyH_take (i := 1) (v := .agg #[Value.int .i64 8, .slice none 0 0, .bool false, .int .u64 (c : Int), .string ⟨#[]⟩, .int .i64 0, .int .i64 0, .int .i64 0, .int .i64 0]) rfl (by kernel_rfl) (by kernel_rfl) (by kernel_rfl) (fun _ _ _ h => (h : False).elim) (Or.inl ⟨by kernel_rfl, by intro W hW; go_simp; try rfl⟩) hS ?_
    rw [show (#[Value.int .i64 8, .slice none 0 0, .bool false, .int .u64 (c : Int), .string ⟨#[]⟩, .int .i64 0, .int .i64 0, .int .i64 0, .int .i64 0] : Array Value) = A.toArray by rw [HA0.out]; rfl]
    refine wpAnyH_take (i := 2) (v := .agg X.toArray) rfl (by kernel_rfl) (by kernel_rfl) (by kernel_rfl) (fun _ _ _ h => (h : False).elim) (yieldsIf_load_mid (by kernel_rfl) 49 (.tmp 5) rfl (w.heap.size + 1) 0 rfl X _ (fun _ h => h.choose_spec.e) Tryd.underlying49 rfl (by rw [HLX.out]; kernel_rfl)) hS ?_
    obtain ⟨t1, t2, r1, r2, b2⟩ := two_fin (w := w) (b := w.heap.size + 1 + 1) HLA.out HLX.out (by omega) h2.b h2.ta h2.tx
    have h3 := h2.setA A HLA.out
    have h4 := h3.set X HLX.out
    refine storeH (i := 3) (by kernel_rfl) rfl rfl t1 (all_oneCell_toArray HOA.out) 32 (.tmp 8) (.tmp 47) rfl rfl rfl (by rw [List.size_toArray, HLA.out]; kernel_rfl) ⟨_, h3⟩ ?_
    refine storeH (i := 4) (by kernel_rfl) rfl rfl t2 (all_oneCell_toArray HOX.out) 49 (.tmp 9) (.tmp 48) rfl rfl rfl (by rw [List.size_toArray, HLX.out]; kernel_rfl) ⟨_, h4⟩ ?_
    refine constH (i := 5) (v := .bool true) (by kernel_rfl) rfl rfl rfl ⟨_, h4⟩ ?_
    refine constH (i := 6) (v := .bool false) (by kernel_rfl) rfl rfl rfl ⟨_, h4⟩ ?_
    refine wpAnyH_done (by kernel_rfl) ?_ _
    refine And.intro ?_ (And.intro r1 (And.intro r2 b2))
    go_simp
    exact rfl
  intro w3 hw3
  obtain ⟨r1, r2, b2⟩ := hw3
  go_wp2_with fail
  exact bodyPost_ret (v := .tuple #[.agg A.toArray, .agg X.toArray, .bool true, .bool false]) (res4 Tryd.results44 rfl rfl rfl rfl r1 r2 HLA.out HLX.out) rfl ⟨⟨e.key, e.fl, e.dl, ds, ver⟩, by rw [HA0.out, HX0.out]; rfl, fun _ => rfl, b2⟩
theorem rcount_up (b : Bool) (ka : Option Addr) (kn kc : Nat) (fl exp by_ cas : Int) (dd : Nat) (qu : Bool) (da : ByteArray) (e : En) (ver : Int) (w : World) : Calls Tryd.prog 44 #[.agg #[Value.int .i64 10, .slice ka kn kc, .int .i64 fl, .int .i64 exp, .int .i64 by_, .int .i64 cas, .int .u64 (dd : Int), .bool qu, .string da], .agg #[Value.string e.key, .int .i64 e.fl, .int .i64 e.dl, .string e.val, .int .i64 e.cas], .bool b, .int .i64 ver] w (OutR w (cou true e b dd ver)) := by
  unfold cou
  cases b
  · rw [if_pos rfl]; exact ct_no ka kn kc fl exp by_ cas dd qu da e ver 10 w
  rw [if_neg (by simp)]
  by_cases hb : nb 18446744073709551615 (L e.val) = false
  · rw [if_pos hb]; exact ct_bad ka kn kc fl exp by_ cas dd qu da e ver 10 hb w
  rw [if_neg hb]
  exact ct_up ka kn kc fl exp by_ cas dd qu da e ver _ _ rfl (by simpa using hb) (Nat.lt_of_le_of_lt (nv_le _ _) (by omega)) rfl w
theorem rcount_down (b : Bool) (ka : Option Addr) (kn kc : Nat) (fl exp by_ cas : Int) (dd : Nat) (qu : Bool) (da : ByteArray) (e : En) (ver : Int) (w : World) : Calls Tryd.prog 44 #[.agg #[Value.int .i64 11, .slice ka kn kc, .int .i64 fl, .int .i64 exp, .int .i64 by_, .int .i64 cas, .int .u64 (dd : Int), .bool qu, .string da], .agg #[Value.string e.key, .int .i64 e.fl, .int .i64 e.dl, .string e.val, .int .i64 e.cas], .bool b, .int .i64 ver] w (OutR w (cou false e b dd ver)) := by
  unfold cou
  cases b
  · rw [if_pos rfl]; exact ct_no ka kn kc fl exp by_ cas dd qu da e ver 11 w
  rw [if_neg (by simp)]
  by_cases hb : nb 18446744073709551615 (L e.val) = false
  · rw [if_pos hb]; exact ct_bad ka kn kc fl exp by_ cas dd qu da e ver 11 hb w
  rw [if_neg hb]
  exact ct_down ka kn kc fl exp by_ cas dd qu da e ver _ _ rfl (by simpa using hb) (Nat.lt_of_le_of_lt (nv_le _ _) (by omega)) rfl w
end Go.Proofs.YtpkmfckifnomeaaDoor
