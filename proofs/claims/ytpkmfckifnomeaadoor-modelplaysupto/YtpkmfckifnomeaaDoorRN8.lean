/-
  Next of the reference: incr, decr.
-/
import Derived.Test.YtpkmfckifnomeaaDoorRN7
namespace Go.Proofs.YtpkmfckifnomeaaDoor
open Go.RowKit

open Go.Lib (TabIs pow10Tab)
set_option maxRecDepth 100000 in
set_option maxHeartbeats 1000000 in
theorem rn_up (now : Int) (ka : Option Addr) (kn kc : Nat) (fl exp by_ cas : Int) (dd : Nat) (qu : Bool) (da : ByteArray) (e : En) (ver : Int) (b : Bool) (w : World) : Calls Tryd.prog 21 #[.agg #[Value.int .i64 10, .slice ka kn kc, .int .i64 fl, .int .i64 exp, .int .i64 by_, .int .i64 cas, .int .u64 (dd : Int), .bool qu, .string da], .agg #[Value.string e.key, .int .i64 e.fl, .int .i64 e.dl, .string e.val, .int .i64 e.cas], .bool b, .int .i64 now, .int .i64 ver] w (OutR w (cou true e b dd ver)) := by
  obtain ⟨D, hD⟩ : ∃ D, dl exp now = D := ⟨_, rfl⟩
  have DC := Lib.hid (rdead_c exp now D hD)
  try rw [hD]
  clear hD
  obtain ⟨R, hR⟩ : ∃ R : List Value, R = [Value.int .i64 10, .slice ka kn kc, .int .i64 fl, .int .i64 exp, .int .i64 by_, .int .i64 cas, .int .u64 (dd : Int), .bool qu, .string da] := ⟨_, rfl⟩
  obtain ⟨E, hE⟩ : ∃ E : List Value, E = [Value.string e.key, .int .i64 e.fl, .int .i64 e.dl, .string e.val, .int .i64 e.cas] := ⟨_, rfl⟩
  have HR0 := Lib.hid hR
  have HE0 := Lib.hid hE
  obtain ⟨q, hq⟩ : ∃ q, cou true e b dd ver = q := ⟨_, rfl⟩
  have CT := Lib.hid (fun W => rcount_up b ka kn kc fl exp by_ cas dd qu da e ver W)
  rw [hq] at CT ⊢
  clear hq
  rw [← hR, ← hE] at CT
  obtain ⟨A, hA⟩ : ∃ A, A = q.1.cs := ⟨_, rfl⟩
  have HA0 := Lib.hid hA
  have HLA : Hid (A.length = 9) := Lib.hid (by rw [hA]; rfl)
  have HOA : Hid (∀ u ∈ A, u.oneCell' = true) := Lib.hid (by rw [hA]; exact Ab.one _)
  have HLE : Hid (E.length = 5) := Lib.hid (by rw [hE]; rfl)
  have HLR : Hid (R.length = 9) := Lib.hid (by rw [hR]; rfl)
  clear hA
  have HX1 := Lib.hid (RX.new w R E)
  rw [hR, hE] at HX1
  clear hR hE
  go_enter Tryd.func21, Tryd.ntmps21
  go_wp2_with fail
  refine wp_joinA ?_ (fun W => RX w W R E [Value.string e.key, .int .i64 fl, .int .i64 D, .string da, .int .i64 ver]) ?_ ?_
  rotate_left
  focus
    refine wp_region_held_drew (S := fun W => ∃ Z, RX w W R E Z) (by kernel_rfl) ⟨e0.cs, by rw [HR0.out, HE0.out]; exact HX1.out.drew⟩ (fun hS => ?_)
    refine wpAnyH_take (i := 0) (v := .pointer (some ⟨w.heap.size + 1, 0, none⟩)) rfl (by kernel_rfl) (by kernel_rfl) (by kernel_rfl) (fun _ _ _ h => (h : False).elim) (Or.inl ⟨by kernel_rfl, by intro W hW; go_simp⟩) hS ?_
    refine wpAnyH_take (i := 1) (v := .string e.key) rfl (by kernel_rfl) (by kernel_rfl) (by kernel_rfl) (fun _ _ _ h => (h : False).elim) (Or.inl ⟨by kernel_rfl, by intro W hW; have c := hW.choose_spec.cellE 0 (.string e.key) (by rw [HE0.out]; rfl); go_simp⟩) hS ?_
    refine wpAnyH_take (i := 2) (v := .pointer (some ⟨w.heap.size, 2, none⟩)) rfl (by kernel_rfl) (by kernel_rfl) (by kernel_rfl) (fun _ _ _ h => (h : False).elim) (Or.inl ⟨by kernel_rfl, by intro W hW; go_simp⟩) hS ?_
    refine wpAnyH_take (i := 3) (v := .int .i64 fl) rfl (by kernel_rfl) (by kernel_rfl) (by kernel_rfl) (fun _ _ _ h => (h : False).elim) (Or.inl ⟨by kernel_rfl, by intro W hW; have c := hW.choose_spec.cellR 2 (.int .i64 fl) (by rw [HR0.out]; rfl); go_simp⟩) hS ?_
    refine wpAnyH_take (i := 4) (v := .pointer (some ⟨w.heap.size, 3, none⟩)) rfl (by kernel_rfl) (by kernel_rfl) (by kernel_rfl) (fun _ _ _ h => (h : False).elim) (Or.inl ⟨by kernel_rfl, by intro W hW; go_simp⟩) hS ?_
    refine wpAnyH_take (i := 5) (v := .int .i64 exp) rfl (by kernel_rfl) (by kernel_rfl) (by kernel_rfl) (fun _ _ _ h => (h : False).elim) (Or.inl ⟨by kernel_rfl, by intro W hW; have c := hW.choose_spec.cellR 3 (.int .i64 exp) (by rw [HR0.out]; rfl); go_simp⟩) hS ?_
    refine wpAnyH_take (i := 6) (v := .int .i64 now) rfl (by kernel_rfl) (by kernel_rfl) (by kernel_rfl) (fun _ _ _ h => (h : False).elim) (Or.inl ⟨by kernel_rfl, by intro W hW; go_simp⟩) hS ?_
    refine wpAnyH_take (i := 8) (v := .pointer (some ⟨w.heap.size, 8, none⟩)) rfl (by kernel_rfl) (by kernel_rfl) (by kernel_rfl) (fun _ _ _ h => (h : False).elim) (Or.inl ⟨by kernel_rfl, by intro W hW; go_simp⟩) hS ?_
    refine wpAnyH_take (i := 9) (v := .string da) rfl (by kernel_rfl) (by kernel_rfl) (by kernel_rfl) (fun _ _ _ h => (h : False).elim) (Or.inl ⟨by kernel_rfl, by intro W hW; have c := hW.choose_spec.cellR 8 (.string da) (by rw [HR0.out]; rfl); go_simp⟩) hS ?_
    refine wpAnyH_take (i := 10) (v := .int .i64 ver) rfl (by kernel_rfl) (by kernel_rfl) (by kernel_rfl) (fun _ _ _ h => (h : False).elim) (Or.inl ⟨by kernel_rfl, by intro W hW; go_simp⟩) hS ?_
    refine oneH (i := 7) (by kernel_rfl) rfl (fun K hK => ?_)
    go_simp
    refine (DC.out _).mono ?_
    rintro e1 w1 ⟨rfl, rfl⟩
    refine hK _ _ ⟨hS, ?_⟩
    refine wpAnyH_take (i := 11) (v := .agg #[Value.string e.key, .int .i64 fl, .int .i64 D, .string da, .int .i64 ver]) rfl (by kernel_rfl) (by kernel_rfl) (by kernel_rfl) (fun _ _ _ h => (h : False).elim) (Or.inl ⟨by kernel_rfl, by intro W hW; go_simp⟩) hS ?_
    refine oneH (i := 12) (by kernel_rfl) rfl (fun K hK => ?_)
    obtain ⟨Z, hS⟩ := hS
    refine step_store (b := w.heap.size + 1 + 1 + 1) (o := 0) (cells := #[Value.string e.key, .int .i64 fl, .int .i64 D, .string da, .int .i64 ver]) hS.tx (all_oneCell_toArray (En.one ⟨e.key, fl, D, da, ver⟩)) 49 (.tmp 11) (.tmp 26) rfl rfl rfl rfl rfl (by kernel_rfl) ?_
    have h5 := hS.set [Value.string e.key, .int .i64 fl, .int .i64 D, .string da, .int .i64 ver] rfl
    refine hK _ _ ⟨⟨_, h5⟩, ?_⟩
    refine wpAnyH_done (by kernel_rfl) ?_ _
    refine And.intro ?_ h5
    go_simp
    exact rfl
  intro w1 hx
  have v0 := hx.cellR 0 (.int .i64 10) (by rw [HR0.out]; rfl)
  go_wp2_with (first
    | ((with_reducible show wpList _ _ _ (Oper.mk (some _) (Op.load 27 (.tmp 5)) _ _ _ _ :: _) _ _); refine wpList_load_mid (by rfl) 27 (.tmp 5) (by rfl) (w.heap.size) 0 (by rfl) R _ hx.r Tryd.underlying27 (by rfl) (by rw [HLR.out]; kernel_rfl) ?_)
    | ((with_reducible show wpList _ _ _ (Oper.mk (some _) (Op.load 49 (.tmp 6)) _ _ _ _ :: _) _ _); refine wpList_load_mid (by rfl) 49 (.tmp 6) (by rfl) (w.heap.size + 1) 0 (by rfl) E _ hx.e Tryd.underlying49 (by rfl) (by rw [HLE.out]; kernel_rfl) ?_))
  rw [show (#[Value.int .i64 10, .slice ka kn kc, .int .i64 fl, .int .i64 exp, .int .i64 by_, .int .i64 cas, .int .u64 (dd : Int), .bool qu, .string da] : Array Value) = R.toArray by rw [HR0.out]]
  refine (CT.out _).mono ?_
  rintro e1 w2 ⟨y, rfl, hyk, hb⟩
  rw [← HA0.out]
  obtain ⟨X, hX⟩ : ∃ X, X = y.cs := ⟨_, rfl⟩
  rw [← hX]
  have HX0 := Lib.hid hX
  have HLX : Hid (X.length = 5) := Lib.hid (by rw [hX]; rfl)
  have HOX : Hid (∀ u ∈ X, u.oneCell' = true) := Lib.hid (by rw [hX]; exact En.one _)
  clear hX
  have h2 := hx.below hb
  obtain ⟨t1, t2, r1, r2, b2⟩ := two_fin (w := w) (W := w2) (b := w.heap.size + 1 + 1) HLA.out HLX.out (by omega) h2.b h2.ta h2.tx
  have HT1 := Lib.hid t1
  have HT2 := Lib.hid t2
  have HR1 := Lib.hid r1
  have HR2 := Lib.hid r2
  have HB2 := Lib.hid b2
  have HYK := Lib.hid hyk
  obtain ⟨k, hkk⟩ : ∃ k, k = q.2.2.1 := ⟨_, rfl⟩
  obtain ⟨d, hdk⟩ : ∃ d, d = q.2.2.2 := ⟨_, rfl⟩
  rw [← hkk, ← hdk]
  have HK0 := Lib.hid hkk
  have HD0 := Lib.hid hdk
  clear t1 t2 r1 r2 b2 hb h2 hkk hdk hyk hx v0 CT
  go_wp2_with (first
    | ((with_reducible show wpList _ _ _ (Oper.mk none (Op.store 32 (.tmp 10) _) _ _ _ _ :: _) _ _); refine wpList_store_mid (by rfl) 32 (.tmp 10) (.tmp 126) (by rfl) (w.heap.size + 1 + 1) 0 A.toArray (by rfl) (by rfl) HT1.out (by rw [List.size_toArray, HLA.out]; kernel_rfl) (all_oneCell_toArray HOA.out) ?_; rw [show A.toArray.toList = A from rfl])
    | ((with_reducible show wpList _ _ _ (Oper.mk none (Op.store 49 (.tmp 11) _) _ _ _ _ :: _) _ _); refine wpList_store_mid (by rfl) 49 (.tmp 11) (.tmp 127) (by rfl) (w.heap.size + 1 + 1 + 1) 0 X.toArray (by rfl) (by rfl) HT2.out (by rw [List.size_toArray, HLX.out]; kernel_rfl) (all_oneCell_toArray HOX.out) ?_; rw [show X.toArray.toList = X from rfl]))
  exact bodyPost_ret (v := .tuple #[.agg A.toArray, .agg X.toArray, .bool k, .bool d]) (res4 Tryd.results21 rfl rfl rfl rfl HR1.out HR2.out HLA.out HLX.out) rfl ⟨y, by rw [HA0.out, HX0.out, HK0.out, HD0.out], HYK.out, HB2.out⟩
set_option maxRecDepth 100000 in
set_option maxHeartbeats 1000000 in
theorem rn_down (now : Int) (ka : Option Addr) (kn kc : Nat) (fl exp by_ cas : Int) (dd : Nat) (qu : Bool) (da : ByteArray) (e : En) (ver : Int) (b : Bool) (w : World) : Calls Tryd.prog 21 #[.agg #[Value.int .i64 11, .slice ka kn kc, .int .i64 fl, .int .i64 exp, .int .i64 by_, .int .i64 cas, .int .u64 (dd : Int), .bool qu, .string da], .agg #[Value.string e.key, .int .i64 e.fl, .int .i64 e.dl, .string e.val, .int .i64 e.cas], .bool b, .int .i64 now, .int .i64 ver] w (OutR w (cou false e b dd ver)) := by
  obtain ⟨D, hD⟩ : ∃ D, dl exp now = D := ⟨_, rfl⟩
  have DC := Lib.hid (rdead_c exp now D hD)
  try rw [hD]
  clear hD
  obtain ⟨R, hR⟩ : ∃ R : List Value, R = [Value.int .i64 11, .slice ka kn kc, .int .i64 fl, .int .i64 exp, .int .i64 by_, .int .i64 cas, .int .u64 (dd : Int), .bool qu, .string da] := ⟨_, rfl⟩
  obtain ⟨E, hE⟩ : ∃ E : List Value, E = [Value.string e.key, .int .i64 e.fl, .int .i64 e.dl, .string e.val, .int .i64 e.cas] := ⟨_, rfl⟩
  have HR0 := Lib.hid hR
  have HE0 := Lib.hid hE
  obtain ⟨q, hq⟩ : ∃ q, cou false e b dd ver = q := ⟨_, rfl⟩
  have CT := Lib.hid (fun W => rcount_down b ka kn kc fl exp by_ cas dd qu da e ver W)
  rw [hq] at CT ⊢
  clear hq
  rw [← hR, ← hE] at CT
  obtain ⟨A, hA⟩ : ∃ A, A = q.1.cs := ⟨_, rfl⟩
  have HA0 := Lib.hid hA
  have HLA : Hid (A.length = 9) := Lib.hid (by rw [hA]; rfl)
  have HOA : Hid (∀ u ∈ A, u.oneCell' = true) := Lib.hid (by rw [hA]; exact Ab.one _)
  have HLE : Hid (E.length = 5) := Lib.hid (by rw [hE]; rfl)
  have HLR : Hid (R.length = 9) := Lib.hid (by rw [hR]; rfl)
  clear hA
  have HX1 := Lib.hid (RX.new w R E)
  rw [hR, hE] at HX1
  clear hR hE
  go_enter Tryd.func21, Tryd.ntmps21
  go_wp2_with fail
  refine wp_joinA ?_ (fun W => RX w W R E [Value.string e.key, .int .i64 fl, .int .i64 D, .string da, .int .i64 ver]) ?_ ?_
  rotate_left
  focus
    refine wp_region_held_drew (S := fun W => ∃ Z, RX w W R E Z) (by kernel_rfl) ⟨e0.cs, by rw [HR0.out, HE0.out]; exact HX1.out.drew⟩ (fun hS => ?_)
    refine wpAnyH_take (i := 0) (v := .pointer (some ⟨w.heap.size + 1, 0, none⟩)) rfl (by kernel_rfl) (by kernel_rfl) (by kernel_rfl) (fun _ _ _ h => (h : False).elim) (Or.inl ⟨by kernel_rfl, by intro W hW; go_simp⟩) hS ?_
    refine wpAnyH_take (i := 1) (v := .string e.key) rfl (by kernel_rfl) (by kernel_rfl) (by kernel_rfl) (fun _ _ _ h => (h : False).elim) (Or.inl ⟨by kernel_rfl, by intro W hW; have c := hW.choose_spec.cellE 0 (.string e.key) (by rw [HE0.out]; rfl); go_simp⟩) hS ?_
    refine wpAnyH_take (i := 2) (v := .pointer (some ⟨w.heap.size, 2, none⟩)) rfl (by kernel_rfl) (by kernel_rfl) (by kernel_rfl) (fun _ _ _ h => (h : False).elim) (Or.inl ⟨by kernel_rfl, by intro W hW; go_simp⟩) hS ?_
    refine wpAnyH_take (i := 3) (v := .int .i64 fl) rfl (by kernel_rfl) (by kernel_rfl) (by kernel_rfl) (fun _ _ _ h => (h : False).elim) (Or.inl ⟨by kernel_rfl, by intro W hW; have c := hW.choose_spec.cellR 2 (.int .i64 fl) (by rw [HR0.out]; rfl); go_simp⟩) hS ?_
    refine wpAnyH_take (i := 4) (v := .pointer (some ⟨w.heap.size, 3, none⟩)) rfl (by kernel_rfl) (by kernel_rfl) (by kernel_rfl) (fun _ _ _ h => (h : False).elim) (Or.inl ⟨by kernel_rfl, by intro W hW; go_simp⟩) hS ?_
    refine wpAnyH_take (i := 5) (v := .int .i64 exp) rfl (by kernel_rfl) (by kernel_rfl) (by kernel_rfl) (fun _ _ _ h => (h : False).elim) (Or.inl ⟨by kernel_rfl, by intro W hW; have c := hW.choose_spec.cellR 3 (.int .i64 exp) (by rw [HR0.out]; rfl); go_simp⟩) hS ?_
    refine wpAnyH_take (i := 6) (v := .int .i64 now) rfl (by kernel_rfl) (by kernel_rfl) (by kernel_rfl) (fun _ _ _ h => (h : False).elim) (Or.inl ⟨by kernel_rfl, by intro W hW; go_simp⟩) hS ?_
    refine wpAnyH_take (i := 8) (v := .pointer (some ⟨w.heap.size, 8, none⟩)) rfl (by kernel_rfl) (by kernel_rfl) (by kernel_rfl) (fun _ _ _ h => (h : False).elim) (Or.inl ⟨by kernel_rfl, by intro W hW; go_simp⟩) hS ?_
    refine wpAnyH_take (i := 9) (v := .string da) rfl (by kernel_rfl) (by kernel_rfl) (by kernel_rfl) (fun _ _ _ h => (h : False).elim) (Or.inl ⟨by kernel_rfl, by intro W hW; have c := hW.choose_spec.cellR 8 (.string da) (by rw [HR0.out]; rfl); go_simp⟩) hS ?_
    refine wpAnyH_take (i := 10) (v := .int .i64 ver) rfl (by kernel_rfl) (by kernel_rfl) (by kernel_rfl) (fun _ _ _ h => (h : False).elim) (Or.inl ⟨by kernel_rfl, by intro W hW; go_simp⟩) hS ?_
    refine oneH (i := 7) (by kernel_rfl) rfl (fun K hK => ?_)
    go_simp
    refine (DC.out _).mono ?_
    rintro e1 w1 ⟨rfl, rfl⟩
    refine hK _ _ ⟨hS, ?_⟩
    refine wpAnyH_take (i := 11) (v := .agg #[Value.string e.key, .int .i64 fl, .int .i64 D, .string da, .int .i64 ver]) rfl (by kernel_rfl) (by kernel_rfl) (by kernel_rfl) (fun _ _ _ h => (h : False).elim) (Or.inl ⟨by kernel_rfl, by intro W hW; go_simp⟩) hS ?_
    refine oneH (i := 12) (by kernel_rfl) rfl (fun K hK => ?_)
    obtain ⟨Z, hS⟩ := hS
    refine step_store (b := w.heap.size + 1 + 1 + 1) (o := 0) (cells := #[Value.string e.key, .int .i64 fl, .int .i64 D, .string da, .int .i64 ver]) hS.tx (all_oneCell_toArray (En.one ⟨e.key, fl, D, da, ver⟩)) 49 (.tmp 11) (.tmp 26) rfl rfl rfl rfl rfl (by kernel_rfl) ?_
    have h5 := hS.set [Value.string e.key, .int .i64 fl, .int .i64 D, .string da, .int .i64 ver] rfl
    refine hK _ _ ⟨⟨_, h5⟩, ?_⟩
    refine wpAnyH_done (by kernel_rfl) ?_ _
    refine And.intro ?_ h5
    go_simp
    exact rfl
  intro w1 hx
  have v0 := hx.cellR 0 (.int .i64 11) (by rw [HR0.out]; rfl)
  go_wp2_with (first
    | ((with_reducible show wpList _ _ _ (Oper.mk (some _) (Op.load 27 (.tmp 5)) _ _ _ _ :: _) _ _); refine wpList_load_mid (by rfl) 27 (.tmp 5) (by rfl) (w.heap.size) 0 (by rfl) R _ hx.r Tryd.underlying27 (by rfl) (by rw [HLR.out]; kernel_rfl) ?_)
    | ((with_reducible show wpList _ _ _ (Oper.mk (some _) (Op.load 49 (.tmp 6)) _ _ _ _ :: _) _ _); refine wpList_load_mid (by rfl) 49 (.tmp 6) (by rfl) (w.heap.size + 1) 0 (by rfl) E _ hx.e Tryd.underlying49 (by rfl) (by rw [HLE.out]; kernel_rfl) ?_))
  rw [show (#[Value.int .i64 11, .slice ka kn kc, .int .i64 fl, .int .i64 exp, .int .i64 by_, .int .i64 cas, .int .u64 (dd : Int), .bool qu, .string da] : Array Value) = R.toArray by rw [HR0.out]]
  refine (CT.out _).mono ?_
  rintro e1 w2 ⟨y, rfl, hyk, hb⟩
  rw [← HA0.out]
  obtain ⟨X, hX⟩ : ∃ X, X = y.cs := ⟨_, rfl⟩
  rw [← hX]
  have HX0 := Lib.hid hX
  have HLX : Hid (X.length = 5) := Lib.hid (by rw [hX]; rfl)
  have HOX : Hid (∀ u ∈ X, u.oneCell' = true) := Lib.hid (by rw [hX]; exact En.one _)
  clear hX
  have h2 := hx.below hb
  obtain ⟨t1, t2, r1, r2, b2⟩ := two_fin (w := w) (W := w2) (b := w.heap.size + 1 + 1) HLA.out HLX.out (by omega) h2.b h2.ta h2.tx
  have HT1 := Lib.hid t1
  have HT2 := Lib.hid t2
  have HR1 := Lib.hid r1
  have HR2 := Lib.hid r2
  have HB2 := Lib.hid b2
  have HYK := Lib.hid hyk
  obtain ⟨k, hkk⟩ : ∃ k, k = q.2.2.1 := ⟨_, rfl⟩
  obtain ⟨d, hdk⟩ : ∃ d, d = q.2.2.2 := ⟨_, rfl⟩
  rw [← hkk, ← hdk]
  have HK0 := Lib.hid hkk
  have HD0 := Lib.hid hdk
  clear t1 t2 r1 r2 b2 hb h2 hkk hdk hyk hx v0 CT
  go_wp2_with (first
    | ((with_reducible show wpList _ _ _ (Oper.mk none (Op.store 32 (.tmp 10) _) _ _ _ _ :: _) _ _); refine wpList_store_mid (by rfl) 32 (.tmp 10) (.tmp 126) (by rfl) (w.heap.size + 1 + 1) 0 A.toArray (by rfl) (by rfl) HT1.out (by rw [List.size_toArray, HLA.out]; kernel_rfl) (all_oneCell_toArray HOA.out) ?_; rw [show A.toArray.toList = A from rfl])
    | ((with_reducible show wpList _ _ _ (Oper.mk none (Op.store 49 (.tmp 11) _) _ _ _ _ :: _) _ _); refine wpList_store_mid (by rfl) 49 (.tmp 11) (.tmp 127) (by rfl) (w.heap.size + 1 + 1 + 1) 0 X.toArray (by rfl) (by rfl) HT2.out (by rw [List.size_toArray, HLX.out]; kernel_rfl) (all_oneCell_toArray HOX.out) ?_; rw [show X.toArray.toList = X from rfl]))
  exact bodyPost_ret (v := .tuple #[.agg A.toArray, .agg X.toArray, .bool k, .bool d]) (res4 Tryd.results21 rfl rfl rfl rfl HR1.out HR2.out HLA.out HLX.out) rfl ⟨y, by rw [HA0.out, HX0.out, HK0.out, HD0.out], HYK.out, HB2.out⟩
end Go.Proofs.YtpkmfckifnomeaaDoor
