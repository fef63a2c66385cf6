/-
  storedIf, joined, compared, deleted, touched, counted, each in one form.
-/
import Derived.Test.YtpkmfckifnomeaaDoorNx5
namespace Go.Proofs.YtpkmfckifnomeaaDoor
open Go.RowKit

open Go.Lib (TabIs pow10Tab)
set_option maxRecDepth 100000 in
set_option maxHeartbeats 1000000 in
theorem deleted_yes (w : World) : Calls Tryd.prog 38 #[.bool true] w (Out w (ab 6).cs e0.cs false true) := by
  obtain ⟨A, hA⟩ : ∃ A, A = (ab 6).cs := ⟨_, rfl⟩
  obtain ⟨X, hX⟩ : ∃ X, X = (e0).cs := ⟨_, rfl⟩
  have HLA : Hid (A.length = 9) := Lib.hid (by rw [hA]; rfl)
  have HOA : Hid (∀ u ∈ A, u.oneCell' = true) := Lib.hid (by rw [hA]; exact Ab.one _)
  have HLX : Hid (X.length = 5) := Lib.hid (by rw [hX]; rfl)
  have HOX : Hid (∀ u ∈ X, u.oneCell' = true) := Lib.hid (by rw [hX]; exact En.one _)
  rw [← hA, ← hX]
  have HA0 := Lib.hid hA
  have HX0 := Lib.hid hX
  have HN : Hid (((w.alloc (.cells zA.toArray 32)).alloc (.cells e0.cs.toArray 49)).there (w.heap.size) 0 9 ∧ ((w.alloc (.cells zA.toArray 32)).alloc (.cells e0.cs.toArray 49)).there (w.heap.size + 1) 0 5 ∧ Below w.heap.size w ((w.alloc (.cells zA.toArray 32)).alloc (.cells e0.cs.toArray 49))) := Lib.hid (by
    obtain ⟨n1, n2, n3⟩ := two_new w (X := zA.toArray) (Y := e0.cs.toArray) rfl rfl
    exact ⟨n1, n2, n3⟩)
  obtain ⟨t1, t2, r1, r2, b2⟩ := two_fin (w := w) (W := ((w.alloc (.cells zA.toArray 32)).alloc (.cells e0.cs.toArray 49))) (b := w.heap.size) HLA.out HLX.out (by omega) HN.out.2.2 HN.out.1 HN.out.2.1
  have HT1 := Lib.hid t1
  have HT2 := Lib.hid t2
  have HR1 := Lib.hid r1
  have HR2 := Lib.hid r2
  have HB2 := Lib.hid b2
  clear t1 t2 r1 r2 b2
  clear hA hX HN
  go_enter Tryd.func38, Tryd.ntmps38
  go_wp2_with (first
    | ((with_reducible show wpList _ _ _ (Oper.mk none (Op.store 32 (.tmp 2) _) _ _ _ _ :: _) _ _); refine wpList_store_mid (by rfl) 32 (.tmp 2) (.tmp 13) (by rfl) (w.heap.size) 0 A.toArray (by rfl) (by rw [HA0.out]; rfl) HT1.out (by rw [List.size_toArray, HLA.out]; kernel_rfl) (all_oneCell_toArray HOA.out) ?_; rw [show A.toArray.toList = A from rfl])
    | ((with_reducible show wpList _ _ _ (Oper.mk none (Op.store 49 (.tmp 3) _) _ _ _ _ :: _) _ _); refine wpList_store_mid (by rfl) 49 (.tmp 3) (.tmp 14) (by rfl) (w.heap.size + 1) 0 X.toArray (by rfl) (by rw [HX0.out]; rfl) HT2.out (by rw [List.size_toArray, HLX.out]; kernel_rfl) (all_oneCell_toArray HOX.out) ?_; rw [show X.toArray.toList = X from rfl]))
  refine bodyPost_ret (v := .tuple #[.agg A.toArray, .agg X.toArray, .bool false, .bool true]) (res4 Tryd.results38 rfl rfl rfl rfl HR1.out HR2.out HLA.out HLX.out) rfl ⟨rfl, HB2.out⟩
theorem stored_any (b : Bool) (x : En) (hk : x.key.size ≤ 281474976710656) (hv : x.val.size ≤ 281474976710656) (w : World) : Calls Tryd.prog 35 #[.bool b, .agg #[Value.string x.key, .int .i64 x.fl, .int .i64 x.dl, .string x.val, .int .i64 x.cas]] w (OutQ w (if b = false then tld (ab 3) else kpt (ab 2) x)) := by
  cases b
  · exact stored_no x w
  · exact stored_yes x hk hv w
theorem joined_any (b : Bool) (e : En) (s1 s2 : ByteArray) (ver : Int) (h1 : s1.size ≤ 140737488355328) (h2 : s2.size ≤ 140737488355328) (hk : e.key.size ≤ 281474976710656) (w : World) : Calls Tryd.prog 36 #[.agg #[Value.string e.key, .int .i64 e.fl, .int .i64 e.dl, .string e.val, .int .i64 e.cas], .bool b, .string s1, .string s2, .int .i64 ver] w (OutQ w (joi e b (s1 ++ s2) ver)) := by
  cases b
  · exact joined_no e s1 s2 ver w
  · by_cases hb : 1048576 < s1.size + s2.size
    · rw [show joi e true (s1 ++ s2) ver = tld ⟨14, 0, tooLarge⟩ by unfold joi; rw [if_neg (by simp), if_pos (by rw [ByteArray.size_append]; exact hb)]]
      exact joined_big e s1 s2 ver h1 h2 hb w
    · rw [show joi e true (s1 ++ s2) ver = kpt (ab 2) ⟨e.key, e.fl, e.dl, s1 ++ s2, ver⟩ by unfold joi; rw [if_neg (by simp), if_neg (by rw [ByteArray.size_append]; exact hb)]]
      exact joined_yes e s1 s2 ver h1 h2 (by omega) hk w
theorem compared_any (b : Bool) (cas : Int) (e x : En) (hk : x.key.size ≤ 281474976710656) (hv : x.val.size ≤ 281474976710656) (w : World) : Calls Tryd.prog 37 #[.int .i64 cas, .agg #[Value.string e.key, .int .i64 e.fl, .int .i64 e.dl, .string e.val, .int .i64 e.cas], .bool b, .agg #[Value.string x.key, .int .i64 x.fl, .int .i64 x.dl, .string x.val, .int .i64 x.cas]] w (OutQ w (if b = false then tld (ab 5) else if e.cas = cas then kpt (ab 2) x else tld (ab 4))) := by
  cases b
  · exact compared_no cas e x w
  · by_cases hc : e.cas = cas
    · subst hc
      rw [if_neg (by simp), if_pos rfl]
      exact compared_yes e x hk hv w
    · rw [if_neg (by simp), if_neg hc]
      exact compared_other cas e x hc w
theorem deleted_any (b : Bool) (w : World) : Calls Tryd.prog 38 #[.bool b] w (OutQ w (if b = false then tld (ab 5) else (ab 6, e0, false, true))) := by
  cases b
  · exact deleted_no w
  · exact deleted_yes w
theorem touched_any (b : Bool) (e : En) (d : Int) (hk : e.key.size ≤ 281474976710656) (hv : e.val.size ≤ 281474976710656) (w : World) : Calls Tryd.prog 39 #[.agg #[Value.string e.key, .int .i64 e.fl, .int .i64 e.dl, .string e.val, .int .i64 e.cas], .bool b, .int .i64 d] w (OutQ w (if b = false then tld (ab 5) else kpt (ab 7) ⟨e.key, e.fl, d, e.val, e.cas⟩)) := by
  cases b
  · exact touched_no e d w
  · exact touched_yes e d hk hv w
theorem nv_lt (s : B) : nv 18446744073709551615 s < 18446744073709551616 := by
  unfold nv
  cases h : num 18446744073709551615 s with
  | none => simp
  | some v =>
    unfold num at h
    split at h
    · have := ng_le (by omega) h
      simp only [Option.getD_some]; omega
    · cases h
theorem count_up (b : Bool) (ka : Option Addr) (kn kc : Nat) (fl exp by_ cas : Int) (dd : Nat) (qu : Bool) (da : ByteArray) (e : En) (ver : Int) (hk : e.key.size ≤ 281474976710656) (w : World) (htab : TabIs Tryd.prog w "internal/strconv.uint64pow10" .u64 pow10Tab) : Calls Tryd.prog 40 #[.agg #[Value.int .i64 10, .slice ka kn kc, .int .i64 fl, .int .i64 exp, .int .i64 by_, .int .i64 cas, .int .u64 (dd : Int), .bool qu, .string da], .agg #[Value.string e.key, .int .i64 e.fl, .int .i64 e.dl, .string e.val, .int .i64 e.cas], .bool b, .int .i64 ver] w (OutQ w (cou true e b dd ver)) := by
  cases b
  · exact counted_no _ ka kn kc fl exp by_ cas dd qu da e ver w
  · cases h : nb 18446744073709551615 (L e.val) with
    | false =>
      rw [show cou true e true dd ver = tld ⟨13, 0, noNumber⟩ by unfold cou; rw [if_neg (by simp), if_pos h]]
      exact counted_bad _ ka kn kc fl exp by_ cas dd qu da e ver h w
    | true =>
      rw [show cou true e true dd ver = kpt ⟨8, ((cnt true (nv 18446744073709551615 (L e.val)) dd : Nat) : Int), ⟨#[]⟩⟩ ⟨e.key, e.fl, e.dl, S (Lib.decDigits (cnt true (nv 18446744073709551615 (L e.val)) dd)), ver⟩ by unfold cou; rw [if_neg (by simp), if_neg (by rw [h]; simp)]]
      exact counted_up ka kn kc fl exp by_ cas dd qu da e ver _ _ rfl h (nv_lt _) rfl hk w htab
theorem count_down (b : Bool) (ka : Option Addr) (kn kc : Nat) (fl exp by_ cas : Int) (dd : Nat) (qu : Bool) (da : ByteArray) (e : En) (ver : Int) (hk : e.key.size ≤ 281474976710656) (w : World) (htab : TabIs Tryd.prog w "internal/strconv.uint64pow10" .u64 pow10Tab) : Calls Tryd.prog 40 #[.agg #[Value.int .i64 11, .slice ka kn kc, .int .i64 fl, .int .i64 exp, .int .i64 by_, .int .i64 cas, .int .u64 (dd : Int), .bool qu, .string da], .agg #[Value.string e.key, .int .i64 e.fl, .int .i64 e.dl, .string e.val, .int .i64 e.cas], .bool b, .int .i64 ver] w (OutQ w (cou false e b dd ver)) := by
  cases b
  · exact counted_no _ ka kn kc fl exp by_ cas dd qu da e ver w
  · cases h : nb 18446744073709551615 (L e.val) with
    | false =>
      rw [show cou false e true dd ver = tld ⟨13, 0, noNumber⟩ by unfold cou; rw [if_neg (by simp), if_pos h]]
      exact counted_bad _ ka kn kc fl exp by_ cas dd qu da e ver h w
    | true =>
      rw [show cou false e true dd ver = kpt ⟨8, ((cnt false (nv 18446744073709551615 (L e.val)) dd : Nat) : Int), ⟨#[]⟩⟩ ⟨e.key, e.fl, e.dl, S (Lib.decDigits (cnt false (nv 18446744073709551615 (L e.val)) dd)), ver⟩ by unfold cou; rw [if_neg (by simp), if_neg (by rw [h]; simp)]]
      exact counted_down ka kn kc fl exp by_ cas dd qu da e ver _ _ rfl h (nv_lt _) rfl hk w htab
end Go.Proofs.YtpkmfckifnomeaaDoor
