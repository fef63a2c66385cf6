/-
  ANY k AND m, ANY VALUE, ANY SIZE: the law's walk.
-/
import Derived.Test.YtmhhegkpkncebaaRefEnc
namespace Go.Proofs.Ytmhhegkpkncebaa
open Go.RowKit

set_option maxHeartbeats 4000000 in
set_option maxRecDepth 100000 in
theorem tells_walk (a0 a1 : Int) (a2 : ByteArray) (a3 : Int) (w : World) :
    Calls Try.prog 4 #[.int .i64 a0, .int .i64 a1, .string a2, .int .i64 a3] w fun e w' => e = .returned (.bool true) ∧ Below w.heap.size w w' := by
  by_cases hbad : a0 < 1 ∨ 8 < a0 ∨ a1 < 0 ∨ 12 - a0 < a1
  · have HBad : Hid (a0 < 1 ∨ 8 < a0 ∨ a1 < 0 ∨ 12 - a0 < a1) := hbad
    clear hbad
    go_enter Try.func4, Try.ntmps4
    go_wp2_with fail
    refine (new_none a0 a1 HBad.out _).mono ?_
    rintro e w1 ⟨rfl, hb1⟩
    have HB1 : Hid (Below w.heap.size w w1) := hb1
    clear hb1
    go_wp2_with fail
    refine (rcau_none a0 a1 HBad.out _).mono ?_
    rintro e w2 ⟨rfl, rfl⟩
    have hnil := fun w => Lib.run_eql_slice_nil (P := Try.prog) w 34 54 none 0 0 0 0 under27
    go_wp2_with fail
    refine (rruns_any _).mono ?_
    rintro e w2 ⟨rfl, hb2⟩
    have HB2 : Hid (Below w.heap.size w w2) := HB1.out.trans (hb2.mono HB1.out.size)
    clear hb2
    go_wp2_with fail
    go_ret
    exact ⟨rfl, HB2.out⟩
  · obtain ⟨k, rfl⟩ : ∃ k : Nat, a0 = (k : Int) := ⟨a0.toNat, by omega⟩
    obtain ⟨m, rfl⟩ : ∃ m : Nat, a1 = (m : Int) := ⟨a1.toNat, by omega⟩
    have hk1 : 1 ≤ k := by omega
    have hk : k ≤ 8 := by omega
    have hm : k + m ≤ 12 := by omega
    clear hbad
    go_enter Try.func4, Try.ntmps4
    go_wp2_with fail
    refine (new_any k m _ _ rfl rfl hk1 hk hm _).mono ?_
    rintro e w1 ⟨b, rfl, hC1, hb1⟩
    have HC1 : Hid (IsCode w1 b k (k + m)) := hC1
    have HB1 : Hid (Below w.heap.size w w1) := hb1
    clear hC1 hb1
    go_wp2_with fail
    refine (rcau_own k m hk1 hk hm _).mono ?_
    rintro e w2 ⟨v2, xs, rfl, ho, hr, hb2⟩
    obtain ⟨g2, cap2, ev, _, _⟩ := own_matF (by omega) ho hr
    subst ev
    have HC2 : Hid (IsCode w2 b k (k + m)) := HC1.out.up hb2
    have HB2 : Hid (Below w.heap.size w w2) := HB1.out.trans (hb2.mono HB1.out.size)
    clear hb2 ho hr HC1 HB1
    have hnil := fun w => Lib.run_eql_slice_nil (P := Try.prog) w 34 54 (some ⟨g2, 0, none⟩) (k + m) cap2 0 0 under27
    go_wp2_with fail
    refine (short_any a2 200 _ rfl _).mono ?_
    rintro e w3 ⟨v, rfl, hv, rfl⟩
    go_wp2_with fail
    refine (within_i a3 (-9) 1073741833 _ (by omega) (by omega) (by omega) _).mono ?_
    rintro e w3 ⟨⟨r, hr1, hr2, rfl⟩, rfl⟩
    go_wp2_with fail
    refine (k_any b k (k + m) _ HC2.out).mono ?_
    rintro e w3 ⟨rfl, rfl⟩
    go_wp2_with fail
    refine (n_any b k (k + m) _ HC2.out).mono ?_
    rintro e w3 ⟨rfl, rfl⟩
    go_wp2_with fail
    have hsz : ∃ z : Int, (∀ w, IsCode w b k (k + m) → Calls Try.prog 18 #[.pointer (some ⟨b, 0, none⟩), .int .i64 r] w fun e w' => e = .returned (.int .i64 z) ∧ w = w') ∧ ∀ w, Calls Try.prog 19 #[.int .i64 (k : Int), .int .i64 r] w fun e w' => e = .returned (.int .i64 z) ∧ w = w' := by
      by_cases h : r < 0
      · exact ⟨0, fun w _ => size_neg b r h w, fun w => rsize_neg k r hk1 h w⟩
      · obtain ⟨n, rfl⟩ : ∃ n : Nat, r = (n : Int) := ⟨r.toNat, by omega⟩
        exact ⟨_, fun w hC => size_any b k (k + m) n _ rfl hk1 hk (by omega) w hC, fun w => rsize_any k n hk1 hk (by omega) w⟩
    obtain ⟨z, hz1, hz2⟩ := hsz
    refine (hz1 _ HC2.out).mono ?_
    rintro e w3 ⟨rfl, rfl⟩
    go_wp2_with fail
    refine (hz2 _).mono ?_
    rintro e w3 ⟨rfl, rfl⟩
    clear hz1 hz2
    go_wp2_with fail
    refine (encode_any b k (k + m) v hk1 hk hm (by omega) _ HC2.out).mono ?_
    rintro e w3 ⟨G3, rfl, hG3, O3, hb3⟩
    have HS3 : Hid (StrF w3 (some ⟨G3, 0, none⟩) (fragS k v) (k + m)) := O3.strF
    have HB3 : Hid (Below w.heap.size w w3) := HB2.out.trans (hb3.mono HB2.out.size)
    clear hb3 O3 hG3 HC2 HB2
    go_wp2_with fail
    refine (renc_any k m v hk1 hk hm (by omega) _).mono ?_
    rintro e w4 ⟨g4, cap4, rfl, HS4, hb4⟩
    have HS3' : Hid (StrF w4 (some ⟨G3, 0, none⟩) (fragS k v) (k + m)) := HS3.out.up hb4
    have HB4 : Hid (Below w.heap.size w w4) := HB3.out.trans (hb4.mono HB3.out.size)
    have HS4' : Hid (StrF w4 (some ⟨g4, 0, none⟩) (fragS k v) (k + m)) := HS4
    clear hb4 HS3 HB3 HS4
    go_wp2_with fail
    refine (sames_any _ _ (k + m) _ _ (fragS k v) (fragS k v) (by omega) (fun _ _ => rfl) _ HS3'.out HS4'.out).mono ?_
    rintro e w5 ⟨rfl, hb5⟩
    have HB5 : Hid (Below w.heap.size w w5) := HB4.out.trans (hb5.mono HB4.out.size)
    clear hb5
    go_wp2_with fail
    refine (rruns_any _).mono ?_
    rintro e w6 ⟨rfl, hb6⟩
    have HB6 : Hid (Below w.heap.size w w6) := HB5.out.trans (hb6.mono HB5.out.size)
    clear hb6
    go_wp2_with fail
    go_ret
    exact ⟨rfl, HB6.out⟩
end Go.Proofs.Ytmhhegkpkncebaa
