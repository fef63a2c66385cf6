/-
  Cut at a newline; passLine.
-/
import Derived.Test.YtedbklipbfbmoaaDoorPKp
namespace Go.Proofs.YtedbklipbfbmoaaDoor
open Go.RowKit

theorem ix_no (s : ByteArray) (h : 10 ∉ L s) (w : World) : Calls Tryd.prog 54 #[.string s, .string ⟨#[10]⟩] w fun e w' => e = .returned (.int .i64 (-1)) ∧ w = w' := by
  refine (Tryd.stringslite_Index_one s 10 w).mono ?_
  rintro e w' ⟨rfl, rfl⟩
  exact ⟨by rw [show Lib.indexByte s.data.toList 10 = -1 from index_no h], rfl⟩
theorem ix_yes (s : ByteArray) (l r : B) (hs : L s = l ++ 10 :: r) (h : 10 ∉ l) (w : World) : Calls Tryd.prog 54 #[.string s, .string ⟨#[10]⟩] w fun e w' => e = .returned (.int .i64 (l.length : Int)) ∧ w = w' := by
  refine (Tryd.stringslite_Index_one s 10 w).mono ?_
  rintro e w' ⟨rfl, rfl⟩
  exact ⟨by rw [show Lib.indexByte s.data.toList 10 = (l.length : Int) from (congrArg (fun t => Lib.indexByte t 10) hs).trans (index_at l r 10 h)], rfl⟩
theorem ixs_no (s : ByteArray) (h : 10 ∉ L s) (w : World) : Calls Tryd.prog 36 #[.string s, .string ⟨#[10]⟩] w fun e w' => e = .returned (.int .i64 (-1)) ∧ w = w' := by
  refine (Tryd.strings_Index_one s 10 w).mono ?_
  rintro e w' ⟨rfl, rfl⟩
  exact ⟨by rw [show Lib.indexByte s.data.toList 10 = -1 from index_no h], rfl⟩
theorem ixs_yes (s : ByteArray) (l r : B) (hs : L s = l ++ 10 :: r) (h : 10 ∉ l) (w : World) : Calls Tryd.prog 36 #[.string s, .string ⟨#[10]⟩] w fun e w' => e = .returned (.int .i64 (l.length : Int)) ∧ w = w' := by
  refine (Tryd.strings_Index_one s 10 w).mono ?_
  rintro e w' ⟨rfl, rfl⟩
  exact ⟨by rw [show Lib.indexByte s.data.toList 10 = (l.length : Int) from (congrArg (fun t => Lib.indexByte t 10) hs).trans (index_at l r 10 h)], rfl⟩
set_option maxRecDepth 100000 in
theorem cutl_no (s : ByteArray) (h : 10 ∉ L s) (w : World) : Calls Tryd.prog 53 #[.string s, .string ⟨#[10]⟩] w fun e w' => e = .returned (.tuple #[.string s, .string ⟨#[]⟩, .bool false]) ∧ Below w.heap.size w w' := by
  have HI := Lib.hid (ix_no s h)
  clear h
  go_enter Tryd.func53, Tryd.ntmps53
  go_wp2_with fail
  refine (HI.out _).mono ?_
  rintro e w' ⟨rfl, rfl⟩
  go_wp2_with fail
  exact bodyPost_ret (v := .tuple #[.string s, .string ⟨#[]⟩, .bool false]) (by simp [results, Tryd.results53, go_sem]) rfl ⟨rfl, Below.refl _ _⟩
set_option maxRecDepth 100000 in
theorem cutl_yes (s : ByteArray) (l r : B) (hs : L s = l ++ 10 :: r) (h : 10 ∉ l) (hz : s.size ≤ 1000000000000) (w : World) : Calls Tryd.prog 53 #[.string s, .string ⟨#[10]⟩] w fun e w' => e = .returned (.tuple #[.string (S l), .string (S r), .bool true]) ∧ Below w.heap.size w w' := by
  have HI := Lib.hid (ix_yes s l r hs h)
  have hlen : l.length + 1 + r.length = s.size := by rw [← L_len, hs]; simp; omega
  have s1 := str_hi s l.length (by omega)
  have s2 := str_lo s (l.length + 1) (by omega)
  rw [show (L s).take l.length = l by rw [hs]; simp] at s1
  rw [show (L s).drop (l.length + 1) = r by rw [hs]; simp] at s2
  obtain ⟨q, hq⟩ : ∃ q, q = l.length := ⟨_, rfl⟩
  rw [← hq] at s1 s2 HI hlen
  rw [show ((q + 1 : Nat) : Int) = (q : Int) + 1 from rfl] at s2
  have q1 : (q : Int) < 1000000000000 := by omega
  clear hs h hq
  go_enter Tryd.func53, Tryd.ntmps53
  go_wp2_with fail
  refine (HI.out _).mono ?_
  rintro e w' ⟨rfl, rfl⟩
  go_wp2_with fail
  go_quiet (fail)
  go_wp2_with fail
  exact bodyPost_ret (v := .tuple #[.string (S l), .string (S r), .bool true]) (by simp [results, Tryd.results53, go_sem]) rfl ⟨rfl, below_drewN (Below.refl _ _) _⟩
set_option maxRecDepth 100000 in
theorem cut_any (s a b : ByteArray) (q : Bool) (H : ∀ w : World, Calls Tryd.prog 53 #[.string s, .string ⟨#[10]⟩] w fun e w' => e = .returned (.tuple #[.string a, .string b, .bool q]) ∧ Below w.heap.size w w') (w : World) : Calls Tryd.prog 35 #[.string s, .string ⟨#[10]⟩] w fun e w' => e = .returned (.tuple #[.string a, .string b, .bool q]) ∧ Below w.heap.size w w' := by
  have HI := Lib.hid H
  clear H
  go_enter Tryd.func35, Tryd.ntmps35
  go_wp2_with fail
  refine (HI.out _).mono ?_
  rintro e w' ⟨rfl, b1⟩
  have HB := Lib.hid b1
  clear b1
  go_wp2_with fail
  exact bodyPost_ret (v := .tuple #[.string a, .string b, .bool q]) (by simp [results, Tryd.results35, go_sem]) rfl ⟨rfl, HB.out⟩
set_option maxRecDepth 100000 in
theorem passl_no {o : Nat → Nat × Nat} {x P : Nat} {a : Option Addr} {n c : Nat} {ka : Option Addr} {kn kc : Nat} (s : ByteArray) (hs : 10 ∉ L s) (w : World) (h : IsP w o x P (pz 3) a n c ka kn kc) :
    Calls Tryd.prog 21 #[.pointer (some ⟨P, 0, none⟩), .string s] w fun e w' => e = .returned (.string (S [])) ∧ IsP w' o x P (pz 3) a n c ka kn kc ∧ Fr (TX x) o o w w' := by
  have HC := Lib.hid (cut_any s s ⟨#[]⟩ false (cutl_no s hs))
  have HI := Lib.hid h
  clear hs h
  go_enter Tryd.func21, Tryd.ntmps21
  go_wp2_with fail
  refine (HC.out _).mono ?_
  rintro e w' ⟨rfl, b1⟩
  have H := Lib.hid (And.intro (HI.out.below b1) (Fr.ofBelow (TX x) o b1))
  clear b1 HI
  go_wp2_with fail
  go_ret
  exact ⟨rfl, H.out⟩
set_option maxRecDepth 100000 in
theorem passl_yes {o : Nat → Nat × Nat} {x P : Nat} {a : Option Addr} {n c : Nat} {ka : Option Addr} {kn kc : Nat} (s : ByteArray) (l r : B) (hs : L s = l ++ 10 :: r) (hl : 10 ∉ l) (hz : s.size ≤ 1000000000000) (w : World) (h : IsP w o x P (pz 3) a n c ka kn kc) :
    Calls Tryd.prog 21 #[.pointer (some ⟨P, 0, none⟩), .string s] w fun e w' => e = .returned (.string (S r)) ∧ IsP w' o x P (pz 0) none 0 0 none 0 0 ∧ Fr (TX x) o o w w' := by
  have HC := Lib.hid (cut_any s (S l) (S r) true (cutl_yes s l r hs hl hz))
  have HI := Lib.hid h
  clear hs h hl
  go_enter Tryd.func21, Tryd.ntmps21
  go_wp2_with fail
  refine (HC.out _).mono ?_
  rintro e w1 ⟨rfl, b1⟩
  have I1 := HI.out.below b1
  have TH := Lib.hid I1.there
  obtain ⟨I2, F2⟩ := I1.begin 0
  have H := Lib.hid (And.intro I2 ((Fr.ofBelow (TX x) o b1).trans F2))
  clear b1 HI I1 I2 F2
  go_wp2_with fail
  refine (begin_any P 0 _ TH.out).mono ?_
  rintro e w2 ⟨rfl, hw2⟩
  have H2 : Hid (IsP w2 o x P (pz 0) none 0 0 none 0 0 ∧ Fr (TX x) o o w w2) := Lib.hid (by rw [hw2]; exact H.out)
  clear hw2 TH H
  go_wp2_with fail
  go_ret
  exact ⟨rfl, H2.out⟩
end Go.Proofs.YtedbklipbfbmoaaDoor
