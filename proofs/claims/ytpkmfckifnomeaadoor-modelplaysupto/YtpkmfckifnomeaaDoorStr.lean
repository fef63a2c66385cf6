/-
  STRINGS BY THEIR BYTES.
-/
import Derived.Test.YtpkmfckifnomeaaDoorRows
import Derived.WalkKit
import Derived.WalkSpells
import Derived.WalkLawsBesides
import Derived.Deep.WholeRow
import Derived.Laws.CopyOwn
import Derived.Deep.QuietTactic
import Derived.BigQuiet
import Derived.OpenShut
import Derived.Laws.BytesArg
import Derived.Deep.Upon
import Derived.Lib.Hide
namespace Go.Proofs.YtpkmfckifnomeaaDoor
open Go.RowKit

abbrev B := List UInt8
theorem under9 : Tryd.prog.underlying 9 = some .string := by kernel_rfl
theorem under5 : Tryd.prog.underlying 5 = some (.int .u8) := by kernel_rfl
theorem size_len (s : ByteArray) : s.data.toList.length = s.size := Array.length_toList
/-- A string's bytes. -/
def L (s : ByteArray) : B := s.data.toList
theorem L_len (s : ByteArray) : (L s).length = s.size := Array.length_toList
/-- A string of these bytes. -/
def S (l : B) : ByteArray := ⟨l.toArray⟩
theorem L_S (l : B) : L (S l) = l := rfl
theorem S_L (s : ByteArray) : S (L s) = s := rfl
theorem S_inj {a b : B} (h : S a = S b) : a = b := congrArg L h
theorem L_inj {a b : ByteArray} (h : L a = L b) : a = b := congrArg S h
theorem S_size (l : B) : (S l).size = l.length := by unfold S ByteArray.size; simp
theorem str_beq (a b : ByteArray) : (a.toList == b.toList) = decide (a = b) := by
  by_cases h : a = b
  · subst h; simp
  · rw [decide_eq_false h]
    exact beq_eq_false_iff_ne.2 (fun e => h (by
      rw [ByteArray.toList_eq, ByteArray.toList_eq] at e
      exact ByteArray.ext (Array.toList_inj.1 e)))
theorem L_extract (s : ByteArray) (i j : Nat) : L (s.extract i j) = ((L s).take j).drop i := by
  unfold L
  rw [ByteArray.data_extract, Array.toList_extract, List.extract_eq_take_drop, List.drop_take]
theorem L_append (a b : ByteArray) : L (a ++ b) = L a ++ L b := by
  unfold L
  rw [ByteArray.data_append, Array.toList_append]
theorem S_append (a b : B) : S a ++ S b = S (a ++ b) := L_inj (by rw [L_append, L_S, L_S, L_S])
/-- Digits, one by one. -/
def ng (most : Nat) : Nat → B → Option Nat
  | n, [] => some n
  | n, c :: r => if 48 ≤ c.toNat ∧ c.toNat ≤ 57 ∧ n * 10 + (c.toNat - 48) ≤ most then ng most (n * 10 + (c.toNat - 48)) r else none
/-- The number that a text tells. -/
def num (most : Nat) (s : B) : Option Nat := if 1 ≤ s.length ∧ s.length ≤ 20 then ng most 0 s else none
theorem ng_le {most : Nat} : ∀ {s : B} {n v : Nat}, n ≤ most → ng most n s = some v → v ≤ most
  | [], n, v, h, e => by simp [ng] at e; omega
  | c :: s, n, v, h, e => by
    rw [ng] at e
    split at e
    · rename_i hc; exact ng_le hc.2.2 e
    · cases e
theorem num_le {most : Nat} {s : B} {v : Nat} (e : num most s = some v) : v ≤ most := by
  unfold num at e
  split at e
  · exact ng_le (Nat.zero_le _) e
  · cases e
def nv (most : Nat) (s : B) : Nat := (num most s).getD 0
def nb (most : Nat) (s : B) : Bool := (num most s).isSome
theorem nv_le (most : Nat) (s : B) : nv most s ≤ most := by
  unfold nv
  cases e : num most s with
  | none => simp
  | some v => simpa using num_le e
theorem str_at {s : ByteArray} {q : Nat} {c : UInt8} (h : (L s)[q]? = some c) (w : World) : (Instr.index 9 (.string s) (.int .i64 (q : Int))).run Tryd.prog w = .ok (.int .u8 ((c.toNat : Nat) : Int)) w := by
  obtain ⟨h1, h2⟩ := List.getElem?_eq_some_iff.1 h
  have hq : q < s.size := by rw [← size_len]; exact h1
  rw [run_index_string w 9 s .i64 (q : Int) under9, dif_pos ⟨by omega, by omega⟩]
  have e : (s[((q : Int)).toNat]'(by omega)).toNat = c.toNat := by
    rw [← h2]
    simp only [Int.toNat_natCast]
    rfl
  rw [e]
theorem ng_stop {most n : Nat} {c : UInt8} {r : B} (h : ¬ (48 ≤ c.toNat ∧ c.toNat ≤ 57 ∧ n * 10 + (c.toNat - 48) ≤ most)) : ng most n (c :: r) = none := by rw [ng, if_neg h]
theorem num_none {most : Nat} {s : B} (h : num most s = none) : nv most s = 0 ∧ nb most s = false := by simp [nv, nb, h]
theorem num_some {most v : Nat} {s : B} (h : num most s = some v) : nv most s = v ∧ nb most s = true := by simp [nv, nb, h]
set_option maxHeartbeats 1000000 in
theorem number_any (s : ByteArray) (most : Nat) (hm : most < 18446744073709551616) (w : World) :
    Calls Tryd.prog 56 #[.string s, .int .u64 (most : Int)] w fun e w' => e = .returned (.tuple #[.int .u64 (nv most (L s) : Int), .bool (nb most (L s))]) ∧ w = w' := by
  have hl := L_len s
  by_cases hlen : 1 ≤ s.size ∧ s.size ≤ 20
  · have hn : num most (L s) = ng most 0 (L s) := if_pos (by rw [hl]; exact hlen)
    have HN := Lib.hid hn
    clear hn
    have h1 : decide ((s.size : Int) < 1) = false := by simp; omega
    have h2 : decide ((20 : Int) < (s.size : Int)) = false := by simp; omega
    obtain ⟨m, hme⟩ : ∃ m : Int, m = (most : Int) := ⟨_, rfl⟩
    rw [← hme]
    have HM := Lib.hid hme
    have m0 : 0 ≤ m := by omega
    have m1 : m < 18446744073709551616 := by omega
    clear hme hm
    have HL := Lib.hid hl
    clear hl
    go_enter Tryd.func56, Tryd.ntmps56
    go_wp2_with fail
    go_loopw [6, 19] (fun h i wr => ∃ j n : Nat, ∃ a : Int, j ≤ s.size ∧ i = .int .i64 (j : Int) ∧ h = .int .u64 a ∧ Hid (a = (n : Int) ∧ n ≤ most ∧ ng most 0 (L s) = ng most n ((L s).drop j)) ∧ w = wr) (fun _ i _ => s.size - (intOf i).toNat)
    case atStart => exact ⟨0, 0, 0, by omega, rfl, rfl, Lib.hid ⟨rfl, Nat.zero_le _, rfl⟩, rfl⟩
    case round =>
      obtain ⟨j, n, a, hj, rfl, rfl, HR, rfl⟩ := hrel
      by_cases hlt : j < s.size
      · have hi1 : (j : Int) < (s.size : Int) := by omega
        obtain ⟨c, hc⟩ : ∃ c, (L s)[j]? = some c := ⟨_, List.getElem?_eq_getElem (by rw [L_len]; exact hlt)⟩
        have ix := str_at hc
        have hd : (L s).drop j = c :: (L s).drop (j + 1) := by
          obtain ⟨h1, h2⟩ := List.getElem?_eq_some_iff.1 hc
          rw [← h2]; exact List.drop_eq_getElem_cons h1
        have HD := Lib.hid hd
        clear hd hc
        have ht := c.toNat_lt
        obtain ⟨x, hx⟩ : ∃ x : Int, x = ((c.toNat : Nat) : Int) := ⟨_, rfl⟩
        rw [← hx] at ix
        have x0 : 0 ≤ x := by omega
        have x1 : x < 256 := by omega
        have HX := Lib.hid hx
        clear hx ht
        have HST : Hid (¬ (48 ≤ c.toNat ∧ c.toNat ≤ 57 ∧ n * 10 + (c.toNat - 48) ≤ most) → nv most (L s) = 0 ∧ nb most (L s) = false) := Lib.hid (fun hh => num_none (by rw [HN.out, HR.out.2.2, HD.out]; exact ng_stop hh))
        by_cases c1 : x < 48
        · go_wp2_with fail
          obtain ⟨e1, e2⟩ := HST.out (by have := HX.out; omega)
          exact bodyPost_ret (v := .tuple #[.int .u64 0, .bool false]) (by simp [results, Tryd.results56, go_sem]) rfl ⟨by rw [e1, e2]; rfl, rfl⟩
        have c1' : decide (x < 48) = false := by simp; omega
        by_cases c2 : 57 < x
        · go_wp2_with fail
          obtain ⟨e1, e2⟩ := HST.out (by have := HX.out; omega)
          exact bodyPost_ret (v := .tuple #[.int .u64 0, .bool false]) (by simp [results, Tryd.results56, go_sem]) rfl ⟨by rw [e1, e2]; rfl, rfl⟩
        have c2' : decide (57 < x) = false := by simp; omega
        have g1 : 48 ≤ x := by omega
        have g2 : x ≤ 57 := by omega
        clear c1 c2
        obtain ⟨d, hdd⟩ : ∃ d : Int, x - 48 = d := ⟨_, rfl⟩
        have d0 : 0 ≤ d := by omega
        have d1 : d ≤ 9 := by omega
        have e1 : IntKind.u8.wrap (x - 48) = d := by rw [hdd]; simp [IntKind.wrap, IntKind.bits, IntKind.signed]; omega
        have e2 : IntKind.u64.wrap d = d := by simp [IntKind.wrap, IntKind.bits, IntKind.signed]; omega
        have HDD := Lib.hid hdd
        clear hdd
        clear g1 g2
        by_cases c3 : m < d
        · have c3' : decide (m < d) = true := by simp; omega
          go_wp2_with fail
          obtain ⟨e1, e2⟩ := HST.out (by have := HX.out; have := HDD.out; have := HM.out; omega)
          exact bodyPost_ret (v := .tuple #[.int .u64 0, .bool false]) (by simp [results, Tryd.results56, go_sem]) rfl ⟨by rw [e1, e2]; rfl, rfl⟩
        · have c3' : decide (m < d) = false := by simp; omega
          by_cases c4 : (m - d) / 10 < a
          · go_wp2_with fail
            obtain ⟨e1, e2⟩ := HST.out (by have := HX.out; have := HDD.out; have := HM.out; have := HR.out.1; omega)
            exact bodyPost_ret (v := .tuple #[.int .u64 0, .bool false]) (by simp [results, Tryd.results56, go_sem]) rfl ⟨by rw [e1, e2]; rfl, rfl⟩
          · have c4' : decide ((m - d) / 10 < a) = false := by simp; omega
            have a0 : 0 ≤ a := by have := HR.out.1; omega
            have e3 : IntKind.u64.wrap (a * 10) = a * 10 := by simp [IntKind.wrap, IntKind.bits, IntKind.signed]; omega
            have e4 : IntKind.u64.wrap (a * 10 + d) = a * 10 + d := by simp [IntKind.wrap, IntKind.bits, IntKind.signed]; omega
            go_wp2_with fail
            refine ⟨⟨j + 1, n * 10 + (c.toNat - 48), a * 10 + d, by omega, by go_num, rfl, Lib.hid ⟨?_, ?_, ?_⟩, trivial⟩, by simp [intOf]; omega⟩
            · have := HX.out; have := HDD.out; have := HR.out.1; omega
            · have := HX.out; have := HDD.out; have := HM.out; have := HR.out.1; omega
            · rw [HR.out.2.2, HD.out, ng, if_pos]
              have := HX.out; have := HDD.out; have := HM.out; have := HR.out.1; omega
      · have hi1 : decide ((j : Int) < (s.size : Int)) = false := by simp; omega
        go_wp2_with fail
        obtain ⟨e1, e2⟩ := num_some (v := n) (by rw [HN.out, HR.out.2.2, List.drop_eq_nil_of_le (by rw [L_len]; omega)]; rfl)
        exact bodyPost_ret (v := .tuple #[.int .u64 a, .bool true]) (by simp [results, Tryd.results56, go_sem]) rfl ⟨by rw [e1, e2, HR.out.1], rfl⟩
  · obtain ⟨e1, e2⟩ := num_none (most := most) (s := L s) (if_neg (by rw [hl]; exact hlen))
    rw [e1, e2]
    clear e1 e2 hl
    by_cases h1 : s.size < 1
    · have h1' : (s.size : Int) < 1 := by omega
      go_enter Tryd.func56, Tryd.ntmps56
      go_wp2_with fail
      exact bodyPost_ret (v := .tuple #[.int .u64 0, .bool false]) (by simp [results, Tryd.results56, go_sem]) rfl ⟨rfl, rfl⟩
    · have h1' : decide ((s.size : Int) < 1) = false := by simp; omega
      have h2 : (20 : Int) < (s.size : Int) := by omega
      go_enter Tryd.func56, Tryd.ntmps56
      go_wp2_with fail
      exact bodyPost_ret (v := .tuple #[.int .u64 0, .bool false]) (by simp [results, Tryd.results56, go_sem]) rfl ⟨rfl, rfl⟩
end Go.Proofs.YtpkmfckifnomeaaDoor
