/-
  DIGITS of the reference.
-/
import Derived.Test.YtpkmfckifnomeaaDoorEnt
namespace Go.Proofs.YtpkmfckifnomeaaDoor
open Go.RowKit
open Go.Lib (TabIs pow10Tab OthersKept)

/-- What is left of the number u0: u, and the digits behind it. -/
def Dw (u0 u : Nat) (s : ByteArray) : Prop := (s.size = 0 ∧ u = u0) ∨ (s.size ≠ 0 ∧ Lib.decDigits u0 = if u = 0 then L s else Lib.decDigits u ++ L s)
theorem Dw.size {u0 u : Nat} {s : ByteArray} (h : Dw u0 u s) (hu : u0 < 18446744073709551616) : s.size ≤ 20 := by
  rcases h with ⟨h, _⟩ | ⟨_, h⟩
  · omega
  · have h1 := (dec_len hu).2
    have h2 := L_len s
    rw [h] at h1
    split at h1
    · omega
    · rw [List.length_append] at h1; omega
theorem dg1 (u : Nat) : ((UInt8.ofNat (48 + u % 10)).toNat : Int) = 48 + (u : Int) % 10 := by
  rw [UInt8.toNat_ofNat']; omega
theorem Dw.step {u0 u : Nat} {s : ByteArray} (h : Dw u0 u s) (hg : 0 < u ∨ s.size = 0) : Dw u0 (u / 10) (S [UInt8.ofNat (48 + u % 10)] ++ s) := by
  refine .inr ⟨by rw [ByteArray.size_append, S_size]; simp, ?_⟩
  have e : Lib.decDigits u0 = Lib.decDigits u ++ L s := by
    rcases h with ⟨h1, rfl⟩ | ⟨h1, h2⟩
    · rw [show L s = [] from List.eq_nil_of_length_eq_zero (by rw [L_len]; exact h1), List.append_nil]
    · rw [if_neg (by omega)] at h2; exact h2
  rw [L_append, L_S, e]
  by_cases hu : u < 10
  · rw [if_pos (by omega), Lib.decDigits, dif_pos hu, Nat.mod_eq_of_lt hu]
  · rw [if_neg (by omega)]
    rw [Lib.decDigits, dif_neg hu, List.append_assoc]
theorem Dw.fin {u0 : Nat} {s : ByteArray} (h : Dw u0 0 s) (hs : s.size ≠ 0) : S (Lib.decDigits u0) = s := by
  rcases h with ⟨h1, _⟩ | ⟨_, h2⟩
  · exact absurd h1 hs
  · rw [if_pos rfl] at h2; rw [h2, S_L]
theorem nil_list : (⟨#[]⟩ : ByteArray).toList = [] := by rw [ByteArray.toList_eq]
def em : Value → Nat
  | .string s => if s.size = 0 then 1 else 0
  | _ => 0
/-- One byte as a text. -/
theorem conv_one (w : World) (u : Nat) : (convert 106 9 (.slice (some ⟨w.heap.size, 0, none⟩) 1 1)).run Tryd.prog (w.alloc (.cells #[.int .u8 (48 + (u : Int) % 10)] 5)) = .ok (.string (S [UInt8.ofNat (48 + u % 10)])) (w.alloc (.cells #[.int .u8 (48 + (u : Int) % 10)] 5)) := by
  have h := run_convert_bytes_back (P := Tryd.prog) (w.alloc (.cells #[.int .u8 (48 + (u : Int) % 10)] 5)) 106 9 5 ⟨w.heap.size, 0, none⟩ 1 [UInt8.ofNat (48 + u % 10)] Tryd.underlying106 Tryd.underlying5 Tryd.underlying9 (fun j hj => by
    obtain rfl : j = 0 := by simpa using hj
    show (w.alloc _).cell? ⟨w.heap.size, 0, none⟩ = _
    rw [World.cell?_alloc_new]
    show some (Value.int .u8 (48 + (u : Int) % 10)) = some (.int .u8 ((UInt8.ofNat (48 + u % 10)).toNat : Int))
    rw [dg1])
  exact h
set_option maxRecDepth 100000 in
set_option maxHeartbeats 1000000 in
theorem rdigits_any (u0 : Nat) (hu : u0 < 18446744073709551616) (w : World) :
    Calls Tryd.prog 58 #[.int .u64 (u0 : Int)] w fun e w' => e = .returned (.string (S (Lib.decDigits u0))) ∧ Below w.heap.size w w' := by
  have HU := Lib.hid hu
  go_enter Tryd.func58, Tryd.ntmps58
  go_wp2_with fail
  go_loopw [0, 3] (fun uv sv wr => ∃ (u : Nat) (s : ByteArray), uv = .int .u64 (u : Int) ∧ sv = .string s ∧ u < 18446744073709551616 ∧ Hid (Dw u0 u s) ∧ Hid (Below w.heap.size w wr)) (fun uv sv _ => (intOf uv).toNat * 2 + em sv)
  case atStart => exact ⟨u0, ⟨#[]⟩, rfl, rfl, hu, Lib.hid (.inl ⟨rfl, rfl⟩), Lib.hid (Below.refl _ _)⟩
  case round =>
    obtain ⟨u, s, rfl, rfl, hu64, HD, HB⟩ := hrel
    have zs : s.size ≤ 20 := HD.out.size HU.out
    have cv := conv_one wr u
    obtain ⟨d, hd⟩ : ∃ d, S [UInt8.ofNat (48 + u % 10)] = d := ⟨_, rfl⟩
    have zd : d.size = 1 := by rw [← hd, S_size]; rfl
    rw [hd] at cv
    obtain ⟨s', hs'⟩ : ∃ s', d ++ s = s' := ⟨_, rfl⟩
    have zs' : em (.string s') = 0 := by
      show (if s'.size = 0 then 1 else 0) = 0
      rw [← hs', ByteArray.size_append, if_neg (by omega)]
    have HST : Hid (0 < u ∨ s.size = 0 → Dw u0 (u / 10) s') := Lib.hid (fun h => by rw [← hs', ← hd]; exact HD.out.step h)
    clear hd
    by_cases h0 : 0 < u
    · have g0 : decide ((0 : Int) < (u : Int)) = true := decide_eq_true (by omega)
      go_wp2_with fail
      exact ⟨⟨u / 10, s', by go_num, rfl, by omega, Lib.hid (HST.out (.inl h0)), Lib.hid (HB.out.trans ((below_alloc _ _).mono HB.out.size))⟩, by simp [intOf, zs']; omega⟩
    · have g0 : decide ((0 : Int) < (u : Int)) = false := decide_eq_false (by omega)
      by_cases h1 : s.size = 0
      · have g1 : (s.toList == []) = true := by
          rw [show s = ⟨#[]⟩ from L_inj (List.eq_nil_of_length_eq_zero (by rw [L_len]; exact h1)), nil_list]; rfl
        go_wp2_with fail
        exact ⟨⟨u / 10, s', by go_num, rfl, by omega, Lib.hid (HST.out (.inr h1)), Lib.hid (HB.out.trans ((below_alloc _ _).mono HB.out.size))⟩, by
          have : em (.string s) = 1 := if_pos h1
          simp [intOf, zs', this]; omega⟩
      · have g1 : (s.toList == []) = false := by
          have := str_beq s ⟨#[]⟩
          rw [decide_eq_false (fun e => h1 (by rw [e]; rfl)), nil_list] at this
          exact this
        obtain rfl : u = 0 := by omega
        have HFN := Lib.hid (HD.out.fin h1)
        go_wp2_with fail
        rw [HFN.out]
        go_ret
        exact ⟨rfl, HB.out⟩
end Go.Proofs.YtpkmfckifnomeaaDoor
