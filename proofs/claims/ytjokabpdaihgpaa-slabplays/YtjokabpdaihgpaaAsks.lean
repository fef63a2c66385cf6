/-
  CALLS THAT CAME IN: their cells; the data of one.
-/
import Derived.Test.YtjokabpdaihgpaaRuns
namespace Go.Proofs.Ytjokabpdaihgpaa
open Go.RowKit

/-- What Within brings a number to. -/
def wi (n L H : Int) : Int := if n.tmod (H - L + 1) < 0 then L + (n.tmod (H - L + 1) + (H - L) + 1) else L + n.tmod (H - L + 1)
theorem wi_bd (n L H : Int) (h : L ≤ H) : L ≤ wi n L H ∧ wi n L H ≤ H := by
  obtain ⟨d, hd⟩ : ∃ d : Nat, H - L = (d : Int) := ⟨(H - L).toNat, by omega⟩
  have := tmod_bd n d
  unfold wi
  rw [hd]
  split <;> omega
set_option maxHeartbeats 400000 in
theorem within_f (n L H : Int) (hL : -1000 ≤ L) (hLH : L ≤ H) (hH : H ≤ 100000000) (w : World) :
    Calls Try.prog 16 #[.int .i64 n, .int .i64 L, .int .i64 H] w fun e w' => e = .returned (.int .i64 (wi n L H)) ∧ w = w' := by
  obtain ⟨r, hr⟩ : ∃ r, r = wi n L H := ⟨_, rfl⟩
  rw [← hr]
  have HR : Hid (r = wi n L H) := hr
  clear hr
  obtain ⟨d, hd⟩ : ∃ d : Nat, H - L = (d : Int) := ⟨(H - L).toNat, by omega⟩
  have hHL : H = L + (d : Int) := by omega
  subst hHL
  clear hd
  obtain ⟨q1, q2⟩ := tmod_bd n d
  obtain ⟨q, hq⟩ : ∃ q, n.tmod ((d : Int) + 1) = q := ⟨_, rfl⟩
  have e1 : L + (d : Int) - L + 1 = (d : Int) + 1 := by omega
  have HQ : Hid (n.tmod (L + (d : Int) - L + 1) = q) := by rw [e1]; exact hq
  rw [hq] at q1 q2
  have hne : ((d : Int) + 1 == 0) = false := by simp; omega
  have hne2 : ¬ ((d : Int) + 1 = -1) := by omega
  have hne3 : ¬ ((d : Int) + 1 = 0) := by omega
  by_cases q0 : q < 0
  · go_enter Try.func16, Try.ntmps16
    go_wp2
    go_ret
    refine ⟨ret_int ?_, rfl⟩
    rw [HR.out]; unfold wi; rw [HQ.out, if_pos q0]; omega
  · go_enter Try.func16, Try.ntmps16
    go_wp2
    go_ret
    refine ⟨ret_int ?_, rfl⟩
    rw [HR.out]; unfold wi; rw [HQ.out, if_neg (by omega)]
/-- An ask's data. -/
def dt (D : ByteArray) (Z : Int) : ByteArray := if D.size ≠ 0 ∧ D.size < 500 then D else zs (wi Z 0 5000).toNat
theorem dt_size (D : ByteArray) (Z : Int) : (dt D Z).size ≤ 5000 := by
  unfold dt
  split
  · omega
  · rw [zs_size]; have := wi_bd Z 0 5000 (by omega); omega
theorem str_ne {D : ByteArray} (h : D.size ≠ 0) : D.toList.isEmpty = false := by
  rw [ByteArray.toList_eq]
  have h1 : D.data.toList.length = D.size := Array.length_toList
  cases e : D.data.toList with
  | nil => rw [e] at h1; exact absurd h1.symm h
  | cons a l => rfl
theorem str_size0 : (⟨#[]⟩ : ByteArray).size = 0 := rfl
theorem str_nil {D : ByteArray} (h : D.size = 0) : D = ⟨#[]⟩ := ByteArray.ext (Array.eq_empty_of_size_eq_zero h)
set_option maxHeartbeats 1000000 in
set_option maxRecDepth 100000 in
theorem data_any (K N Z C H : Int) (D : ByteArray) (T : Bool) (w : World) :
    Calls Try.prog 17 #[.agg #[.int .i64 K, .int .i64 N, .int .i64 Z, .string D, .int .i64 C, .int .i64 H, .bool T]] w fun e w' => e = .returned (.string (dt D Z)) ∧ Below w.heap.size w w' := by
  have B0 : Hid (∀ ob, Below w.heap.size w (w.alloc ob)) := fun ob => (Below.refl _ _).alloc (Nat.le_refl _) _
  by_cases h : D.size ≠ 0 ∧ D.size < 500
  · have HD : Hid (dt D Z = D) := by show _ = _; unfold dt; rw [if_pos h]
    have j1 : D.toList.isEmpty = false := str_ne h.1
    have j2 : ((D.size : Nat) : Int) < 500 := by omega
    clear h
    go_enter Try.func17, Try.ntmps17
    go_wp2_with fail
    go_ret
    exact ⟨by rw [HD.out]; rfl, B0.out _⟩
  · have HD : Hid (dt D Z = zs (wi Z 0 5000).toNat) := by show _ = _; unfold dt; rw [if_neg h]
    by_cases h0 : D.size = 0
    · obtain rfl := str_nil h0
      go_enter Try.func17, Try.ntmps17
      go_wp2_with fail
      refine (within_f Z 0 5000 (by omega) (by omega) (by omega) _).mono ?_
      rintro e w2 ⟨rfl, rfl⟩
      have hb := wi_bd Z 0 5000 (by omega)
      obtain ⟨r, hr⟩ : ∃ r : Nat, wi Z 0 5000 = (r : Int) := ⟨(wi Z 0 5000).toNat, by omega⟩
      rw [hr, Int.toNat_natCast] at HD
      rw [hr]
      obtain ⟨Y, hY⟩ : ∃ Y, Y = w.alloc (.cells #[.int .i64 K, .int .i64 N, .int .i64 Z, .string ⟨#[]⟩, .int .i64 C, .int .i64 H, .bool T] 45) := ⟨_, rfl⟩
      have BY : Hid (Below w.heap.size w Y) := by rw [hY]; exact B0.out _
      rw [← hY]
      obtain ⟨w3, hmk, hcv, B3⟩ := make_zs Y r r rfl (by omega)
      clear hb hr hY
      go_wp2_with fail
      go_ret
      exact ⟨by rw [HD.out]; rfl, BY.out.trans (B3.mono BY.out.size)⟩
    · have j1 : D.toList.isEmpty = false := str_ne h0
      have j2 : decide (((D.size : Nat) : Int) < 500) = false := by simp; omega
      clear h
      go_enter Try.func17, Try.ntmps17
      go_wp2_with fail
      refine (within_f Z 0 5000 (by omega) (by omega) (by omega) _).mono ?_
      rintro e w2 ⟨rfl, rfl⟩
      have hb := wi_bd Z 0 5000 (by omega)
      obtain ⟨r, hr⟩ : ∃ r : Nat, wi Z 0 5000 = (r : Int) := ⟨(wi Z 0 5000).toNat, by omega⟩
      rw [hr, Int.toNat_natCast] at HD
      rw [hr]
      obtain ⟨Y, hY⟩ : ∃ Y, Y = w.alloc (.cells #[.int .i64 K, .int .i64 N, .int .i64 Z, .string D, .int .i64 C, .int .i64 H, .bool T] 45) := ⟨_, rfl⟩
      have BY : Hid (Below w.heap.size w Y) := by rw [hY]; exact B0.out _
      rw [← hY]
      obtain ⟨w3, hmk, hcv, B3⟩ := make_zs Y r r rfl (by omega)
      clear hb hr hY
      go_wp2_with fail
      go_ret
      exact ⟨by rw [HD.out]; rfl, BY.out.trans (B3.mono BY.out.size)⟩
/-- An ask: kind, number, size, data, class, chunk, told. -/
structure AskD where
  K : Int
  N : Int
  Z : Int
  D : ByteArray
  C : Int
  H : Int
  T : Bool
def AskD.dat (q : AskD) : ByteArray := dt q.D q.Z
/-- An ask lies at a place. -/
def AskAt (w : World) (p o : Nat) (q : AskD) : Prop := w.cell? ⟨p, o, none⟩ = some (.int .i64 q.K) ∧ w.cell? ⟨p, o + 1, none⟩ = some (.int .i64 q.N) ∧ w.cell? ⟨p, o + 2, none⟩ = some (.int .i64 q.Z) ∧ w.cell? ⟨p, o + 3, none⟩ = some (.string q.D) ∧ w.cell? ⟨p, o + 4, none⟩ = some (.int .i64 q.C) ∧ w.cell? ⟨p, o + 5, none⟩ = some (.int .i64 q.H) ∧ w.cell? ⟨p, o + 6, none⟩ = some (.bool q.T)
theorem AskAt.up {w w' : World} {p o : Nat} {q : AskD} (h : AskAt w p o q) (hb : Below w.heap.size w w') : AskAt w' p o q :=
  ⟨cell_up hb h.1, cell_up hb h.2.1, cell_up hb h.2.2.1, cell_up hb h.2.2.2.1, cell_up hb h.2.2.2.2.1, cell_up hb h.2.2.2.2.2.1, cell_up hb h.2.2.2.2.2.2⟩
/-- n asks lie at a. -/
def AskF (w : World) (a : Option Addr) (q : Nat → AskD) (n : Nat) : Prop :=
  n = 0 ∨ ∃ p off, a = some ⟨p, off, none⟩ ∧ ∀ i, i < n → AskAt w p (off + i * 7) (q i)
theorem AskF.there {w w' : World} {a : Option Addr} {q : Nat → AskD} {n i : Nat} (h : AskF w a q n) (hi : i < n) (hb : Below w.heap.size w w') : ∃ p off, a = some ⟨p, off, none⟩ ∧ AskAt w' p (off + i * 7) (q i) := by
  rcases h with h | ⟨p, off, e, hr⟩
  · omega
  · exact ⟨p, off, e, (hr i hi).up hb⟩
end Go.Proofs.Ytjokabpdaihgpaa
