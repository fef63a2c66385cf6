/-
  CALLS THAT CAME IN; their data.
-/
import Derived.Test.YtbflcnghpkmcoaaOldW
namespace Go.Proofs.Ytbflcnghpkmcoaa
open Go.RowKit

structure AskD where
  K : Int
  Z : Int
  Y : ByteArray
  D : ByteArray
  T : Bool
/-- A call's cells lie at an address. -/
def AskAt (w : World) (p b : Nat) (q : AskD) : Prop := w.cell? ⟨p, b, none⟩ = some (.int .i64 q.K) ∧ w.cell? ⟨p, b + 1, none⟩ = some (.int .i64 q.Z) ∧ w.cell? ⟨p, b + 2, none⟩ = some (.string q.Y) ∧ w.cell? ⟨p, b + 3, none⟩ = some (.string q.D) ∧ w.cell? ⟨p, b + 4, none⟩ = some (.bool q.T)
/-- n calls lie at a. -/
def AskF (w : World) (a : Option Addr) (q : Nat → AskD) (n : Nat) : Prop := n = 0 ∨ ∃ p off, a = some ⟨p, off, none⟩ ∧ ∀ i, i < n → AskAt w p (off + i * 5) (q i)
theorem AskAt.below {w w' : World} {p b : Nat} {q : AskD} (h : AskAt w p b q) (hb : Below w.heap.size w w') : AskAt w' p b q := ⟨cell_up hb h.1, cell_up hb h.2.1, cell_up hb h.2.2.1, cell_up hb h.2.2.2.1, cell_up hb h.2.2.2.2⟩
theorem AskF.below {w w' : World} {a : Option Addr} {q : Nat → AskD} {n : Nat} (h : AskF w a q n) (hb : Below w.heap.size w w') : AskF w' a q n := by
  rcases h with h | ⟨p, off, e, h⟩
  · exact .inl h
  · exact .inr ⟨p, off, e, fun i hi => (h i hi).below hb⟩
theorem AskF.at_ {w : World} {a : Option Addr} {q : Nat → AskD} {n : Nat} (h : AskF w a q n) {i : Nat} (hi : i < n) : ∃ p off, a = some ⟨p, off, none⟩ ∧ AskAt w p (off + i * 5) (q i) := by
  rcases h with h | ⟨p, off, e, h⟩
  · omega
  · exact ⟨p, off, e, h i hi⟩
/-- A call's data. -/
def dt (q : AskD) : ByteArray := (if 100 < q.D.size then q.D.extract 0 100 else q.D) ++ zs (wi q.Z 0 300).toNat
theorem dt_size (q : AskD) : (dt q).size ≤ 400 := by
  obtain ⟨h1, h2⟩ := wi_bd q.Z 0 300 (by omega)
  unfold dt
  rw [ba_size, zs_size]
  split
  · rw [ByteArray.size_extract]; omega
  · omega
set_option maxRecDepth 100000 in
set_option maxHeartbeats 1000000 in
theorem dat_any (q : AskD) (w : World) : Calls Try.prog 16 #[.agg #[.int .i64 q.K, .int .i64 q.Z, .string q.Y, .string q.D, .bool q.T]] w fun e w' => e = .returned (.string (dt q)) ∧ Below w.heap.size w w' := by
  obtain ⟨K, Z, Y, D, T⟩ := q
  obtain ⟨h1, h2⟩ := wi_bd Z 0 300 (by omega)
  obtain ⟨n, hn⟩ : ∃ n : Nat, wi Z 0 300 = (n : Int) := ⟨(wi Z 0 300).toNat, by omega⟩
  have hdt : dt ⟨K, Z, Y, D, T⟩ = (if 100 < D.size then D.extract 0 100 else D) ++ zs n := by unfold dt; simp only; rw [hn]; rfl
  have HD : Hid (dt ⟨K, Z, Y, D, T⟩ = (if 100 < D.size then D.extract 0 100 else D) ++ zs n) := hdt
  have HN : Hid (wi Z 0 300 = (n : Int)) := hn
  have hn3 : n ≤ 300 := by omega
  clear hdt hn h1 h2
  obtain ⟨w1, hw1⟩ : ∃ w1, w1 = w.alloc (.cells #[.int .i64 K, .int .i64 Z, .string Y, .string D, .bool T] 42) := ⟨_, rfl⟩
  have HB : Hid (Below w.heap.size w w1) := by rw [hw1]; exact (Below.refl _ _).alloc (Nat.le_refl _) _
  obtain ⟨w2, m1, m2, B2⟩ := make_zs w1 n (n : Int) rfl (by omega)
  have HB2 : Hid (Below w.heap.size w w2) := HB.out.trans (B2.mono HB.out.size)
  have hzz : (zs n).size ≤ 300 := by rw [zs_size]; exact hn3
  have hex : (D.extract 0 100).size ≤ 100 := by rw [ByteArray.size_extract]; omega
  clear B2
  by_cases hs : 100 < D.size
  · have hi1 : (100 : Int) < (D.size : Int) := by omega
    have HE : Hid ((if 100 < D.size then D.extract 0 100 else D) = D.extract 0 100) := if_pos hs
    go_enter Try.func16, Try.ntmps16
    go_wp2_with fail
    refine (within_any Z 0 300 (by omega) (by omega) (by omega) _).mono ?_
    rintro e w3 ⟨rfl, rfl⟩
    rw [← hw1, HN.out]
    clear hw1
    go_wp2_with fail
    go_ret
    exact ⟨by rw [HD.out, HE.out]; rfl, HB2.out⟩
  · have hi1 : decide ((100 : Int) < (D.size : Int)) = false := by simp; omega
    have HE : Hid ((if 100 < D.size then D.extract 0 100 else D) = D) := if_neg hs
    go_enter Try.func16, Try.ntmps16
    go_wp2_with fail
    refine (within_any Z 0 300 (by omega) (by omega) (by omega) _).mono ?_
    rintro e w3 ⟨rfl, rfl⟩
    rw [← hw1, HN.out]
    clear hw1
    go_wp2_with fail
    go_ret
    exact ⟨by rw [HD.out, HE.out]; rfl, HB2.out⟩
end Go.Proofs.Ytbflcnghpkmcoaa
