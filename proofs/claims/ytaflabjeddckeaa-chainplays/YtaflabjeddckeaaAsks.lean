/-
  CALLS THAT CAME IN; one told to a chain.
-/
import Derived.Test.YtaflabjeddckeaaGrows
namespace Go.Proofs.Ytaflabjeddckeaa
open Go.RowKit

structure AskD where
  K : Int
  N : Int
  S : ByteArray
/-- n calls lie at a. -/
def AskF (w : World) (a : Option Addr) (q : Nat → AskD) (n : Nat) : Prop :=
  n = 0 ∨ ∃ p off, a = some ⟨p, off, none⟩ ∧ ∀ i, i < n → w.cell? ⟨p, off + i * 3, none⟩ = some (.int .i64 (q i).K) ∧ w.cell? ⟨p, off + i * 3 + 1, none⟩ = some (.int .i64 (q i).N) ∧ w.cell? ⟨p, off + i * 3 + 2, none⟩ = some (.string (q i).S)
theorem AskF.below {w w' : World} {a : Option Addr} {q : Nat → AskD} {n : Nat} (h : AskF w a q n) (hb : Below w.heap.size w w') : AskF w' a q n := by
  rcases h with h | ⟨p, off, e, h⟩
  · exact .inl h
  · exact .inr ⟨p, off, e, fun i hi => ⟨cell_up hb (h i hi).1, cell_up hb (h i hi).2.1, cell_up hb (h i hi).2.2⟩⟩
theorem AskF.at_ {w : World} {a : Option Addr} {q : Nat → AskD} {n : Nat} (h : AskF w a q n) {i : Nat} (hi : i < n) : ∃ p off, a = some ⟨p, off, none⟩ ∧ w.cell? ⟨p, off + i * 3, none⟩ = some (.int .i64 (q i).K) ∧ w.cell? ⟨p, off + i * 3 + 1, none⟩ = some (.int .i64 (q i).N) ∧ w.cell? ⟨p, off + i * 3 + 2, none⟩ = some (.string (q i).S) := by
  rcases h with h | ⟨p, off, e, h⟩
  · omega
  · exact ⟨p, off, e, h i hi⟩
/-- A call told. -/
def A.tell (a : A) (q : AskD) : A := if q.K = 1 then a.put (shr q.S) q.N else if q.K = 3 then a.drop (shr q.S) else a
def A.ansN (a : A) (q : AskD) : Int := if q.K = 2 then (a.F (shr q.S)).getD 0 else 0
def A.ansB (a : A) (q : AskD) : Bool := if q.K = 1 then !(a.F (shr q.S)).isSome else if q.K = 2 then (a.F (shr q.S)).isSome else if q.K = 3 then (a.F (shr q.S)).isSome else false
theorem A.tell_keys (a : A) (q : AskD) : a.keys - 1 ≤ (a.tell q).keys ∧ (a.tell q).keys ≤ a.keys + 1 := by
  unfold A.tell
  split
  · rw [A.put_keys]; split <;> omega
  · split
    · rw [A.drop_keys]; split <;> omega
    · omega
set_option maxHeartbeats 1000000 in
theorem tell_any (x C : Nat) (a : A) (q : AskD) (hk1 : -1000000000 ≤ a.keys) (hk2 : a.keys ≤ 1000000000) (w : World) (o : Nat → Nat × Nat) (h : IsChain w o x C a) :
    Calls Try.prog 24 #[.pointer (some ⟨C, 0, none⟩), .agg #[.int .i64 q.K, .int .i64 q.N, .string q.S]] w fun e w' => e = .returned (.tuple #[.int .i64 (a.ansN q), .bool (a.ansB q)]) ∧ PutP w o x C (a.tell q) w' := by
  obtain ⟨K, N, S⟩ := q
  have hsz := shr_size S
  have B1 : Below w.heap.size w (w.alloc (.cells #[.int .i64 K, .int .i64 N, .string S] 37)) := (Below.refl _ _).alloc (Nat.le_refl _) _
  have HI : Hid (IsChain (w.alloc (.cells #[.int .i64 K, .int .i64 N, .string S] 37)) o x C a) := h.below B1
  have HF : Hid (Fr (fun t => t.1 = x) o o w (w.alloc (.cells #[.int .i64 K, .int .i64 N, .string S] 37))) := Fr.ofBelow _ o B1
  clear B1 h
  by_cases k1 : K = 1
  · subst k1
    go_enter Try.func24, Try.ntmps24
    go_wp2_with fail
    have HID : Hid (IsChain (w.alloc (.cells #[.int .i64 1, .int .i64 N, .string S] 37)).drew o x C a) := HI.out.below ((Below.refl _ _).drew)
    have HFD : Hid (Fr (fun t => t.1 = x) o o w (w.alloc (.cells #[.int .i64 1, .int .i64 N, .string S] 37)).drew) := HF.out.trans (Fr.drew1 _ o _)
    obtain ⟨bb, hbb⟩ : ∃ b, b = (!(a.F (shr S)).isSome) := ⟨_, rfl⟩
    have HBB : Hid (bb = (!(a.F (shr S)).isSome)) := hbb
    clear HI HF hbb
    go_region_with (first | (go_at_call 15; refine (short_any S _).mono ?_; rintro e w2 ⟨rfl, rfl⟩) | (go_at_call 10; refine (put_any x C a (shr S) N (by omega) hk1 hk2 _ o HID.out).mono ?_; rintro e w3 ⟨rfl, o2, I2, F2⟩; rw [← HBB.out]; have HR : Hid (PutP w o x C (a.put (shr S) N) w3) := ⟨o2, I2, HFD.out.trans F2⟩; clear I2 F2))
    all_goals
      go_wp2_with fail
      go_ret2
      exact ⟨by rw [HBB.out]; rfl, HR.out⟩
  · by_cases k2 : K = 2
    · subst k2
      go_enter Try.func24, Try.ntmps24
      go_wp2_with fail
      refine (short_any S _).mono ?_
      rintro e w2 ⟨rfl, rfl⟩
      go_wp2_with fail
      refine (get_any x C a (shr S) (by omega) _ o HI.out).mono ?_
      rintro e w2 ⟨rfl, B2⟩
      go_wp2_with fail
      go_ret2
      exact ⟨rfl, o, HI.out.below B2, HF.out.trans (Fr.ofBelow _ o B2)⟩
    · by_cases k3 : K = 3
      · subst k3
        go_enter Try.func24, Try.ntmps24
        go_wp2_with fail
        refine (short_any S _).mono ?_
        rintro e w2 ⟨rfl, rfl⟩
        go_wp2_with fail
        refine (drop_any x C a (shr S) (by omega) hk1 hk2 _ o HI.out).mono ?_
        rintro e w2 ⟨rfl, o2, I2, F2⟩
        have HR : Hid (PutP w o x C (a.drop (shr S)) w2) := ⟨o2, I2, HF.out.trans F2⟩
        clear I2 F2
        go_wp2_with fail
        go_ret2
        exact ⟨rfl, HR.out⟩
      · have j1 : (K == 1) = false := by simp [k1]
        have j2 : (K == 2) = false := by simp [k2]
        have j3 : (K == 3) = false := by simp [k3]
        have HT : Hid (a.tell ⟨K, N, S⟩ = a) := by show _ = _; unfold A.tell; simp [k1, k3]
        have HN : Hid (a.ansN ⟨K, N, S⟩ = 0) := by show _ = _; unfold A.ansN; simp [k2]
        have HB : Hid (a.ansB ⟨K, N, S⟩ = false) := by show _ = _; unfold A.ansB; simp [k1, k2, k3]
        clear k1 k2 k3
        go_enter Try.func24, Try.ntmps24
        go_wp2_with fail
        go_ret2
        rw [HT.out, HN.out, HB.out]
        exact ⟨rfl, o, HI.out, HF.out⟩
end Go.Proofs.Ytaflabjeddckeaa
