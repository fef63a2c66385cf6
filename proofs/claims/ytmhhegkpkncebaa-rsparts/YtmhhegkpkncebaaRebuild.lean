/-
  REBUILD of the program: one fragment of what Decode tells.
-/
import Derived.Test.YtmhhegkpkncebaaDecode
namespace Go.Proofs.Ytmhhegkpkncebaa
open Go.RowKit

/-- What Rebuild answers. -/
def RebR (k N n : Nat) (A : Nat → Int) (D : Nat → ByteArray) (Z at' : Int) (s : ByteArray) (r : Int) : Prop :=
  ((at' < 0 ∨ (N : Int) ≤ at') ∧ s = ⟨#[]⟩ ∧ r = 1) ∨ (0 ≤ at' ∧ at' < (N : Int) ∧ ∃ v e, DecR k N n A D Z v e ∧ ((e ≠ 0 ∧ s = ⟨#[]⟩ ∧ r = e) ∨ (e = 0 ∧ s = fragS k v at'.toNat ∧ r = 0)))
theorem DecR.size {k N n : Nat} {A : Nat → Int} {D : Nat → ByteArray} {Z : Int} {s : ByteArray} {r : Int} (h : DecR k N n A D Z s r) : s.size ≤ 1048576 := by
  rcases h with ⟨_, h, _⟩ | ⟨z, _, hz, ⟨_, h, _⟩ | ⟨_, _, h, _⟩ | ⟨_, _, V, _, ⟨_, h, _⟩ | ⟨_, h, _⟩⟩⟩
  · rw [h]; exact Nat.zero_le _
  · rw [h]; exact Nat.zero_le _
  · rw [h]; exact Nat.zero_le _
  · rw [h]; exact Nat.zero_le _
  · rw [h, mkS_size]; exact hz

set_option maxHeartbeats 2000000 in
set_option maxRecDepth 100000 in
theorem rebuild_any (b k N n c : Nat) (Z at' : Int) (a : Option Addr) (A : Nat → Int) (D : Nat → ByteArray) (hk1 : 1 ≤ k) (hk : k ≤ 8) (hN : N ≤ 12) (hn : n ≤ 4194304) (w : World) (hC : IsCode w b k N) (hp : PartF w a A D n) :
    Calls Try.prog 12 #[.pointer (some ⟨b, 0, none⟩), .int .i64 Z, .int .i64 at', .slice a n c] w fun e w' => ∃ s r, e = .returned (.tuple #[.string s, .int .i64 r]) ∧ RebR k N n A D Z at' s r ∧ Below w.heap.size w w' := by
  have HC : Hid (IsCode w b k N) := hC
  have HP : Hid (PartF w a A D n) := hp
  clear hC hp
  by_cases hpl : 0 ≤ at' ∧ at' < (N : Int)
  · obtain ⟨x, rfl⟩ : ∃ x : Nat, at' = (x : Int) := ⟨at'.toNat, by omega⟩
    have hxN : x < N := by omega
    go_enter Try.func12, Try.ntmps12
    go_wp2_with fail
    refine (place_yes b k N (x : Int) hpl _ HC.out).mono ?_
    rintro e w1 ⟨rfl, rfl⟩
    go_wp2_with fail
    refine (decode_any b k N n c Z a A D hk1 hk hN hn _ HC.out HP.out).mono ?_
    rintro e w1 ⟨v, r, rfl, hdec, hb1⟩
    have HDec : Hid (DecR k N n A D Z v r) := hdec
    have HB1 : Hid (Below w.heap.size w w1) := hb1
    clear hdec hb1
    by_cases hr : r = 0
    · have i1 : (r != 0) = false := by simp [hr]
      have hr0 : Hid (r = 0) := hr
      go_wp2_with fail
      have hv := HDec.out.size
      have HCW : ∀ d, IsCode (w1.drewN d) b k N := fun d => (HC.out.up HB1.out).drewN d
      obtain ⟨g0, cap0, c1, HM⟩ := (HC.out.up HB1.out).rows
      obtain ⟨p0, o0, e0, hr⟩ : ∃ p off, (some ⟨g0, 0, none⟩ : Option Addr) = some ⟨p, off, none⟩ ∧ ∀ i, i < N → ∃ ra rc, w1.cell? ⟨p, off + i, none⟩ = some (.slice ra k rc) ∧ k ≤ rc ∧ RowF w1 ra (Gf.cau k i) k := by
        rcases HM with r | r
        · exfalso; omega
        · exact r
      injection e0 with e0; injection e0 with e1 e2 _
      subst e1 e2
      obtain ⟨ra, rc, d1, hkc, hrow⟩ := hr x hxN
      rw [Nat.zero_add] at d1
      have c1' : (w1.drewN 1).cell? ⟨b, 767, none⟩ = some (.slice (some ⟨g0, 0, none⟩) N cap0) := c1
      have d1' : (w1.drewN 1).cell? ⟨g0, x, none⟩ = some (.slice ra k rc) := d1
      have hrow' : RowF (w1.drewN 1) ra (Gf.cau k x) k := hrow
      have hB1' : Below w.heap.size w (w1.drewN 1) := below_drewN HB1.out 1
      have hS := szk_small hk1 hv
      clear hr
      go_region_with (first
        | (go_at_call 29; refine (pieces_any b k N v hk1 hk hv _ (HCW 1)).mono ?_; rintro e w2 ⟨G2, rfl, hG2, OP2, hb2⟩; have e1 := cell_later hb2 c1'; have e2 := cell_later hb2 d1'; have hC2 := (HCW 1).up hb2; have hr2 := hrow'.below hb2; have hs2 := OP2.strF; have B2 := hB1'.trans (hb2.mono hB1'.size); clear hb2 OP2)
        | (go_at_call 30; refine (mixed_any b k N (szk k v.size) rc k ra (some ⟨G2, 0, none⟩) (Gf.cau k x) (pieceS k v) (Gf.cau_lt k x) hk1 hk (by omega) (fun i _ => pieceS_size k v i) _ hC2 hr2 hs2).mono ?_; rintro e w3 ⟨G3, rfl, hG3, O3, hb3⟩; have hconv := conv_str w3 (some ⟨G3, 0, none⟩) (szk k v.size) (szk k v.size) _ O3.rowF; have B3 := B2.trans (hb3.mono B2.size); clear hb3 O3))
      all_goals
        go_wp2_with fail
        go_ret2
        exact ⟨_, _, rfl, Or.inr ⟨hpl.1, hpl.2, v, r, HDec.out, Or.inr ⟨hr0.out, by rw [Int.toNat_natCast]; rfl, rfl⟩⟩, B3⟩
    · have i1 : (r != 0) = true := by simp [hr]
      have Hr : Hid (r ≠ 0) := hr
      clear hr
      go_wp2_with fail
      go_ret2
      exact ⟨_, _, rfl, Or.inr ⟨hpl.1, hpl.2, v, r, HDec.out, Or.inl ⟨Hr.out, rfl, rfl⟩⟩, HB1.out⟩
  · go_enter Try.func12, Try.ntmps12
    go_wp2_with fail
    refine (place_no b k N at' (by omega) _ HC.out).mono ?_
    rintro e w1 ⟨rfl, rfl⟩
    go_wp2_with fail
    go_ret2
    exact ⟨_, _, rfl, Or.inl ⟨by omega, rfl, rfl⟩, Below.refl _ _⟩
end Go.Proofs.Ytmhhegkpkncebaa
