/-
  SLABCLASS walked.
-/
import Derived.Test.YtjokabpdaihgpaaRuns
namespace Go.Proofs.Ytjokabpdaihgpaa
open Go.RowKit

theorem sz_pred {j : Nat} (h : 0 < j) : sz j = 2 * sz (j - 1) := by
  obtain ⟨i, rfl⟩ : ∃ i, j = i + 1 := ⟨j - 1, by omega⟩
  rw [sz_succ]; rfl
set_option maxHeartbeats 2000000 in
theorem class_walk (page n : Int) (w : World) :
    Calls Try.prog 7 #[.int .i64 page, .int .i64 n] w fun e w' => e = .returned (.bool true) ∧ Below w.heap.size w w' := by
  go_enter Try.func7, Try.ntmps7
  go_wp2_with fail
  refine (within_any page 64 65536 (by omega) (by omega) (by omega) _).mono ?_
  rintro e w0 ⟨⟨r, rfl, hr1, hr2⟩, rfl⟩
  obtain ⟨p, rfl⟩ : ∃ p : Nat, r = p := ⟨r.toNat, by omega⟩
  go_wp2_with fail
  refine (new_yes 1 1 p 1 p rfl rfl (by omega) (by omega) (by omega) (by omega) _ o0 (fun b _ e => by cases e)).mono ?_
  rintro e w1 ⟨S, rfl, o1, m, I1, F1⟩
  have B1 : Hid (Below w.heap.size w w1) := F1.below (Nat.le_refl _) (fun _ _ x => x)
  have HI1 : Hid (IsSlab w1 o1 1 S (St.new 1 p m)) := I1
  have hm1 : m ≤ 11 := I1.ok.n2
  have hm0 : 0 < m := I1.ok.n0
  have HN : Hid (∀ i, i < m ↔ sz i ≤ p) := I1.ok.n1
  clear F1 I1
  go_wp2_with fail
  refine (classes_any 1 S _ _ o1 HI1.out).mono ?_
  rintro e w2 ⟨g, rfl, hg, hc, B2⟩
  have en : (St.new 1 p m).n = m := rfl
  rw [en] at hc ⊢
  have B2' : Hid (Below w.heap.size w w2) := B1.out.trans (B2.mono B1.out.size)
  have HI2 : Hid (IsSlab w2 o1 1 S (St.new 1 p m)) := HI1.out.below B2
  have HC : Hid (∀ i, i < m → w2.cell? ⟨g, i, none⟩ = some (.int .i64 ((sz i : Nat) : Int))) := hc
  clear B2 hc en B1 HI1 hg
  go_wp2_with fail
  refine (within_any n (-2) 65538 (by omega) (by omega) (by omega) _).mono ?_
  rintro e w2' ⟨⟨k, rfl, hk1, hk2⟩, rfl⟩
  go_wp2_with fail
  refine (class_any 1 S _ k _ o1 HI2.out).mono ?_
  rintro e w3 ⟨x, rfl, hx, B3⟩
  have HX : Hid (ClsIs (St.new 1 p m) k x) := hx
  have B3' : Hid (Below w.heap.size w w3) := B2'.out.trans (B3.mono B2'.out.size)
  have HC3 : Hid (∀ i, i < m → w3.cell? ⟨g, i, none⟩ = some (.int .i64 ((sz i : Nat) : Int))) := fun i hi => cell_up B3 (HC.out i hi)
  have hxb : -1 ≤ x ∧ x < m := by
    rcases hx with ⟨rfl, _⟩ | ⟨i, rfl, hi, _⟩
    · omega
    · have hi : i < m := hi; omega
  clear B3 B2' HC HI2 hx
  go_wp2_with fail
  go_loopw [11] (fun i wr => ∃ j d : Nat, j ≤ m ∧ i = .int .i64 (j : Int) ∧ Hid (wr = w3.drewN d)) (fun i _ => m - (intOf i).toNat)
  case atStart => exact ⟨0, 0, by omega, rfl, rfl⟩
  case round =>
    obtain ⟨j, d, hj, rfl, HW⟩ := hrel
    by_cases hlt : j < m
    · have c1 : wr.cell? ⟨g, j, none⟩ = some (.int .i64 ((sz j : Nat) : Int)) := by rw [HW.out]; exact HC3.out j hlt
      have hle := (HN.out j).1 hlt
      have k1 : decide ((p : Int) < ((sz j : Nat) : Int)) = false := by simp; omega
      have hi1 : (j : Int) < (m : Int) := by omega
      by_cases hj0 : j = 0
      · subst hj0
        have e0 : ((sz 0 : Nat) : Int) = 64 := rfl
        rw [e0] at c1 k1
        have c1' : wr.cell? ⟨g, 0, none⟩ = some (.int .i64 64) := c1
        go_wp2_with fail
        go_quiet (fail)
        go_wp2_with fail
        go_roundw
        case rel => exact ⟨1, d + nq, by omega, by go_num, by show _ = _; rw [HW.out, World.drewN_drewN]⟩
        case measure => simp [intOf]; omega
      · obtain ⟨i, hi⟩ : ∃ i, i + 1 = j := ⟨j - 1, by omega⟩
        have c2 : wr.cell? ⟨g, i, none⟩ = some (.int .i64 ((sz i : Nat) : Int)) := by rw [HW.out]; exact HC3.out i (by omega)
        have e2 : sz j = 2 * sz i := by rw [← hi]; exact sz_succ i
        have s1 := sz_pos i
        obtain ⟨a, ha⟩ : ∃ a : Int, a = ((sz i : Nat) : Int) := ⟨_, rfl⟩
        have eb : ((sz j : Nat) : Int) = 2 * a := by omega
        rw [← ha] at c2
        rw [eb] at c1 k1
        have hab : 0 ≤ a ∧ a ≤ 65536 := by omega
        have k3 : ((2 * a : Int) != 2 * a) = false := by simp
        have ij : (j : Int) - 1 = (i : Int) := by omega
        have k4 : decide (0 < j) = true := by simp; omega
        have k5 : ((j : Int) == 0) = false := by simp; omega
        have i2 : (i : Int) < (m : Int) := by omega
        have HI : Hid (i + 1 = j) := hi
        clear eb e2 ha hi
        go_wp2_with fail
        go_quiet (fail)
        go_wp2_with fail
        go_roundw
        case rel => exact ⟨j + 1, d + nq, by omega, by go_num, by show _ = _; rw [HW.out, World.drewN_drewN]⟩
        case measure => simp [intOf]; omega
    · obtain ⟨l, hl⟩ : ∃ l, l + 1 = m := ⟨m - 1, by omega⟩
      have cl : wr.cell? ⟨g, l, none⟩ = some (.int .i64 ((sz l : Nat) : Int)) := by rw [HW.out]; exact HC3.out l (by omega)
      have ml : (m : Int) - 1 = (l : Int) := by omega
      have lm : (l : Int) < (m : Int) := by omega
      have h0m : decide (0 < m) = true := by simp; omega
      have szl := (HN.out l).1 (by omega)
      have szm : ¬ sz m ≤ p := fun h => by have := (HN.out m).2 h; omega
      have em : sz m = 2 * sz l := by rw [← hl]; exact sz_succ l
      have BR : Hid (Below w.heap.size w wr) := by rw [HW.out]; exact below_drewN B3'.out d
      have HL : Hid (l + 1 = m) := hl
      have jm : decide ((j : Int) < (m : Int)) = false := by simp; omega
      clear hl
      rcases HX.out with ⟨rfl, hx⟩ | ⟨i, rfl, hi, hk0, hki, hkj⟩
      · by_cases hk : k < 0
        · go_wp2_with fail
          refine (runs_any _).mono ?_
          rintro e w5 ⟨rfl, B5⟩
          have B6 : Hid (Below w.heap.size w w5) := BR.out.trans (B5.mono BR.out.size)
          clear B5
          go_wp2_with fail
          go_ret
          exact ⟨rfl, B6.out⟩
        · have k1 : decide (k < 0) = false := by simp; omega
          have k2 : ((sz l : Nat) : Int) < k := by
            rcases hx with hx | hx
            · omega
            · exact hx l (by show l < m; omega)
          clear hx
          go_wp2_with fail
          refine (runs_any _).mono ?_
          rintro e w5 ⟨rfl, B5⟩
          have B6 : Hid (Below w.heap.size w w5) := BR.out.trans (B5.mono BR.out.size)
          clear B5
          go_wp2_with fail
          go_ret
          exact ⟨rfl, B6.out⟩
      · have hi : i < m := hi
        have ci : wr.cell? ⟨g, i, none⟩ = some (.int .i64 ((sz i : Nat) : Int)) := by rw [HW.out]; exact HC3.out i hi
        have i1 : (i : Int) < (m : Int) := by omega
        obtain ⟨a, ha⟩ : ∃ a : Int, a = ((sz l : Nat) : Int) := ⟨_, rfl⟩
        have hap : (p : Int) < 2 * a := by omega
        have hab : 0 ≤ a ∧ a ≤ 65536 := by omega
        rw [← ha] at cl
        have x0 : decide ((i : Int) < 0) = false := by simp
        by_cases hi0 : i = 0
        · subst hi0
          have ci' : wr.cell? ⟨g, 0, none⟩ = some (.int .i64 64) := ci
          have hki' : k ≤ 64 := hki
          clear ha em szm ci hki hkj
          go_wp2_with fail
          refine (runs_any _).mono ?_
          rintro e w5 ⟨rfl, B5⟩
          have B6 : Hid (Below w.heap.size w w5) := BR.out.trans (B5.mono BR.out.size)
          clear B5
          go_wp2_with fail
          go_ret
          exact ⟨rfl, B6.out⟩
        · obtain ⟨q, hq⟩ : ∃ q, q + 1 = i := ⟨i - 1, by omega⟩
          have cq : wr.cell? ⟨g, q, none⟩ = some (.int .i64 ((sz q : Nat) : Int)) := by rw [HW.out]; exact HC3.out q (by omega)
          have iq : (i : Int) - 1 = (q : Int) := by omega
          have qm : (q : Int) < (m : Int) := by omega
          have kq : ((sz q : Nat) : Int) < k := hkj q (by omega)
          have k5 : ((i : Int) == 0) = false := by simp; omega
          have HQ : Hid (q + 1 = i) := hq
          clear hq ha em szm hkj
          go_wp2_with fail
          refine (runs_any _).mono ?_
          rintro e w5 ⟨rfl, B5⟩
          have B6 : Hid (Below w.heap.size w w5) := BR.out.trans (B5.mono BR.out.size)
          clear B5
          go_wp2_with fail
          go_ret
          exact ⟨rfl, B6.out⟩
end Go.Proofs.Ytjokabpdaihgpaa
