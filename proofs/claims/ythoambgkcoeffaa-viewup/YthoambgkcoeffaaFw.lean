/-
  VIEWFEW walked.
-/
import Derived.Test.YthoambgkcoeffaaVl
import Derived.Deep.RegionHeld3
namespace Go.Proofs.Ythoambgkcoeffaa
open Go.RowKit

def IntsF (w : World) (a : Option Addr) (q : Nat → Int) (n : Nat) : Prop := n = 0 ∨ ∃ p off, a = some ⟨p, off, none⟩ ∧ ∀ i, i < n → w.cell? ⟨p, off + i, none⟩ = some (.int .i64 (q i))
theorem IntsF.at {w w' : World} {a : Option Addr} {q : Nat → Int} {n : Nat} (h : IntsF w a q n) (b : Below w.heap.size w w') {i : Nat} (hi : i < n) : ∃ p off, a = some ⟨p, off, none⟩ ∧ w'.cell? ⟨p, off + i, none⟩ = some (.int .i64 (q i)) := by
  rcases h with rfl | ⟨p, off, e, h⟩
  · omega
  · exact ⟨p, off, e, (World.cell?_of_block (a := ⟨p, off + i, none⟩) (b.block p (World.block_lt_of_cell? _ _ (h i hi)))).trans (h i hi)⟩
theorem IntsF.mem {w w' : World} {p off : Nat} {q : Nat → Int} {n : Nat} (h : IntsF w (some ⟨p, off, none⟩) q n) (b : Below w.heap.size w w') {i : Nat} (hi : i < n) : w'.cell? ⟨p, off + i, none⟩ = some (.int .i64 (q i)) := by
  obtain ⟨p', off', e, h⟩ := h.at b hi
  injection e with e
  injection e with e1 e2
  subst e1 e2
  exact h
/-- Counting. -/
theorem few_cons (p : Int × Int) (l : Vs) (s : List Int) : Vs.few (p :: l) s = Vs.few l s + (if s.contains p.1 then 1 else 0) := by
  unfold Vs.few
  by_cases hc : s.contains p.1 = true
  · rw [List.filter_cons_of_pos (by exact hc), if_pos hc]; rfl
  · rw [List.filter_cons_of_neg (by exact hc), if_neg hc]; rfl
theorem few_all {l : Vs} {k : Int} (h : l.ok k) : l.few [0] + l.few [1] + l.few [2] = l.length ∧ l.few [0, 2] = l.few [0] + l.few [2] ∧ l.few [2, 2] = l.few [2] ∧ l.few [0, 2, 1] = l.length := by
  induction l with
  | nil => exact ⟨rfl, rfl, rfl, rfl⟩
  | cons p l ih =>
    obtain ⟨i1, i2, i3, i4⟩ := ih (fun q hq => h q (List.mem_cons_of_mem _ hq))
    have hp := (h p (List.mem_cons_self ..)).1
    simp only [few_cons, List.length_cons]
    obtain ⟨s, c⟩ := p
    rcases hp with hp | hp | hp <;> (simp only at hp; subst hp; simp only [show ([0] : List Int).contains 0 = true from rfl, show ([0] : List Int).contains 1 = false from rfl, show ([0] : List Int).contains 2 = false from rfl, show ([1] : List Int).contains 0 = false from rfl, show ([1] : List Int).contains 1 = true from rfl, show ([1] : List Int).contains 2 = false from rfl, show ([2] : List Int).contains 0 = false from rfl, show ([2] : List Int).contains 1 = false from rfl, show ([2] : List Int).contains 2 = true from rfl, show ([0, 2] : List Int).contains 0 = true from rfl, show ([0, 2] : List Int).contains 1 = false from rfl, show ([0, 2] : List Int).contains 2 = true from rfl, show ([2, 2] : List Int).contains 0 = false from rfl, show ([2, 2] : List Int).contains 1 = false from rfl, show ([2, 2] : List Int).contains 2 = true from rfl, show ([0, 2, 1] : List Int).contains 0 = true from rfl, show ([0, 2, 1] : List Int).contains 1 = true from rfl, show ([0, 2, 1] : List Int).contains 2 = true from rfl]; simp; omega)
set_option maxRecDepth 100000 in
set_option maxHeartbeats 1000000 in
theorem few_walk (n : Int) (a1 : Option Addr) (len1 cap1 : Nat) (z1 : Nat → Int) (a2 : Option Addr) (len2 cap2 : Nat) (z2 : Nat → Int) (w : World) (_ : len1 ≤ 9223372036854775807) (_ : len2 ≤ 9223372036854775807) (s1 : IntsF w a1 z1 len1) (s2 : IntsF w a2 z2 len2) :
    Calls Try.prog 6 #[.int .i64 n, .slice a1 len1 cap1, .slice a2 len2 cap2] w fun e w' => e = .returned (.bool true) ∧ Below w.heap.size w w' := by
  have hb := wi_bd n 1 12 (by omega)
  obtain ⟨k, hk⟩ : ∃ k : Nat, wi n 1 12 = (k : Int) := ⟨(wi n 1 12).toNat, by omega⟩
  rw [hk] at hb
  have HA := hid s1
  have HB := hid s2
  have HK := hid hk
  clear s1 s2 hk
  go_enter Try.func6, Try.ntmps6
  go_wp2_with fail
  refine (within_any n 1 12 (by omega) (by omega) (by omega) _).mono ?_
  rintro e w3 ⟨rfl, rfl⟩
  rw [HK.out]
  go_wp2_with fail
  refine (lv_new k (by omega) (by omega) _ rfl _).mono ?_
  rintro e w3 ⟨X, o, rfl, L0⟩
  have H0 := hid L0
  clear L0
  go_wp2_with fail
  go_loopw [10] (fun i wr => ∃ j : Nat, j ≤ 60 ∧ i = .int .i64 (j : Int) ∧ Hid (∃ l : Vs, l.ok (j : Int) ∧ l.length = k ∧ Lv w wr o X l)) (fun i _ => 60 - (intOf i).toNat)
  case atStart => exact ⟨0, by omega, rfl, nw k, nw_ok k, nw_len k, H0.out⟩
  case round =>
    clear H0
    obtain ⟨j, hj, rfl, HL⟩ := hrel
    obtain ⟨l, hok, hlen, L⟩ := HL.out
    have HR := hid L.fin
    clear HL
    by_cases hin : j < len1 ∧ j < len2 ∧ j < 60
    · obtain ⟨h1, h2, h3⟩ := hin
      have c1 : (j : Int) < (len1 : Int) := by omega
      have c2 : (j : Int) < (len2 : Int) := by omega
      have c3 : (j : Int) < 60 := by omega
      have c3' : decide ((j : Int) < 60) = true := decide_eq_true c3
      have L1 : Lv w wr.drew o X l := L.below ((Fr.drew1 (fun _ => False) o wr).below (Nat.le_refl _) (fun _ _ => id))
      obtain ⟨p1, f1, rfl, d1⟩ := HA.out.at L1.fin h1
      obtain ⟨p2, f2, rfl, d2⟩ := HB.out.at L1.fin h2
      obtain ⟨s, hs⟩ : ∃ s, s = z1 j := ⟨_, rfl⟩
      obtain ⟨e, he⟩ : ∃ e, e = z2 j := ⟨_, rfl⟩
      rw [← hs] at d1
      rw [← he] at d2
      obtain ⟨i, hi⟩ : ∃ i, wi s 0 ((k : Int) - 1) = i := ⟨_, rfl⟩
      obtain ⟨⟨b, l2⟩, hn⟩ : ∃ q, l.nxt i e = q := ⟨_, rfl⟩
      have HOK : Hid (l2.ok ((j : Int) + 1) ∧ l2.length = k) := by
        have q1 := Vs.nxt_ok hok (by omega) i e
        have q2 := l.nxt_len i e
        rw [hn] at q1 q2
        exact ⟨q1, q2.trans hlen⟩
      have S0 : wr.drew.cell? ⟨p1, f1 + j, none⟩ = some (.int .i64 s) ∧ wr.drew.cell? ⟨p2, f2 + j, none⟩ = some (.int .i64 e) := ⟨d1, d2⟩
      have HW := hid (fun w => within_any s 0 ((k : Int) - 1) (by omega) (by omega) (by omega) w)
      rw [hi] at HW
      have HN := hid (lv_next L1 i e hok (by omega) (by omega) hn)
      have HC : Hid (∀ w4, Lv w w4 o X l2 → w4.cell? ⟨p1, f1 + j, none⟩ = some (.int .i64 s) ∧ w4.cell? ⟨p2, f2 + j, none⟩ = some (.int .i64 e)) := fun w4 L => ⟨(HA.out.mem L.fin h1).trans (by rw [hs]), (HB.out.mem L.fin h2).trans (by rw [he])⟩
      clear L L1 hok hlen hs he hi hn d1 d2 h1 h2 HR
      go_wp2_with fail
      have hk2 : IntKind.i64.wrap ((k : Int) - 1) = (k : Int) - 1 := by rw [IntKind.wrap_i64]; omega
      go_region_held3 (fun w' => w'.cell? ⟨p1, f1 + j, none⟩ = some (.int .i64 s) ∧ w'.cell? ⟨p2, f2 + j, none⟩ = some (.int .i64 e))
        (first | with_reducible exact S0 | with_reducible exact S1)
        (first | (go_at_call 15; (with_reducible refine (HW.out _).mono ?_); rintro e9 w9 ⟨rfl, rfl⟩) | (go_at_call 8; (with_reducible refine HN.out.mono ?_); rintro e9 w4 ⟨rfl, L4⟩; have S1 : w4.cell? ⟨p1, f1 + j, none⟩ = some (.int .i64 s) ∧ w4.cell? ⟨p2, f2 + j, none⟩ = some (.int .i64 e) := HC.out _ L4; have HL4 := hid L4; clear L4))
      obtain ⟨q1, q2, q3, q4⟩ := few_all HOK.out.1
      rw [HOK.out.2] at q1
      obtain ⟨a, ha⟩ : ∃ a : Nat, l2.few [0] = a := ⟨_, rfl⟩
      obtain ⟨b', hb'⟩ : ∃ a : Nat, l2.few [1] = a := ⟨_, rfl⟩
      obtain ⟨c, hc⟩ : ∃ a : Nat, l2.few [2] = a := ⟨_, rfl⟩
      rw [ha, hb', hc] at q1
      rw [ha, hc] at q2
      rw [hc] at q3
      have A := hid ha
      have B := hid hb'
      have C := hid hc
      have D := hid q2
      have E := hid q3
      have z3 : ((a : Int) + (b' : Int) + (c : Int) != (k : Int)) = false := by simp; omega
      have hab : a + b' + c ≤ 12 := by omega
      clear ha hb' hc q1 q2 q3 q4 HN HC HW S0 S1 hk2
      go_wp2_with fail
      refine (lv_few HL4.out [0] _ _ rfl rfl (by decide) a (by rw [A.out])).mono ?_
      rintro e9 w5 ⟨rfl, L5⟩
      have H5 := hid L5
      clear L5 HL4 A
      go_wp2_with fail
      refine (lv_few H5.out [1] _ _ rfl rfl (by decide) b' (by rw [B.out])).mono ?_
      rintro e9 w6 ⟨rfl, L6⟩
      have H6 := hid L6
      clear L6 H5 B
      go_wp2_with fail
      refine (lv_few H6.out [2] _ _ rfl rfl (by decide) c (by rw [C.out])).mono ?_
      rintro e9 w7 ⟨rfl, L7⟩
      have H7 := hid L7
      clear L7 H6 C
      go_wp2_with fail
      refine (lv_few H7.out [0, 2] _ _ rfl rfl (by decide) ((a : Int) + (c : Int)) (by rw [D.out]; simp)).mono ?_
      rintro e9 w8 ⟨rfl, L8⟩
      have H8 := hid L8
      clear L8 H7 D
      go_wp2_with fail
      refine (lv_few H8.out [2, 2] _ _ rfl rfl (by decide) c (by rw [E.out])).mono ?_
      rintro e9 w9 ⟨rfl, L9⟩
      have H9 := hid L9
      clear L9 H8 E
      go_wp2_with fail
      exact ⟨⟨j + 1, by omega, by go_num, ⟨l2, by simpa using HOK.out.1, HOK.out.2, H9.out⟩⟩, by simp [intOf]; omega⟩
    · by_cases h1 : j < len1
      · have c1 : (j : Int) < (len1 : Int) := by omega
        by_cases h2 : j < len2
        · have c2 : (j : Int) < (len2 : Int) := by omega
          have c3 : decide ((j : Int) < 60) = false := by simp; omega
          clear hin
          go_wp2_with fail
          refine (runs_any _).mono ?_
          rintro e w9 ⟨rfl, b9⟩
          go_wp2_with fail
          go_ret
          exact ⟨rfl, HR.out.trans (b9.mono HR.out.size)⟩
        · have c2 : decide ((j : Int) < (len2 : Int)) = false := by simp; omega
          clear hin
          go_wp2_with fail
          refine (runs_any _).mono ?_
          rintro e w9 ⟨rfl, b9⟩
          go_wp2_with fail
          go_ret
          exact ⟨rfl, HR.out.trans (b9.mono HR.out.size)⟩
      · have c1 : decide ((j : Int) < (len1 : Int)) = false := by simp; omega
        clear hin
        go_wp2_with fail
        refine (runs_any _).mono ?_
        rintro e w9 ⟨rfl, b9⟩
        go_wp2_with fail
        go_ret
        exact ⟨rfl, HR.out.trans (b9.mono HR.out.size)⟩
end Go.Proofs.Ythoambgkcoeffaa
