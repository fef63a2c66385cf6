/-
  ENCODE of the program: the fragments of a value.
-/
import Derived.Test.YtmhhegkpkncebaaPieces
namespace Go.Proofs.Ytmhhegkpkncebaa
open Go.RowKit

/-- The fragment i of a value. -/
def fragS (k : Nat) (v : ByteArray) (i : Nat) : ByteArray := mkS (mixF (Gf.cau k i) (pieceS k v) k) (szk k v.size)
theorem fragS_size (k : Nat) (v : ByteArray) (i : Nat) : (fragS k v i).size = szk k v.size := mkS_size _ _
theorem pieceS_size (k : Nat) (v : ByteArray) (i : Nat) : (pieceS k v i).size = szk k v.size := mkS_size _ _
theorem szk_small {k n : Nat} (hk : 1 ≤ k) (h : n ≤ 1048576) : szk k n ≤ 1048583 := by
  have h1 := szk_le k n hk
  have h2 : szk k n ≤ k * szk k n := Nat.le_mul_of_pos_left _ (by omega)
  unfold szk at *
  rcases Nat.lt_or_ge k 8 with h3 | h3
  · omega
  · have : (n + k - 1) / k ≤ (n + k - 1) / 8 := Nat.div_le_div_left h3 (by omega)
    have h4 : (n + k - 1) / k ≤ n + 1 := by
      rw [Nat.div_le_iff_le_mul_add_pred (by omega)]
      have : n ≤ k * n := Nat.le_mul_of_pos_left _ (by omega)
      rw [Nat.mul_add]; omega
    omega

set_option maxHeartbeats 1000000 in
set_option maxRecDepth 100000 in
theorem encode_any (b k N : Nat) (v : ByteArray) (hk1 : 1 ≤ k) (hk : k ≤ 8) (hN : N ≤ 12) (hv : v.size ≤ 1048576) (w : World) (hC : IsCode w b k N) :
    Calls Try.prog 10 #[.pointer (some ⟨b, 0, none⟩), .string v] w fun e w' => ∃ G, e = .returned (.slice (some ⟨G, 0, none⟩) N N) ∧ w.heap.size ≤ G ∧ OwnS w' G N (fragS k v) N ∧ Below w.heap.size w w' := by
  have HC : Hid (IsCode w b k N) := hC
  have HCB : Hid (∀ i j, Gf.cau k i j < 256) := Gf.cau_lt k
  have HS : Hid (szk k v.size ≤ 1048583) := szk_small hk1 hv
  clear hC
  go_enter Try.func10, Try.ntmps10
  go_wp2_with fail
  refine (pieces_any b k N v hk1 hk hv _ HC.out).mono ?_
  rintro e w1 ⟨G1, rfl, hG1, OP, hb1⟩
  have HP : Hid (StrF w1 (some ⟨G1, 0, none⟩) (pieceS k v) k) := OP.strF
  have HB1 : Hid (Below w.heap.size w w1) := hb1
  clear OP hb1
  go_wp2_with fail
  refine (n_any b k N _ (HC.out.up HB1.out)).mono ?_
  rintro e w2 ⟨rfl, rfl⟩
  go_wp2_with fail
  obtain ⟨w2, cur, hrun, hg, hcs, hb2⟩ := make_strs w1 N (by omega)
  rw [hrun]
  clear hrun
  obtain ⟨G, eG⟩ : ∃ G, G = w1.heap.size := ⟨_, rfl⟩
  have O1 : Hid (OwnS w2 G N (fragS k v) 0) := ⟨cur, by rw [eG]; exact hg, hcs, fun i hi => by omega⟩
  have HB2 : Hid (Below w1.heap.size w1 w2) := hb2
  have HC1 : Hid (IsCode w1 b k N) := HC.out.up HB1.out
  have hGB : Hid (w1.heap.size ≤ G) := by show _ ≤ _; omega
  obtain ⟨g, cap, c0, HM⟩ := HC1.out.rows
  have HMat : Hid (MatF w1 (some ⟨g, 0, none⟩) (Gf.cau k) N k) := HM
  have c1 := cell_later hb2 c0
  rw [← eG]
  clear hg hcs hb2 eG HM c0
  go_wp2_with fail
  go_loopw [20] (fun i wr => ∃ t : Nat, t ≤ N ∧ i = .int .i64 (t : Int) ∧ Hid (OwnS wr G N (fragS k v) t) ∧ Hid (Below w1.heap.size w1 wr)) (fun i _ => N - (intOf i).toNat)
  case atStart => exact ⟨0, by omega, rfl, O1, HB2⟩
  case round =>
    obtain ⟨t, ht, rfl, HO, HB⟩ := hrel
    clear O1 HB2 c1
    by_cases hlt : t < N
    · have hi1 : (t : Int) < (N : Int) := by omega
      obtain ⟨p0, o0, e0, hr⟩ : ∃ p off, (some ⟨g, 0, none⟩ : Option Addr) = some ⟨p, off, none⟩ ∧ ∀ i, i < N → ∃ ra rc, wr.cell? ⟨p, off + i, none⟩ = some (.slice ra k rc) ∧ k ≤ rc ∧ RowF wr ra (Gf.cau k i) k := by
        rcases HMat.out.below HB.out with r | r
        · exfalso; omega
        · exact r
      injection e0 with e0; injection e0 with e1 e2 _
      subst e1 e2
      obtain ⟨ra, rc, d1, _, hrow⟩ := hr t hlt
      rw [Nat.zero_add] at d1
      clear hr
      go_wp2_with fail
      refine (mixed_any b k N (szk k v.size) rc k ra (some ⟨G1, 0, none⟩) (Gf.cau k t) (pieceS k v) (HCB.out t) hk1 hk (by have := HS.out; omega) (fun i _ => pieceS_size k v i) _ (HC1.out.up HB.out) hrow (HP.out.up HB.out)).mono ?_
      rintro e w3 ⟨G3, rfl, hG3, O3, hb3⟩
      have hconv := conv_str w3 (some ⟨G3, 0, none⟩) (szk k v.size) (szk k v.size) _ O3.rowF
      rw [show mkS (mixF (Gf.cau k t) (pieceS k v) k) (szk k v.size) = fragS k v t from rfl] at hconv
      obtain ⟨u, d2⟩ := (HO.out.up hb3).some hlt
      have d3 := (HO.out.up hb3).fz t
      have O5 : Hid (OwnS (w3.setCell ⟨G, t, none⟩ (.string (fragS k v t))) G N (fragS k v) (t + 1)) := (HO.out.up hb3).set hlt
      have B5 : Hid (Below w1.heap.size w1 (w3.setCell ⟨G, t, none⟩ (.string (fragS k v t)))) := (HB.out.trans (hb3.mono HB.out.size)).setCell hGB.out _
      clear HO HB O3 hb3 d1 hrow
      go_wp2_with fail
      exact ⟨⟨t + 1, by omega, by go_num, O5, B5⟩, by simp [intOf]; omega⟩
    · have htk : t = N := by omega
      subst htk
      have i1 : decide ((t : Int) < (t : Int)) = false := by simp
      go_wp2_with fail
      go_ret
      exact ⟨G, rfl, Nat.le_trans HB1.out.size hGB.out, HO.out, HB1.out.trans (HB.out.mono HB1.out.size)⟩
end Go.Proofs.Ytmhhegkpkncebaa
