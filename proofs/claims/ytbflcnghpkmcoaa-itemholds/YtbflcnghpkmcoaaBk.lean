/-
  SAME, WITHIN of the book; texts of zeros.
-/
import Derived.Test.YtbflcnghpkmcoaaNewI
namespace Go.Proofs.Ytbflcnghpkmcoaa
open Go.RowKit

theorem OwnK.read {w : World} {o : Nat → Nat × Nat} {t : Nat × Nat} {a : Option Addr} {n c : Nat} {l : List ByteArray} (h : OwnK w o t 1 (.slice a n c) n (strc l)) {j : Nat} {k : ByteArray} (hk : l[j]? = some k) : ∃ g, a = some ⟨g, 0, none⟩ ∧ w.cell? ⟨g, j, none⟩ = some (.string k) := by
  have hl := h.1
  rw [strc_length] at hl
  have hj := (List.getElem?_eq_some_iff.1 hk).1
  obtain ⟨g, cap, e, _, _, _, _, h6, _⟩ := h.there (by omega)
  injection e with e1 e2 e3
  exact ⟨g, e1, h6 j _ (strc_at l hk)⟩
set_option maxHeartbeats 1000000 in
/-- Same, of two lists of the same texts. -/
theorem same_any {o1 o2 : Nat → Nat × Nat} {t1 t2 : Nat × Nat} {V1 V2 : Value} (l : List ByteArray) (hn : l.length ≤ 1000000) (w : World) (h1 : OwnK w o1 t1 1 V1 l.length (strc l)) (h2 : OwnK w o2 t2 1 V2 l.length (strc l)) :
    Calls Try.prog 14 #[V1, V2] w fun e w' => e = .returned (.bool true) ∧ Below w.heap.size w w' := by
  obtain ⟨a1, c1, rfl, _⟩ := h1.form
  obtain ⟨a2, c2, rfl, _⟩ := h2.form
  obtain ⟨n, hnn⟩ : ∃ n, n = l.length := ⟨_, rfl⟩
  rw [← hnn] at h1 h2 hn ⊢
  have H1 : Hid (OwnK w o1 t1 1 (.slice a1 n c1) n (strc l)) := h1
  have H2 : Hid (OwnK w o2 t2 1 (.slice a2 n c2) n (strc l)) := h2
  have HN : Hid (n = l.length) := hnn
  have ne : ((n : Int) != (n : Int)) = false := by simp
  clear h1 h2 hnn
  go_enter Try.func14, Try.ntmps14
  go_wp2_with fail
  go_loopw [5] (fun i wr => ∃ j m : Nat, j ≤ n ∧ i = .int .i64 (j : Int) ∧ Hid (wr = w.drewN m)) (fun i _ => n - (intOf i).toNat)
  case atStart => exact ⟨0, 0, by omega, rfl, rfl⟩
  case round =>
    obtain ⟨j, m, hj, rfl, HW⟩ := hrel
    by_cases hlt : j < n
    · obtain ⟨k, hk⟩ : ∃ k, l[j]? = some k := ⟨_, List.getElem?_eq_getElem (by rw [← HN.out]; exact hlt)⟩
      obtain ⟨g1, e1, d1⟩ := H1.out.read hk
      obtain ⟨g2, e2, d2⟩ := H2.out.read hk
      subst e1 e2
      have f1 : wr.cell? ⟨g1, j, none⟩ = some (.string k) := by rw [HW.out]; exact d1
      have f2 : wr.cell? ⟨g2, j, none⟩ = some (.string k) := by rw [HW.out]; exact d2
      have hi1 : (j : Int) < (n : Int) := by omega
      clear d1 d2 hk
      go_wp2_with fail
      go_quiet (fail)
      go_wp2_with fail
      exact ⟨⟨j + 1, m + nq, by omega, by go_num, by show _ = _; rw [HW.out, World.drewN_drewN]⟩, by simp [intOf]; omega⟩
    · go_wp2_with fail
      go_ret
      exact ⟨rfl, by rw [HW.out]; exact below_drewN (Below.refl _ _) m⟩
theorem tmod_bd (n : Int) (h : Nat) : -((h : Int) + 1) < n.tmod ((h : Int) + 1) ∧ n.tmod ((h : Int) + 1) < (h : Int) + 1 := by
  have h1 := Int.tmod_lt_of_pos n (show (0 : Int) < (h : Int) + 1 by omega)
  have h2 := Int.lt_tmod_of_pos n (show (0 : Int) < (h : Int) + 1 by omega)
  exact ⟨h2, h1⟩
/-- What Within answers. -/
def wi (n L H : Int) : Int := let q := n.tmod (H - L + 1); if q < 0 then L + (q + H - L + 1) else L + q
theorem wi_bd (n L H : Int) (hLH : L ≤ H) : L ≤ wi n L H ∧ wi n L H ≤ H := by
  obtain ⟨d, hd⟩ : ∃ d : Nat, H - L = (d : Int) := ⟨(H - L).toNat, by omega⟩
  obtain ⟨q1, q2⟩ := tmod_bd n d
  unfold wi
  rw [hd]
  simp only
  split <;> omega
set_option maxRecDepth 100000 in
set_option maxHeartbeats 400000 in
/-- Within: a number of the bounds. -/
theorem within_any (n L H : Int) (hL : -1000 ≤ L) (hLH : L ≤ H) (hH : H ≤ 100000000) (w : World) :
    Calls Try.prog 26 #[.int .i64 n, .int .i64 L, .int .i64 H] w fun e w' => e = .returned (.int .i64 (wi n L H)) ∧ w = w' := by
  obtain ⟨d, hd⟩ : ∃ d : Nat, H - L = (d : Int) := ⟨(H - L).toNat, by omega⟩
  have hHL : H = L + (d : Int) := by omega
  subst hHL
  obtain ⟨q1, q2⟩ := tmod_bd n d
  have HWI : Hid (wi n L (L + (d : Int)) = if n.tmod ((d : Int) + 1) < 0 then L + (n.tmod ((d : Int) + 1) + (L + d) - L + 1) else L + n.tmod ((d : Int) + 1)) := by
    show _ = _; unfold wi; rw [show L + (d : Int) - L + 1 = (d : Int) + 1 by omega]
  clear hd
  obtain ⟨q, hq⟩ : ∃ q, n.tmod ((d : Int) + 1) = q := ⟨_, rfl⟩
  rw [hq] at q1 q2 HWI
  have e1 : L + (d : Int) - L + 1 = (d : Int) + 1 := by omega
  have hne : ((d : Int) + 1 == 0) = false := by simp; omega
  have hne2 : ¬ ((d : Int) + 1 = -1) := by omega
  have hne3 : ¬ ((d : Int) + 1 = 0) := by omega
  by_cases q0 : q < 0
  · go_enter Try.func26, Try.ntmps26
    go_wp2
    go_ret
    exact ⟨ret_int (by rw [HWI.out, if_pos q0]), rfl⟩
  · go_enter Try.func26, Try.ntmps26
    go_wp2
    go_ret
    exact ⟨ret_int (by rw [HWI.out, if_neg (by omega)]), rfl⟩
/-- Zeros as a text. -/
def zs (n : Nat) : ByteArray := ⟨(List.replicate n (0 : UInt8)).toArray⟩
theorem zs_size (n : Nat) : (zs n).size = n := by simp [zs, ByteArray.size]
theorem info5 : (Try.prog.info? 5).map (fun i => (i.zero, i.size, i.bytes)) = some (some (.int .u8 0), 1, 1) := by kernel_rfl
/-- string(make([]byte, n)). -/
theorem make_zs (w : World) (n : Nat) (N : Int) (hN : N = (n : Int)) (hn : n ≤ 1000000) : ∃ w', (Instr.makeSlice 33 (.int .i64 N) (.int .i64 N)).run Try.prog w = .ok (.slice (some ⟨w.heap.size, 0, none⟩) n n) w' ∧
    (convert 33 9 (.slice (some ⟨w.heap.size, 0, none⟩) n n)).run Try.prog w' = .ok (.string (zs n)) w' ∧ Below w.heap.size w w' := by
  subst hN
  obtain ⟨i0, hi, hz0, hz1, hz2⟩ := info_parts info5
  have hr := run_make (P := Try.prog) w 33 5 i0 (.int .u8 0) under33 hi hz0 .i64 .i64 (n : Int) (n : Int) (by omega) (by omega) (by rw [hz2]; omega) (by omega)
  simp only [Int.toNat_natCast] at hr
  refine ⟨_, hr, ?_, (Below.refl _ _).alloc (Nat.le_refl _) _⟩
  rw [run_convert_bytes_arg _ 33 5 under33 under5 w.heap.size 0 n n (List.replicate n 0) (by simp) (fun i hi => by
    rw [World.cell?_alloc_new, hz1]
    simp [madeCells, List.getD_eq_getElem?_getD, hi, Value.cells, Nat.mod_one]
    ) 9 under9]
  unfold strOfNums zs
  simp
end Go.Proofs.Ytbflcnghpkmcoaa
