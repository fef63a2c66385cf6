/-
  Line of the reference.
-/
import Derived.Test.YtedbklipbfbmoaaDoorRArg1
import Derived.Test.YtedbklipbfbmoaaDoorRArg2
import Derived.Test.YtedbklipbfbmoaaDoorRArg3
import Derived.Test.YtedbklipbfbmoaaDoorRArg4
namespace Go.Proofs.YtedbklipbfbmoaaDoor
open Go.RowKit

/-- A slice of strings behind its first one; it lies in the same block. -/
theorem Strs.tail2 {w : World} {g q t c : Nat} {x : B} {l : List B} (h : Strs w (.slice (some ⟨g, q, none⟩) (t + 1) c) (x :: l)) :
    ∃ A, (∀ w : World, (Instr.sliceAt 27 (.slice (some ⟨g, q, none⟩) (t + 1) c) (some (.int .i64 1)) none none).run Tryd.prog w = .ok (.slice A t (c - 1)) w) ∧ Strs w (.slice A t (c - 1)) l ∧ ∀ A', A = some A' → A'.block = g := by
  obtain ⟨A, h1, h2⟩ := h.tail
  obtain ⟨hn, hc⟩ := h.len
  refine ⟨A, h1, h2, ?_⟩
  have el : Tryd.prog.underlying 27 = some (.slice (Tryd.prog.elem 27)) := by kernel_rfl
  have ee : Tryd.prog.elem 27 = 9 := by kernel_rfl
  have sE : (sizeOf 9).run Tryd.prog w = .ok 1 w := by kernel_rfl
  have h3 := h1 w
  rw [run_sliceAt_slice _ _ _ _ _ _ el, run_slice_l _ _ _ _ _ el _ _ (by omega) (by omega), ee, sE] at h3
  have ea : (⟨g, q, none⟩ : Addr).add 1 = ⟨g, q + 1, none⟩ := Addr.add_mid _ _ _
  by_cases e : c = 1
  · simp [sliced, e] at h3
    intro A' hA'
    rw [hA'] at h3
    cases h3; rfl
  · simp [sliced, e, ea] at h3
    intro A' hA'
    rw [hA'] at h3
    cases h3; rfl
theorem len1 {l : List B} (h : l.length = 1) : ∃ x, l = [x] := by
  rcases l with _ | ⟨x, _ | ⟨y, l⟩⟩
  · simp at h
  · exact ⟨x, rfl⟩
  · simp at h
theorem len2 {l : List B} (h : l.length = 2) : ∃ x y, l = [x, y] := by
  rcases l with _ | ⟨x, l⟩
  · simp at h
  · obtain ⟨y, rfl⟩ := len1 (l := l) (by simpa using h)
    exact ⟨x, y, rfl⟩
theorem len4 {l : List B} (h : l.length = 4) : ∃ x y z u, l = [x, y, z, u] := by
  rcases l with _ | ⟨x, _ | ⟨y, l⟩⟩
  · simp at h
  · simp at h
  · obtain ⟨z, u, rfl⟩ := len2 (l := l) (by simpa using h)
    exact ⟨x, y, z, u, rfl⟩
theorem len5 {l : List B} (h : l.length = 5) : ∃ x y z u v, l = [x, y, z, u, v] := by
  rcases l with _ | ⟨x, l⟩
  · simp at h
  · obtain ⟨y, z, u, v, rfl⟩ := len4 (l := l) (by simpa using h)
    exact ⟨x, y, z, u, v, rfl⟩
theorem rargs_any (q : Bool) (A : Option Addr) (n c R : Nat) (l : List B) (hz : ∀ x ∈ l, (S x).size ≤ 100000) (w : World) (hS : Strs w (.slice A n c) l) (hA : ∀ A', A = some A' → A'.block < R) : ∀ v : Nat, v < 18 → v ≠ 0 → (fm v).least ≤ l.length → l.length ≤ (fm v).most →
    IsR w R [.int .i64 ((v : Nat) : Int), .slice none 0 0, .int .i64 0, .int .i64 0, .int .i64 0, .int .i64 0, .int .u64 0, .bool q, .string ⟨#[]⟩] →
    Calls Tryd.prog 73 #[.pointer (some ⟨R, 0, none⟩), .slice A n c] w fun e w' => e = .returned (.bool (rd (fm v).kinds 0 l Rq.none).isSome) ∧ Below R w w' ∧ Got w.heap.size R w' (rd (fm v).kinds 0 l Rq.none) v q := by
  have there : l ≠ [] → ∃ g q', A = some ⟨g, q', none⟩ ∧ g < R := fun hne => by
    obtain ⟨x, hx⟩ : ∃ x, l[0]? = some x := ⟨_, List.getElem?_eq_getElem (List.length_pos_iff.2 hne)⟩
    obtain ⟨g, q', h1, _⟩ := hS.at_ hx
    exact ⟨g, q', h1, hA _ h1⟩
  intro v hv hv0 h1 h2 hR
  match v, hv, hv0, h1, h2, hR with
  | 0, _, h, _, _, _ => exact absurd rfl h
  | 1, _, _, h1, h2, hR =>
    have l1 : 1 ≤ l.length := h1
    have l2 : l.length ≤ 64 := h2
    obtain ⟨g, q', rfl, hg⟩ := there (fun e => by rw [e] at l1; simp at l1)
    exact rargs_1 l q g q' n c R (by omega) hz w hR hS
  | 2, _, _, h1, h2, hR =>
    have l1 : 1 ≤ l.length := h1
    have l2 : l.length ≤ 64 := h2
    obtain ⟨g, q', rfl, hg⟩ := there (fun e => by rw [e] at l1; simp at l1)
    exact rargs_2 l q g q' n c R (by omega) hz w hR hS
  | 3, _, _, h1, h2, hR =>
    have l1 : 4 ≤ l.length := h1
    have l2 : l.length ≤ 4 := h2
    obtain ⟨x0, x1, x2, x3, rfl⟩ := len4 (l := l) (by omega)
    obtain ⟨g, q', rfl, hg⟩ := there (by simp)
    exact rargs_3 x0 x1 x2 x3 q g q' n c R (hz x0 (by simp)) (hz x1 (by simp)) (hz x2 (by simp)) (hz x3 (by simp)) w hR hS hg
  | 4, _, _, h1, h2, hR =>
    have l1 : 4 ≤ l.length := h1
    have l2 : l.length ≤ 4 := h2
    obtain ⟨x0, x1, x2, x3, rfl⟩ := len4 (l := l) (by omega)
    obtain ⟨g, q', rfl, hg⟩ := there (by simp)
    exact rargs_4 x0 x1 x2 x3 q g q' n c R (hz x0 (by simp)) (hz x1 (by simp)) (hz x2 (by simp)) (hz x3 (by simp)) w hR hS hg
  | 5, _, _, h1, h2, hR =>
    have l1 : 4 ≤ l.length := h1
    have l2 : l.length ≤ 4 := h2
    obtain ⟨x0, x1, x2, x3, rfl⟩ := len4 (l := l) (by omega)
    obtain ⟨g, q', rfl, hg⟩ := there (by simp)
    exact rargs_5 x0 x1 x2 x3 q g q' n c R (hz x0 (by simp)) (hz x1 (by simp)) (hz x2 (by simp)) (hz x3 (by simp)) w hR hS hg
  | 6, _, _, h1, h2, hR =>
    have l1 : 4 ≤ l.length := h1
    have l2 : l.length ≤ 4 := h2
    obtain ⟨x0, x1, x2, x3, rfl⟩ := len4 (l := l) (by omega)
    obtain ⟨g, q', rfl, hg⟩ := there (by simp)
    exact rargs_6 x0 x1 x2 x3 q g q' n c R (hz x0 (by simp)) (hz x1 (by simp)) (hz x2 (by simp)) (hz x3 (by simp)) w hR hS hg
  | 7, _, _, h1, h2, hR =>
    have l1 : 4 ≤ l.length := h1
    have l2 : l.length ≤ 4 := h2
    obtain ⟨x0, x1, x2, x3, rfl⟩ := len4 (l := l) (by omega)
    obtain ⟨g, q', rfl, hg⟩ := there (by simp)
    exact rargs_7 x0 x1 x2 x3 q g q' n c R (hz x0 (by simp)) (hz x1 (by simp)) (hz x2 (by simp)) (hz x3 (by simp)) w hR hS hg
  | 8, _, _, h1, h2, hR =>
    have l1 : 5 ≤ l.length := h1
    have l2 : l.length ≤ 5 := h2
    obtain ⟨x0, x1, x2, x3, x4, rfl⟩ := len5 (l := l) (by omega)
    obtain ⟨g, q', rfl, hg⟩ := there (by simp)
    exact rargs_8 x0 x1 x2 x3 x4 q g q' n c R (hz x0 (by simp)) (hz x1 (by simp)) (hz x2 (by simp)) (hz x3 (by simp)) (hz x4 (by simp)) w hR hS hg
  | 9, _, _, h1, h2, hR =>
    have l1 : 1 ≤ l.length := h1
    have l2 : l.length ≤ 1 := h2
    obtain ⟨x0, rfl⟩ := len1 (l := l) (by omega)
    obtain ⟨g, q', rfl, hg⟩ := there (by simp)
    exact rargs_9 x0 q g q' n c R (hz x0 (by simp)) w hR hS hg
  | 10, _, _, h1, h2, hR =>
    have l1 : 2 ≤ l.length := h1
    have l2 : l.length ≤ 2 := h2
    obtain ⟨x0, x1, rfl⟩ := len2 (l := l) (by omega)
    obtain ⟨g, q', rfl, hg⟩ := there (by simp)
    exact rargs_10 x0 x1 q g q' n c R (hz x0 (by simp)) (hz x1 (by simp)) w hR hS hg
  | 11, _, _, h1, h2, hR =>
    have l1 : 2 ≤ l.length := h1
    have l2 : l.length ≤ 2 := h2
    obtain ⟨x0, x1, rfl⟩ := len2 (l := l) (by omega)
    obtain ⟨g, q', rfl, hg⟩ := there (by simp)
    exact rargs_11 x0 x1 q g q' n c R (hz x0 (by simp)) (hz x1 (by simp)) w hR hS hg
  | 12, _, _, h1, h2, hR =>
    have l1 : 2 ≤ l.length := h1
    have l2 : l.length ≤ 2 := h2
    obtain ⟨x0, x1, rfl⟩ := len2 (l := l) (by omega)
    obtain ⟨g, q', rfl, hg⟩ := there (by simp)
    exact rargs_12 x0 x1 q g q' n c R (hz x0 (by simp)) (hz x1 (by simp)) w hR hS hg
  | 13, _, _, h1, h2, hR =>
    have l2 : l.length ≤ 1 := h2
    by_cases h0 : l.length = 0
    · obtain rfl : l = [] := List.eq_nil_of_length_eq_zero h0
      obtain ⟨hn, _⟩ := hS.len
      have hn' : n = 0 := hn
      subst hn'
      exact rargs_13a q A c R w hR
    · obtain ⟨x, rfl⟩ := len1 (l := l) (by omega)
      obtain ⟨g, q', rfl, hg⟩ := there (by simp)
      exact rargs_13b x q g q' n c R w hR hS
  | 14, _, _, h1, h2, hR =>
    have l2 : l.length ≤ 0 := h2
    obtain rfl : l = [] := List.eq_nil_of_length_eq_zero (by omega)
    exact rargs_14 q A n c R w hR
  | 15, _, _, h1, h2, hR =>
    have l1 : 1 ≤ l.length := h1
    have l2 : l.length ≤ 1 := h2
    obtain ⟨x, rfl⟩ := len1 (l := l) (by omega)
    obtain ⟨g, q', rfl, hg⟩ := there (by simp)
    exact rargs_15 x q g q' n c R w hR hS
  | 16, _, _, h1, h2, hR =>
    have l2 : l.length ≤ 0 := h2
    obtain rfl : l = [] := List.eq_nil_of_length_eq_zero (by omega)
    exact rargs_16 q A n c R w hR
  | 17, _, _, h1, h2, hR =>
    have l2 : l.length ≤ 0 := h2
    obtain rfl : l = [] := List.eq_nil_of_length_eq_zero (by omega)
    exact rargs_17 q A n c R w hR
  | m + 18, h, _, _, _, _ => exact absurd h (by omega)
set_option maxRecDepth 100000 in
set_option maxHeartbeats 2000000 in
theorem rline_any (s : ByteArray) (hs : s.size ≤ 100000) (w : World) :
    Calls Tryd.prog 58 #[.string s] w fun e w' => ∃ a n c, e = .returned (.tuple #[(line (L s)).1.v (.slice a n c), .int .i64 (((line (L s)).2 : Nat) : Int)]) ∧ Strs w' (.slice a n c) (line (L s)).1.keys ∧ Below w.heap.size w w' ∧ ∀ A, a = some A → w.heap.size ≤ A.block := by
  go_enter Tryd.func58, Tryd.ntmps58
  go_wp2_with fail
  refine (rwords_any s hs _).mono ?_
  rintro e w1 ⟨v, rfl, S1, b1⟩
  obtain ⟨a1, n1, c1, rfl⟩ := S1.form
  obtain ⟨hn1, hc1⟩ := S1.len
  have B1 : Hid (Below (w.heap.size + 1) (w.alloc (.cells ZV.toArray 30)) w1) := Lib.hid (by rw [size_alloc] at b1; exact b1)
  have LL := split_len (L s)
  rw [L_len] at LL
  cases hsp : split (L s) with
  | nil =>
    rw [hsp] at hn1
    have hn0 : n1 = 0 := hn1
    subst hn0
    have HSP := Lib.hid hsp
    clear hsp hn1 S1 b1 LL
    obtain ⟨th, rg, b9⟩ := ans_at B1.out Rq.none none 0 0
    obtain ⟨W9, hW9⟩ : ∃ W9, W9 = (w1).setCells w.heap.size 0 (Rq.none.cs (.slice none 0 0)) := ⟨_, rfl⟩
    rw [← hW9] at rg b9
    have z0 : W9.cell? ⟨w.heap.size, 0, none⟩ = some (.int .i64 0) := rg 0 _ rfl
    have z1 : W9.cell? ⟨w.heap.size, 1, none⟩ = some (.slice none 0 0) := rg 1 _ rfl
    have z2 : W9.cell? ⟨w.heap.size, 2, none⟩ = some (.int .i64 0) := rg 2 _ rfl
    have z3 : W9.cell? ⟨w.heap.size, 3, none⟩ = some (.int .i64 0) := rg 3 _ rfl
    have z4 : W9.cell? ⟨w.heap.size, 4, none⟩ = some (.int .i64 0) := rg 4 _ rfl
    have z5 : W9.cell? ⟨w.heap.size, 5, none⟩ = some (.int .i64 0) := rg 5 _ rfl
    have z6 : W9.cell? ⟨w.heap.size, 6, none⟩ = some (.int .u64 0) := rg 6 _ rfl
    have z7 : W9.cell? ⟨w.heap.size, 7, none⟩ = some (.bool false) := rg 7 _ rfl
    have z8 : W9.cell? ⟨w.heap.size, 8, none⟩ = some (.string ⟨#[]⟩) := rg 8 _ rfl
    have TH := Lib.hid th
    have HW9 := Lib.hid hW9
    have HB9 := Lib.hid b9
    have HE : Hid (line (L s) = (Rq.none, 4)) := Lib.hid (by unfold line; rw [HSP.out])
    clear rg th hW9 b9
    go_wp2_with ((with_reducible show wpList _ _ _ (Oper.mk none (Op.store 30 (.tmp 2) _) _ _ _ _ :: _) _ _); refine wpList_store_mid (by rfl) 30 (.tmp 2) (.tmp 16) (by rfl) w.heap.size 0 #[.int .i64 0, .slice none 0 0, .int .i64 0, .int .i64 0, .int .i64 0, .int .i64 0, .int .u64 0, .bool false, .string ⟨#[]⟩] (by rfl) (by rfl) TH.out (by kernel_rfl) (all_oneCell_toArray zv_one) ?_; rw [show (#[Value.int .i64 0, .slice none 0 0, .int .i64 0, .int .i64 0, .int .i64 0, .int .i64 0, .int .u64 0, .bool false, .string ⟨#[]⟩] : Array Value).toList = Rq.none.cs (.slice none 0 0) from rfl, ← HW9.out])
    refine bodyPost_ret (v := .tuple #[.agg #[.int .i64 0, .slice none 0 0, .int .i64 0, .int .i64 0, .int .i64 0, .int .i64 0, .int .u64 0, .bool false, .string ⟨#[]⟩], .int .i64 4]) (by simp [results, Tryd.results58]; go_simp) rfl ?_
    exact ⟨none, 0, 0, by rw [HE.out]; rfl, by rw [HE.out]; exact ⟨none, 0, rfl, Nat.le_refl _, fun e => absurd rfl e⟩, HB9.out, fun _ h => by cases h⟩
  | cons hd tl =>
    rw [hsp] at hn1 S1 LL
    obtain ⟨t1, ht1⟩ : ∃ t1, n1 = t1 + 1 := ⟨tl.length, hn1⟩
    subst ht1
    have htl : t1 = tl.length := by simp at hn1; exact hn1
    have tb : t1 ≤ 100000 := by simp at LL; omega
    obtain ⟨g, q, rfl, q0⟩ := S1.at_ (i := 0) (x := hd) rfl
    rw [Nat.add_zero] at q0
    have gl : g < w1.heap.size := World.block_lt_of_cell? _ _ q0
    obtain ⟨A, sl, ST, tg⟩ := S1.tail2
    have HST := Lib.hid ST
    have HSL := Lib.hid sl
    have HTL := Lib.hid htl
    have hz : ∀ x ∈ tl, (S x).size ≤ 100000 := fun x hx => by
      have h1 := split_lens (L s)
      rw [hsp] at h1
      rw [L_len] at h1
      have h2 : x.length ≤ lens tl := by
        obtain ⟨l1, l2, rfl⟩ := List.append_of_mem hx
        simp [lens]; omega
      rw [lens_cons] at h1
      rw [S_size]; omega
    have HZT := Lib.hid hz
    have HAB : Hid (∀ A', A = some A' → A'.block < w1.heap.size) := Lib.hid (fun A' hA' => by rw [tg A' hA']; exact gl)
    have HL : Hid (line (L s) = lin (vb hd) tl) := Lib.hid (by unfold line; rw [hsp])
    have hv18 := vb_lt hd
    obtain ⟨vn, hvn⟩ : ∃ vn, vn = vb hd := ⟨_, rfl⟩
    rw [← hvn] at hv18 HL
    have RV := rverb_any (S hd) vn hv18 (by rw [L_S]; exact hvn.symm)
    obtain ⟨⟨ks, lo, hi, hu⟩, hF⟩ : ∃ F, fm vn = F := ⟨_, rfl⟩
    unfold vbV at RV
    simp only [hF] at RV
    have HF := Lib.hid hF
    clear hsp hn1 S1 b1 LL sl ST htl hvn hz hF tg gl
    go_wp2_with fail
    refine (RV _).mono ?_
    rintro e w' ⟨rfl, rfl⟩
    have sl := HSL.out
    clear RV HSL
    cases hu with
    | false =>
      have HHU : Hid (hushed ⟨ks, lo, hi, false⟩ tl = false) := Lib.hid (rfl)
      obtain ⟨AL, hAL⟩ : ∃ AL, AL = tl := ⟨_, rfl⟩
      have HAR : Hid (args ⟨ks, lo, hi, false⟩ tl = AL) := Lib.hid (by unfold args; rw [HHU.out, hAL]; rfl)
      have HSA : Hid (Strs w1 (.slice A AL.length (c1 - 1)) AL) := Lib.hid (by rw [hAL, ← HTL.out]; exact HST.out)
      have HZA : Hid (∀ x ∈ AL, (S x).size ≤ 100000) := Lib.hid (by rw [hAL]; exact HZT.out)
      have HAL : Hid (AL.length = t1) := Lib.hid (by rw [hAL]; exact HTL.out.symm)
      clear hAL
      have HB5 : Hid (Below (w.heap.size + 1) (w.alloc (.cells ZV.toArray 30)) (w1.alloc (.cells #[.int .i64 ((vn : Nat) : Int), .slice none 0 0, .int .i64 0, .int .i64 0, .int .i64 0, .int .i64 0, .int .u64 0, .bool false, .string ⟨#[]⟩] 30))) := Lib.hid (B1.out.alloc (by have := B1.out.size; rw [size_alloc] at this; exact this) _)
      have HLL : Hid (line (L s) = if vn = 0 then (Rq.none, 4) else if AL.length < lo ∨ hi < AL.length then (Rq.none, 4) else match rd ks 0 AL Rq.none with | none => (Rq.none, 1) | some r => ({ r with verb := vn, quiet := false }, 0)) := Lib.hid (by rw [HL.out]; unfold lin; rw [HF.out, HAR.out, HHU.out]; rfl)
      rw [HAL.out] at HLL
      by_cases hv0 : vn = 0
      · have hv2 : (((vn : Nat) : Int) == 0) = true := by rw [hv0]; rfl
        have HV0 := Lib.hid hv0
        clear hv0
        obtain ⟨th, rg, b9⟩ := ans_at HB5.out Rq.none none 0 0
        obtain ⟨W9, hW9⟩ : ∃ W9, W9 = ((w1.alloc (.cells #[.int .i64 ((vn : Nat) : Int), .slice none 0 0, .int .i64 0, .int .i64 0, .int .i64 0, .int .i64 0, .int .u64 0, .bool false, .string ⟨#[]⟩] 30))).setCells w.heap.size 0 (Rq.none.cs (.slice none 0 0)) := ⟨_, rfl⟩
        rw [← hW9] at rg b9
        have z0 : W9.cell? ⟨w.heap.size, 0, none⟩ = some (.int .i64 0) := rg 0 _ rfl
        have z1 : W9.cell? ⟨w.heap.size, 1, none⟩ = some (.slice none 0 0) := rg 1 _ rfl
        have z2 : W9.cell? ⟨w.heap.size, 2, none⟩ = some (.int .i64 0) := rg 2 _ rfl
        have z3 : W9.cell? ⟨w.heap.size, 3, none⟩ = some (.int .i64 0) := rg 3 _ rfl
        have z4 : W9.cell? ⟨w.heap.size, 4, none⟩ = some (.int .i64 0) := rg 4 _ rfl
        have z5 : W9.cell? ⟨w.heap.size, 5, none⟩ = some (.int .i64 0) := rg 5 _ rfl
        have z6 : W9.cell? ⟨w.heap.size, 6, none⟩ = some (.int .u64 0) := rg 6 _ rfl
        have z7 : W9.cell? ⟨w.heap.size, 7, none⟩ = some (.bool false) := rg 7 _ rfl
        have z8 : W9.cell? ⟨w.heap.size, 8, none⟩ = some (.string ⟨#[]⟩) := rg 8 _ rfl
        have TH := Lib.hid th
        have HW9 := Lib.hid hW9
        have HB9 := Lib.hid b9
        have HE : Hid (line (L s) = (Rq.none, 4)) := Lib.hid (by rw [HLL.out, if_pos HV0.out])
        clear rg th hW9 b9
        go_wp2_with ((with_reducible show wpList _ _ _ (Oper.mk none (Op.store 30 (.tmp 2) _) _ _ _ _ :: _) _ _); refine wpList_store_mid (by rfl) 30 (.tmp 2) (.tmp 71) (by rfl) w.heap.size 0 #[.int .i64 0, .slice none 0 0, .int .i64 0, .int .i64 0, .int .i64 0, .int .i64 0, .int .u64 0, .bool false, .string ⟨#[]⟩] (by rfl) (by rfl) TH.out (by kernel_rfl) (all_oneCell_toArray zv_one) ?_; rw [show (#[Value.int .i64 0, .slice none 0 0, .int .i64 0, .int .i64 0, .int .i64 0, .int .i64 0, .int .u64 0, .bool false, .string ⟨#[]⟩] : Array Value).toList = Rq.none.cs (.slice none 0 0) from rfl, ← HW9.out])
        refine bodyPost_ret (v := .tuple #[.agg #[.int .i64 0, .slice none 0 0, .int .i64 0, .int .i64 0, .int .i64 0, .int .i64 0, .int .u64 0, .bool false, .string ⟨#[]⟩], .int .i64 4]) (by simp [results, Tryd.results58]; go_simp) rfl ?_
        exact ⟨none, 0, 0, by rw [HE.out]; rfl, by rw [HE.out]; exact ⟨none, 0, rfl, Nat.le_refl _, fun e => absurd rfl e⟩, HB9.out, fun _ h => by cases h⟩
      · have hv1 : ¬ ((vn : Nat) : Int) = 0 := by omega
        by_cases d1 : (t1) < lo
        · have d1' : decide ((t1) < lo) = true := decide_eq_true d1
          have d1'' : (((t1) : Nat) : Int) < (lo : Int) := by omega
          obtain ⟨th, rg, b9⟩ := ans_at HB5.out Rq.none none 0 0
          obtain ⟨W9, hW9⟩ : ∃ W9, W9 = ((w1.alloc (.cells #[.int .i64 ((vn : Nat) : Int), .slice none 0 0, .int .i64 0, .int .i64 0, .int .i64 0, .int .i64 0, .int .u64 0, .bool false, .string ⟨#[]⟩] 30))).setCells w.heap.size 0 (Rq.none.cs (.slice none 0 0)) := ⟨_, rfl⟩
          rw [← hW9] at rg b9
          have z0 : W9.cell? ⟨w.heap.size, 0, none⟩ = some (.int .i64 0) := rg 0 _ rfl
          have z1 : W9.cell? ⟨w.heap.size, 1, none⟩ = some (.slice none 0 0) := rg 1 _ rfl
          have z2 : W9.cell? ⟨w.heap.size, 2, none⟩ = some (.int .i64 0) := rg 2 _ rfl
          have z3 : W9.cell? ⟨w.heap.size, 3, none⟩ = some (.int .i64 0) := rg 3 _ rfl
          have z4 : W9.cell? ⟨w.heap.size, 4, none⟩ = some (.int .i64 0) := rg 4 _ rfl
          have z5 : W9.cell? ⟨w.heap.size, 5, none⟩ = some (.int .i64 0) := rg 5 _ rfl
          have z6 : W9.cell? ⟨w.heap.size, 6, none⟩ = some (.int .u64 0) := rg 6 _ rfl
          have z7 : W9.cell? ⟨w.heap.size, 7, none⟩ = some (.bool false) := rg 7 _ rfl
          have z8 : W9.cell? ⟨w.heap.size, 8, none⟩ = some (.string ⟨#[]⟩) := rg 8 _ rfl
          have TH := Lib.hid th
          have HW9 := Lib.hid hW9
          have HB9 := Lib.hid b9
          have HE : Hid (line (L s) = (Rq.none, 4)) := Lib.hid (by rw [HLL.out, if_neg hv0, if_pos (.inl d1)])
          clear rg th hW9 b9
          go_wp2_with ((with_reducible show wpList _ _ _ (Oper.mk none (Op.store 30 (.tmp 2) _) _ _ _ _ :: _) _ _); refine wpList_store_mid (by rfl) 30 (.tmp 2) (.tmp 71) (by rfl) w.heap.size 0 #[.int .i64 0, .slice none 0 0, .int .i64 0, .int .i64 0, .int .i64 0, .int .i64 0, .int .u64 0, .bool false, .string ⟨#[]⟩] (by rfl) (by rfl) TH.out (by kernel_rfl) (all_oneCell_toArray zv_one) ?_; rw [show (#[Value.int .i64 0, .slice none 0 0, .int .i64 0, .int .i64 0, .int .i64 0, .int .i64 0, .int .u64 0, .bool false, .string ⟨#[]⟩] : Array Value).toList = Rq.none.cs (.slice none 0 0) from rfl, ← HW9.out])
          refine bodyPost_ret (v := .tuple #[.agg #[.int .i64 0, .slice none 0 0, .int .i64 0, .int .i64 0, .int .i64 0, .int .i64 0, .int .u64 0, .bool false, .string ⟨#[]⟩], .int .i64 4]) (by simp [results, Tryd.results58]; go_simp) rfl ?_
          exact ⟨none, 0, 0, by rw [HE.out]; rfl, by rw [HE.out]; exact ⟨none, 0, rfl, Nat.le_refl _, fun e => absurd rfl e⟩, HB9.out, fun _ h => by cases h⟩
        · have d1' : decide ((t1) < lo) = false := decide_eq_false d1
          have d1'' : decide ((((t1) : Nat) : Int) < (lo : Int)) = false := decide_eq_false (by omega)
          by_cases d2 : hi < (t1)
          · have d2' : decide (hi < (t1)) = true := decide_eq_true d2
            have d2'' : (hi : Int) < (((t1) : Nat) : Int) := by omega
            obtain ⟨th, rg, b9⟩ := ans_at HB5.out Rq.none none 0 0
            obtain ⟨W9, hW9⟩ : ∃ W9, W9 = ((w1.alloc (.cells #[.int .i64 ((vn : Nat) : Int), .slice none 0 0, .int .i64 0, .int .i64 0, .int .i64 0, .int .i64 0, .int .u64 0, .bool false, .string ⟨#[]⟩] 30))).setCells w.heap.size 0 (Rq.none.cs (.slice none 0 0)) := ⟨_, rfl⟩
            rw [← hW9] at rg b9
            have z0 : W9.cell? ⟨w.heap.size, 0, none⟩ = some (.int .i64 0) := rg 0 _ rfl
            have z1 : W9.cell? ⟨w.heap.size, 1, none⟩ = some (.slice none 0 0) := rg 1 _ rfl
            have z2 : W9.cell? ⟨w.heap.size, 2, none⟩ = some (.int .i64 0) := rg 2 _ rfl
            have z3 : W9.cell? ⟨w.heap.size, 3, none⟩ = some (.int .i64 0) := rg 3 _ rfl
            have z4 : W9.cell? ⟨w.heap.size, 4, none⟩ = some (.int .i64 0) := rg 4 _ rfl
            have z5 : W9.cell? ⟨w.heap.size, 5, none⟩ = some (.int .i64 0) := rg 5 _ rfl
            have z6 : W9.cell? ⟨w.heap.size, 6, none⟩ = some (.int .u64 0) := rg 6 _ rfl
            have z7 : W9.cell? ⟨w.heap.size, 7, none⟩ = some (.bool false) := rg 7 _ rfl
            have z8 : W9.cell? ⟨w.heap.size, 8, none⟩ = some (.string ⟨#[]⟩) := rg 8 _ rfl
            have TH := Lib.hid th
            have HW9 := Lib.hid hW9
            have HB9 := Lib.hid b9
            have HE : Hid (line (L s) = (Rq.none, 4)) := Lib.hid (by rw [HLL.out, if_neg hv0, if_pos (.inr d2)])
            clear rg th hW9 b9
            go_wp2_with ((with_reducible show wpList _ _ _ (Oper.mk none (Op.store 30 (.tmp 2) _) _ _ _ _ :: _) _ _); refine wpList_store_mid (by rfl) 30 (.tmp 2) (.tmp 71) (by rfl) w.heap.size 0 #[.int .i64 0, .slice none 0 0, .int .i64 0, .int .i64 0, .int .i64 0, .int .i64 0, .int .u64 0, .bool false, .string ⟨#[]⟩] (by rfl) (by rfl) TH.out (by kernel_rfl) (all_oneCell_toArray zv_one) ?_; rw [show (#[Value.int .i64 0, .slice none 0 0, .int .i64 0, .int .i64 0, .int .i64 0, .int .i64 0, .int .u64 0, .bool false, .string ⟨#[]⟩] : Array Value).toList = Rq.none.cs (.slice none 0 0) from rfl, ← HW9.out])
            refine bodyPost_ret (v := .tuple #[.agg #[.int .i64 0, .slice none 0 0, .int .i64 0, .int .i64 0, .int .i64 0, .int .i64 0, .int .u64 0, .bool false, .string ⟨#[]⟩], .int .i64 4]) (by simp [results, Tryd.results58]; go_simp) rfl ?_
            exact ⟨none, 0, 0, by rw [HE.out]; rfl, by rw [HE.out]; exact ⟨none, 0, rfl, Nat.le_refl _, fun e => absurd rfl e⟩, HB9.out, fun _ h => by cases h⟩
          · have d2' : decide (hi < (t1)) = false := decide_eq_false d2
            have d2'' : decide ((hi : Int) < (((t1) : Nat) : Int)) = false := decide_eq_false (by omega)
            have hIR : IsR (w1.alloc (.cells #[.int .i64 ((vn : Nat) : Int), .slice none 0 0, .int .i64 0, .int .i64 0, .int .i64 0, .int .i64 0, .int .u64 0, .bool false, .string ⟨#[]⟩] 30)) w1.heap.size [.int .i64 ((vn : Nat) : Int), .slice none 0 0, .int .i64 0, .int .i64 0, .int .i64 0, .int .i64 0, .int .u64 0, .bool false, .string ⟨#[]⟩] := ⟨lay_new _ _, fun j => World.frozen?_alloc_new _ _ _ _, by rw [size_alloc]; omega⟩
            have RA := rargs_any false A _ (c1 - 1) w1.heap.size AL HZA.out (w1.alloc (.cells #[.int .i64 ((vn : Nat) : Int), .slice none 0 0, .int .i64 0, .int .i64 0, .int .i64 0, .int .i64 0, .int .u64 0, .bool false, .string ⟨#[]⟩] 30)) (by have h := HSA.out.below ((Below.refl _ _).alloc (Nat.le_refl _) (.cells #[.int .i64 ((vn : Nat) : Int), .slice none 0 0, .int .i64 0, .int .i64 0, .int .i64 0, .int .i64 0, .int .u64 0, .bool false, .string ⟨#[]⟩] 30)); rwa [HAL.out] at h) HAB.out vn hv18 hv0 (by rw [HF.out]; show lo ≤ AL.length; rw [HAL.out]; omega) (by rw [HF.out]; show AL.length ≤ hi; rw [HAL.out]; omega) hIR
            rw [HF.out, size_alloc] at RA
            simp only at RA
            have HL3 : Hid (line (L s) = match rd ks 0 AL Rq.none with | none => (Rq.none, 1) | some r => ({ r with verb := vn, quiet := false }, 0)) := Lib.hid (by rw [HLL.out, if_neg hv0, if_neg (by omega)])
            clear hIR HLL
            cases hr : rd ks 0 AL Rq.none with
            | none =>
              rw [hr] at RA HL3
              simp only [Option.isSome_none] at RA
              go_wp2_with fail
              refine RA.mono ?_
              rintro e w6 ⟨rfl, b6, _⟩
              have HB6 : Hid (Below (w.heap.size + 1) (w.alloc (.cells ZV.toArray 30)) w6) := Lib.hid (HB5.out.trans (b6.mono (by have := B1.out.size; rw [size_alloc] at this; exact this)))
              clear b6 RA
              obtain ⟨th, rg, b9⟩ := ans_at HB6.out Rq.none none 0 0
              obtain ⟨W9, hW9⟩ : ∃ W9, W9 = (w6).setCells w.heap.size 0 (Rq.none.cs (.slice none 0 0)) := ⟨_, rfl⟩
              rw [← hW9] at rg b9
              have z0 : W9.cell? ⟨w.heap.size, 0, none⟩ = some (.int .i64 0) := rg 0 _ rfl
              have z1 : W9.cell? ⟨w.heap.size, 1, none⟩ = some (.slice none 0 0) := rg 1 _ rfl
              have z2 : W9.cell? ⟨w.heap.size, 2, none⟩ = some (.int .i64 0) := rg 2 _ rfl
              have z3 : W9.cell? ⟨w.heap.size, 3, none⟩ = some (.int .i64 0) := rg 3 _ rfl
              have z4 : W9.cell? ⟨w.heap.size, 4, none⟩ = some (.int .i64 0) := rg 4 _ rfl
              have z5 : W9.cell? ⟨w.heap.size, 5, none⟩ = some (.int .i64 0) := rg 5 _ rfl
              have z6 : W9.cell? ⟨w.heap.size, 6, none⟩ = some (.int .u64 0) := rg 6 _ rfl
              have z7 : W9.cell? ⟨w.heap.size, 7, none⟩ = some (.bool false) := rg 7 _ rfl
              have z8 : W9.cell? ⟨w.heap.size, 8, none⟩ = some (.string ⟨#[]⟩) := rg 8 _ rfl
              have TH := Lib.hid th
              have HW9 := Lib.hid hW9
              have HB9 := Lib.hid b9
              have HE : Hid (line (L s) = (Rq.none, 1)) := Lib.hid (by rw [HL3.out])
              clear rg th hW9 b9
              go_wp2_with ((with_reducible show wpList _ _ _ (Oper.mk none (Op.store 30 (.tmp 2) _) _ _ _ _ :: _) _ _); refine wpList_store_mid (by rfl) 30 (.tmp 2) (.tmp 75) (by rfl) w.heap.size 0 #[.int .i64 0, .slice none 0 0, .int .i64 0, .int .i64 0, .int .i64 0, .int .i64 0, .int .u64 0, .bool false, .string ⟨#[]⟩] (by rfl) (by rfl) TH.out (by kernel_rfl) (all_oneCell_toArray zv_one) ?_; rw [show (#[Value.int .i64 0, .slice none 0 0, .int .i64 0, .int .i64 0, .int .i64 0, .int .i64 0, .int .u64 0, .bool false, .string ⟨#[]⟩] : Array Value).toList = Rq.none.cs (.slice none 0 0) from rfl, ← HW9.out])
              refine bodyPost_ret (v := .tuple #[.agg #[.int .i64 0, .slice none 0 0, .int .i64 0, .int .i64 0, .int .i64 0, .int .i64 0, .int .u64 0, .bool false, .string ⟨#[]⟩], .int .i64 1]) (by simp [results, Tryd.results58]; go_simp) rfl ?_
              exact ⟨none, 0, 0, by rw [HE.out]; rfl, by rw [HE.out]; exact ⟨none, 0, rfl, Nat.le_refl _, fun e => absurd rfl e⟩, HB9.out, fun _ h => by cases h⟩
            | some r =>
              rw [hr] at RA HL3
              simp only [Option.isSome_some] at RA
              obtain ⟨rv, rks, rf, re, rb, rc, rdl, rq⟩ := r
              go_wp2_with fail
              refine RA.mono ?_
              rintro e w6 ⟨rfl, b6, G6⟩
              obtain ⟨a6, n6, c6, L6, S6, nw6⟩ := G6 _ rfl
              have HB6 : Hid (Below (w.heap.size + 1) (w.alloc (.cells ZV.toArray 30)) w6) := Lib.hid (HB5.out.trans (b6.mono (by have := B1.out.size; rw [size_alloc] at this; exact this)))
              have HN6 : Hid (∀ A, a6 = some A → w.heap.size < A.block) := Lib.hid (fun A hA => by
                have h := nw6 A hA
                have := B1.out.size
                rw [size_alloc] at this
                omega)
              have HS6 := Lib.hid S6
              obtain ⟨th, rg, b9⟩ := ans_at HB6.out ⟨vn, rks, rf, re, rb, rc, rdl, false⟩ a6 n6 c6
              obtain ⟨W9, hW9⟩ : ∃ W9, W9 = w6.setCells w.heap.size 0 (Rq.cs ⟨vn, rks, rf, re, rb, rc, rdl, false⟩ (.slice a6 n6 c6)) := ⟨_, rfl⟩
              rw [← hW9] at rg b9
              have z0 : W9.cell? ⟨w.heap.size, 0, none⟩ = some (.int .i64 ((vn : Nat) : Int)) := rg 0 _ rfl
              have y0 : w6.cell? ⟨w1.heap.size, 0, none⟩ = some (.int .i64 ((vn : Nat) : Int)) := L6 0 _ rfl
              have z1 : W9.cell? ⟨w.heap.size, 1, none⟩ = some (.slice a6 n6 c6) := rg 1 _ rfl
              have y1 : w6.cell? ⟨w1.heap.size, 1, none⟩ = some (.slice a6 n6 c6) := L6 1 _ rfl
              have z2 : W9.cell? ⟨w.heap.size, 2, none⟩ = some (.int .i64 rf) := rg 2 _ rfl
              have y2 : w6.cell? ⟨w1.heap.size, 2, none⟩ = some (.int .i64 rf) := L6 2 _ rfl
              have z3 : W9.cell? ⟨w.heap.size, 3, none⟩ = some (.int .i64 re) := rg 3 _ rfl
              have y3 : w6.cell? ⟨w1.heap.size, 3, none⟩ = some (.int .i64 re) := L6 3 _ rfl
              have z4 : W9.cell? ⟨w.heap.size, 4, none⟩ = some (.int .i64 rb) := rg 4 _ rfl
              have y4 : w6.cell? ⟨w1.heap.size, 4, none⟩ = some (.int .i64 rb) := L6 4 _ rfl
              have z5 : W9.cell? ⟨w.heap.size, 5, none⟩ = some (.int .i64 rc) := rg 5 _ rfl
              have y5 : w6.cell? ⟨w1.heap.size, 5, none⟩ = some (.int .i64 rc) := L6 5 _ rfl
              have z6 : W9.cell? ⟨w.heap.size, 6, none⟩ = some (.int .u64 ((rdl : Nat) : Int)) := rg 6 _ rfl
              have y6 : w6.cell? ⟨w1.heap.size, 6, none⟩ = some (.int .u64 ((rdl : Nat) : Int)) := L6 6 _ rfl
              have z7 : W9.cell? ⟨w.heap.size, 7, none⟩ = some (.bool false) := rg 7 _ rfl
              have y7 : w6.cell? ⟨w1.heap.size, 7, none⟩ = some (.bool false) := L6 7 _ rfl
              have z8 : W9.cell? ⟨w.heap.size, 8, none⟩ = some (.string ⟨#[]⟩) := rg 8 _ rfl
              have y8 : w6.cell? ⟨w1.heap.size, 8, none⟩ = some (.string ⟨#[]⟩) := L6 8 _ rfl
              have HS9 : Hid (Strs W9 (.slice a6 n6 c6) rks) := Lib.hid (by rw [hW9]; exact HS6.out.setP (fun A hA => Nat.ne_of_lt (HN6.out A hA)))
              have TH := Lib.hid th
              have HW9 := Lib.hid hW9
              have HB9 := Lib.hid b9
              clear rg th hW9 b9 b6 RA G6 L6 S6 nw6
              go_wp2_with ((with_reducible show wpList _ _ _ (Oper.mk none (Op.store 30 (.tmp 2) _) _ _ _ _ :: _) _ _); refine wpList_store_mid (by rfl) 30 (.tmp 2) (.tmp 76) (by rfl) w.heap.size 0 #[.int .i64 ((vn : Nat) : Int), .slice a6 n6 c6, .int .i64 rf, .int .i64 re, .int .i64 rb, .int .i64 rc, .int .u64 ((rdl : Nat) : Int), .bool false, .string ⟨#[]⟩] (by rfl) (by rfl) TH.out (by kernel_rfl) (all_oneCell_toArray (cs_one ⟨vn, rks, rf, re, rb, rc, rdl, false⟩ _ _ _)) ?_; rw [show (#[Value.int .i64 ((vn : Nat) : Int), .slice a6 n6 c6, .int .i64 rf, .int .i64 re, .int .i64 rb, .int .i64 rc, .int .u64 ((rdl : Nat) : Int), .bool false, .string ⟨#[]⟩] : Array Value).toList = Rq.cs ⟨vn, rks, rf, re, rb, rc, rdl, false⟩ (.slice a6 n6 c6) from rfl, ← HW9.out])
              refine bodyPost_ret (v := .tuple #[.agg #[.int .i64 ((vn : Nat) : Int), .slice a6 n6 c6, .int .i64 rf, .int .i64 re, .int .i64 rb, .int .i64 rc, .int .u64 ((rdl : Nat) : Int), .bool false, .string ⟨#[]⟩], .int .i64 0]) (by simp [results, Tryd.results58]; go_simp) rfl ?_
              exact ⟨a6, n6, c6, by rw [HL3.out]; rfl, by rw [HL3.out]; exact HS9.out, HB9.out, fun A hA => Nat.le_of_lt (HN6.out A hA)⟩
    | true =>
      by_cases ht0 : t1 = 0
      · have i0 : decide ((0 : Int) < (t1 : Int)) = false := decide_eq_false (by omega)
        have i1 : decide (0 < t1) = false := decide_eq_false (by omega)
        have HT0 := Lib.hid ht0
        clear ht0
        have HHU : Hid (hushed ⟨ks, lo, hi, true⟩ tl = false) := Lib.hid (by unfold hushed; rw [← HTL.out, HT0.out]; rfl)
        obtain ⟨AL, hAL⟩ : ∃ AL, AL = tl := ⟨_, rfl⟩
        have HAR : Hid (args ⟨ks, lo, hi, true⟩ tl = AL) := Lib.hid (by unfold args; rw [HHU.out, hAL]; rfl)
        have HSA : Hid (Strs w1 (.slice A AL.length (c1 - 1)) AL) := Lib.hid (by rw [hAL, ← HTL.out]; exact HST.out)
        have HZA : Hid (∀ x ∈ AL, (S x).size ≤ 100000) := Lib.hid (by rw [hAL]; exact HZT.out)
        have HAL : Hid (AL.length = t1) := Lib.hid (by rw [hAL]; exact HTL.out.symm)
        clear hAL
        have HB5 : Hid (Below (w.heap.size + 1) (w.alloc (.cells ZV.toArray 30)) (w1.alloc (.cells #[.int .i64 ((vn : Nat) : Int), .slice none 0 0, .int .i64 0, .int .i64 0, .int .i64 0, .int .i64 0, .int .u64 0, .bool false, .string ⟨#[]⟩] 30))) := Lib.hid (B1.out.alloc (by have := B1.out.size; rw [size_alloc] at this; exact this) _)
        have HLL : Hid (line (L s) = if vn = 0 then (Rq.none, 4) else if AL.length < lo ∨ hi < AL.length then (Rq.none, 4) else match rd ks 0 AL Rq.none with | none => (Rq.none, 1) | some r => ({ r with verb := vn, quiet := false }, 0)) := Lib.hid (by rw [HL.out]; unfold lin; rw [HF.out, HAR.out, HHU.out]; rfl)
        rw [HAL.out] at HLL
        by_cases hv0 : vn = 0
        · have hv2 : (((vn : Nat) : Int) == 0) = true := by rw [hv0]; rfl
          have HV0 := Lib.hid hv0
          clear hv0
          obtain ⟨th, rg, b9⟩ := ans_at HB5.out Rq.none none 0 0
          obtain ⟨W9, hW9⟩ : ∃ W9, W9 = ((w1.alloc (.cells #[.int .i64 ((vn : Nat) : Int), .slice none 0 0, .int .i64 0, .int .i64 0, .int .i64 0, .int .i64 0, .int .u64 0, .bool false, .string ⟨#[]⟩] 30))).setCells w.heap.size 0 (Rq.none.cs (.slice none 0 0)) := ⟨_, rfl⟩
          rw [← hW9] at rg b9
          have z0 : W9.cell? ⟨w.heap.size, 0, none⟩ = some (.int .i64 0) := rg 0 _ rfl
          have z1 : W9.cell? ⟨w.heap.size, 1, none⟩ = some (.slice none 0 0) := rg 1 _ rfl
          have z2 : W9.cell? ⟨w.heap.size, 2, none⟩ = some (.int .i64 0) := rg 2 _ rfl
          have z3 : W9.cell? ⟨w.heap.size, 3, none⟩ = some (.int .i64 0) := rg 3 _ rfl
          have z4 : W9.cell? ⟨w.heap.size, 4, none⟩ = some (.int .i64 0) := rg 4 _ rfl
          have z5 : W9.cell? ⟨w.heap.size, 5, none⟩ = some (.int .i64 0) := rg 5 _ rfl
          have z6 : W9.cell? ⟨w.heap.size, 6, none⟩ = some (.int .u64 0) := rg 6 _ rfl
          have z7 : W9.cell? ⟨w.heap.size, 7, none⟩ = some (.bool false) := rg 7 _ rfl
          have z8 : W9.cell? ⟨w.heap.size, 8, none⟩ = some (.string ⟨#[]⟩) := rg 8 _ rfl
          have TH := Lib.hid th
          have HW9 := Lib.hid hW9
          have HB9 := Lib.hid b9
          have HE : Hid (line (L s) = (Rq.none, 4)) := Lib.hid (by rw [HLL.out, if_pos HV0.out])
          clear rg th hW9 b9
          go_wp2_with ((with_reducible show wpList _ _ _ (Oper.mk none (Op.store 30 (.tmp 2) _) _ _ _ _ :: _) _ _); refine wpList_store_mid (by rfl) 30 (.tmp 2) (.tmp 71) (by rfl) w.heap.size 0 #[.int .i64 0, .slice none 0 0, .int .i64 0, .int .i64 0, .int .i64 0, .int .i64 0, .int .u64 0, .bool false, .string ⟨#[]⟩] (by rfl) (by rfl) TH.out (by kernel_rfl) (all_oneCell_toArray zv_one) ?_; rw [show (#[Value.int .i64 0, .slice none 0 0, .int .i64 0, .int .i64 0, .int .i64 0, .int .i64 0, .int .u64 0, .bool false, .string ⟨#[]⟩] : Array Value).toList = Rq.none.cs (.slice none 0 0) from rfl, ← HW9.out])
          refine bodyPost_ret (v := .tuple #[.agg #[.int .i64 0, .slice none 0 0, .int .i64 0, .int .i64 0, .int .i64 0, .int .i64 0, .int .u64 0, .bool false, .string ⟨#[]⟩], .int .i64 4]) (by simp [results, Tryd.results58]; go_simp) rfl ?_
          exact ⟨none, 0, 0, by rw [HE.out]; rfl, by rw [HE.out]; exact ⟨none, 0, rfl, Nat.le_refl _, fun e => absurd rfl e⟩, HB9.out, fun _ h => by cases h⟩
        · have hv1 : ¬ ((vn : Nat) : Int) = 0 := by omega
          by_cases d1 : (t1) < lo
          · have d1' : decide ((t1) < lo) = true := decide_eq_true d1
            have d1'' : (((t1) : Nat) : Int) < (lo : Int) := by omega
            obtain ⟨th, rg, b9⟩ := ans_at HB5.out Rq.none none 0 0
            obtain ⟨W9, hW9⟩ : ∃ W9, W9 = ((w1.alloc (.cells #[.int .i64 ((vn : Nat) : Int), .slice none 0 0, .int .i64 0, .int .i64 0, .int .i64 0, .int .i64 0, .int .u64 0, .bool false, .string ⟨#[]⟩] 30))).setCells w.heap.size 0 (Rq.none.cs (.slice none 0 0)) := ⟨_, rfl⟩
            rw [← hW9] at rg b9
            have z0 : W9.cell? ⟨w.heap.size, 0, none⟩ = some (.int .i64 0) := rg 0 _ rfl
            have z1 : W9.cell? ⟨w.heap.size, 1, none⟩ = some (.slice none 0 0) := rg 1 _ rfl
            have z2 : W9.cell? ⟨w.heap.size, 2, none⟩ = some (.int .i64 0) := rg 2 _ rfl
            have z3 : W9.cell? ⟨w.heap.size, 3, none⟩ = some (.int .i64 0) := rg 3 _ rfl
            have z4 : W9.cell? ⟨w.heap.size, 4, none⟩ = some (.int .i64 0) := rg 4 _ rfl
            have z5 : W9.cell? ⟨w.heap.size, 5, none⟩ = some (.int .i64 0) := rg 5 _ rfl
            have z6 : W9.cell? ⟨w.heap.size, 6, none⟩ = some (.int .u64 0) := rg 6 _ rfl
            have z7 : W9.cell? ⟨w.heap.size, 7, none⟩ = some (.bool false) := rg 7 _ rfl
            have z8 : W9.cell? ⟨w.heap.size, 8, none⟩ = some (.string ⟨#[]⟩) := rg 8 _ rfl
            have TH := Lib.hid th
            have HW9 := Lib.hid hW9
            have HB9 := Lib.hid b9
            have HE : Hid (line (L s) = (Rq.none, 4)) := Lib.hid (by rw [HLL.out, if_neg hv0, if_pos (.inl d1)])
            clear rg th hW9 b9
            go_wp2_with ((with_reducible show wpList _ _ _ (Oper.mk none (Op.store 30 (.tmp 2) _) _ _ _ _ :: _) _ _); refine wpList_store_mid (by rfl) 30 (.tmp 2) (.tmp 71) (by rfl) w.heap.size 0 #[.int .i64 0, .slice none 0 0, .int .i64 0, .int .i64 0, .int .i64 0, .int .i64 0, .int .u64 0, .bool false, .string ⟨#[]⟩] (by rfl) (by rfl) TH.out (by kernel_rfl) (all_oneCell_toArray zv_one) ?_; rw [show (#[Value.int .i64 0, .slice none 0 0, .int .i64 0, .int .i64 0, .int .i64 0, .int .i64 0, .int .u64 0, .bool false, .string ⟨#[]⟩] : Array Value).toList = Rq.none.cs (.slice none 0 0) from rfl, ← HW9.out])
            refine bodyPost_ret (v := .tuple #[.agg #[.int .i64 0, .slice none 0 0, .int .i64 0, .int .i64 0, .int .i64 0, .int .i64 0, .int .u64 0, .bool false, .string ⟨#[]⟩], .int .i64 4]) (by simp [results, Tryd.results58]; go_simp) rfl ?_
            exact ⟨none, 0, 0, by rw [HE.out]; rfl, by rw [HE.out]; exact ⟨none, 0, rfl, Nat.le_refl _, fun e => absurd rfl e⟩, HB9.out, fun _ h => by cases h⟩
          · have d1' : decide ((t1) < lo) = false := decide_eq_false d1
            have d1'' : decide ((((t1) : Nat) : Int) < (lo : Int)) = false := decide_eq_false (by omega)
            by_cases d2 : hi < (t1)
            · have d2' : decide (hi < (t1)) = true := decide_eq_true d2
              have d2'' : (hi : Int) < (((t1) : Nat) : Int) := by omega
              obtain ⟨th, rg, b9⟩ := ans_at HB5.out Rq.none none 0 0
              obtain ⟨W9, hW9⟩ : ∃ W9, W9 = ((w1.alloc (.cells #[.int .i64 ((vn : Nat) : Int), .slice none 0 0, .int .i64 0, .int .i64 0, .int .i64 0, .int .i64 0, .int .u64 0, .bool false, .string ⟨#[]⟩] 30))).setCells w.heap.size 0 (Rq.none.cs (.slice none 0 0)) := ⟨_, rfl⟩
              rw [← hW9] at rg b9
              have z0 : W9.cell? ⟨w.heap.size, 0, none⟩ = some (.int .i64 0) := rg 0 _ rfl
              have z1 : W9.cell? ⟨w.heap.size, 1, none⟩ = some (.slice none 0 0) := rg 1 _ rfl
              have z2 : W9.cell? ⟨w.heap.size, 2, none⟩ = some (.int .i64 0) := rg 2 _ rfl
              have z3 : W9.cell? ⟨w.heap.size, 3, none⟩ = some (.int .i64 0) := rg 3 _ rfl
              have z4 : W9.cell? ⟨w.heap.size, 4, none⟩ = some (.int .i64 0) := rg 4 _ rfl
              have z5 : W9.cell? ⟨w.heap.size, 5, none⟩ = some (.int .i64 0) := rg 5 _ rfl
              have z6 : W9.cell? ⟨w.heap.size, 6, none⟩ = some (.int .u64 0) := rg 6 _ rfl
              have z7 : W9.cell? ⟨w.heap.size, 7, none⟩ = some (.bool false) := rg 7 _ rfl
              have z8 : W9.cell? ⟨w.heap.size, 8, none⟩ = some (.string ⟨#[]⟩) := rg 8 _ rfl
              have TH := Lib.hid th
              have HW9 := Lib.hid hW9
              have HB9 := Lib.hid b9
              have HE : Hid (line (L s) = (Rq.none, 4)) := Lib.hid (by rw [HLL.out, if_neg hv0, if_pos (.inr d2)])
              clear rg th hW9 b9
              go_wp2_with ((with_reducible show wpList _ _ _ (Oper.mk none (Op.store 30 (.tmp 2) _) _ _ _ _ :: _) _ _); refine wpList_store_mid (by rfl) 30 (.tmp 2) (.tmp 71) (by rfl) w.heap.size 0 #[.int .i64 0, .slice none 0 0, .int .i64 0, .int .i64 0, .int .i64 0, .int .i64 0, .int .u64 0, .bool false, .string ⟨#[]⟩] (by rfl) (by rfl) TH.out (by kernel_rfl) (all_oneCell_toArray zv_one) ?_; rw [show (#[Value.int .i64 0, .slice none 0 0, .int .i64 0, .int .i64 0, .int .i64 0, .int .i64 0, .int .u64 0, .bool false, .string ⟨#[]⟩] : Array Value).toList = Rq.none.cs (.slice none 0 0) from rfl, ← HW9.out])
              refine bodyPost_ret (v := .tuple #[.agg #[.int .i64 0, .slice none 0 0, .int .i64 0, .int .i64 0, .int .i64 0, .int .i64 0, .int .u64 0, .bool false, .string ⟨#[]⟩], .int .i64 4]) (by simp [results, Tryd.results58]; go_simp) rfl ?_
              exact ⟨none, 0, 0, by rw [HE.out]; rfl, by rw [HE.out]; exact ⟨none, 0, rfl, Nat.le_refl _, fun e => absurd rfl e⟩, HB9.out, fun _ h => by cases h⟩
            · have d2' : decide (hi < (t1)) = false := decide_eq_false d2
              have d2'' : decide ((hi : Int) < (((t1) : Nat) : Int)) = false := decide_eq_false (by omega)
              have hIR : IsR (w1.alloc (.cells #[.int .i64 ((vn : Nat) : Int), .slice none 0 0, .int .i64 0, .int .i64 0, .int .i64 0, .int .i64 0, .int .u64 0, .bool false, .string ⟨#[]⟩] 30)) w1.heap.size [.int .i64 ((vn : Nat) : Int), .slice none 0 0, .int .i64 0, .int .i64 0, .int .i64 0, .int .i64 0, .int .u64 0, .bool false, .string ⟨#[]⟩] := ⟨lay_new _ _, fun j => World.frozen?_alloc_new _ _ _ _, by rw [size_alloc]; omega⟩
              have RA := rargs_any false A _ (c1 - 1) w1.heap.size AL HZA.out (w1.alloc (.cells #[.int .i64 ((vn : Nat) : Int), .slice none 0 0, .int .i64 0, .int .i64 0, .int .i64 0, .int .i64 0, .int .u64 0, .bool false, .string ⟨#[]⟩] 30)) (by have h := HSA.out.below ((Below.refl _ _).alloc (Nat.le_refl _) (.cells #[.int .i64 ((vn : Nat) : Int), .slice none 0 0, .int .i64 0, .int .i64 0, .int .i64 0, .int .i64 0, .int .u64 0, .bool false, .string ⟨#[]⟩] 30)); rwa [HAL.out] at h) HAB.out vn hv18 hv0 (by rw [HF.out]; show lo ≤ AL.length; rw [HAL.out]; omega) (by rw [HF.out]; show AL.length ≤ hi; rw [HAL.out]; omega) hIR
              rw [HF.out, size_alloc] at RA
              simp only at RA
              have HL3 : Hid (line (L s) = match rd ks 0 AL Rq.none with | none => (Rq.none, 1) | some r => ({ r with verb := vn, quiet := false }, 0)) := Lib.hid (by rw [HLL.out, if_neg hv0, if_neg (by omega)])
              clear hIR HLL
              cases hr : rd ks 0 AL Rq.none with
              | none =>
                rw [hr] at RA HL3
                simp only [Option.isSome_none] at RA
                go_wp2_with fail
                refine RA.mono ?_
                rintro e w6 ⟨rfl, b6, _⟩
                have HB6 : Hid (Below (w.heap.size + 1) (w.alloc (.cells ZV.toArray 30)) w6) := Lib.hid (HB5.out.trans (b6.mono (by have := B1.out.size; rw [size_alloc] at this; exact this)))
                clear b6 RA
                obtain ⟨th, rg, b9⟩ := ans_at HB6.out Rq.none none 0 0
                obtain ⟨W9, hW9⟩ : ∃ W9, W9 = (w6).setCells w.heap.size 0 (Rq.none.cs (.slice none 0 0)) := ⟨_, rfl⟩
                rw [← hW9] at rg b9
                have z0 : W9.cell? ⟨w.heap.size, 0, none⟩ = some (.int .i64 0) := rg 0 _ rfl
                have z1 : W9.cell? ⟨w.heap.size, 1, none⟩ = some (.slice none 0 0) := rg 1 _ rfl
                have z2 : W9.cell? ⟨w.heap.size, 2, none⟩ = some (.int .i64 0) := rg 2 _ rfl
                have z3 : W9.cell? ⟨w.heap.size, 3, none⟩ = some (.int .i64 0) := rg 3 _ rfl
                have z4 : W9.cell? ⟨w.heap.size, 4, none⟩ = some (.int .i64 0) := rg 4 _ rfl
                have z5 : W9.cell? ⟨w.heap.size, 5, none⟩ = some (.int .i64 0) := rg 5 _ rfl
                have z6 : W9.cell? ⟨w.heap.size, 6, none⟩ = some (.int .u64 0) := rg 6 _ rfl
                have z7 : W9.cell? ⟨w.heap.size, 7, none⟩ = some (.bool false) := rg 7 _ rfl
                have z8 : W9.cell? ⟨w.heap.size, 8, none⟩ = some (.string ⟨#[]⟩) := rg 8 _ rfl
                have TH := Lib.hid th
                have HW9 := Lib.hid hW9
                have HB9 := Lib.hid b9
                have HE : Hid (line (L s) = (Rq.none, 1)) := Lib.hid (by rw [HL3.out])
                clear rg th hW9 b9
                go_wp2_with ((with_reducible show wpList _ _ _ (Oper.mk none (Op.store 30 (.tmp 2) _) _ _ _ _ :: _) _ _); refine wpList_store_mid (by rfl) 30 (.tmp 2) (.tmp 75) (by rfl) w.heap.size 0 #[.int .i64 0, .slice none 0 0, .int .i64 0, .int .i64 0, .int .i64 0, .int .i64 0, .int .u64 0, .bool false, .string ⟨#[]⟩] (by rfl) (by rfl) TH.out (by kernel_rfl) (all_oneCell_toArray zv_one) ?_; rw [show (#[Value.int .i64 0, .slice none 0 0, .int .i64 0, .int .i64 0, .int .i64 0, .int .i64 0, .int .u64 0, .bool false, .string ⟨#[]⟩] : Array Value).toList = Rq.none.cs (.slice none 0 0) from rfl, ← HW9.out])
                refine bodyPost_ret (v := .tuple #[.agg #[.int .i64 0, .slice none 0 0, .int .i64 0, .int .i64 0, .int .i64 0, .int .i64 0, .int .u64 0, .bool false, .string ⟨#[]⟩], .int .i64 1]) (by simp [results, Tryd.results58]; go_simp) rfl ?_
                exact ⟨none, 0, 0, by rw [HE.out]; rfl, by rw [HE.out]; exact ⟨none, 0, rfl, Nat.le_refl _, fun e => absurd rfl e⟩, HB9.out, fun _ h => by cases h⟩
              | some r =>
                rw [hr] at RA HL3
                simp only [Option.isSome_some] at RA
                obtain ⟨rv, rks, rf, re, rb, rc, rdl, rq⟩ := r
                go_wp2_with fail
                refine RA.mono ?_
                rintro e w6 ⟨rfl, b6, G6⟩
                obtain ⟨a6, n6, c6, L6, S6, nw6⟩ := G6 _ rfl
                have HB6 : Hid (Below (w.heap.size + 1) (w.alloc (.cells ZV.toArray 30)) w6) := Lib.hid (HB5.out.trans (b6.mono (by have := B1.out.size; rw [size_alloc] at this; exact this)))
                have HN6 : Hid (∀ A, a6 = some A → w.heap.size < A.block) := Lib.hid (fun A hA => by
                  have h := nw6 A hA
                  have := B1.out.size
                  rw [size_alloc] at this
                  omega)
                have HS6 := Lib.hid S6
                obtain ⟨th, rg, b9⟩ := ans_at HB6.out ⟨vn, rks, rf, re, rb, rc, rdl, false⟩ a6 n6 c6
                obtain ⟨W9, hW9⟩ : ∃ W9, W9 = w6.setCells w.heap.size 0 (Rq.cs ⟨vn, rks, rf, re, rb, rc, rdl, false⟩ (.slice a6 n6 c6)) := ⟨_, rfl⟩
                rw [← hW9] at rg b9
                have z0 : W9.cell? ⟨w.heap.size, 0, none⟩ = some (.int .i64 ((vn : Nat) : Int)) := rg 0 _ rfl
                have y0 : w6.cell? ⟨w1.heap.size, 0, none⟩ = some (.int .i64 ((vn : Nat) : Int)) := L6 0 _ rfl
                have z1 : W9.cell? ⟨w.heap.size, 1, none⟩ = some (.slice a6 n6 c6) := rg 1 _ rfl
                have y1 : w6.cell? ⟨w1.heap.size, 1, none⟩ = some (.slice a6 n6 c6) := L6 1 _ rfl
                have z2 : W9.cell? ⟨w.heap.size, 2, none⟩ = some (.int .i64 rf) := rg 2 _ rfl
                have y2 : w6.cell? ⟨w1.heap.size, 2, none⟩ = some (.int .i64 rf) := L6 2 _ rfl
                have z3 : W9.cell? ⟨w.heap.size, 3, none⟩ = some (.int .i64 re) := rg 3 _ rfl
                have y3 : w6.cell? ⟨w1.heap.size, 3, none⟩ = some (.int .i64 re) := L6 3 _ rfl
                have z4 : W9.cell? ⟨w.heap.size, 4, none⟩ = some (.int .i64 rb) := rg 4 _ rfl
                have y4 : w6.cell? ⟨w1.heap.size, 4, none⟩ = some (.int .i64 rb) := L6 4 _ rfl
                have z5 : W9.cell? ⟨w.heap.size, 5, none⟩ = some (.int .i64 rc) := rg 5 _ rfl
                have y5 : w6.cell? ⟨w1.heap.size, 5, none⟩ = some (.int .i64 rc) := L6 5 _ rfl
                have z6 : W9.cell? ⟨w.heap.size, 6, none⟩ = some (.int .u64 ((rdl : Nat) : Int)) := rg 6 _ rfl
                have y6 : w6.cell? ⟨w1.heap.size, 6, none⟩ = some (.int .u64 ((rdl : Nat) : Int)) := L6 6 _ rfl
                have z7 : W9.cell? ⟨w.heap.size, 7, none⟩ = some (.bool false) := rg 7 _ rfl
                have y7 : w6.cell? ⟨w1.heap.size, 7, none⟩ = some (.bool false) := L6 7 _ rfl
                have z8 : W9.cell? ⟨w.heap.size, 8, none⟩ = some (.string ⟨#[]⟩) := rg 8 _ rfl
                have y8 : w6.cell? ⟨w1.heap.size, 8, none⟩ = some (.string ⟨#[]⟩) := L6 8 _ rfl
                have HS9 : Hid (Strs W9 (.slice a6 n6 c6) rks) := Lib.hid (by rw [hW9]; exact HS6.out.setP (fun A hA => Nat.ne_of_lt (HN6.out A hA)))
                have TH := Lib.hid th
                have HW9 := Lib.hid hW9
                have HB9 := Lib.hid b9
                clear rg th hW9 b9 b6 RA G6 L6 S6 nw6
                go_wp2_with ((with_reducible show wpList _ _ _ (Oper.mk none (Op.store 30 (.tmp 2) _) _ _ _ _ :: _) _ _); refine wpList_store_mid (by rfl) 30 (.tmp 2) (.tmp 76) (by rfl) w.heap.size 0 #[.int .i64 ((vn : Nat) : Int), .slice a6 n6 c6, .int .i64 rf, .int .i64 re, .int .i64 rb, .int .i64 rc, .int .u64 ((rdl : Nat) : Int), .bool false, .string ⟨#[]⟩] (by rfl) (by rfl) TH.out (by kernel_rfl) (all_oneCell_toArray (cs_one ⟨vn, rks, rf, re, rb, rc, rdl, false⟩ _ _ _)) ?_; rw [show (#[Value.int .i64 ((vn : Nat) : Int), .slice a6 n6 c6, .int .i64 rf, .int .i64 re, .int .i64 rb, .int .i64 rc, .int .u64 ((rdl : Nat) : Int), .bool false, .string ⟨#[]⟩] : Array Value).toList = Rq.cs ⟨vn, rks, rf, re, rb, rc, rdl, false⟩ (.slice a6 n6 c6) from rfl, ← HW9.out])
                refine bodyPost_ret (v := .tuple #[.agg #[.int .i64 ((vn : Nat) : Int), .slice a6 n6 c6, .int .i64 rf, .int .i64 re, .int .i64 rb, .int .i64 rc, .int .u64 ((rdl : Nat) : Int), .bool false, .string ⟨#[]⟩], .int .i64 0]) (by simp [results, Tryd.results58]; go_simp) rfl ?_
                exact ⟨a6, n6, c6, by rw [HL3.out]; rfl, by rw [HL3.out]; exact HS9.out, HB9.out, fun A hA => Nat.le_of_lt (HN6.out A hA)⟩
      · obtain ⟨p, rfl⟩ : ∃ p, t1 = p + 1 := ⟨t1 - 1, by omega⟩
        obtain ⟨x, hx⟩ : ∃ x, tl[p]? = some x := ⟨_, List.getElem?_eq_getElem (by rw [← HTL.out]; omega)⟩
        obtain ⟨g2, q2, rfl, qx⟩ := HST.out.at_ hx
        have hgd : tl.getD (tl.length - 1) [] = x := by rw [List.getD_eq_getElem?_getD, ← HTL.out, Nat.add_sub_cancel, hx]; rfl
        have qx2 := cell_up ((Below.refl _ _).alloc (Nat.le_refl _) (.cells #[.int .i64 ((vn : Nat) : Int), .slice none 0 0, .int .i64 0, .int .i64 0, .int .i64 0, .int .i64 0, .int .u64 0, .bool false, .string ⟨#[]⟩] 30)) qx
        have pc : p ≤ c1 - 1 := by omega
        have pb : p ≤ 100000 := by omega
        have pl : (0 : Int) < (p : Int) + 1 := by omega
        by_cases hb : x = noreply
        · have eq : ((S x).toList == [110, 111, 114, 101, 112, 108, 121]) = true := by rw [beq_lit]; exact decide_eq_true hb
          by_cases hl2 : lo < p + 1
          · have hl3 : (lo : Int) < (p : Int) + 1 := by omega
            have HHU : Hid (hushed ⟨ks, lo, hi, true⟩ tl = true) := Lib.hid (by unfold hushed; rw [hgd, ← HTL.out]; simp [hb, hl2])
            obtain ⟨AL, hAL⟩ : ∃ AL, AL = tl.take p := ⟨_, rfl⟩
            have HAR : Hid (args ⟨ks, lo, hi, true⟩ tl = AL) := Lib.hid (by unfold args; rw [HHU.out, hAL, ← HTL.out]; rfl)
            have HAL : Hid (AL.length = p) := Lib.hid (by rw [hAL, List.length_take, ← HTL.out]; omega)
            have HSA : Hid (Strs w1 (.slice (some ⟨g2, q2, none⟩) AL.length (c1 - 1)) AL) := Lib.hid (by rw [HAL.out, hAL]; exact HST.out.take p (by rw [← HTL.out]; omega))
            have HZA : Hid (∀ x ∈ AL, (S x).size ≤ 100000) := Lib.hid (by rw [hAL]; exact fun x hx => HZT.out x (List.mem_of_mem_take hx))
            clear hAL hx hgd hb
            have HB5 : Hid (Below (w.heap.size + 1) (w.alloc (.cells ZV.toArray 30)) (w1.alloc (.cells #[.int .i64 ((vn : Nat) : Int), .slice none 0 0, .int .i64 0, .int .i64 0, .int .i64 0, .int .i64 0, .int .u64 0, .bool true, .string ⟨#[]⟩] 30))) := Lib.hid (B1.out.alloc (by have := B1.out.size; rw [size_alloc] at this; exact this) _)
            have HLL : Hid (line (L s) = if vn = 0 then (Rq.none, 4) else if AL.length < lo ∨ hi < AL.length then (Rq.none, 4) else match rd ks 0 AL Rq.none with | none => (Rq.none, 1) | some r => ({ r with verb := vn, quiet := true }, 0)) := Lib.hid (by rw [HL.out]; unfold lin; rw [HF.out, HAR.out, HHU.out]; rfl)
            rw [HAL.out] at HLL
            by_cases hv0 : vn = 0
            · have hv2 : (((vn : Nat) : Int) == 0) = true := by rw [hv0]; rfl
              have HV0 := Lib.hid hv0
              clear hv0
              obtain ⟨th, rg, b9⟩ := ans_at HB5.out Rq.none none 0 0
              obtain ⟨W9, hW9⟩ : ∃ W9, W9 = ((w1.alloc (.cells #[.int .i64 ((vn : Nat) : Int), .slice none 0 0, .int .i64 0, .int .i64 0, .int .i64 0, .int .i64 0, .int .u64 0, .bool true, .string ⟨#[]⟩] 30))).setCells w.heap.size 0 (Rq.none.cs (.slice none 0 0)) := ⟨_, rfl⟩
              rw [← hW9] at rg b9
              have z0 : W9.cell? ⟨w.heap.size, 0, none⟩ = some (.int .i64 0) := rg 0 _ rfl
              have z1 : W9.cell? ⟨w.heap.size, 1, none⟩ = some (.slice none 0 0) := rg 1 _ rfl
              have z2 : W9.cell? ⟨w.heap.size, 2, none⟩ = some (.int .i64 0) := rg 2 _ rfl
              have z3 : W9.cell? ⟨w.heap.size, 3, none⟩ = some (.int .i64 0) := rg 3 _ rfl
              have z4 : W9.cell? ⟨w.heap.size, 4, none⟩ = some (.int .i64 0) := rg 4 _ rfl
              have z5 : W9.cell? ⟨w.heap.size, 5, none⟩ = some (.int .i64 0) := rg 5 _ rfl
              have z6 : W9.cell? ⟨w.heap.size, 6, none⟩ = some (.int .u64 0) := rg 6 _ rfl
              have z7 : W9.cell? ⟨w.heap.size, 7, none⟩ = some (.bool false) := rg 7 _ rfl
              have z8 : W9.cell? ⟨w.heap.size, 8, none⟩ = some (.string ⟨#[]⟩) := rg 8 _ rfl
              have TH := Lib.hid th
              have HW9 := Lib.hid hW9
              have HB9 := Lib.hid b9
              have HE : Hid (line (L s) = (Rq.none, 4)) := Lib.hid (by rw [HLL.out, if_pos HV0.out])
              clear rg th hW9 b9
              go_wp2_with ((with_reducible show wpList _ _ _ (Oper.mk none (Op.store 30 (.tmp 2) _) _ _ _ _ :: _) _ _); refine wpList_store_mid (by rfl) 30 (.tmp 2) (.tmp 71) (by rfl) w.heap.size 0 #[.int .i64 0, .slice none 0 0, .int .i64 0, .int .i64 0, .int .i64 0, .int .i64 0, .int .u64 0, .bool false, .string ⟨#[]⟩] (by rfl) (by rfl) TH.out (by kernel_rfl) (all_oneCell_toArray zv_one) ?_; rw [show (#[Value.int .i64 0, .slice none 0 0, .int .i64 0, .int .i64 0, .int .i64 0, .int .i64 0, .int .u64 0, .bool false, .string ⟨#[]⟩] : Array Value).toList = Rq.none.cs (.slice none 0 0) from rfl, ← HW9.out])
              refine bodyPost_ret (v := .tuple #[.agg #[.int .i64 0, .slice none 0 0, .int .i64 0, .int .i64 0, .int .i64 0, .int .i64 0, .int .u64 0, .bool false, .string ⟨#[]⟩], .int .i64 4]) (by simp [results, Tryd.results58]; go_simp) rfl ?_
              exact ⟨none, 0, 0, by rw [HE.out]; rfl, by rw [HE.out]; exact ⟨none, 0, rfl, Nat.le_refl _, fun e => absurd rfl e⟩, HB9.out, fun _ h => by cases h⟩
            · have hv1 : ¬ ((vn : Nat) : Int) = 0 := by omega
              by_cases d1 : (p) < lo
              · omega
              · have d1' : decide ((p) < lo) = false := decide_eq_false d1
                have d1'' : decide ((((p) : Nat) : Int) < (lo : Int)) = false := decide_eq_false (by omega)
                by_cases d2 : hi < (p)
                · have d2' : decide (hi < (p)) = true := decide_eq_true d2
                  have d2'' : (hi : Int) < (((p) : Nat) : Int) := by omega
                  obtain ⟨th, rg, b9⟩ := ans_at HB5.out Rq.none none 0 0
                  obtain ⟨W9, hW9⟩ : ∃ W9, W9 = ((w1.alloc (.cells #[.int .i64 ((vn : Nat) : Int), .slice none 0 0, .int .i64 0, .int .i64 0, .int .i64 0, .int .i64 0, .int .u64 0, .bool true, .string ⟨#[]⟩] 30))).setCells w.heap.size 0 (Rq.none.cs (.slice none 0 0)) := ⟨_, rfl⟩
                  rw [← hW9] at rg b9
                  have z0 : W9.cell? ⟨w.heap.size, 0, none⟩ = some (.int .i64 0) := rg 0 _ rfl
                  have z1 : W9.cell? ⟨w.heap.size, 1, none⟩ = some (.slice none 0 0) := rg 1 _ rfl
                  have z2 : W9.cell? ⟨w.heap.size, 2, none⟩ = some (.int .i64 0) := rg 2 _ rfl
                  have z3 : W9.cell? ⟨w.heap.size, 3, none⟩ = some (.int .i64 0) := rg 3 _ rfl
                  have z4 : W9.cell? ⟨w.heap.size, 4, none⟩ = some (.int .i64 0) := rg 4 _ rfl
                  have z5 : W9.cell? ⟨w.heap.size, 5, none⟩ = some (.int .i64 0) := rg 5 _ rfl
                  have z6 : W9.cell? ⟨w.heap.size, 6, none⟩ = some (.int .u64 0) := rg 6 _ rfl
                  have z7 : W9.cell? ⟨w.heap.size, 7, none⟩ = some (.bool false) := rg 7 _ rfl
                  have z8 : W9.cell? ⟨w.heap.size, 8, none⟩ = some (.string ⟨#[]⟩) := rg 8 _ rfl
                  have TH := Lib.hid th
                  have HW9 := Lib.hid hW9
                  have HB9 := Lib.hid b9
                  have HE : Hid (line (L s) = (Rq.none, 4)) := Lib.hid (by rw [HLL.out, if_neg hv0, if_pos (.inr d2)])
                  clear rg th hW9 b9
                  go_wp2_with ((with_reducible show wpList _ _ _ (Oper.mk none (Op.store 30 (.tmp 2) _) _ _ _ _ :: _) _ _); refine wpList_store_mid (by rfl) 30 (.tmp 2) (.tmp 71) (by rfl) w.heap.size 0 #[.int .i64 0, .slice none 0 0, .int .i64 0, .int .i64 0, .int .i64 0, .int .i64 0, .int .u64 0, .bool false, .string ⟨#[]⟩] (by rfl) (by rfl) TH.out (by kernel_rfl) (all_oneCell_toArray zv_one) ?_; rw [show (#[Value.int .i64 0, .slice none 0 0, .int .i64 0, .int .i64 0, .int .i64 0, .int .i64 0, .int .u64 0, .bool false, .string ⟨#[]⟩] : Array Value).toList = Rq.none.cs (.slice none 0 0) from rfl, ← HW9.out])
                  refine bodyPost_ret (v := .tuple #[.agg #[.int .i64 0, .slice none 0 0, .int .i64 0, .int .i64 0, .int .i64 0, .int .i64 0, .int .u64 0, .bool false, .string ⟨#[]⟩], .int .i64 4]) (by simp [results, Tryd.results58]; go_simp) rfl ?_
                  exact ⟨none, 0, 0, by rw [HE.out]; rfl, by rw [HE.out]; exact ⟨none, 0, rfl, Nat.le_refl _, fun e => absurd rfl e⟩, HB9.out, fun _ h => by cases h⟩
                · have d2' : decide (hi < (p)) = false := decide_eq_false d2
                  have d2'' : decide ((hi : Int) < (((p) : Nat) : Int)) = false := decide_eq_false (by omega)
                  have hIR : IsR (w1.alloc (.cells #[.int .i64 ((vn : Nat) : Int), .slice none 0 0, .int .i64 0, .int .i64 0, .int .i64 0, .int .i64 0, .int .u64 0, .bool true, .string ⟨#[]⟩] 30)) w1.heap.size [.int .i64 ((vn : Nat) : Int), .slice none 0 0, .int .i64 0, .int .i64 0, .int .i64 0, .int .i64 0, .int .u64 0, .bool true, .string ⟨#[]⟩] := ⟨lay_new _ _, fun j => World.frozen?_alloc_new _ _ _ _, by rw [size_alloc]; omega⟩
                  have RA := rargs_any true (some ⟨g2, q2, none⟩) _ (c1 - 1) w1.heap.size AL HZA.out (w1.alloc (.cells #[.int .i64 ((vn : Nat) : Int), .slice none 0 0, .int .i64 0, .int .i64 0, .int .i64 0, .int .i64 0, .int .u64 0, .bool true, .string ⟨#[]⟩] 30)) (by have h := HSA.out.below ((Below.refl _ _).alloc (Nat.le_refl _) (.cells #[.int .i64 ((vn : Nat) : Int), .slice none 0 0, .int .i64 0, .int .i64 0, .int .i64 0, .int .i64 0, .int .u64 0, .bool true, .string ⟨#[]⟩] 30)); rwa [HAL.out] at h) HAB.out vn hv18 hv0 (by rw [HF.out]; show lo ≤ AL.length; rw [HAL.out]; omega) (by rw [HF.out]; show AL.length ≤ hi; rw [HAL.out]; omega) hIR
                  rw [HF.out, size_alloc] at RA
                  simp only at RA
                  have HL3 : Hid (line (L s) = match rd ks 0 AL Rq.none with | none => (Rq.none, 1) | some r => ({ r with verb := vn, quiet := true }, 0)) := Lib.hid (by rw [HLL.out, if_neg hv0, if_neg (by omega)])
                  clear hIR HLL
                  cases hr : rd ks 0 AL Rq.none with
                  | none =>
                    rw [hr] at RA HL3
                    simp only [Option.isSome_none] at RA
                    go_wp2_with fail
                    refine RA.mono ?_
                    rintro e w6 ⟨rfl, b6, _⟩
                    have HB6 : Hid (Below (w.heap.size + 1) (w.alloc (.cells ZV.toArray 30)) w6) := Lib.hid (HB5.out.trans (b6.mono (by have := B1.out.size; rw [size_alloc] at this; exact this)))
                    clear b6 RA
                    obtain ⟨th, rg, b9⟩ := ans_at HB6.out Rq.none none 0 0
                    obtain ⟨W9, hW9⟩ : ∃ W9, W9 = (w6).setCells w.heap.size 0 (Rq.none.cs (.slice none 0 0)) := ⟨_, rfl⟩
                    rw [← hW9] at rg b9
                    have z0 : W9.cell? ⟨w.heap.size, 0, none⟩ = some (.int .i64 0) := rg 0 _ rfl
                    have z1 : W9.cell? ⟨w.heap.size, 1, none⟩ = some (.slice none 0 0) := rg 1 _ rfl
                    have z2 : W9.cell? ⟨w.heap.size, 2, none⟩ = some (.int .i64 0) := rg 2 _ rfl
                    have z3 : W9.cell? ⟨w.heap.size, 3, none⟩ = some (.int .i64 0) := rg 3 _ rfl
                    have z4 : W9.cell? ⟨w.heap.size, 4, none⟩ = some (.int .i64 0) := rg 4 _ rfl
                    have z5 : W9.cell? ⟨w.heap.size, 5, none⟩ = some (.int .i64 0) := rg 5 _ rfl
                    have z6 : W9.cell? ⟨w.heap.size, 6, none⟩ = some (.int .u64 0) := rg 6 _ rfl
                    have z7 : W9.cell? ⟨w.heap.size, 7, none⟩ = some (.bool false) := rg 7 _ rfl
                    have z8 : W9.cell? ⟨w.heap.size, 8, none⟩ = some (.string ⟨#[]⟩) := rg 8 _ rfl
                    have TH := Lib.hid th
                    have HW9 := Lib.hid hW9
                    have HB9 := Lib.hid b9
                    have HE : Hid (line (L s) = (Rq.none, 1)) := Lib.hid (by rw [HL3.out])
                    clear rg th hW9 b9
                    go_wp2_with ((with_reducible show wpList _ _ _ (Oper.mk none (Op.store 30 (.tmp 2) _) _ _ _ _ :: _) _ _); refine wpList_store_mid (by rfl) 30 (.tmp 2) (.tmp 75) (by rfl) w.heap.size 0 #[.int .i64 0, .slice none 0 0, .int .i64 0, .int .i64 0, .int .i64 0, .int .i64 0, .int .u64 0, .bool false, .string ⟨#[]⟩] (by rfl) (by rfl) TH.out (by kernel_rfl) (all_oneCell_toArray zv_one) ?_; rw [show (#[Value.int .i64 0, .slice none 0 0, .int .i64 0, .int .i64 0, .int .i64 0, .int .i64 0, .int .u64 0, .bool false, .string ⟨#[]⟩] : Array Value).toList = Rq.none.cs (.slice none 0 0) from rfl, ← HW9.out])
                    refine bodyPost_ret (v := .tuple #[.agg #[.int .i64 0, .slice none 0 0, .int .i64 0, .int .i64 0, .int .i64 0, .int .i64 0, .int .u64 0, .bool false, .string ⟨#[]⟩], .int .i64 1]) (by simp [results, Tryd.results58]; go_simp) rfl ?_
                    exact ⟨none, 0, 0, by rw [HE.out]; rfl, by rw [HE.out]; exact ⟨none, 0, rfl, Nat.le_refl _, fun e => absurd rfl e⟩, HB9.out, fun _ h => by cases h⟩
                  | some r =>
                    rw [hr] at RA HL3
                    simp only [Option.isSome_some] at RA
                    obtain ⟨rv, rks, rf, re, rb, rc, rdl, rq⟩ := r
                    go_wp2_with fail
                    refine RA.mono ?_
                    rintro e w6 ⟨rfl, b6, G6⟩
                    obtain ⟨a6, n6, c6, L6, S6, nw6⟩ := G6 _ rfl
                    have HB6 : Hid (Below (w.heap.size + 1) (w.alloc (.cells ZV.toArray 30)) w6) := Lib.hid (HB5.out.trans (b6.mono (by have := B1.out.size; rw [size_alloc] at this; exact this)))
                    have HN6 : Hid (∀ A, a6 = some A → w.heap.size < A.block) := Lib.hid (fun A hA => by
                      have h := nw6 A hA
                      have := B1.out.size
                      rw [size_alloc] at this
                      omega)
                    have HS6 := Lib.hid S6
                    obtain ⟨th, rg, b9⟩ := ans_at HB6.out ⟨vn, rks, rf, re, rb, rc, rdl, true⟩ a6 n6 c6
                    obtain ⟨W9, hW9⟩ : ∃ W9, W9 = w6.setCells w.heap.size 0 (Rq.cs ⟨vn, rks, rf, re, rb, rc, rdl, true⟩ (.slice a6 n6 c6)) := ⟨_, rfl⟩
                    rw [← hW9] at rg b9
                    have z0 : W9.cell? ⟨w.heap.size, 0, none⟩ = some (.int .i64 ((vn : Nat) : Int)) := rg 0 _ rfl
                    have y0 : w6.cell? ⟨w1.heap.size, 0, none⟩ = some (.int .i64 ((vn : Nat) : Int)) := L6 0 _ rfl
                    have z1 : W9.cell? ⟨w.heap.size, 1, none⟩ = some (.slice a6 n6 c6) := rg 1 _ rfl
                    have y1 : w6.cell? ⟨w1.heap.size, 1, none⟩ = some (.slice a6 n6 c6) := L6 1 _ rfl
                    have z2 : W9.cell? ⟨w.heap.size, 2, none⟩ = some (.int .i64 rf) := rg 2 _ rfl
                    have y2 : w6.cell? ⟨w1.heap.size, 2, none⟩ = some (.int .i64 rf) := L6 2 _ rfl
                    have z3 : W9.cell? ⟨w.heap.size, 3, none⟩ = some (.int .i64 re) := rg 3 _ rfl
                    have y3 : w6.cell? ⟨w1.heap.size, 3, none⟩ = some (.int .i64 re) := L6 3 _ rfl
                    have z4 : W9.cell? ⟨w.heap.size, 4, none⟩ = some (.int .i64 rb) := rg 4 _ rfl
                    have y4 : w6.cell? ⟨w1.heap.size, 4, none⟩ = some (.int .i64 rb) := L6 4 _ rfl
                    have z5 : W9.cell? ⟨w.heap.size, 5, none⟩ = some (.int .i64 rc) := rg 5 _ rfl
                    have y5 : w6.cell? ⟨w1.heap.size, 5, none⟩ = some (.int .i64 rc) := L6 5 _ rfl
                    have z6 : W9.cell? ⟨w.heap.size, 6, none⟩ = some (.int .u64 ((rdl : Nat) : Int)) := rg 6 _ rfl
                    have y6 : w6.cell? ⟨w1.heap.size, 6, none⟩ = some (.int .u64 ((rdl : Nat) : Int)) := L6 6 _ rfl
                    have z7 : W9.cell? ⟨w.heap.size, 7, none⟩ = some (.bool true) := rg 7 _ rfl
                    have y7 : w6.cell? ⟨w1.heap.size, 7, none⟩ = some (.bool true) := L6 7 _ rfl
                    have z8 : W9.cell? ⟨w.heap.size, 8, none⟩ = some (.string ⟨#[]⟩) := rg 8 _ rfl
                    have y8 : w6.cell? ⟨w1.heap.size, 8, none⟩ = some (.string ⟨#[]⟩) := L6 8 _ rfl
                    have HS9 : Hid (Strs W9 (.slice a6 n6 c6) rks) := Lib.hid (by rw [hW9]; exact HS6.out.setP (fun A hA => Nat.ne_of_lt (HN6.out A hA)))
                    have TH := Lib.hid th
                    have HW9 := Lib.hid hW9
                    have HB9 := Lib.hid b9
                    clear rg th hW9 b9 b6 RA G6 L6 S6 nw6
                    go_wp2_with ((with_reducible show wpList _ _ _ (Oper.mk none (Op.store 30 (.tmp 2) _) _ _ _ _ :: _) _ _); refine wpList_store_mid (by rfl) 30 (.tmp 2) (.tmp 76) (by rfl) w.heap.size 0 #[.int .i64 ((vn : Nat) : Int), .slice a6 n6 c6, .int .i64 rf, .int .i64 re, .int .i64 rb, .int .i64 rc, .int .u64 ((rdl : Nat) : Int), .bool true, .string ⟨#[]⟩] (by rfl) (by rfl) TH.out (by kernel_rfl) (all_oneCell_toArray (cs_one ⟨vn, rks, rf, re, rb, rc, rdl, true⟩ _ _ _)) ?_; rw [show (#[Value.int .i64 ((vn : Nat) : Int), .slice a6 n6 c6, .int .i64 rf, .int .i64 re, .int .i64 rb, .int .i64 rc, .int .u64 ((rdl : Nat) : Int), .bool true, .string ⟨#[]⟩] : Array Value).toList = Rq.cs ⟨vn, rks, rf, re, rb, rc, rdl, true⟩ (.slice a6 n6 c6) from rfl, ← HW9.out])
                    refine bodyPost_ret (v := .tuple #[.agg #[.int .i64 ((vn : Nat) : Int), .slice a6 n6 c6, .int .i64 rf, .int .i64 re, .int .i64 rb, .int .i64 rc, .int .u64 ((rdl : Nat) : Int), .bool true, .string ⟨#[]⟩], .int .i64 0]) (by simp [results, Tryd.results58]; go_simp) rfl ?_
                    exact ⟨a6, n6, c6, by rw [HL3.out]; rfl, by rw [HL3.out]; exact HS9.out, HB9.out, fun A hA => Nat.le_of_lt (HN6.out A hA)⟩
          · have hl3 : decide ((lo : Int) < (p : Int) + 1) = false := decide_eq_false (by omega)
            have HHU : Hid (hushed ⟨ks, lo, hi, true⟩ tl = false) := Lib.hid (by unfold hushed; rw [hgd, ← HTL.out]; simp [hl2])
            obtain ⟨AL, hAL⟩ : ∃ AL, AL = tl := ⟨_, rfl⟩
            have HAR : Hid (args ⟨ks, lo, hi, true⟩ tl = AL) := Lib.hid (by unfold args; rw [HHU.out, hAL]; rfl)
            have HSA : Hid (Strs w1 (.slice (some ⟨g2, q2, none⟩) AL.length (c1 - 1)) AL) := Lib.hid (by rw [hAL, ← HTL.out]; exact HST.out)
            have HZA : Hid (∀ x ∈ AL, (S x).size ≤ 100000) := Lib.hid (by rw [hAL]; exact HZT.out)
            have HAL : Hid (AL.length = p + 1) := Lib.hid (by rw [hAL]; exact HTL.out.symm)
            clear hAL hx hgd hb
            have HB5 : Hid (Below (w.heap.size + 1) (w.alloc (.cells ZV.toArray 30)) (w1.alloc (.cells #[.int .i64 ((vn : Nat) : Int), .slice none 0 0, .int .i64 0, .int .i64 0, .int .i64 0, .int .i64 0, .int .u64 0, .bool false, .string ⟨#[]⟩] 30))) := Lib.hid (B1.out.alloc (by have := B1.out.size; rw [size_alloc] at this; exact this) _)
            have HLL : Hid (line (L s) = if vn = 0 then (Rq.none, 4) else if AL.length < lo ∨ hi < AL.length then (Rq.none, 4) else match rd ks 0 AL Rq.none with | none => (Rq.none, 1) | some r => ({ r with verb := vn, quiet := false }, 0)) := Lib.hid (by rw [HL.out]; unfold lin; rw [HF.out, HAR.out, HHU.out]; rfl)
            rw [HAL.out] at HLL
            by_cases hv0 : vn = 0
            · have hv2 : (((vn : Nat) : Int) == 0) = true := by rw [hv0]; rfl
              have HV0 := Lib.hid hv0
              clear hv0
              obtain ⟨th, rg, b9⟩ := ans_at HB5.out Rq.none none 0 0
              obtain ⟨W9, hW9⟩ : ∃ W9, W9 = ((w1.alloc (.cells #[.int .i64 ((vn : Nat) : Int), .slice none 0 0, .int .i64 0, .int .i64 0, .int .i64 0, .int .i64 0, .int .u64 0, .bool false, .string ⟨#[]⟩] 30))).setCells w.heap.size 0 (Rq.none.cs (.slice none 0 0)) := ⟨_, rfl⟩
              rw [← hW9] at rg b9
              have z0 : W9.cell? ⟨w.heap.size, 0, none⟩ = some (.int .i64 0) := rg 0 _ rfl
              have z1 : W9.cell? ⟨w.heap.size, 1, none⟩ = some (.slice none 0 0) := rg 1 _ rfl
              have z2 : W9.cell? ⟨w.heap.size, 2, none⟩ = some (.int .i64 0) := rg 2 _ rfl
              have z3 : W9.cell? ⟨w.heap.size, 3, none⟩ = some (.int .i64 0) := rg 3 _ rfl
              have z4 : W9.cell? ⟨w.heap.size, 4, none⟩ = some (.int .i64 0) := rg 4 _ rfl
              have z5 : W9.cell? ⟨w.heap.size, 5, none⟩ = some (.int .i64 0) := rg 5 _ rfl
              have z6 : W9.cell? ⟨w.heap.size, 6, none⟩ = some (.int .u64 0) := rg 6 _ rfl
              have z7 : W9.cell? ⟨w.heap.size, 7, none⟩ = some (.bool false) := rg 7 _ rfl
              have z8 : W9.cell? ⟨w.heap.size, 8, none⟩ = some (.string ⟨#[]⟩) := rg 8 _ rfl
              have TH := Lib.hid th
              have HW9 := Lib.hid hW9
              have HB9 := Lib.hid b9
              have HE : Hid (line (L s) = (Rq.none, 4)) := Lib.hid (by rw [HLL.out, if_pos HV0.out])
              clear rg th hW9 b9
              go_wp2_with ((with_reducible show wpList _ _ _ (Oper.mk none (Op.store 30 (.tmp 2) _) _ _ _ _ :: _) _ _); refine wpList_store_mid (by rfl) 30 (.tmp 2) (.tmp 71) (by rfl) w.heap.size 0 #[.int .i64 0, .slice none 0 0, .int .i64 0, .int .i64 0, .int .i64 0, .int .i64 0, .int .u64 0, .bool false, .string ⟨#[]⟩] (by rfl) (by rfl) TH.out (by kernel_rfl) (all_oneCell_toArray zv_one) ?_; rw [show (#[Value.int .i64 0, .slice none 0 0, .int .i64 0, .int .i64 0, .int .i64 0, .int .i64 0, .int .u64 0, .bool false, .string ⟨#[]⟩] : Array Value).toList = Rq.none.cs (.slice none 0 0) from rfl, ← HW9.out])
              refine bodyPost_ret (v := .tuple #[.agg #[.int .i64 0, .slice none 0 0, .int .i64 0, .int .i64 0, .int .i64 0, .int .i64 0, .int .u64 0, .bool false, .string ⟨#[]⟩], .int .i64 4]) (by simp [results, Tryd.results58]; go_simp) rfl ?_
              exact ⟨none, 0, 0, by rw [HE.out]; rfl, by rw [HE.out]; exact ⟨none, 0, rfl, Nat.le_refl _, fun e => absurd rfl e⟩, HB9.out, fun _ h => by cases h⟩
            · have hv1 : ¬ ((vn : Nat) : Int) = 0 := by omega
              by_cases d1 : (p + 1) < lo
              · have d1' : decide ((p + 1) < lo) = true := decide_eq_true d1
                have d1'' : (((p + 1) : Nat) : Int) < (lo : Int) := by omega
                have d1x : (p : Int) + 1 < (lo : Int) := by omega
                obtain ⟨th, rg, b9⟩ := ans_at HB5.out Rq.none none 0 0
                obtain ⟨W9, hW9⟩ : ∃ W9, W9 = ((w1.alloc (.cells #[.int .i64 ((vn : Nat) : Int), .slice none 0 0, .int .i64 0, .int .i64 0, .int .i64 0, .int .i64 0, .int .u64 0, .bool false, .string ⟨#[]⟩] 30))).setCells w.heap.size 0 (Rq.none.cs (.slice none 0 0)) := ⟨_, rfl⟩
                rw [← hW9] at rg b9
                have z0 : W9.cell? ⟨w.heap.size, 0, none⟩ = some (.int .i64 0) := rg 0 _ rfl
                have z1 : W9.cell? ⟨w.heap.size, 1, none⟩ = some (.slice none 0 0) := rg 1 _ rfl
                have z2 : W9.cell? ⟨w.heap.size, 2, none⟩ = some (.int .i64 0) := rg 2 _ rfl
                have z3 : W9.cell? ⟨w.heap.size, 3, none⟩ = some (.int .i64 0) := rg 3 _ rfl
                have z4 : W9.cell? ⟨w.heap.size, 4, none⟩ = some (.int .i64 0) := rg 4 _ rfl
                have z5 : W9.cell? ⟨w.heap.size, 5, none⟩ = some (.int .i64 0) := rg 5 _ rfl
                have z6 : W9.cell? ⟨w.heap.size, 6, none⟩ = some (.int .u64 0) := rg 6 _ rfl
                have z7 : W9.cell? ⟨w.heap.size, 7, none⟩ = some (.bool false) := rg 7 _ rfl
                have z8 : W9.cell? ⟨w.heap.size, 8, none⟩ = some (.string ⟨#[]⟩) := rg 8 _ rfl
                have TH := Lib.hid th
                have HW9 := Lib.hid hW9
                have HB9 := Lib.hid b9
                have HE : Hid (line (L s) = (Rq.none, 4)) := Lib.hid (by rw [HLL.out, if_neg hv0, if_pos (.inl d1)])
                clear rg th hW9 b9
                go_wp2_with ((with_reducible show wpList _ _ _ (Oper.mk none (Op.store 30 (.tmp 2) _) _ _ _ _ :: _) _ _); refine wpList_store_mid (by rfl) 30 (.tmp 2) (.tmp 71) (by rfl) w.heap.size 0 #[.int .i64 0, .slice none 0 0, .int .i64 0, .int .i64 0, .int .i64 0, .int .i64 0, .int .u64 0, .bool false, .string ⟨#[]⟩] (by rfl) (by rfl) TH.out (by kernel_rfl) (all_oneCell_toArray zv_one) ?_; rw [show (#[Value.int .i64 0, .slice none 0 0, .int .i64 0, .int .i64 0, .int .i64 0, .int .i64 0, .int .u64 0, .bool false, .string ⟨#[]⟩] : Array Value).toList = Rq.none.cs (.slice none 0 0) from rfl, ← HW9.out])
                refine bodyPost_ret (v := .tuple #[.agg #[.int .i64 0, .slice none 0 0, .int .i64 0, .int .i64 0, .int .i64 0, .int .i64 0, .int .u64 0, .bool false, .string ⟨#[]⟩], .int .i64 4]) (by simp [results, Tryd.results58]; go_simp) rfl ?_
                exact ⟨none, 0, 0, by rw [HE.out]; rfl, by rw [HE.out]; exact ⟨none, 0, rfl, Nat.le_refl _, fun e => absurd rfl e⟩, HB9.out, fun _ h => by cases h⟩
              · have d1' : decide ((p + 1) < lo) = false := decide_eq_false d1
                have d1'' : decide ((((p + 1) : Nat) : Int) < (lo : Int)) = false := decide_eq_false (by omega)
                have d1x : decide ((p : Int) + 1 < (lo : Int)) = false := decide_eq_false (by omega)
                by_cases d2 : hi < (p + 1)
                · have d2' : decide (hi < (p + 1)) = true := decide_eq_true d2
                  have d2'' : (hi : Int) < (((p + 1) : Nat) : Int) := by omega
                  have d2x : (hi : Int) < (p : Int) + 1 := by omega
                  obtain ⟨th, rg, b9⟩ := ans_at HB5.out Rq.none none 0 0
                  obtain ⟨W9, hW9⟩ : ∃ W9, W9 = ((w1.alloc (.cells #[.int .i64 ((vn : Nat) : Int), .slice none 0 0, .int .i64 0, .int .i64 0, .int .i64 0, .int .i64 0, .int .u64 0, .bool false, .string ⟨#[]⟩] 30))).setCells w.heap.size 0 (Rq.none.cs (.slice none 0 0)) := ⟨_, rfl⟩
                  rw [← hW9] at rg b9
                  have z0 : W9.cell? ⟨w.heap.size, 0, none⟩ = some (.int .i64 0) := rg 0 _ rfl
                  have z1 : W9.cell? ⟨w.heap.size, 1, none⟩ = some (.slice none 0 0) := rg 1 _ rfl
                  have z2 : W9.cell? ⟨w.heap.size, 2, none⟩ = some (.int .i64 0) := rg 2 _ rfl
                  have z3 : W9.cell? ⟨w.heap.size, 3, none⟩ = some (.int .i64 0) := rg 3 _ rfl
                  have z4 : W9.cell? ⟨w.heap.size, 4, none⟩ = some (.int .i64 0) := rg 4 _ rfl
                  have z5 : W9.cell? ⟨w.heap.size, 5, none⟩ = some (.int .i64 0) := rg 5 _ rfl
                  have z6 : W9.cell? ⟨w.heap.size, 6, none⟩ = some (.int .u64 0) := rg 6 _ rfl
                  have z7 : W9.cell? ⟨w.heap.size, 7, none⟩ = some (.bool false) := rg 7 _ rfl
                  have z8 : W9.cell? ⟨w.heap.size, 8, none⟩ = some (.string ⟨#[]⟩) := rg 8 _ rfl
                  have TH := Lib.hid th
                  have HW9 := Lib.hid hW9
                  have HB9 := Lib.hid b9
                  have HE : Hid (line (L s) = (Rq.none, 4)) := Lib.hid (by rw [HLL.out, if_neg hv0, if_pos (.inr d2)])
                  clear rg th hW9 b9
                  go_wp2_with ((with_reducible show wpList _ _ _ (Oper.mk none (Op.store 30 (.tmp 2) _) _ _ _ _ :: _) _ _); refine wpList_store_mid (by rfl) 30 (.tmp 2) (.tmp 71) (by rfl) w.heap.size 0 #[.int .i64 0, .slice none 0 0, .int .i64 0, .int .i64 0, .int .i64 0, .int .i64 0, .int .u64 0, .bool false, .string ⟨#[]⟩] (by rfl) (by rfl) TH.out (by kernel_rfl) (all_oneCell_toArray zv_one) ?_; rw [show (#[Value.int .i64 0, .slice none 0 0, .int .i64 0, .int .i64 0, .int .i64 0, .int .i64 0, .int .u64 0, .bool false, .string ⟨#[]⟩] : Array Value).toList = Rq.none.cs (.slice none 0 0) from rfl, ← HW9.out])
                  refine bodyPost_ret (v := .tuple #[.agg #[.int .i64 0, .slice none 0 0, .int .i64 0, .int .i64 0, .int .i64 0, .int .i64 0, .int .u64 0, .bool false, .string ⟨#[]⟩], .int .i64 4]) (by simp [results, Tryd.results58]; go_simp) rfl ?_
                  exact ⟨none, 0, 0, by rw [HE.out]; rfl, by rw [HE.out]; exact ⟨none, 0, rfl, Nat.le_refl _, fun e => absurd rfl e⟩, HB9.out, fun _ h => by cases h⟩
                · have d2' : decide (hi < (p + 1)) = false := decide_eq_false d2
                  have d2'' : decide ((hi : Int) < (((p + 1) : Nat) : Int)) = false := decide_eq_false (by omega)
                  have d2x : decide ((hi : Int) < (p : Int) + 1) = false := decide_eq_false (by omega)
                  have hIR : IsR (w1.alloc (.cells #[.int .i64 ((vn : Nat) : Int), .slice none 0 0, .int .i64 0, .int .i64 0, .int .i64 0, .int .i64 0, .int .u64 0, .bool false, .string ⟨#[]⟩] 30)) w1.heap.size [.int .i64 ((vn : Nat) : Int), .slice none 0 0, .int .i64 0, .int .i64 0, .int .i64 0, .int .i64 0, .int .u64 0, .bool false, .string ⟨#[]⟩] := ⟨lay_new _ _, fun j => World.frozen?_alloc_new _ _ _ _, by rw [size_alloc]; omega⟩
                  have RA := rargs_any false (some ⟨g2, q2, none⟩) _ (c1 - 1) w1.heap.size AL HZA.out (w1.alloc (.cells #[.int .i64 ((vn : Nat) : Int), .slice none 0 0, .int .i64 0, .int .i64 0, .int .i64 0, .int .i64 0, .int .u64 0, .bool false, .string ⟨#[]⟩] 30)) (by have h := HSA.out.below ((Below.refl _ _).alloc (Nat.le_refl _) (.cells #[.int .i64 ((vn : Nat) : Int), .slice none 0 0, .int .i64 0, .int .i64 0, .int .i64 0, .int .i64 0, .int .u64 0, .bool false, .string ⟨#[]⟩] 30)); rwa [HAL.out] at h) HAB.out vn hv18 hv0 (by rw [HF.out]; show lo ≤ AL.length; rw [HAL.out]; omega) (by rw [HF.out]; show AL.length ≤ hi; rw [HAL.out]; omega) hIR
                  rw [HF.out, size_alloc] at RA
                  simp only at RA
                  have HL3 : Hid (line (L s) = match rd ks 0 AL Rq.none with | none => (Rq.none, 1) | some r => ({ r with verb := vn, quiet := false }, 0)) := Lib.hid (by rw [HLL.out, if_neg hv0, if_neg (by omega)])
                  clear hIR HLL
                  cases hr : rd ks 0 AL Rq.none with
                  | none =>
                    rw [hr] at RA HL3
                    simp only [Option.isSome_none] at RA
                    go_wp2_with fail
                    refine RA.mono ?_
                    rintro e w6 ⟨rfl, b6, _⟩
                    have HB6 : Hid (Below (w.heap.size + 1) (w.alloc (.cells ZV.toArray 30)) w6) := Lib.hid (HB5.out.trans (b6.mono (by have := B1.out.size; rw [size_alloc] at this; exact this)))
                    clear b6 RA
                    obtain ⟨th, rg, b9⟩ := ans_at HB6.out Rq.none none 0 0
                    obtain ⟨W9, hW9⟩ : ∃ W9, W9 = (w6).setCells w.heap.size 0 (Rq.none.cs (.slice none 0 0)) := ⟨_, rfl⟩
                    rw [← hW9] at rg b9
                    have z0 : W9.cell? ⟨w.heap.size, 0, none⟩ = some (.int .i64 0) := rg 0 _ rfl
                    have z1 : W9.cell? ⟨w.heap.size, 1, none⟩ = some (.slice none 0 0) := rg 1 _ rfl
                    have z2 : W9.cell? ⟨w.heap.size, 2, none⟩ = some (.int .i64 0) := rg 2 _ rfl
                    have z3 : W9.cell? ⟨w.heap.size, 3, none⟩ = some (.int .i64 0) := rg 3 _ rfl
                    have z4 : W9.cell? ⟨w.heap.size, 4, none⟩ = some (.int .i64 0) := rg 4 _ rfl
                    have z5 : W9.cell? ⟨w.heap.size, 5, none⟩ = some (.int .i64 0) := rg 5 _ rfl
                    have z6 : W9.cell? ⟨w.heap.size, 6, none⟩ = some (.int .u64 0) := rg 6 _ rfl
                    have z7 : W9.cell? ⟨w.heap.size, 7, none⟩ = some (.bool false) := rg 7 _ rfl
                    have z8 : W9.cell? ⟨w.heap.size, 8, none⟩ = some (.string ⟨#[]⟩) := rg 8 _ rfl
                    have TH := Lib.hid th
                    have HW9 := Lib.hid hW9
                    have HB9 := Lib.hid b9
                    have HE : Hid (line (L s) = (Rq.none, 1)) := Lib.hid (by rw [HL3.out])
                    clear rg th hW9 b9
                    go_wp2_with ((with_reducible show wpList _ _ _ (Oper.mk none (Op.store 30 (.tmp 2) _) _ _ _ _ :: _) _ _); refine wpList_store_mid (by rfl) 30 (.tmp 2) (.tmp 75) (by rfl) w.heap.size 0 #[.int .i64 0, .slice none 0 0, .int .i64 0, .int .i64 0, .int .i64 0, .int .i64 0, .int .u64 0, .bool false, .string ⟨#[]⟩] (by rfl) (by rfl) TH.out (by kernel_rfl) (all_oneCell_toArray zv_one) ?_; rw [show (#[Value.int .i64 0, .slice none 0 0, .int .i64 0, .int .i64 0, .int .i64 0, .int .i64 0, .int .u64 0, .bool false, .string ⟨#[]⟩] : Array Value).toList = Rq.none.cs (.slice none 0 0) from rfl, ← HW9.out])
                    refine bodyPost_ret (v := .tuple #[.agg #[.int .i64 0, .slice none 0 0, .int .i64 0, .int .i64 0, .int .i64 0, .int .i64 0, .int .u64 0, .bool false, .string ⟨#[]⟩], .int .i64 1]) (by simp [results, Tryd.results58]; go_simp) rfl ?_
                    exact ⟨none, 0, 0, by rw [HE.out]; rfl, by rw [HE.out]; exact ⟨none, 0, rfl, Nat.le_refl _, fun e => absurd rfl e⟩, HB9.out, fun _ h => by cases h⟩
                  | some r =>
                    rw [hr] at RA HL3
                    simp only [Option.isSome_some] at RA
                    obtain ⟨rv, rks, rf, re, rb, rc, rdl, rq⟩ := r
                    go_wp2_with fail
                    refine RA.mono ?_
                    rintro e w6 ⟨rfl, b6, G6⟩
                    obtain ⟨a6, n6, c6, L6, S6, nw6⟩ := G6 _ rfl
                    have HB6 : Hid (Below (w.heap.size + 1) (w.alloc (.cells ZV.toArray 30)) w6) := Lib.hid (HB5.out.trans (b6.mono (by have := B1.out.size; rw [size_alloc] at this; exact this)))
                    have HN6 : Hid (∀ A, a6 = some A → w.heap.size < A.block) := Lib.hid (fun A hA => by
                      have h := nw6 A hA
                      have := B1.out.size
                      rw [size_alloc] at this
                      omega)
                    have HS6 := Lib.hid S6
                    obtain ⟨th, rg, b9⟩ := ans_at HB6.out ⟨vn, rks, rf, re, rb, rc, rdl, false⟩ a6 n6 c6
                    obtain ⟨W9, hW9⟩ : ∃ W9, W9 = w6.setCells w.heap.size 0 (Rq.cs ⟨vn, rks, rf, re, rb, rc, rdl, false⟩ (.slice a6 n6 c6)) := ⟨_, rfl⟩
                    rw [← hW9] at rg b9
                    have z0 : W9.cell? ⟨w.heap.size, 0, none⟩ = some (.int .i64 ((vn : Nat) : Int)) := rg 0 _ rfl
                    have y0 : w6.cell? ⟨w1.heap.size, 0, none⟩ = some (.int .i64 ((vn : Nat) : Int)) := L6 0 _ rfl
                    have z1 : W9.cell? ⟨w.heap.size, 1, none⟩ = some (.slice a6 n6 c6) := rg 1 _ rfl
                    have y1 : w6.cell? ⟨w1.heap.size, 1, none⟩ = some (.slice a6 n6 c6) := L6 1 _ rfl
                    have z2 : W9.cell? ⟨w.heap.size, 2, none⟩ = some (.int .i64 rf) := rg 2 _ rfl
                    have y2 : w6.cell? ⟨w1.heap.size, 2, none⟩ = some (.int .i64 rf) := L6 2 _ rfl
                    have z3 : W9.cell? ⟨w.heap.size, 3, none⟩ = some (.int .i64 re) := rg 3 _ rfl
                    have y3 : w6.cell? ⟨w1.heap.size, 3, none⟩ = some (.int .i64 re) := L6 3 _ rfl
                    have z4 : W9.cell? ⟨w.heap.size, 4, none⟩ = some (.int .i64 rb) := rg 4 _ rfl
                    have y4 : w6.cell? ⟨w1.heap.size, 4, none⟩ = some (.int .i64 rb) := L6 4 _ rfl
                    have z5 : W9.cell? ⟨w.heap.size, 5, none⟩ = some (.int .i64 rc) := rg 5 _ rfl
                    have y5 : w6.cell? ⟨w1.heap.size, 5, none⟩ = some (.int .i64 rc) := L6 5 _ rfl
                    have z6 : W9.cell? ⟨w.heap.size, 6, none⟩ = some (.int .u64 ((rdl : Nat) : Int)) := rg 6 _ rfl
                    have y6 : w6.cell? ⟨w1.heap.size, 6, none⟩ = some (.int .u64 ((rdl : Nat) : Int)) := L6 6 _ rfl
                    have z7 : W9.cell? ⟨w.heap.size, 7, none⟩ = some (.bool false) := rg 7 _ rfl
                    have y7 : w6.cell? ⟨w1.heap.size, 7, none⟩ = some (.bool false) := L6 7 _ rfl
                    have z8 : W9.cell? ⟨w.heap.size, 8, none⟩ = some (.string ⟨#[]⟩) := rg 8 _ rfl
                    have y8 : w6.cell? ⟨w1.heap.size, 8, none⟩ = some (.string ⟨#[]⟩) := L6 8 _ rfl
                    have HS9 : Hid (Strs W9 (.slice a6 n6 c6) rks) := Lib.hid (by rw [hW9]; exact HS6.out.setP (fun A hA => Nat.ne_of_lt (HN6.out A hA)))
                    have TH := Lib.hid th
                    have HW9 := Lib.hid hW9
                    have HB9 := Lib.hid b9
                    clear rg th hW9 b9 b6 RA G6 L6 S6 nw6
                    go_wp2_with ((with_reducible show wpList _ _ _ (Oper.mk none (Op.store 30 (.tmp 2) _) _ _ _ _ :: _) _ _); refine wpList_store_mid (by rfl) 30 (.tmp 2) (.tmp 76) (by rfl) w.heap.size 0 #[.int .i64 ((vn : Nat) : Int), .slice a6 n6 c6, .int .i64 rf, .int .i64 re, .int .i64 rb, .int .i64 rc, .int .u64 ((rdl : Nat) : Int), .bool false, .string ⟨#[]⟩] (by rfl) (by rfl) TH.out (by kernel_rfl) (all_oneCell_toArray (cs_one ⟨vn, rks, rf, re, rb, rc, rdl, false⟩ _ _ _)) ?_; rw [show (#[Value.int .i64 ((vn : Nat) : Int), .slice a6 n6 c6, .int .i64 rf, .int .i64 re, .int .i64 rb, .int .i64 rc, .int .u64 ((rdl : Nat) : Int), .bool false, .string ⟨#[]⟩] : Array Value).toList = Rq.cs ⟨vn, rks, rf, re, rb, rc, rdl, false⟩ (.slice a6 n6 c6) from rfl, ← HW9.out])
                    refine bodyPost_ret (v := .tuple #[.agg #[.int .i64 ((vn : Nat) : Int), .slice a6 n6 c6, .int .i64 rf, .int .i64 re, .int .i64 rb, .int .i64 rc, .int .u64 ((rdl : Nat) : Int), .bool false, .string ⟨#[]⟩], .int .i64 0]) (by simp [results, Tryd.results58]; go_simp) rfl ?_
                    exact ⟨a6, n6, c6, by rw [HL3.out]; rfl, by rw [HL3.out]; exact HS9.out, HB9.out, fun A hA => Nat.le_of_lt (HN6.out A hA)⟩
        · have eq : ((S x).toList == [110, 111, 114, 101, 112, 108, 121]) = false := by rw [beq_lit]; exact decide_eq_false hb
          have HHU : Hid (hushed ⟨ks, lo, hi, true⟩ tl = false) := Lib.hid (by unfold hushed; rw [hgd]; simp [hb])
          obtain ⟨AL, hAL⟩ : ∃ AL, AL = tl := ⟨_, rfl⟩
          have HAR : Hid (args ⟨ks, lo, hi, true⟩ tl = AL) := Lib.hid (by unfold args; rw [HHU.out, hAL]; rfl)
          have HSA : Hid (Strs w1 (.slice (some ⟨g2, q2, none⟩) AL.length (c1 - 1)) AL) := Lib.hid (by rw [hAL, ← HTL.out]; exact HST.out)
          have HZA : Hid (∀ x ∈ AL, (S x).size ≤ 100000) := Lib.hid (by rw [hAL]; exact HZT.out)
          have HAL : Hid (AL.length = p + 1) := Lib.hid (by rw [hAL]; exact HTL.out.symm)
          clear hAL hx hgd hb
          have HB5 : Hid (Below (w.heap.size + 1) (w.alloc (.cells ZV.toArray 30)) (w1.alloc (.cells #[.int .i64 ((vn : Nat) : Int), .slice none 0 0, .int .i64 0, .int .i64 0, .int .i64 0, .int .i64 0, .int .u64 0, .bool false, .string ⟨#[]⟩] 30))) := Lib.hid (B1.out.alloc (by have := B1.out.size; rw [size_alloc] at this; exact this) _)
          have HLL : Hid (line (L s) = if vn = 0 then (Rq.none, 4) else if AL.length < lo ∨ hi < AL.length then (Rq.none, 4) else match rd ks 0 AL Rq.none with | none => (Rq.none, 1) | some r => ({ r with verb := vn, quiet := false }, 0)) := Lib.hid (by rw [HL.out]; unfold lin; rw [HF.out, HAR.out, HHU.out]; rfl)
          rw [HAL.out] at HLL
          by_cases hv0 : vn = 0
          · have hv2 : (((vn : Nat) : Int) == 0) = true := by rw [hv0]; rfl
            have HV0 := Lib.hid hv0
            clear hv0
            obtain ⟨th, rg, b9⟩ := ans_at HB5.out Rq.none none 0 0
            obtain ⟨W9, hW9⟩ : ∃ W9, W9 = ((w1.alloc (.cells #[.int .i64 ((vn : Nat) : Int), .slice none 0 0, .int .i64 0, .int .i64 0, .int .i64 0, .int .i64 0, .int .u64 0, .bool false, .string ⟨#[]⟩] 30))).setCells w.heap.size 0 (Rq.none.cs (.slice none 0 0)) := ⟨_, rfl⟩
            rw [← hW9] at rg b9
            have z0 : W9.cell? ⟨w.heap.size, 0, none⟩ = some (.int .i64 0) := rg 0 _ rfl
            have z1 : W9.cell? ⟨w.heap.size, 1, none⟩ = some (.slice none 0 0) := rg 1 _ rfl
            have z2 : W9.cell? ⟨w.heap.size, 2, none⟩ = some (.int .i64 0) := rg 2 _ rfl
            have z3 : W9.cell? ⟨w.heap.size, 3, none⟩ = some (.int .i64 0) := rg 3 _ rfl
            have z4 : W9.cell? ⟨w.heap.size, 4, none⟩ = some (.int .i64 0) := rg 4 _ rfl
            have z5 : W9.cell? ⟨w.heap.size, 5, none⟩ = some (.int .i64 0) := rg 5 _ rfl
            have z6 : W9.cell? ⟨w.heap.size, 6, none⟩ = some (.int .u64 0) := rg 6 _ rfl
            have z7 : W9.cell? ⟨w.heap.size, 7, none⟩ = some (.bool false) := rg 7 _ rfl
            have z8 : W9.cell? ⟨w.heap.size, 8, none⟩ = some (.string ⟨#[]⟩) := rg 8 _ rfl
            have TH := Lib.hid th
            have HW9 := Lib.hid hW9
            have HB9 := Lib.hid b9
            have HE : Hid (line (L s) = (Rq.none, 4)) := Lib.hid (by rw [HLL.out, if_pos HV0.out])
            clear rg th hW9 b9
            go_wp2_with ((with_reducible show wpList _ _ _ (Oper.mk none (Op.store 30 (.tmp 2) _) _ _ _ _ :: _) _ _); refine wpList_store_mid (by rfl) 30 (.tmp 2) (.tmp 71) (by rfl) w.heap.size 0 #[.int .i64 0, .slice none 0 0, .int .i64 0, .int .i64 0, .int .i64 0, .int .i64 0, .int .u64 0, .bool false, .string ⟨#[]⟩] (by rfl) (by rfl) TH.out (by kernel_rfl) (all_oneCell_toArray zv_one) ?_; rw [show (#[Value.int .i64 0, .slice none 0 0, .int .i64 0, .int .i64 0, .int .i64 0, .int .i64 0, .int .u64 0, .bool false, .string ⟨#[]⟩] : Array Value).toList = Rq.none.cs (.slice none 0 0) from rfl, ← HW9.out])
            refine bodyPost_ret (v := .tuple #[.agg #[.int .i64 0, .slice none 0 0, .int .i64 0, .int .i64 0, .int .i64 0, .int .i64 0, .int .u64 0, .bool false, .string ⟨#[]⟩], .int .i64 4]) (by simp [results, Tryd.results58]; go_simp) rfl ?_
            exact ⟨none, 0, 0, by rw [HE.out]; rfl, by rw [HE.out]; exact ⟨none, 0, rfl, Nat.le_refl _, fun e => absurd rfl e⟩, HB9.out, fun _ h => by cases h⟩
          · have hv1 : ¬ ((vn : Nat) : Int) = 0 := by omega
            by_cases d1 : (p + 1) < lo
            · have d1' : decide ((p + 1) < lo) = true := decide_eq_true d1
              have d1'' : (((p + 1) : Nat) : Int) < (lo : Int) := by omega
              have d1x : (p : Int) + 1 < (lo : Int) := by omega
              obtain ⟨th, rg, b9⟩ := ans_at HB5.out Rq.none none 0 0
              obtain ⟨W9, hW9⟩ : ∃ W9, W9 = ((w1.alloc (.cells #[.int .i64 ((vn : Nat) : Int), .slice none 0 0, .int .i64 0, .int .i64 0, .int .i64 0, .int .i64 0, .int .u64 0, .bool false, .string ⟨#[]⟩] 30))).setCells w.heap.size 0 (Rq.none.cs (.slice none 0 0)) := ⟨_, rfl⟩
              rw [← hW9] at rg b9
              have z0 : W9.cell? ⟨w.heap.size, 0, none⟩ = some (.int .i64 0) := rg 0 _ rfl
              have z1 : W9.cell? ⟨w.heap.size, 1, none⟩ = some (.slice none 0 0) := rg 1 _ rfl
              have z2 : W9.cell? ⟨w.heap.size, 2, none⟩ = some (.int .i64 0) := rg 2 _ rfl
              have z3 : W9.cell? ⟨w.heap.size, 3, none⟩ = some (.int .i64 0) := rg 3 _ rfl
              have z4 : W9.cell? ⟨w.heap.size, 4, none⟩ = some (.int .i64 0) := rg 4 _ rfl
              have z5 : W9.cell? ⟨w.heap.size, 5, none⟩ = some (.int .i64 0) := rg 5 _ rfl
              have z6 : W9.cell? ⟨w.heap.size, 6, none⟩ = some (.int .u64 0) := rg 6 _ rfl
              have z7 : W9.cell? ⟨w.heap.size, 7, none⟩ = some (.bool false) := rg 7 _ rfl
              have z8 : W9.cell? ⟨w.heap.size, 8, none⟩ = some (.string ⟨#[]⟩) := rg 8 _ rfl
              have TH := Lib.hid th
              have HW9 := Lib.hid hW9
              have HB9 := Lib.hid b9
              have HE : Hid (line (L s) = (Rq.none, 4)) := Lib.hid (by rw [HLL.out, if_neg hv0, if_pos (.inl d1)])
              clear rg th hW9 b9
              go_wp2_with ((with_reducible show wpList _ _ _ (Oper.mk none (Op.store 30 (.tmp 2) _) _ _ _ _ :: _) _ _); refine wpList_store_mid (by rfl) 30 (.tmp 2) (.tmp 71) (by rfl) w.heap.size 0 #[.int .i64 0, .slice none 0 0, .int .i64 0, .int .i64 0, .int .i64 0, .int .i64 0, .int .u64 0, .bool false, .string ⟨#[]⟩] (by rfl) (by rfl) TH.out (by kernel_rfl) (all_oneCell_toArray zv_one) ?_; rw [show (#[Value.int .i64 0, .slice none 0 0, .int .i64 0, .int .i64 0, .int .i64 0, .int .i64 0, .int .u64 0, .bool false, .string ⟨#[]⟩] : Array Value).toList = Rq.none.cs (.slice none 0 0) from rfl, ← HW9.out])
              refine bodyPost_ret (v := .tuple #[.agg #[.int .i64 0, .slice none 0 0, .int .i64 0, .int .i64 0, .int .i64 0, .int .i64 0, .int .u64 0, .bool false, .string ⟨#[]⟩], .int .i64 4]) (by simp [results, Tryd.results58]; go_simp) rfl ?_
              exact ⟨none, 0, 0, by rw [HE.out]; rfl, by rw [HE.out]; exact ⟨none, 0, rfl, Nat.le_refl _, fun e => absurd rfl e⟩, HB9.out, fun _ h => by cases h⟩
            · have d1' : decide ((p + 1) < lo) = false := decide_eq_false d1
              have d1'' : decide ((((p + 1) : Nat) : Int) < (lo : Int)) = false := decide_eq_false (by omega)
              have d1x : decide ((p : Int) + 1 < (lo : Int)) = false := decide_eq_false (by omega)
              by_cases d2 : hi < (p + 1)
              · have d2' : decide (hi < (p + 1)) = true := decide_eq_true d2
                have d2'' : (hi : Int) < (((p + 1) : Nat) : Int) := by omega
                have d2x : (hi : Int) < (p : Int) + 1 := by omega
                obtain ⟨th, rg, b9⟩ := ans_at HB5.out Rq.none none 0 0
                obtain ⟨W9, hW9⟩ : ∃ W9, W9 = ((w1.alloc (.cells #[.int .i64 ((vn : Nat) : Int), .slice none 0 0, .int .i64 0, .int .i64 0, .int .i64 0, .int .i64 0, .int .u64 0, .bool false, .string ⟨#[]⟩] 30))).setCells w.heap.size 0 (Rq.none.cs (.slice none 0 0)) := ⟨_, rfl⟩
                rw [← hW9] at rg b9
                have z0 : W9.cell? ⟨w.heap.size, 0, none⟩ = some (.int .i64 0) := rg 0 _ rfl
                have z1 : W9.cell? ⟨w.heap.size, 1, none⟩ = some (.slice none 0 0) := rg 1 _ rfl
                have z2 : W9.cell? ⟨w.heap.size, 2, none⟩ = some (.int .i64 0) := rg 2 _ rfl
                have z3 : W9.cell? ⟨w.heap.size, 3, none⟩ = some (.int .i64 0) := rg 3 _ rfl
                have z4 : W9.cell? ⟨w.heap.size, 4, none⟩ = some (.int .i64 0) := rg 4 _ rfl
                have z5 : W9.cell? ⟨w.heap.size, 5, none⟩ = some (.int .i64 0) := rg 5 _ rfl
                have z6 : W9.cell? ⟨w.heap.size, 6, none⟩ = some (.int .u64 0) := rg 6 _ rfl
                have z7 : W9.cell? ⟨w.heap.size, 7, none⟩ = some (.bool false) := rg 7 _ rfl
                have z8 : W9.cell? ⟨w.heap.size, 8, none⟩ = some (.string ⟨#[]⟩) := rg 8 _ rfl
                have TH := Lib.hid th
                have HW9 := Lib.hid hW9
                have HB9 := Lib.hid b9
                have HE : Hid (line (L s) = (Rq.none, 4)) := Lib.hid (by rw [HLL.out, if_neg hv0, if_pos (.inr d2)])
                clear rg th hW9 b9
                go_wp2_with ((with_reducible show wpList _ _ _ (Oper.mk none (Op.store 30 (.tmp 2) _) _ _ _ _ :: _) _ _); refine wpList_store_mid (by rfl) 30 (.tmp 2) (.tmp 71) (by rfl) w.heap.size 0 #[.int .i64 0, .slice none 0 0, .int .i64 0, .int .i64 0, .int .i64 0, .int .i64 0, .int .u64 0, .bool false, .string ⟨#[]⟩] (by rfl) (by rfl) TH.out (by kernel_rfl) (all_oneCell_toArray zv_one) ?_; rw [show (#[Value.int .i64 0, .slice none 0 0, .int .i64 0, .int .i64 0, .int .i64 0, .int .i64 0, .int .u64 0, .bool false, .string ⟨#[]⟩] : Array Value).toList = Rq.none.cs (.slice none 0 0) from rfl, ← HW9.out])
                refine bodyPost_ret (v := .tuple #[.agg #[.int .i64 0, .slice none 0 0, .int .i64 0, .int .i64 0, .int .i64 0, .int .i64 0, .int .u64 0, .bool false, .string ⟨#[]⟩], .int .i64 4]) (by simp [results, Tryd.results58]; go_simp) rfl ?_
                exact ⟨none, 0, 0, by rw [HE.out]; rfl, by rw [HE.out]; exact ⟨none, 0, rfl, Nat.le_refl _, fun e => absurd rfl e⟩, HB9.out, fun _ h => by cases h⟩
              · have d2' : decide (hi < (p + 1)) = false := decide_eq_false d2
                have d2'' : decide ((hi : Int) < (((p + 1) : Nat) : Int)) = false := decide_eq_false (by omega)
                have d2x : decide ((hi : Int) < (p : Int) + 1) = false := decide_eq_false (by omega)
                have hIR : IsR (w1.alloc (.cells #[.int .i64 ((vn : Nat) : Int), .slice none 0 0, .int .i64 0, .int .i64 0, .int .i64 0, .int .i64 0, .int .u64 0, .bool false, .string ⟨#[]⟩] 30)) w1.heap.size [.int .i64 ((vn : Nat) : Int), .slice none 0 0, .int .i64 0, .int .i64 0, .int .i64 0, .int .i64 0, .int .u64 0, .bool false, .string ⟨#[]⟩] := ⟨lay_new _ _, fun j => World.frozen?_alloc_new _ _ _ _, by rw [size_alloc]; omega⟩
                have RA := rargs_any false (some ⟨g2, q2, none⟩) _ (c1 - 1) w1.heap.size AL HZA.out (w1.alloc (.cells #[.int .i64 ((vn : Nat) : Int), .slice none 0 0, .int .i64 0, .int .i64 0, .int .i64 0, .int .i64 0, .int .u64 0, .bool false, .string ⟨#[]⟩] 30)) (by have h := HSA.out.below ((Below.refl _ _).alloc (Nat.le_refl _) (.cells #[.int .i64 ((vn : Nat) : Int), .slice none 0 0, .int .i64 0, .int .i64 0, .int .i64 0, .int .i64 0, .int .u64 0, .bool false, .string ⟨#[]⟩] 30)); rwa [HAL.out] at h) HAB.out vn hv18 hv0 (by rw [HF.out]; show lo ≤ AL.length; rw [HAL.out]; omega) (by rw [HF.out]; show AL.length ≤ hi; rw [HAL.out]; omega) hIR
                rw [HF.out, size_alloc] at RA
                simp only at RA
                have HL3 : Hid (line (L s) = match rd ks 0 AL Rq.none with | none => (Rq.none, 1) | some r => ({ r with verb := vn, quiet := false }, 0)) := Lib.hid (by rw [HLL.out, if_neg hv0, if_neg (by omega)])
                clear hIR HLL
                cases hr : rd ks 0 AL Rq.none with
                | none =>
                  rw [hr] at RA HL3
                  simp only [Option.isSome_none] at RA
                  go_wp2_with fail
                  refine RA.mono ?_
                  rintro e w6 ⟨rfl, b6, _⟩
                  have HB6 : Hid (Below (w.heap.size + 1) (w.alloc (.cells ZV.toArray 30)) w6) := Lib.hid (HB5.out.trans (b6.mono (by have := B1.out.size; rw [size_alloc] at this; exact this)))
                  clear b6 RA
                  obtain ⟨th, rg, b9⟩ := ans_at HB6.out Rq.none none 0 0
                  obtain ⟨W9, hW9⟩ : ∃ W9, W9 = (w6).setCells w.heap.size 0 (Rq.none.cs (.slice none 0 0)) := ⟨_, rfl⟩
                  rw [← hW9] at rg b9
                  have z0 : W9.cell? ⟨w.heap.size, 0, none⟩ = some (.int .i64 0) := rg 0 _ rfl
                  have z1 : W9.cell? ⟨w.heap.size, 1, none⟩ = some (.slice none 0 0) := rg 1 _ rfl
                  have z2 : W9.cell? ⟨w.heap.size, 2, none⟩ = some (.int .i64 0) := rg 2 _ rfl
                  have z3 : W9.cell? ⟨w.heap.size, 3, none⟩ = some (.int .i64 0) := rg 3 _ rfl
                  have z4 : W9.cell? ⟨w.heap.size, 4, none⟩ = some (.int .i64 0) := rg 4 _ rfl
                  have z5 : W9.cell? ⟨w.heap.size, 5, none⟩ = some (.int .i64 0) := rg 5 _ rfl
                  have z6 : W9.cell? ⟨w.heap.size, 6, none⟩ = some (.int .u64 0) := rg 6 _ rfl
                  have z7 : W9.cell? ⟨w.heap.size, 7, none⟩ = some (.bool false) := rg 7 _ rfl
                  have z8 : W9.cell? ⟨w.heap.size, 8, none⟩ = some (.string ⟨#[]⟩) := rg 8 _ rfl
                  have TH := Lib.hid th
                  have HW9 := Lib.hid hW9
                  have HB9 := Lib.hid b9
                  have HE : Hid (line (L s) = (Rq.none, 1)) := Lib.hid (by rw [HL3.out])
                  clear rg th hW9 b9
                  go_wp2_with ((with_reducible show wpList _ _ _ (Oper.mk none (Op.store 30 (.tmp 2) _) _ _ _ _ :: _) _ _); refine wpList_store_mid (by rfl) 30 (.tmp 2) (.tmp 75) (by rfl) w.heap.size 0 #[.int .i64 0, .slice none 0 0, .int .i64 0, .int .i64 0, .int .i64 0, .int .i64 0, .int .u64 0, .bool false, .string ⟨#[]⟩] (by rfl) (by rfl) TH.out (by kernel_rfl) (all_oneCell_toArray zv_one) ?_; rw [show (#[Value.int .i64 0, .slice none 0 0, .int .i64 0, .int .i64 0, .int .i64 0, .int .i64 0, .int .u64 0, .bool false, .string ⟨#[]⟩] : Array Value).toList = Rq.none.cs (.slice none 0 0) from rfl, ← HW9.out])
                  refine bodyPost_ret (v := .tuple #[.agg #[.int .i64 0, .slice none 0 0, .int .i64 0, .int .i64 0, .int .i64 0, .int .i64 0, .int .u64 0, .bool false, .string ⟨#[]⟩], .int .i64 1]) (by simp [results, Tryd.results58]; go_simp) rfl ?_
                  exact ⟨none, 0, 0, by rw [HE.out]; rfl, by rw [HE.out]; exact ⟨none, 0, rfl, Nat.le_refl _, fun e => absurd rfl e⟩, HB9.out, fun _ h => by cases h⟩
                | some r =>
                  rw [hr] at RA HL3
                  simp only [Option.isSome_some] at RA
                  obtain ⟨rv, rks, rf, re, rb, rc, rdl, rq⟩ := r
                  go_wp2_with fail
                  refine RA.mono ?_
                  rintro e w6 ⟨rfl, b6, G6⟩
                  obtain ⟨a6, n6, c6, L6, S6, nw6⟩ := G6 _ rfl
                  have HB6 : Hid (Below (w.heap.size + 1) (w.alloc (.cells ZV.toArray 30)) w6) := Lib.hid (HB5.out.trans (b6.mono (by have := B1.out.size; rw [size_alloc] at this; exact this)))
                  have HN6 : Hid (∀ A, a6 = some A → w.heap.size < A.block) := Lib.hid (fun A hA => by
                    have h := nw6 A hA
                    have := B1.out.size
                    rw [size_alloc] at this
                    omega)
                  have HS6 := Lib.hid S6
                  obtain ⟨th, rg, b9⟩ := ans_at HB6.out ⟨vn, rks, rf, re, rb, rc, rdl, false⟩ a6 n6 c6
                  obtain ⟨W9, hW9⟩ : ∃ W9, W9 = w6.setCells w.heap.size 0 (Rq.cs ⟨vn, rks, rf, re, rb, rc, rdl, false⟩ (.slice a6 n6 c6)) := ⟨_, rfl⟩
                  rw [← hW9] at rg b9
                  have z0 : W9.cell? ⟨w.heap.size, 0, none⟩ = some (.int .i64 ((vn : Nat) : Int)) := rg 0 _ rfl
                  have y0 : w6.cell? ⟨w1.heap.size, 0, none⟩ = some (.int .i64 ((vn : Nat) : Int)) := L6 0 _ rfl
                  have z1 : W9.cell? ⟨w.heap.size, 1, none⟩ = some (.slice a6 n6 c6) := rg 1 _ rfl
                  have y1 : w6.cell? ⟨w1.heap.size, 1, none⟩ = some (.slice a6 n6 c6) := L6 1 _ rfl
                  have z2 : W9.cell? ⟨w.heap.size, 2, none⟩ = some (.int .i64 rf) := rg 2 _ rfl
                  have y2 : w6.cell? ⟨w1.heap.size, 2, none⟩ = some (.int .i64 rf) := L6 2 _ rfl
                  have z3 : W9.cell? ⟨w.heap.size, 3, none⟩ = some (.int .i64 re) := rg 3 _ rfl
                  have y3 : w6.cell? ⟨w1.heap.size, 3, none⟩ = some (.int .i64 re) := L6 3 _ rfl
                  have z4 : W9.cell? ⟨w.heap.size, 4, none⟩ = some (.int .i64 rb) := rg 4 _ rfl
                  have y4 : w6.cell? ⟨w1.heap.size, 4, none⟩ = some (.int .i64 rb) := L6 4 _ rfl
                  have z5 : W9.cell? ⟨w.heap.size, 5, none⟩ = some (.int .i64 rc) := rg 5 _ rfl
                  have y5 : w6.cell? ⟨w1.heap.size, 5, none⟩ = some (.int .i64 rc) := L6 5 _ rfl
                  have z6 : W9.cell? ⟨w.heap.size, 6, none⟩ = some (.int .u64 ((rdl : Nat) : Int)) := rg 6 _ rfl
                  have y6 : w6.cell? ⟨w1.heap.size, 6, none⟩ = some (.int .u64 ((rdl : Nat) : Int)) := L6 6 _ rfl
                  have z7 : W9.cell? ⟨w.heap.size, 7, none⟩ = some (.bool false) := rg 7 _ rfl
                  have y7 : w6.cell? ⟨w1.heap.size, 7, none⟩ = some (.bool false) := L6 7 _ rfl
                  have z8 : W9.cell? ⟨w.heap.size, 8, none⟩ = some (.string ⟨#[]⟩) := rg 8 _ rfl
                  have y8 : w6.cell? ⟨w1.heap.size, 8, none⟩ = some (.string ⟨#[]⟩) := L6 8 _ rfl
                  have HS9 : Hid (Strs W9 (.slice a6 n6 c6) rks) := Lib.hid (by rw [hW9]; exact HS6.out.setP (fun A hA => Nat.ne_of_lt (HN6.out A hA)))
                  have TH := Lib.hid th
                  have HW9 := Lib.hid hW9
                  have HB9 := Lib.hid b9
                  clear rg th hW9 b9 b6 RA G6 L6 S6 nw6
                  go_wp2_with ((with_reducible show wpList _ _ _ (Oper.mk none (Op.store 30 (.tmp 2) _) _ _ _ _ :: _) _ _); refine wpList_store_mid (by rfl) 30 (.tmp 2) (.tmp 76) (by rfl) w.heap.size 0 #[.int .i64 ((vn : Nat) : Int), .slice a6 n6 c6, .int .i64 rf, .int .i64 re, .int .i64 rb, .int .i64 rc, .int .u64 ((rdl : Nat) : Int), .bool false, .string ⟨#[]⟩] (by rfl) (by rfl) TH.out (by kernel_rfl) (all_oneCell_toArray (cs_one ⟨vn, rks, rf, re, rb, rc, rdl, false⟩ _ _ _)) ?_; rw [show (#[Value.int .i64 ((vn : Nat) : Int), .slice a6 n6 c6, .int .i64 rf, .int .i64 re, .int .i64 rb, .int .i64 rc, .int .u64 ((rdl : Nat) : Int), .bool false, .string ⟨#[]⟩] : Array Value).toList = Rq.cs ⟨vn, rks, rf, re, rb, rc, rdl, false⟩ (.slice a6 n6 c6) from rfl, ← HW9.out])
                  refine bodyPost_ret (v := .tuple #[.agg #[.int .i64 ((vn : Nat) : Int), .slice a6 n6 c6, .int .i64 rf, .int .i64 re, .int .i64 rb, .int .i64 rc, .int .u64 ((rdl : Nat) : Int), .bool false, .string ⟨#[]⟩], .int .i64 0]) (by simp [results, Tryd.results58]; go_simp) rfl ?_
                  exact ⟨a6, n6, c6, by rw [HL3.out]; rfl, by rw [HL3.out]; exact HS9.out, HB9.out, fun A hA => Nat.le_of_lt (HN6.out A hA)⟩
end Go.Proofs.YtedbklipbfbmoaaDoor
