/-
  Line of the program.
-/
import Derived.Test.YtedbklipbfbmoaaDoorRead
import Derived.Test.YtedbklipbfbmoaaDoorVerb
import Derived.Deep.RegionHeld3
namespace Go.Proofs.YtedbklipbfbmoaaDoor
open Go.RowKit

theorem Strs.form {w : World} {v : Value} {l : List B} (h : Strs w v l) : ∃ a n c, v = .slice a n c := by
  obtain ⟨a, c, h1, _⟩ := h
  exact ⟨a, _, c, h1⟩
/-- The answer stored in the first block that the call made. -/
theorem ans_at {w w1 : World} (b : Below (w.heap.size + 1) (w.alloc (.cells ZV.toArray 30)) w1) (r : Rq) (a : Option Addr) (n c : Nat) :
    w1.there w.heap.size 0 9 ∧ (w1.setCells w.heap.size 0 (r.cs (.slice a n c))).rangeAt w.heap.size 0 (r.cs (.slice a n c)) ∧ Below w.heap.size w (w1.setCells w.heap.size 0 (r.cs (.slice a n c))) := by
  have hb := b.block w.heap.size (by omega)
  have ht : w1.there w.heap.size 0 9 := fun j hj => by
    obtain ⟨v, hv⟩ : ∃ v, ZV[j]? = some v := ⟨_, List.getElem?_eq_getElem (show j < ZV.length from hj)⟩
    rw [Nat.zero_add, World.cell?_of_block (a := ⟨w.heap.size, j, none⟩) hb, World.frozen?_of_block (a := ⟨w.heap.size, j, none⟩) hb, World.cell?_alloc_new, World.frozen?_alloc_new, List.getElem?_toArray, hv]
    exact ⟨rfl, rfl⟩
  refine ⟨ht, World.rangeAt_setCells_same _ _ _ _ ht, ?_⟩
  have b0 : Below w.heap.size w (w.alloc (.cells ZV.toArray 30)) := (Below.refl _ _).alloc (Nat.le_refl _) _
  have hs := b.size
  rw [size_alloc] at hs
  have f2 : Fr (fun t => t = (9, 9)) (lab (fun _ => (0, 0)) w.heap.size (9, 9)) (lab (fun _ => (0, 0)) w.heap.size (9, 9)) w1 (w1.setCells w.heap.size 0 (r.cs (.slice a n c))) := Fr.sets (T := fun t => t = (9, 9)) (lab_same _ _ _) _ _ _
  exact (b0.trans (b.mono (by omega))).trans (f2.below (by omega) (fun b hb e => by rw [lab_other _ _ _ (by omega)] at e; cases e))
/-- A slice of strings behind its first one. -/
theorem Strs.tail {w : World} {g q t c : Nat} {x : B} {l : List B} (h : Strs w (.slice (some ⟨g, q, none⟩) (t + 1) c) (x :: l)) :
    ∃ A, (∀ w : World, (Instr.sliceAt 27 (.slice (some ⟨g, q, none⟩) (t + 1) c) (some (.int .i64 1)) none none).run Tryd.prog w = .ok (.slice A t (c - 1)) w) ∧ Strs w (.slice A t (c - 1)) l := by
  obtain ⟨hn, hc⟩ := h.len
  have hl : t = l.length := by simp at hn; exact hn
  subst hl
  have ea : (⟨g, q, none⟩ : Addr).add 1 = ⟨g, q + 1, none⟩ := Addr.add_mid _ _ _
  refine ⟨some (if c = 1 then ⟨g, q, none⟩ else ⟨g, q + 1, none⟩), fun w => ?_, _, _, rfl, by omega, fun hne => ?_⟩
  · have el : Tryd.prog.underlying 27 = some (.slice (Tryd.prog.elem 27)) := by kernel_rfl
    have ee : Tryd.prog.elem 27 = 9 := by kernel_rfl
    have sE : (sizeOf 9).run Tryd.prog w = .ok 1 w := by kernel_rfl
    rw [run_sliceAt_slice _ _ _ _ _ _ el, run_slice_l _ _ _ _ _ el _ _ (by omega) (by omega), ee, sE]
    by_cases e : c = 1
    · simp [sliced, e]
    · have e' : ¬ c - 1 = 0 := by omega
      simp [sliced, e, ea]
  · have : 0 < l.length := List.length_pos_iff.2 hne
    rw [if_neg (by omega)]
    refine ⟨g, q + 1, rfl, fun i y hy => ?_⟩
    obtain ⟨g', q', e1, e2⟩ := h.at_ (i := i + 1) (x := y) (by simpa using hy)
    injection e1 with e1
    injection e1 with e1 e3
    subst e1 e3
    rw [show q + 1 + i = q + (i + 1) by omega]; exact e2
theorem fm_ok : ∀ v, v < 18 → ((fm v).kinds = [] → (fm v).most = 0) ∧ (∀ k ∈ (fm v).kinds, k < 8) ∧ (fm v).kinds.length ≤ 100 ∧ (fm v).least ≤ 100 ∧ (fm v).most ≤ 100
  | 0, _ => by decide
  | 1, _ => by decide
  | 2, _ => by decide
  | 3, _ => by decide
  | 4, _ => by decide
  | 5, _ => by decide
  | 6, _ => by decide
  | 7, _ => by decide
  | 8, _ => by decide
  | 9, _ => by decide
  | 10, _ => by decide
  | 11, _ => by decide
  | 12, _ => by decide
  | 13, _ => by decide
  | 14, _ => by decide
  | 15, _ => by decide
  | 16, _ => by decide
  | 17, _ => by decide
  | n + 18, h => absurd h (by omega)
theorem args_len (f : Fm) (l : List B) : (args f l).length ≤ l.length := by
  unfold args; split
  · rw [List.length_take]; omega
  · omega
theorem args_take (f : Fm) (l : List B) : args f l = l.take (args f l).length := by
  unfold args
  split
  · rw [List.length_take, Nat.min_eq_left (by omega)]
  · rw [List.take_length]
theorem Strs.setP {w : World} {a : Option Addr} {n c : Nat} {l : List B} (h : Strs w (.slice a n c) l) {P : Nat} {cs : List Value} (hA : ∀ A, a = some A → P ≠ A.block) : Strs (w.setCells P 0 cs) (.slice a n c) l := by
  obtain ⟨a', c', h1, h2, h3⟩ := h
  injection h1 with e1 e2 e3
  subst e1 e3
  refine ⟨a, c, by rw [e2], h2, fun hl => ?_⟩
  obtain ⟨g, q, h4, h5⟩ := h3 hl
  refine ⟨g, q, h4, fun i x hx => ?_⟩
  rw [World.cell?_setCells_out P cs 0 w ⟨g, q + i, none⟩ (fun e _ => absurd (show P = g from (show g = P from e).symm) (hA _ h4))]
  exact h5 i x hx
set_option maxRecDepth 100000 in
set_option maxHeartbeats 4000000 in
theorem line_any (s : ByteArray) (hs : s.size ≤ 100000) (w : World) (ht : HasTab w) :
    Calls Tryd.prog 18 #[.string s] w fun e w' => ∃ a n c, e = .returned (.tuple #[(line (L s)).1.v (.slice a n c), .int .i64 (((line (L s)).2 : Nat) : Int)]) ∧ Strs w' (.slice a n c) (line (L s)).1.keys ∧ Below w.heap.size w w' ∧ ∀ A, a = some A → w.heap.size ≤ A.block := by
  have HT := Lib.hid ht
  clear ht
  go_enter Tryd.func18, Tryd.ntmps18
  go_wp2_with fail
  refine (split_any s hs _).mono ?_
  rintro e w1 ⟨v, rfl, S1, b1⟩
  obtain ⟨a1, n1, c1, rfl⟩ := S1.form
  obtain ⟨hn1, hc1⟩ := S1.len
  have B1 : Hid (Below (w.heap.size + 1) (w.alloc (.cells ZV.toArray 30)) w1) := Lib.hid (by rw [size_alloc] at b1; exact b1)
  have LL := split_len (L s)
  rw [L_len] at LL
  cases hsp : split (L s) with
  | nil =>
    rw [hsp] at hn1
    have hn0 : n1 = 0 := hn1
    subst hn0
    have HSP := Lib.hid hsp
    clear hsp hn1 S1 b1 LL
    obtain ⟨th, rg, b9⟩ := ans_at B1.out Rq.none none 0 0
    obtain ⟨W9, hW9⟩ : ∃ W9, W9 = (w1).setCells w.heap.size 0 (Rq.none.cs (.slice none 0 0)) := ⟨_, rfl⟩
    rw [← hW9] at rg b9
    have z0 : W9.cell? ⟨w.heap.size, 0, none⟩ = some (.int .i64 0) := rg 0 _ rfl
    have z1 : W9.cell? ⟨w.heap.size, 1, none⟩ = some (.slice none 0 0) := rg 1 _ rfl
    have z2 : W9.cell? ⟨w.heap.size, 2, none⟩ = some (.int .i64 0) := rg 2 _ rfl
    have z3 : W9.cell? ⟨w.heap.size, 3, none⟩ = some (.int .i64 0) := rg 3 _ rfl
    have z4 : W9.cell? ⟨w.heap.size, 4, none⟩ = some (.int .i64 0) := rg 4 _ rfl
    have z5 : W9.cell? ⟨w.heap.size, 5, none⟩ = some (.int .i64 0) := rg 5 _ rfl
    have z6 : W9.cell? ⟨w.heap.size, 6, none⟩ = some (.int .u64 0) := rg 6 _ rfl
    have z7 : W9.cell? ⟨w.heap.size, 7, none⟩ = some (.bool false) := rg 7 _ rfl
    have z8 : W9.cell? ⟨w.heap.size, 8, none⟩ = some (.string ⟨#[]⟩) := rg 8 _ rfl
    have TH := Lib.hid th
    have HW9 := Lib.hid hW9
    have HB9 := Lib.hid b9
    have HE : Hid (line (L s) = (Rq.none, 4)) := Lib.hid (by unfold line; rw [HSP.out])
    clear rg th hW9 b9
    go_wp2_with ((with_reducible show wpList _ _ _ (Oper.mk none (Op.store 30 (.tmp 2) _) _ _ _ _ :: _) _ _); refine wpList_store_mid (by rfl) 30 (.tmp 2) (.tmp 16) (by rfl) w.heap.size 0 #[.int .i64 0, .slice none 0 0, .int .i64 0, .int .i64 0, .int .i64 0, .int .i64 0, .int .u64 0, .bool false, .string ⟨#[]⟩] (by rfl) (by rfl) TH.out (by kernel_rfl) (all_oneCell_toArray zv_one) ?_; rw [show (#[Value.int .i64 0, .slice none 0 0, .int .i64 0, .int .i64 0, .int .i64 0, .int .i64 0, .int .u64 0, .bool false, .string ⟨#[]⟩] : Array Value).toList = Rq.none.cs (.slice none 0 0) from rfl, ← HW9.out])
    refine bodyPost_ret (v := .tuple #[.agg #[.int .i64 0, .slice none 0 0, .int .i64 0, .int .i64 0, .int .i64 0, .int .i64 0, .int .u64 0, .bool false, .string ⟨#[]⟩], .int .i64 4]) (by simp [results, Tryd.results18]; go_simp) rfl ?_
    exact ⟨none, 0, 0, by rw [HE.out]; rfl, by rw [HE.out]; exact ⟨none, 0, rfl, Nat.le_refl _, fun e => absurd rfl e⟩, HB9.out, fun _ h => by cases h⟩
  | cons hd tl =>
    rw [hsp] at hn1 S1 LL
    obtain ⟨t1, ht1⟩ : ∃ t1, n1 = t1 + 1 := ⟨tl.length, hn1⟩
    subst ht1
    have htl : t1 = tl.length := by simp at hn1; exact hn1
    have tb : t1 ≤ 100000 := by simp at LL; omega
    obtain ⟨g, q, rfl, q0⟩ := S1.at_ (i := 0) (x := hd) rfl
    rw [Nat.add_zero] at q0
    obtain ⟨A, sl, ST⟩ := S1.tail
    have HST := Lib.hid ST
    have HSL := Lib.hid sl
    have HTL := Lib.hid htl
    have HL : Hid (line (L s) = lin (vb hd) tl) := Lib.hid (by unfold line; rw [hsp])
    have HT1 : Hid (HasTab w1) := Lib.hid ((HT.out.below ((Below.refl _ _).alloc (Nat.le_refl _) _)).below b1)
    have hv18 := vb_lt hd
    obtain ⟨vn, hvn⟩ : ∃ vn, vn = vb hd := ⟨_, rfl⟩
    rw [← hvn] at hv18 HL
    have HVN := Lib.hid hvn
    clear hsp hn1 S1 b1 LL sl ST htl hvn HT
    go_wp2_with fail
    refine (verb_any (S hd) _ HT1.out).mono ?_
    rintro e w' ⟨rfl, rfl⟩
    rw [L_S, ← HVN.out]
    by_cases hv0 : vn = 0
    · subst hv0
      rw [show ((0 : Nat) : Int) = 0 from rfl]
      obtain ⟨th, rg, b9⟩ := ans_at B1.out Rq.none none 0 0
      obtain ⟨W9, hW9⟩ : ∃ W9, W9 = (w1).setCells w.heap.size 0 (Rq.none.cs (.slice none 0 0)) := ⟨_, rfl⟩
      rw [← hW9] at rg b9
      have z0 : W9.cell? ⟨w.heap.size, 0, none⟩ = some (.int .i64 0) := rg 0 _ rfl
      have z1 : W9.cell? ⟨w.heap.size, 1, none⟩ = some (.slice none 0 0) := rg 1 _ rfl
      have z2 : W9.cell? ⟨w.heap.size, 2, none⟩ = some (.int .i64 0) := rg 2 _ rfl
      have z3 : W9.cell? ⟨w.heap.size, 3, none⟩ = some (.int .i64 0) := rg 3 _ rfl
      have z4 : W9.cell? ⟨w.heap.size, 4, none⟩ = some (.int .i64 0) := rg 4 _ rfl
      have z5 : W9.cell? ⟨w.heap.size, 5, none⟩ = some (.int .i64 0) := rg 5 _ rfl
      have z6 : W9.cell? ⟨w.heap.size, 6, none⟩ = some (.int .u64 0) := rg 6 _ rfl
      have z7 : W9.cell? ⟨w.heap.size, 7, none⟩ = some (.bool false) := rg 7 _ rfl
      have z8 : W9.cell? ⟨w.heap.size, 8, none⟩ = some (.string ⟨#[]⟩) := rg 8 _ rfl
      have TH := Lib.hid th
      have HW9 := Lib.hid hW9
      have HB9 := Lib.hid b9
      have HE : Hid (line (L s) = (Rq.none, 4)) := Lib.hid (by rw [HL.out]; rfl)
      clear rg th hW9 b9
      go_wp2_with ((with_reducible show wpList _ _ _ (Oper.mk none (Op.store 30 (.tmp 2) _) _ _ _ _ :: _) _ _); refine wpList_store_mid (by rfl) 30 (.tmp 2) (.tmp 23) (by rfl) w.heap.size 0 #[.int .i64 0, .slice none 0 0, .int .i64 0, .int .i64 0, .int .i64 0, .int .i64 0, .int .u64 0, .bool false, .string ⟨#[]⟩] (by rfl) (by rfl) TH.out (by kernel_rfl) (all_oneCell_toArray zv_one) ?_; rw [show (#[Value.int .i64 0, .slice none 0 0, .int .i64 0, .int .i64 0, .int .i64 0, .int .i64 0, .int .u64 0, .bool false, .string ⟨#[]⟩] : Array Value).toList = Rq.none.cs (.slice none 0 0) from rfl, ← HW9.out])
      refine bodyPost_ret (v := .tuple #[.agg #[.int .i64 0, .slice none 0 0, .int .i64 0, .int .i64 0, .int .i64 0, .int .i64 0, .int .u64 0, .bool false, .string ⟨#[]⟩], .int .i64 4]) (by simp [results, Tryd.results18]; go_simp) rfl ?_
      exact ⟨none, 0, 0, by rw [HE.out]; rfl, by rw [HE.out]; exact ⟨none, 0, rfl, Nat.le_refl _, fun e => absurd rfl e⟩, HB9.out, fun _ h => by cases h⟩
    · have hv0' : ¬ ((vn : Nat) : Int) = 0 := by omega
      go_wp2_with fail
      refine (form_any vn hv18 _).mono ?_
      rintro e w3 ⟨kv, rfl, K3, b3⟩
      obtain ⟨ka, rfl, _⟩ := id K3
      obtain ⟨fk, f8, f9, fl, fmo⟩ := fm_ok vn hv18
      obtain ⟨F, hF⟩ : ∃ F, F = fm vn := ⟨_, rfl⟩
      rw [← hF] at K3 fk f8 f9 fl fmo ⊢
      have HLIN : Hid (lin vn tl = if (args F tl).length < F.least ∨ F.most < (args F tl).length then (Rq.none, 4) else match rd F.kinds 0 (args F tl) Rq.none with | none => (Rq.none, 1) | some r => ({ r with verb := vn, quiet := hushed F tl }, 0)) := Lib.hid (by unfold lin; rw [if_neg hv0, ← hF]; rfl)
      clear hF
      have HC1 := Lib.hid (args_len F tl)
      have HC2 := Lib.hid (args_take F tl)
      have HHA := fun (w : World) h => hush_any F (.slice ka F.kinds.length F.kinds.length) ⟨_, _, rfl⟩ tl A t1 (c1 - 1) (by rw [← HTL.out]; exact tb) w h
      have HRA := fun (w : World) h1 h2 h3 => read_any F (.slice ka F.kinds.length F.kinds.length) (args F tl) A (args F tl).length (c1 - 1) (by have := HC1.out; rw [← HTL.out] at this; omega) w h1 h2 h3 f8 f9
      have HK3 := Lib.hid K3
      have HB3 : Hid (Below (w.heap.size + 1) (w.alloc (.cells ZV.toArray 30)) w3 ∧ Below w1.heap.size w1 w3) := Lib.hid ⟨B1.out.trans (b3.mono (by have := B1.out.size; rw [size_alloc] at this; exact this)), b3⟩
      have HFK := Lib.hid fk
      obtain ⟨ks, lo, hi, hu⟩ := F
      simp only [Fm.v] at HHA HRA ⊢
      simp only at HLIN fl fmo HK3 HFK
      obtain ⟨AL, hAL⟩ : ∃ AL, AL = args ⟨ks, lo, hi, hu⟩ tl := ⟨_, rfl⟩
      obtain ⟨hs', hhs⟩ : ∃ hs', hs' = hushed ⟨ks, lo, hi, hu⟩ tl := ⟨_, rfl⟩
      rw [← hAL] at HC1 HC2 HLIN
      rw [← hhs] at HLIN
      simp only [← hAL, ← hhs] at HHA HRA
      clear hAL hhs K3 b3 fk f8 f9
      obtain ⟨kn, hkn⟩ : ∃ kn, kn = ks.length := ⟨_, rfl⟩
      rw [← hkn] at HK3 ⊢
      simp only [← hkn] at HHA HRA
      clear hkn
      have sl := HSL.out
      obtain ⟨W4, hW4⟩ : ∃ W4, W4 = (w3.alloc (.cells #[.slice ka kn kn, .int .i64 ((lo : Nat) : Int), .int .i64 ((hi : Nat) : Int), .bool hu] 72)).drew := ⟨_, rfl⟩
      have b34 : Below w3.heap.size w3 W4 := by rw [hW4]; exact below_drewN ((Below.refl _ _).alloc (Nat.le_refl _) _) 1
      have HS4 : Hid (Strs W4 (.slice A t1 (c1 - 1)) tl) := Lib.hid ((HST.out.below HB3.out.2).below b34)
      rw [hW4] at HS4
      have HB34 := Lib.hid b34
      have HW4 := Lib.hid hW4
      clear b34 hW4
      go_wp2_with fail
      have B35 : Below w3.heap.size w3 (((w3.alloc (.cells #[.slice ka kn kn, .int .i64 ((lo : Nat) : Int), .int .i64 ((hi : Nat) : Int), .bool hu] 72)).alloc (.cells #[.slice ka kn kn, .int .i64 ((lo : Nat) : Int), .int .i64 ((hi : Nat) : Int), .bool hu] 72)).drew) := below_drewN (((Below.refl _ _).alloc (Nat.le_refl _) _).alloc (by simp) _) 1
      have HB5 : Hid (Below (w.heap.size + 1) (w.alloc (.cells ZV.toArray 30)) (((w3.alloc (.cells #[.slice ka kn kn, .int .i64 ((lo : Nat) : Int), .int .i64 ((hi : Nat) : Int), .bool hu] 72)).alloc (.cells #[.slice ka kn kn, .int .i64 ((lo : Nat) : Int), .int .i64 ((hi : Nat) : Int), .bool hu] 72)).drew)) := Lib.hid (HB3.out.1.trans (B35.mono (by have := HB3.out.1.size; rw [size_alloc] at this; exact this)))
      have HS5 : Hid (Strs (((w3.alloc (.cells #[.slice ka kn kn, .int .i64 ((lo : Nat) : Int), .int .i64 ((hi : Nat) : Int), .bool hu] 72)).alloc (.cells #[.slice ka kn kn, .int .i64 ((lo : Nat) : Int), .int .i64 ((hi : Nat) : Int), .bool hu] 72)).drew) (.slice A AL.length (c1 - 1)) AL) := Lib.hid (by
        have h := ((HST.out.below HB3.out.2).below B35).take AL.length HC1.out
        rwa [← HC2.out] at h)
      have HK5 : Hid (Knd (((w3.alloc (.cells #[.slice ka kn kn, .int .i64 ((lo : Nat) : Int), .int .i64 ((hi : Nat) : Int), .bool hu] 72)).alloc (.cells #[.slice ka kn kn, .int .i64 ((lo : Nat) : Int), .int .i64 ((hi : Nat) : Int), .bool hu] 72)).drew) (.slice ka kn kn) ks) := Lib.hid (HK3.out.below B35)
      clear B35
      go_region_with (go_at_call 32; refine (HHA _ HS4.out).mono ?_; rintro e w4 ⟨rfl, rfl⟩)
      clear HHA HS4 HB34 HW4
      by_cases hcnt : AL.length < lo ∨ hi < AL.length
      · have HCN := Lib.hid hcnt
        rcases hcnt with h1 | h1
        · have h1' : decide (AL.length < lo) = true := decide_eq_true h1
          obtain ⟨th, rg, b9⟩ := ans_at HB5.out Rq.none none 0 0
          obtain ⟨W9, hW9⟩ : ∃ W9, W9 = ((((w3.alloc (.cells #[.slice ka kn kn, .int .i64 ((lo : Nat) : Int), .int .i64 ((hi : Nat) : Int), .bool hu] 72)).alloc (.cells #[.slice ka kn kn, .int .i64 ((lo : Nat) : Int), .int .i64 ((hi : Nat) : Int), .bool hu] 72)).drew)).setCells w.heap.size 0 (Rq.none.cs (.slice none 0 0)) := ⟨_, rfl⟩
          rw [← hW9] at rg b9
          have z0 : W9.cell? ⟨w.heap.size, 0, none⟩ = some (.int .i64 0) := rg 0 _ rfl
          have z1 : W9.cell? ⟨w.heap.size, 1, none⟩ = some (.slice none 0 0) := rg 1 _ rfl
          have z2 : W9.cell? ⟨w.heap.size, 2, none⟩ = some (.int .i64 0) := rg 2 _ rfl
          have z3 : W9.cell? ⟨w.heap.size, 3, none⟩ = some (.int .i64 0) := rg 3 _ rfl
          have z4 : W9.cell? ⟨w.heap.size, 4, none⟩ = some (.int .i64 0) := rg 4 _ rfl
          have z5 : W9.cell? ⟨w.heap.size, 5, none⟩ = some (.int .i64 0) := rg 5 _ rfl
          have z6 : W9.cell? ⟨w.heap.size, 6, none⟩ = some (.int .u64 0) := rg 6 _ rfl
          have z7 : W9.cell? ⟨w.heap.size, 7, none⟩ = some (.bool false) := rg 7 _ rfl
          have z8 : W9.cell? ⟨w.heap.size, 8, none⟩ = some (.string ⟨#[]⟩) := rg 8 _ rfl
          have TH := Lib.hid th
          have HW9 := Lib.hid hW9
          have HB9 := Lib.hid b9
          have HE : Hid (line (L s) = (Rq.none, 4)) := Lib.hid (by rw [HL.out, HLIN.out, if_pos HCN.out])
          clear rg th hW9 b9
          go_wp2_with ((with_reducible show wpList _ _ _ (Oper.mk none (Op.store 30 (.tmp 2) _) _ _ _ _ :: _) _ _); refine wpList_store_mid (by rfl) 30 (.tmp 2) (.tmp 45) (by rfl) w.heap.size 0 #[.int .i64 0, .slice none 0 0, .int .i64 0, .int .i64 0, .int .i64 0, .int .i64 0, .int .u64 0, .bool false, .string ⟨#[]⟩] (by rfl) (by rfl) TH.out (by kernel_rfl) (all_oneCell_toArray zv_one) ?_; rw [show (#[Value.int .i64 0, .slice none 0 0, .int .i64 0, .int .i64 0, .int .i64 0, .int .i64 0, .int .u64 0, .bool false, .string ⟨#[]⟩] : Array Value).toList = Rq.none.cs (.slice none 0 0) from rfl, ← HW9.out])
          refine bodyPost_ret (v := .tuple #[.agg #[.int .i64 0, .slice none 0 0, .int .i64 0, .int .i64 0, .int .i64 0, .int .i64 0, .int .u64 0, .bool false, .string ⟨#[]⟩], .int .i64 4]) (by simp [results, Tryd.results18]; go_simp) rfl ?_
          exact ⟨none, 0, 0, by rw [HE.out]; rfl, by rw [HE.out]; exact ⟨none, 0, rfl, Nat.le_refl _, fun e => absurd rfl e⟩, HB9.out, fun _ h => by cases h⟩
        · have h1' : decide (hi < AL.length) = true := decide_eq_true h1
          by_cases h2 : AL.length < lo
          · have h2' : decide (AL.length < lo) = true := decide_eq_true h2
            obtain ⟨th, rg, b9⟩ := ans_at HB5.out Rq.none none 0 0
            obtain ⟨W9, hW9⟩ : ∃ W9, W9 = ((((w3.alloc (.cells #[.slice ka kn kn, .int .i64 ((lo : Nat) : Int), .int .i64 ((hi : Nat) : Int), .bool hu] 72)).alloc (.cells #[.slice ka kn kn, .int .i64 ((lo : Nat) : Int), .int .i64 ((hi : Nat) : Int), .bool hu] 72)).drew)).setCells w.heap.size 0 (Rq.none.cs (.slice none 0 0)) := ⟨_, rfl⟩
            rw [← hW9] at rg b9
            have z0 : W9.cell? ⟨w.heap.size, 0, none⟩ = some (.int .i64 0) := rg 0 _ rfl
            have z1 : W9.cell? ⟨w.heap.size, 1, none⟩ = some (.slice none 0 0) := rg 1 _ rfl
            have z2 : W9.cell? ⟨w.heap.size, 2, none⟩ = some (.int .i64 0) := rg 2 _ rfl
            have z3 : W9.cell? ⟨w.heap.size, 3, none⟩ = some (.int .i64 0) := rg 3 _ rfl
            have z4 : W9.cell? ⟨w.heap.size, 4, none⟩ = some (.int .i64 0) := rg 4 _ rfl
            have z5 : W9.cell? ⟨w.heap.size, 5, none⟩ = some (.int .i64 0) := rg 5 _ rfl
            have z6 : W9.cell? ⟨w.heap.size, 6, none⟩ = some (.int .u64 0) := rg 6 _ rfl
            have z7 : W9.cell? ⟨w.heap.size, 7, none⟩ = some (.bool false) := rg 7 _ rfl
            have z8 : W9.cell? ⟨w.heap.size, 8, none⟩ = some (.string ⟨#[]⟩) := rg 8 _ rfl
            have TH := Lib.hid th
            have HW9 := Lib.hid hW9
            have HB9 := Lib.hid b9
            have HE : Hid (line (L s) = (Rq.none, 4)) := Lib.hid (by rw [HL.out, HLIN.out, if_pos HCN.out])
            clear rg th hW9 b9
            go_wp2_with ((with_reducible show wpList _ _ _ (Oper.mk none (Op.store 30 (.tmp 2) _) _ _ _ _ :: _) _ _); refine wpList_store_mid (by rfl) 30 (.tmp 2) (.tmp 45) (by rfl) w.heap.size 0 #[.int .i64 0, .slice none 0 0, .int .i64 0, .int .i64 0, .int .i64 0, .int .i64 0, .int .u64 0, .bool false, .string ⟨#[]⟩] (by rfl) (by rfl) TH.out (by kernel_rfl) (all_oneCell_toArray zv_one) ?_; rw [show (#[Value.int .i64 0, .slice none 0 0, .int .i64 0, .int .i64 0, .int .i64 0, .int .i64 0, .int .u64 0, .bool false, .string ⟨#[]⟩] : Array Value).toList = Rq.none.cs (.slice none 0 0) from rfl, ← HW9.out])
            refine bodyPost_ret (v := .tuple #[.agg #[.int .i64 0, .slice none 0 0, .int .i64 0, .int .i64 0, .int .i64 0, .int .i64 0, .int .u64 0, .bool false, .string ⟨#[]⟩], .int .i64 4]) (by simp [results, Tryd.results18]; go_simp) rfl ?_
            exact ⟨none, 0, 0, by rw [HE.out]; rfl, by rw [HE.out]; exact ⟨none, 0, rfl, Nat.le_refl _, fun e => absurd rfl e⟩, HB9.out, fun _ h => by cases h⟩
          · have h2' : decide (AL.length < lo) = false := decide_eq_false h2
            obtain ⟨th, rg, b9⟩ := ans_at HB5.out Rq.none none 0 0
            obtain ⟨W9, hW9⟩ : ∃ W9, W9 = ((((w3.alloc (.cells #[.slice ka kn kn, .int .i64 ((lo : Nat) : Int), .int .i64 ((hi : Nat) : Int), .bool hu] 72)).alloc (.cells #[.slice ka kn kn, .int .i64 ((lo : Nat) : Int), .int .i64 ((hi : Nat) : Int), .bool hu] 72)).drew)).setCells w.heap.size 0 (Rq.none.cs (.slice none 0 0)) := ⟨_, rfl⟩
            rw [← hW9] at rg b9
            have z0 : W9.cell? ⟨w.heap.size, 0, none⟩ = some (.int .i64 0) := rg 0 _ rfl
            have z1 : W9.cell? ⟨w.heap.size, 1, none⟩ = some (.slice none 0 0) := rg 1 _ rfl
            have z2 : W9.cell? ⟨w.heap.size, 2, none⟩ = some (.int .i64 0) := rg 2 _ rfl
            have z3 : W9.cell? ⟨w.heap.size, 3, none⟩ = some (.int .i64 0) := rg 3 _ rfl
            have z4 : W9.cell? ⟨w.heap.size, 4, none⟩ = some (.int .i64 0) := rg 4 _ rfl
            have z5 : W9.cell? ⟨w.heap.size, 5, none⟩ = some (.int .i64 0) := rg 5 _ rfl
            have z6 : W9.cell? ⟨w.heap.size, 6, none⟩ = some (.int .u64 0) := rg 6 _ rfl
            have z7 : W9.cell? ⟨w.heap.size, 7, none⟩ = some (.bool false) := rg 7 _ rfl
            have z8 : W9.cell? ⟨w.heap.size, 8, none⟩ = some (.string ⟨#[]⟩) := rg 8 _ rfl
            have TH := Lib.hid th
            have HW9 := Lib.hid hW9
            have HB9 := Lib.hid b9
            have HE : Hid (line (L s) = (Rq.none, 4)) := Lib.hid (by rw [HL.out, HLIN.out, if_pos HCN.out])
            clear rg th hW9 b9
            go_wp2_with ((with_reducible show wpList _ _ _ (Oper.mk none (Op.store 30 (.tmp 2) _) _ _ _ _ :: _) _ _); refine wpList_store_mid (by rfl) 30 (.tmp 2) (.tmp 45) (by rfl) w.heap.size 0 #[.int .i64 0, .slice none 0 0, .int .i64 0, .int .i64 0, .int .i64 0, .int .i64 0, .int .u64 0, .bool false, .string ⟨#[]⟩] (by rfl) (by rfl) TH.out (by kernel_rfl) (all_oneCell_toArray zv_one) ?_; rw [show (#[Value.int .i64 0, .slice none 0 0, .int .i64 0, .int .i64 0, .int .i64 0, .int .i64 0, .int .u64 0, .bool false, .string ⟨#[]⟩] : Array Value).toList = Rq.none.cs (.slice none 0 0) from rfl, ← HW9.out])
            refine bodyPost_ret (v := .tuple #[.agg #[.int .i64 0, .slice none 0 0, .int .i64 0, .int .i64 0, .int .i64 0, .int .i64 0, .int .u64 0, .bool false, .string ⟨#[]⟩], .int .i64 4]) (by simp [results, Tryd.results18]; go_simp) rfl ?_
            exact ⟨none, 0, 0, by rw [HE.out]; rfl, by rw [HE.out]; exact ⟨none, 0, rfl, Nat.le_refl _, fun e => absurd rfl e⟩, HB9.out, fun _ h => by cases h⟩
      · have h1 : decide (AL.length < lo) = false := decide_eq_false (fun h => hcnt (.inl h))
        have h2 : decide (hi < AL.length) = false := decide_eq_false (fun h => hcnt (.inr h))
        have HNE : Hid (AL ≠ [] → ks ≠ []) := Lib.hid (fun hne e => by
          have := HFK.out e
          exact hcnt (.inr (by have := List.length_pos_iff.2 hne; omega)))
        have HL2 : Hid (line (L s) = match rd ks 0 AL Rq.none with | none => (Rq.none, 1) | some r => ({ r with verb := vn, quiet := hs' }, 0)) := Lib.hid (by rw [HL.out, HLIN.out, if_neg hcnt])
        clear HLIN HL hcnt
        go_wp2_with fail
        refine (HRA _ HS5.out HK5.out HNE.out).mono ?_
        rintro e w6 ⟨a6, n6, c6, rfl, S6, b6, nw6⟩
        have HB6 : Hid (Below (w.heap.size + 1) (w.alloc (.cells ZV.toArray 30)) w6) := Lib.hid (HB5.out.trans (b6.mono (by have := HB5.out.size; rw [size_alloc] at this; exact this)))
        have HN6 : Hid (∀ A, a6 = some A → w.heap.size < A.block) := Lib.hid (fun A hA => by
          have h := nw6 A hA
          have := HB5.out.size
          rw [size_alloc] at this
          omega)
        have HS6 := Lib.hid S6
        clear b6 nw6 S6 HRA HS5 HK5 HNE
        cases hr : rd ks 0 AL Rq.none with
        | none =>
          rw [hr] at HL2
          have HB7 : Hid (Below (w.heap.size + 1) (w.alloc (.cells ZV.toArray 30)) (w6.alloc (.cells #[.int .i64 0, .slice a6 n6 c6, .int .i64 0, .int .i64 0, .int .i64 0, .int .i64 0, .int .u64 0, .bool false, .string ⟨#[]⟩] 30))) := Lib.hid (HB6.out.alloc (by have := HB6.out.size; rw [size_alloc] at this; exact this) _)
          simp only [Option.getD_none, Option.isSome_none, Rq.v, Rq.cs, Rq.none]
          obtain ⟨th, rg, b9⟩ := ans_at HB7.out Rq.none none 0 0
          obtain ⟨W9, hW9⟩ : ∃ W9, W9 = ((w6.alloc (.cells #[.int .i64 0, .slice a6 n6 c6, .int .i64 0, .int .i64 0, .int .i64 0, .int .i64 0, .int .u64 0, .bool false, .string ⟨#[]⟩] 30))).setCells w.heap.size 0 (Rq.none.cs (.slice none 0 0)) := ⟨_, rfl⟩
          rw [← hW9] at rg b9
          have z0 : W9.cell? ⟨w.heap.size, 0, none⟩ = some (.int .i64 0) := rg 0 _ rfl
          have z1 : W9.cell? ⟨w.heap.size, 1, none⟩ = some (.slice none 0 0) := rg 1 _ rfl
          have z2 : W9.cell? ⟨w.heap.size, 2, none⟩ = some (.int .i64 0) := rg 2 _ rfl
          have z3 : W9.cell? ⟨w.heap.size, 3, none⟩ = some (.int .i64 0) := rg 3 _ rfl
          have z4 : W9.cell? ⟨w.heap.size, 4, none⟩ = some (.int .i64 0) := rg 4 _ rfl
          have z5 : W9.cell? ⟨w.heap.size, 5, none⟩ = some (.int .i64 0) := rg 5 _ rfl
          have z6 : W9.cell? ⟨w.heap.size, 6, none⟩ = some (.int .u64 0) := rg 6 _ rfl
          have z7 : W9.cell? ⟨w.heap.size, 7, none⟩ = some (.bool false) := rg 7 _ rfl
          have z8 : W9.cell? ⟨w.heap.size, 8, none⟩ = some (.string ⟨#[]⟩) := rg 8 _ rfl
          have TH := Lib.hid th
          have HW9 := Lib.hid hW9
          have HB9 := Lib.hid b9
          have HE : Hid (line (L s) = (Rq.none, 1)) := Lib.hid (by rw [HL2.out])
          clear rg th hW9 b9
          go_wp2_with ((with_reducible show wpList _ _ _ (Oper.mk none (Op.store 30 (.tmp 2) _) _ _ _ _ :: _) _ _); refine wpList_store_mid (by rfl) 30 (.tmp 2) (.tmp 54) (by rfl) w.heap.size 0 #[.int .i64 0, .slice none 0 0, .int .i64 0, .int .i64 0, .int .i64 0, .int .i64 0, .int .u64 0, .bool false, .string ⟨#[]⟩] (by rfl) (by rfl) TH.out (by kernel_rfl) (all_oneCell_toArray zv_one) ?_; rw [show (#[Value.int .i64 0, .slice none 0 0, .int .i64 0, .int .i64 0, .int .i64 0, .int .i64 0, .int .u64 0, .bool false, .string ⟨#[]⟩] : Array Value).toList = Rq.none.cs (.slice none 0 0) from rfl, ← HW9.out])
          refine bodyPost_ret (v := .tuple #[.agg #[.int .i64 0, .slice none 0 0, .int .i64 0, .int .i64 0, .int .i64 0, .int .i64 0, .int .u64 0, .bool false, .string ⟨#[]⟩], .int .i64 1]) (by simp [results, Tryd.results18]; go_simp) rfl ?_
          exact ⟨none, 0, 0, by rw [HE.out]; rfl, by rw [HE.out]; exact ⟨none, 0, rfl, Nat.le_refl _, fun e => absurd rfl e⟩, HB9.out, fun _ h => by cases h⟩
        | some r =>
          rw [hr] at HL2 HS6
          obtain ⟨rv, rks, rf, re, rb, rc, rdl, rq⟩ := r
          have HB7 : Hid (Below (w.heap.size + 1) (w.alloc (.cells ZV.toArray 30)) (w6.alloc (.cells #[.int .i64 ((vn : Nat) : Int), .slice a6 n6 c6, .int .i64 rf, .int .i64 re, .int .i64 rb, .int .i64 rc, .int .u64 ((rdl : Nat) : Int), .bool hs', .string ⟨#[]⟩] 30))) := Lib.hid (HB6.out.alloc (by have := HB6.out.size; rw [size_alloc] at this; exact this) _)
          have HS7 : Hid (Strs (w6.alloc (.cells #[.int .i64 ((vn : Nat) : Int), .slice a6 n6 c6, .int .i64 rf, .int .i64 re, .int .i64 rb, .int .i64 rc, .int .u64 ((rdl : Nat) : Int), .bool hs', .string ⟨#[]⟩] 30)) (.slice a6 n6 c6) rks) := Lib.hid (HS6.out.below ((Below.refl _ _).alloc (Nat.le_refl _) _))
          obtain ⟨th, rg, b9⟩ := ans_at HB7.out ⟨vn, rks, rf, re, rb, rc, rdl, hs'⟩ a6 n6 c6
          obtain ⟨W9, hW9⟩ : ∃ W9, W9 = (w6.alloc (.cells #[.int .i64 ((vn : Nat) : Int), .slice a6 n6 c6, .int .i64 rf, .int .i64 re, .int .i64 rb, .int .i64 rc, .int .u64 ((rdl : Nat) : Int), .bool hs', .string ⟨#[]⟩] 30)).setCells w.heap.size 0 (Rq.cs ⟨vn, rks, rf, re, rb, rc, rdl, hs'⟩ (.slice a6 n6 c6)) := ⟨_, rfl⟩
          rw [← hW9] at rg b9
          have z0 : W9.cell? ⟨w.heap.size, 0, none⟩ = some (.int .i64 ((vn : Nat) : Int)) := rg 0 _ rfl
          have z1 : W9.cell? ⟨w.heap.size, 1, none⟩ = some (.slice a6 n6 c6) := rg 1 _ rfl
          have z2 : W9.cell? ⟨w.heap.size, 2, none⟩ = some (.int .i64 rf) := rg 2 _ rfl
          have z3 : W9.cell? ⟨w.heap.size, 3, none⟩ = some (.int .i64 re) := rg 3 _ rfl
          have z4 : W9.cell? ⟨w.heap.size, 4, none⟩ = some (.int .i64 rb) := rg 4 _ rfl
          have z5 : W9.cell? ⟨w.heap.size, 5, none⟩ = some (.int .i64 rc) := rg 5 _ rfl
          have z6 : W9.cell? ⟨w.heap.size, 6, none⟩ = some (.int .u64 ((rdl : Nat) : Int)) := rg 6 _ rfl
          have z7 : W9.cell? ⟨w.heap.size, 7, none⟩ = some (.bool hs') := rg 7 _ rfl
          have z8 : W9.cell? ⟨w.heap.size, 8, none⟩ = some (.string ⟨#[]⟩) := rg 8 _ rfl
          have HS9 : Hid (Strs W9 (.slice a6 n6 c6) rks) := Lib.hid (by rw [hW9]; exact HS7.out.setP (fun A hA => Nat.ne_of_lt (HN6.out A hA)))
          have TH := Lib.hid th
          have HW9 := Lib.hid hW9
          have HB9 := Lib.hid b9
          clear rg th hW9 b9
          simp only [Option.getD_some, Option.isSome_some, Rq.v, Rq.cs]
          go_wp2_with ((with_reducible show wpList _ _ _ (Oper.mk none (Op.store 30 (.tmp 2) _) _ _ _ _ :: _) _ _); refine wpList_store_mid (by rfl) 30 (.tmp 2) (.tmp 59) (by rfl) w.heap.size 0 #[.int .i64 ((vn : Nat) : Int), .slice a6 n6 c6, .int .i64 rf, .int .i64 re, .int .i64 rb, .int .i64 rc, .int .u64 ((rdl : Nat) : Int), .bool hs', .string ⟨#[]⟩] (by rfl) (by rfl) TH.out (by kernel_rfl) (all_oneCell_toArray (cs_one ⟨vn, rks, rf, re, rb, rc, rdl, hs'⟩ _ _ _)) ?_; rw [show (#[Value.int .i64 ((vn : Nat) : Int), .slice a6 n6 c6, .int .i64 rf, .int .i64 re, .int .i64 rb, .int .i64 rc, .int .u64 ((rdl : Nat) : Int), .bool hs', .string ⟨#[]⟩] : Array Value).toList = Rq.cs ⟨vn, rks, rf, re, rb, rc, rdl, hs'⟩ (.slice a6 n6 c6) from rfl, ← HW9.out])
          refine bodyPost_ret (v := .tuple #[.agg #[.int .i64 ((vn : Nat) : Int), .slice a6 n6 c6, .int .i64 rf, .int .i64 re, .int .i64 rb, .int .i64 rc, .int .u64 ((rdl : Nat) : Int), .bool hs', .string ⟨#[]⟩], .int .i64 0]) (by simp [results, Tryd.results18]; go_simp) rfl ?_
          exact ⟨a6, n6, c6, by rw [HL2.out]; rfl, by rw [HL2.out]; exact HS9.out, HB9.out, fun A hA => Nat.le_of_lt (HN6.out A hA)⟩
end Go.Proofs.YtedbklipbfbmoaaDoor
