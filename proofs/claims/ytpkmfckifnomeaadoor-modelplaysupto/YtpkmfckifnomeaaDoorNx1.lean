/-
  kept: an answer beside which an entry is kept.
-/
import Derived.Test.YtpkmfckifnomeaaDoorNx0
namespace Go.Proofs.YtpkmfckifnomeaaDoor
open Go.RowKit

/-- The boxes of an answer and an entry, and the blocks of those that are handed back. -/
structure KS (b : Nat) (w W : World) (A X : List Value) : Prop where
  ra : W.rangeAt b 0 A
  rx : W.rangeAt (b + 1) 0 X
  tx : W.there (b + 1) 0 5
  t1 : W.there (b + 2) 0 9
  t2 : W.there (b + 3) 0 5
  bl : Below b w W
theorem KS.step {b : Nat} {w W W' : World} {A X : List Value} (h : KS b w W A X) (f : Below W.heap.size W W') : KS b w W' A X :=
  ⟨range_below h.ra f, range_below h.rx f, there_below h.tx f, there_below h.t1 f, there_below h.t2 f, h.bl.trans (f.mono (Nat.le_trans (by
    obtain ⟨u, hu⟩ := Option.isSome_iff_exists.1 (h.t1 0 (by omega)).1
    have := World.block_lt_of_cell? _ _ hu
    exact Nat.le_of_lt (Nat.lt_of_le_of_lt (Nat.le_add_right b 2) this)) (Nat.le_refl _)))⟩
theorem KS.drew {b : Nat} {w W : World} {A X : List Value} (h : KS b w W A X) : KS b w W.drew A X := ⟨h.ra, h.rx, h.tx, h.t1, h.t2, h.bl.drew⟩
theorem there_setCell {w : World} {b n : Nat} (h : w.there b 0 n) (a : Addr) (v : Value) : (w.setCell a v).there b 0 n := fun j hj => ⟨some_setCell w a _ v (h j hj).1, by rw [World.frozen?_setCell]; exact (h j hj).2⟩
theorem range_setSame {w : World} {b : Nat} {cs : List Value} (h : w.rangeAt b 0 cs) (j : Nat) (v : Value) (hv : cs[j]? = some v) : (w.setCell ⟨b, j, none⟩ v).rangeAt b 0 cs := fun i u hu => by
  by_cases e : i = j
  · subst e
    obtain rfl : v = u := Option.some.inj (hv.symm.trans hu)
    have := h i v hv
    rw [Nat.zero_add] at this ⊢
    exact World.cell?_setCell_same _ _ _ this
  · rw [World.cell?_setCell_other _ _ _ _ (fun x => e (by have := congrArg Addr.off x; simp only at this; omega))]
    exact h i u hu
theorem range_setOther {w : World} {b c : Nat} {cs : List Value} (h : w.rangeAt b 0 cs) (hne : c ≠ b) (j : Nat) (v : Value) : (w.setCell ⟨c, j, none⟩ v).rangeAt b 0 cs := fun i u hu => by
  rw [World.cell?_setCell_other _ _ _ _ (fun x => hne (congrArg Addr.block x))]
  exact h i u hu
theorem KS.set {b : Nat} {w W : World} {A X : List Value} (h : KS b w W A X) (j : Nat) (v : Value) (hv : X[j]? = some v) : KS b w (W.setCell ⟨b + 1, j, none⟩ v) A X :=
  ⟨range_setOther h.ra (by omega) j v, range_setSame h.rx j v hv, there_setCell h.tx _ _, there_setCell h.t1 _ _, there_setCell h.t2 _ _, h.bl.setCell (p := ⟨b + 1, j, none⟩) (by show b ≤ b + 1; omega) v⟩
theorem KS.new (w : World) (A X : List Value) (hX : X.length = 5) : KS w.heap.size w ((((w.alloc (.cells A.toArray 32)).alloc (.cells X.toArray 49)).alloc (.cells zA.toArray 32)).alloc (.cells e0.cs.toArray 49)) A X := by
  have r1 := range_new w A 32
  have r2 := range_new (w.alloc (.cells A.toArray 32)) X 49
  have r3 := there_new (w.alloc (.cells A.toArray 32)) X 49
  obtain ⟨n1, n2, n3⟩ := two_new ((w.alloc (.cells A.toArray 32)).alloc (.cells X.toArray 49)) (X := zA.toArray) (Y := e0.cs.toArray) rfl rfl
  have bb := below_alloc (w.alloc (.cells A.toArray 32)) (.cells X.toArray 49)
  rw [World.size_alloc, World.size_alloc] at n1 n2
  rw [World.size_alloc] at r2 r3
  rw [hX] at r3
  exact ⟨range_below (range_below r1 bb) n3, range_below r2 n3, there_below r3 n3, n1, n2, (below_alloc w _).trans ((bb.trans (n3.mono (by simp only [World.size_alloc]; omega))).mono (by simp only [World.size_alloc]; omega))⟩
set_option maxRecDepth 100000 in
set_option maxHeartbeats 1000000 in
theorem kept_any (A : List Value) (hl : A.length = 9) (h1 : ∀ u ∈ A, u.oneCell' = true) (x : En) (hk : x.key.size ≤ 281474976710656) (hv : x.val.size ≤ 281474976710656) (w : World) : Calls Tryd.prog 34 #[.agg A.toArray, .agg x.cs.toArray] w (Out w A x.cs true false) := by
  have HLA := Lib.hid hl
  have HOA := Lib.hid h1
  obtain ⟨X, hX⟩ : ∃ X, X = x.cs := ⟨_, rfl⟩
  rw [← hX]
  have HLX : Hid (X.length = 5) := Lib.hid (by rw [hX]; rfl)
  have HOX : Hid (∀ u ∈ X, u.oneCell' = true) := Lib.hid (by rw [hX]; exact x.one)
  have X0 : Hid (X[0]? = some (.string x.key)) := Lib.hid (by rw [hX]; rfl)
  have X3 : Hid (X[3]? = some (.string x.val)) := Lib.hid (by rw [hX]; rfl)
  have HS := Lib.hid (KS.new w A X HLX.out)
  have g0 := HS.out.rx 0 _ X0.out
  have g3 := HS.out.rx 3 _ X3.out
  have f0 := (HS.out.tx 0 (by omega)).2
  have f3 := (HS.out.tx 3 (by omega)).2
  rw [Nat.zero_add] at g0 g3 f0 f3
  clear hl h1 hX
  obtain ⟨ky, hky⟩ : ∃ ky, x.key = ky := ⟨_, rfl⟩
  obtain ⟨vl, hvl⟩ : ∃ vl, x.val = vl := ⟨_, rfl⟩
  rw [hky] at hk X0 g0
  rw [hvl] at hv X3 g3
  have CK := Lib.hid (fun W => clone_any ky hk W)
  have CV := Lib.hid (fun W => clone_any vl hv W)
  clear hky hvl hk hv
  go_enter Tryd.func34, Tryd.ntmps34
  go_wp2_with fail
  have y0 := X0.out
  have y3 := X3.out
  go_region_with (first
    | (go_at_call 54; (with_reducible refine (CK.out _).mono ?_); rintro e w1 ⟨rfl, hb⟩; replace HS : Hid (KS w.heap.size w w1 A X) := (by first | exact Lib.hid (HS.out.step hb) | exact Lib.hid (HS.out.drew.step hb)); clear hb g0 g3 f0 f3; have g0 := HS.out.rx 0 _ X0.out; have g3 := HS.out.rx 3 _ X3.out; have f0 := (HS.out.tx 0 (by omega)).2; have f3 := (HS.out.tx 3 (by omega)).2; rw [Nat.zero_add] at g0 g3 f0 f3)
    | (go_at_call 54; (with_reducible refine (CV.out _).mono ?_); rintro e w1 ⟨rfl, hb⟩; replace HS : Hid (KS w.heap.size w w1 A X) := (by first | exact Lib.hid (HS.out.step hb) | exact Lib.hid (HS.out.drew.step hb)); clear hb g0 g3 f0 f3; have g0 := HS.out.rx 0 _ X0.out; have g3 := HS.out.rx 3 _ X3.out; have f0 := (HS.out.tx 0 (by omega)).2; have f3 := (HS.out.tx 3 (by omega)).2; rw [Nat.zero_add] at g0 g3 f0 f3))
  all_goals
    (obtain ⟨W2, hW2⟩ : ∃ W2, W2 = ((w1.setCell { block := w.heap.size + 1, off := 0 } (Value.string ky)).setCell { block := w.heap.size + 1, off := 3 } (Value.string vl)) := ⟨_, rfl⟩
     replace HS : Hid (KS w.heap.size w W2 A X) := Lib.hid (by rw [hW2]; exact (HS.out.set 0 _ X0.out).set 3 _ X3.out)
     rw [← hW2]
     clear hW2 g0 g3 f0 f3 y0 y3 CK CV
     obtain ⟨t1, t2, r1, r2, b2⟩ := two_fin (w := w) (W := W2.drew) (b := w.heap.size + 2) HLA.out HLX.out (by omega) HS.out.drew.bl HS.out.drew.t1 (by simpa [Nat.add_assoc] using HS.out.drew.t2)
     have HT1 : Hid (W2.drew.there (w.heap.size + 2) 0 A.toArray.size) := Lib.hid t1
     have HT2 : Hid ((W2.drew.setCells (w.heap.size + 2) 0 A).there (w.heap.size + 3) 0 X.toArray.size) := Lib.hid t2
     have HR1 := Lib.hid r1
     have HR2 := Lib.hid r2
     have HB2 := Lib.hid b2
     clear r1 r2 b2 t1 t2)
  all_goals go_wp2_with fail
  all_goals
    (refine wp_region_held_drew (S := fun W => W.rangeAt w.heap.size 0 A ∧ W.rangeAt (w.heap.size + 1) 0 X) (by kernel_rfl) ⟨HS.out.drew.ra, HS.out.drew.rx⟩ (fun hS => ?_)
     refine wpAnyH_take (i := 0) (v := .agg A.toArray) rfl (by kernel_rfl) (by kernel_rfl) (by kernel_rfl) (fun _ _ _ h => h) (yieldsIf_load_mid (by kernel_rfl) 32 (.tmp 2) rfl w.heap.size 0 rfl A _ (fun _ h => h.1) Tryd.underlying32 rfl (by rw [HLA.out]; kernel_rfl)) hS ?_
     refine wpAnyH_take (i := 1) (v := .agg X.toArray) rfl (by kernel_rfl) (by kernel_rfl) (by kernel_rfl) (fun _ _ _ h => h) (yieldsIf_load_mid (by kernel_rfl) 49 (.tmp 3) rfl (w.heap.size + 1) 0 rfl X _ (fun _ h => h.2) Tryd.underlying49 rfl (by rw [HLX.out]; kernel_rfl)) hS ?_
     refine storeH (i := 2) (by kernel_rfl) rfl rfl HT1.out (all_oneCell_toArray HOA.out) 32 (.tmp 4) (.tmp 16) rfl rfl rfl (by rw [List.size_toArray, HLA.out]; kernel_rfl) ⟨range_other hS.1 (by omega) A, range_other hS.2 (by omega) A⟩ ?_
     refine storeH (i := 3) (by kernel_rfl) rfl rfl HT2.out (all_oneCell_toArray HOX.out) 49 (.tmp 5) (.tmp 17) rfl rfl rfl (by rw [List.size_toArray, HLX.out]; kernel_rfl) ⟨range_other (range_other hS.1 (by omega) A) (by omega) X, range_other (range_other hS.2 (by omega) A) (by omega) X⟩ ?_
     refine constH (i := 4) (v := .bool true) (by kernel_rfl) rfl rfl rfl ⟨range_other (range_other hS.1 (by omega) A) (by omega) X, range_other (range_other hS.2 (by omega) A) (by omega) X⟩ ?_
     refine constH (i := 5) (v := .bool false) (by kernel_rfl) rfl rfl rfl ⟨range_other (range_other hS.1 (by omega) A) (by omega) X, range_other (range_other hS.2 (by omega) A) (by omega) X⟩ ?_
     refine wpAnyH_done (by kernel_rfl) ?_ _
     go_wp2_with fail
     exact bodyPost_ret (v := .tuple #[.agg A.toArray, .agg X.toArray, .bool true, .bool false]) (res4 Tryd.results34 rfl rfl rfl rfl HR1.out HR2.out HLA.out HLX.out) rfl ⟨rfl, HB2.out⟩)
end Go.Proofs.YtpkmfckifnomeaaDoor
