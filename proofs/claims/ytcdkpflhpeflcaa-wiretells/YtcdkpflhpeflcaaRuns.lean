/-
  WIRERUNS: chapter 9's runs.
-/
import Derived.Test.YtcdkpflhpeflcaaGet
namespace Go.Proofs.Ytcdkpflhpeflcaa
open Go.RowKit

/-- The frame of the runs. -/
def f0 : F := ⟨2, 1, 0, 0, 0, 1, ⟨#[97]⟩, 0, ⟨#[]⟩⟩
theorem rt_f0 : rt f0 = true := by decide
theorem by_f0 : byF f0 = [4, 2, 0, 0, 0, 2, 2, 97, 0, 0] := by
  unfold byF
  rw [if_pos rt_f0]
  have e0 : enc (fold 0) = [0] := enc_lo (by decide)
  have e1 : enc (fold 1) = [2] := enc_lo (by decide)
  have e2 : enc (fold 2) = [4] := enc_lo (by decide)
  have t1 : tx ⟨#[97]⟩ = [2, 97] := by unfold tx; rw [enc_lo (by decide)]; rfl
  have t2 : tx ⟨#[]⟩ = [0] := by unfold tx; rw [enc_lo (by decide)]; rfl
  show encs [2, 1, 0, 0, 0, 1] ++ (tx ⟨#[97]⟩ ++ (enc (fold 0) ++ tx ⟨#[]⟩)) = _
  rw [t1, t2, e0]
  simp [encs, e0, e1, e2]
theorem g1 : gt (lf [4, 2, 0, 0, 0, 2, 2, 97, 0, 0]) 9 = (Z, 3) := by kernel_rfl
theorem g2 : gt (lf [36, 2, 0, 0, 0, 2, 2, 97, 0, 0]) 10 = (Z, 4) := by kernel_rfl
theorem l2 : [36] ++ tab (fun i => lf [4, 2, 0, 0, 0, 2, 2, 97, 0, 0] (1 + i)) 9 = [36, 2, 0, 0, 0, 2, 2, 97, 0, 0] := by kernel_rfl
/-- A literal list is the call's own. -/
theorem lit_own (w : World) (l : List Nat) (cs : Array Value) (h : cs = (cl l).toArray) (hl : l.length ≤ 1000) : OwnC (w.alloc (.cells cs 5)) w.heap.size (.slice (some ⟨w.heap.size, 0, none⟩) l.length l.length) l :=
  .inr ⟨w.heap.size, l.length, rfl, Nat.le_refl _, by simp, Nat.le_refl _, by unfold maxLen; omega, fun j hj => by rw [World.cell?_alloc_new, h, List.getElem?_toArray]; exact cl_at hj, fun j hj => ⟨by rw [World.cell?_alloc_new, h, List.getElem?_toArray, cl_at hj]; rfl, World.frozen?_alloc_new _ _ _ _⟩⟩
/-- append([]byte{x}, b...). -/
theorem app_lit {w : World} {a : Option Addr} {f : Nat → Nat} {n : Nat} (x : Nat) (c : Nat) (hr : RowF w a f n) (hb : n ≤ 1000) :
    ∃ v' w', (Builtin.append_ #[22, 22] 22 #[.slice (some ⟨w.heap.size, 0, none⟩) 1 1, .slice a n c]).run Try.prog (w.alloc (.cells #[.int .u8 (x : Int)] 5)) = .ok v' w' ∧ OwnC w' w.heap.size v' ([x] ++ tab f n) ∧ Below w.heap.size w w' := by
  have hb1 : Below w.heap.size w (w.alloc (.cells #[.int .u8 (x : Int)] 5)) := (Below.refl _ _).alloc (Nat.le_refl _) _
  obtain ⟨v', w', h1, h2, h3⟩ := app_row c (lit_own w [x] _ rfl (by simp)) (by rw [World.size_alloc]; omega) (hr.below hb1) (by simp; omega)
  exact ⟨v', w', h1, h2, hb1.trans h3⟩
set_option maxHeartbeats 1000000 in
set_option maxRecDepth 100000 in
theorem runs_any (w : World) : Calls Try.prog 3 #[] w fun e w' => e = .returned (.bool true) ∧ Below w.heap.size w w' := by
  have HP : Hid (∀ w : World, Calls Try.prog 6 #[.agg #[.int .i64 2, .int .i64 1, .int .i64 0, .int .i64 0, .int .i64 0, .int .i64 1, .string ⟨#[97]⟩, .int .i64 0, .string ⟨#[]⟩]] w fun e w' => ∃ v, e = .returned v ∧ OwnC w' w.heap.size v (byF f0) ∧ Below w.heap.size w w' ∧ (rt f0 = false → v = .slice none 0 0)) := fun w => put_any f0 w
  obtain ⟨L, hL⟩ : ∃ L : List Nat, L = [4, 2, 0, 0, 0, 2, 2, 97, 0, 0] := ⟨_, rfl⟩
  have HY : Hid (byF f0 = L) := by rw [hL]; exact by_f0
  have HLn : Hid (L.length = 10) := by rw [hL]; rfl
  have HCL : Hid ((cl L).toArray = #[.int .u8 4, .int .u8 2, .int .u8 0, .int .u8 0, .int .u8 0, .int .u8 2, .int .u8 2, .int .u8 97, .int .u8 0, .int .u8 0]) := by rw [hL]; rfl
  have HG1 : Hid (gt (lf L) 9 = (Z, 3)) := by rw [hL]; exact g1
  have HG2 : Hid (gt (lf ([36] ++ tab (fun i => lf L (1 + i)) 9)) 10 = (Z, 4)) := by rw [hL]; rw [l2]; exact g2
  have HFB : Hid (∀ i, lf L i < 256) := by rw [hL]; exact lf8 _ (by decide)
  clear hL
  go_enter Try.func3, Try.ntmps3
  go_wp2_with fail
  refine (HP.out _).mono ?_
  rintro e w2 ⟨v, rfl, o2, b2, _⟩
  rw [HY.out] at o2
  obtain ⟨a2, c2, rfl, r2⟩ := own_row o2
  have hc2 : 10 ≤ c2 := by
    obtain ⟨a', c', e', h', _⟩ := o2.row
    injection e' with _ _ e'
    rw [e']; rw [← HLn.out]; exact h'
  rw [HLn.out] at r2 ⊢
  have R2 : Hid (RowF w2 a2 (lf L) 10) := r2
  have B2 : Hid (Below w.heap.size w w2) := b2
  clear r2 b2 o2 HY HP
  go_wp2_with fail
  refine (same_lit w2 w2 a2 c2 10 L _ (HCL.out.symm) HLn.out (by decide) (by rw [HLn.out]; exact R2.out) (Below.refl _ _)).mono ?_
  rintro e w3 ⟨rfl, b3⟩
  have R3 : Hid (RowF w3 a2 (lf L) 10) := R2.out.below b3
  have B3 : Hid (Below w.heap.size w w3) := B2.out.trans (b3.mono B2.out.size)
  have sh : ∀ w, (Instr.sliceAt 22 (.slice a2 10 c2) none (some (.int .i64 9)) none).run Try.prog w = .ok (.slice (sl a2 0 c2) 9 c2) w := slice_hi a2 10 c2 9 (by omega)
  obtain ⟨sa, hsa⟩ : ∃ sa, sa = sl a2 0 c2 := ⟨_, rfl⟩
  rw [← hsa] at sh
  have RS : Hid (RowF w3 sa (lf L) 9) := by rw [hsa]; exact R3.out.head 9 c2 (by decide) hc2
  clear b3 R2 B2 hsa HCL
  go_wp2_with fail
  refine (get_any sa 9 c2 (lf L) HFB.out (by decide) _ RS.out).mono ?_
  rintro e w4 ⟨rfl, b4⟩
  rw [HG1.out]
  simp only [Z, F.v, F.cs]
  have b4' : Below w3.heap.size w3 (w4.alloc (.cells #[.int .i64 0, .int .i64 0, .int .i64 0, .int .i64 0, .int .i64 0, .int .i64 0, .string ⟨#[]⟩, .int .i64 0, .string ⟨#[]⟩] 25)) := b4.alloc b4.size _
  have R4 : RowF (w4.alloc (.cells #[.int .i64 0, .int .i64 0, .int .i64 0, .int .i64 0, .int .i64 0, .int .i64 0, .string ⟨#[]⟩, .int .i64 0, .string ⟨#[]⟩] 25)) a2 (lf L) 10 := R3.out.below b4'
  have B4 : Hid (Below w.heap.size w (w4.alloc (.cells #[.int .i64 0, .int .i64 0, .int .i64 0, .int .i64 0, .int .i64 0, .int .i64 0, .string ⟨#[]⟩, .int .i64 0, .string ⟨#[]⟩] 25))) := B3.out.trans (b4'.mono B3.out.size)
  have sl1 : ∀ w, (Instr.sliceAt 22 (.slice a2 10 c2) (some (.int .i64 1)) none none).run Try.prog w = .ok (.slice (sl a2 1 c2) 9 (c2 - 1)) w := slice_lo a2 10 c2 1 (by decide)
  obtain ⟨sb', hsb⟩ : ∃ sb', sb' = sl a2 1 c2 := ⟨_, rfl⟩
  rw [← hsb] at sl1
  have R5 : RowF (w4.alloc (.cells #[.int .i64 0, .int .i64 0, .int .i64 0, .int .i64 0, .int .i64 0, .int .i64 0, .string ⟨#[]⟩, .int .i64 0, .string ⟨#[]⟩] 25)) sb' (fun i => lf L (1 + i)) 9 := by rw [hsb]; exact R4.cut 1 c2 hc2
  obtain ⟨w5, hw5⟩ : ∃ w5, w5 = w4.alloc (.cells #[.int .i64 0, .int .i64 0, .int .i64 0, .int .i64 0, .int .i64 0, .int .i64 0, .string ⟨#[]⟩, .int .i64 0, .string ⟨#[]⟩] 25) := ⟨_, rfl⟩
  rw [← hw5] at R5 B4
  obtain ⟨v6, w6, hrun, o6, b6⟩ := app_lit 36 (c2 - 1) R5 (by decide)
  have hrun' : (Builtin.append_ #[22, 22] 22 #[.slice (some ⟨w5.heap.size, 0, none⟩) 1 1, .slice sb' 9 (c2 - 1)]).run Try.prog (w5.alloc (.cells #[.int .u8 36] 5)) = .ok v6 w6 := hrun
  have B6 : Hid (Below w.heap.size w w6) := B4.out.trans (b6.mono B4.out.size)
  have HL6 : ([36] ++ tab (fun i => lf L (1 + i)) 9).length = 10 := by simp [tab_length]
  have HFB6 : Hid (∀ i, lf ([36] ++ tab (fun i => lf L (1 + i)) 9) i < 256) := lf_lt (fun x hx => by
    simp only [List.mem_append, List.mem_singleton, tab, List.mem_map] at hx
    rcases hx with rfl | ⟨i, _, rfl⟩
    · decide
    · exact HFB.out _)
  obtain ⟨a6, c6, rfl, r6⟩ := own_row o6
  rw [HL6] at r6 hrun'
  have R6 : Hid (RowF w6 a6 (lf ([36] ++ tab (fun i => lf L (1 + i)) 9)) 10) := r6
  have hsz : w5.heap.size = w4.heap.size + 1 := by rw [hw5, World.size_alloc]
  rw [hsz, hw5] at hrun'
  clear b4 b4' R4 B3 hsb R5 hrun o6 b6 HL6 r6 sh RS R3 HG1 hsz hw5
  go_wp2_with (at_builtin; refine wpList_append_run rfl _ _ 22 22 rfl _ _ _ rfl rfl hrun' ?_)
  refine (get_any a6 10 c6 _ HFB6.out (by decide) _ R6.out).mono ?_
  rintro e w7 ⟨rfl, b7⟩
  rw [HG2.out]
  simp only [Z, F.v, F.cs]
  have B7 : Hid (Below w.heap.size w (w7.alloc (.cells #[.int .i64 0, .int .i64 0, .int .i64 0, .int .i64 0, .int .i64 0, .int .i64 0, .string ⟨#[]⟩, .int .i64 0, .string ⟨#[]⟩] 25))) := by
    have := B6.out.trans (b7.mono B6.out.size)
    exact this.alloc this.size _
  clear b7 R6 HG2
  go_wp2_with fail
  go_ret
  exact ⟨rfl, B7.out⟩
end Go.Proofs.Ytcdkpflhpeflcaa
