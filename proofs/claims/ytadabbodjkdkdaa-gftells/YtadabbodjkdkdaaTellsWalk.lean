/-
  The walk of the law GfTells, over the contracts: products, inverses, quotients, powers, the tables are what the document says; the tables stay.
-/
import Derived.Test.YtadabbodjkdkdaaPowersWalk
import Derived.Test.YtadabbodjkdkdaaRef
import Derived.Test.YtadabbodjkdkdaaSame
import Derived.StillTailTactics
namespace Go.Proofs.Ytadabbodjkdkdaa
open Go.RowKit

theorem rmul_c (x y : Nat) (X Y R : Int) (hX : X = (x : Int)) (hY : Y = (y : Int)) (hR : ((Gf.mul x y : Nat) : Int) = R) (hx : x < 256) (hy : y < 256) (w : World) :
    Calls Try.prog 16 #[.int .u8 X, .int .u8 Y] w fun e w' => e = .returned (.int .u8 R) ∧ w' = w := by
  subst hX hY hR; exact rmul_any x y hx hy w
theorem rinv_c (x : Nat) (X R : Int) (hX : X = (x : Int)) (hR : ((Gf.inv x : Nat) : Int) = R) (hx : x < 256) (w : World) :
    Calls Try.prog 17 #[.int .u8 X] w fun e w' => e = .returned (.int .u8 R) ∧ w' = w := by
  subst hX hR; exact rinv_any x hx w
theorem rpow_c (x n : Nat) (X N R : Int) (hX : X = (x : Int)) (hN : N = (n : Int)) (hR : ((Gf.pw x n : Nat) : Int) = R) (hx : x < 256) (w : World) :
    Calls Try.prog 18 #[.int .u8 X, .int .i64 N] w fun e w' => e = .returned (.int .u8 R) ∧ w' = w := by
  subst hX hN hR; exact rpow_any x n hx w
/-- The power, of whatever int. -/
def pI (x : Nat) (n : Int) : Nat := if n < 0 then 0 else Gf.pw x n.toNat
theorem pow_i (b x : Nat) (n : Int) (R : Int) (hR : ((pI x n : Nat) : Int) = R) (hx : x < 256) (w : World) (hT : HasTab w b) :
    Calls Try.prog 12 #[.pointer (some ⟨b, 0, none⟩), .int .u8 (x : Int), .int .i64 n] w fun e w' => e = .returned (.int .u8 R) ∧ ∃ n, w' = w.drewN n := by
  subst hR
  unfold pI
  by_cases h : n < 0
  · rw [if_pos h]; exact pow_neg b x n h w
  · rw [if_neg h]
    exact pow_c b x n.toNat _ _ _ rfl (by omega) rfl hx w hT
theorem rpow_i (x : Nat) (n : Int) (R : Int) (hR : ((pI x n : Nat) : Int) = R) (hx : x < 256) (w : World) :
    Calls Try.prog 18 #[.int .u8 (x : Int), .int .i64 n] w fun e w' => e = .returned (.int .u8 R) ∧ w' = w := by
  subst hR
  unfold pI
  by_cases h : n < 0
  · rw [if_pos h]; exact rpow_neg x n h w
  · rw [if_neg h]
    exact rpow_c x n.toNat _ _ _ rfl (by omega) rfl hx w

theorem HasTab.of {T : Array Value} (h : IsTab T) {w : World} {b : Nat} (hw : HasTab w b) : w.heap[b]? = some (.cells T 25 (0, 0)) := by
  rw [show T = tab from h]; exact hw
theorem IsTab.ints {T : Array Value} (h : IsTab T) : ∀ i, i < 766 → ∃ q a, T[i]? = some (.int q a) := by
  intro i hi
  rw [show T = tab from h]
  by_cases h5 : i < 510
  · exact ⟨_, _, tab_ex i h5⟩
  · have := tab_lg (i - 510) (by omega)
    rw [show 510 + (i - 510) = i from by omega] at this
    exact ⟨_, _, this⟩

theorem load25 {T : Array Value} (h : IsTab T) {w : World} {b : Nat} (hw : HasTab w b) : Sem.run Try.prog (Instr.loadAt 25 (.pointer (some ⟨b, 0, none⟩))) w = .ok (.agg T) w := by
  simp only [Instr.loadAt, Instr.sureAddr, Sem.run_bind, Sem.run_pure, Result.andThen_ok]
  exact run_loadVar_row w b 25 25 T (0, 0) _ (hw.of h) Try.underlying25 rfl (by rw [h.size]; exact size25)
theorem eq25 {T : Array Value} (h : IsTab T) (w : World) : Sem.run Try.prog (binOp .eql 25 (.agg T) (.agg T)) w = .ok (.bool true) w := by
  rw [run_eql_struct, eql25 w 10000 9997 (by decide) T (by rw [h.size]; decide) h.ints]; rfl

/-- The whole struct is read, in a region that draws its order. -/
theorem wpStill_load25 {ops : Array Oper} {Q : Act → Prop} {a a' : Act} {o : Oper} {rest : List Oper} {Y : World} {T : Array Value} (x : Operand) (b : Nat) (hl : Sem.run Try.prog (Instr.loadAt 25 (.pointer (some ⟨b, 0, none⟩))) Y = .ok (.agg T) Y)
    (ho : o.op = .load 25 x) (hx : a.eval x = .pointer (some ⟨b, 0, none⟩)) (hw : Region.wanted o (yielded ops a.tmps) = true) (ha : a.put o.dst (.agg T) = a') (hn : wpStill Try.prog ops Y Q rest a') : wpStill Try.prog ops Y Q (o :: rest) a := by
  subst ha
  unfold wpStill
  rw [if_pos hw]
  unfold Oper.still execOp
  simp only [ho, hx, Sem.run_bind, hl, Result.andThen_ok, Sem.run_pure]
  exact ⟨rfl, hn⟩

theorem guard25 : Try.prog.eqGuardType Try.prog.depth 25 = false := by kernel_rfl
/-- The two structs are held against each other, in a region that draws its order. -/
theorem wpStill_eql25 {ops : Array Oper} {Q : Act → Prop} {a a' : Act} {o : Oper} {rest : List Oper} {Y : World} {T : Array Value} (x y : Operand) (hT : IsTab T)
    (ho : o.op = .binOp .eql 25 x y 25) (hx : a.eval x = .agg T) (hy : a.eval y = .agg T) (hw : Region.wanted o (yielded ops a.tmps) = true) (ha : a.put o.dst (.bool true) = a') (hn : wpStill Try.prog ops Y Q rest a') : wpStill Try.prog ops Y Q (o :: rest) a := by
  subst ha
  unfold wpStill
  rw [if_pos hw]
  unfold Oper.still execOp
  simp only [ho, hx, hy, Sem.run_bind, run_eqGuard_agg Y .eql 25 x y T T guard25, eq25 hT Y, Result.andThen_ok, Sem.run_pure]
  exact ⟨rfl, hn⟩

/-- An operation that is passed over, in a region that draws its order. -/
theorem wpStill_skip {P : Program} {ops : Array Oper} {Q : Act → Prop} {a : Act} {o : Oper} {rest : List Oper} {Y : World}
    (hw : Region.wanted o (yielded ops a.tmps) = false) (hn : wpStill P ops Y Q rest (a.put o.dst undef)) : wpStill P ops Y Q (o :: rest) a := by
  unfold wpStill
  rw [if_neg (by rw [hw]; decide)]
  exact hn

set_option maxRecDepth 100000 in
set_option maxHeartbeats 2000000 in
theorem tells_any (x y : Nat) (n m : Int) (hx : x < 256) (hy : y < 256) (w : World) :
    Calls Try.prog 4 #[.int .u8 (x : Int), .int .u8 (y : Int), .int .i64 n, .int .i64 m] w fun e w' => e = .returned (.bool true) ∧ Below w.heap.size w w' := by
  have hz := zero25
  go_enter Try.func4, Try.ntmps4
  go_wp2_with fail
  refine (make_is w).mono ?_
  rintro e w1 ⟨T, hT, rfl, hb⟩
  have ht := hT.size
  have hst := store_tab hT w1
  go_wp2_with fail
  obtain ⟨b, W, eb, eW, hTab, hb1, hs, hB⟩ := tab_world hT hb
  rw [← eb, ← eW]
  clear hst eb eW hb
  refine wp_load_row 25 (.tmp 9) rfl b rfl 25 T (0, 0) _ (hTab.of hT) Try.underlying25 rfl (by rw [ht]; exact size25) ?_
  have hst := store_tab hT W
  rw [hs] at hst
  go_wp2_with fail
  clear hst hz
  obtain ⟨V, eV, vT1, vT2, vB⟩ : ∃ V, V = W.alloc (.cells T 25) ∧ HasTab V b ∧ HasTab V (b + 1) ∧ Below w.heap.size w V :=
    ⟨_, rfl, hTab.alloc _, by rw [← hs]; exact hasTab_new hT W, hB.alloc (by omega) _⟩
  rw [← eV]
  clear eV hs hB hTab
  refine (within_c m 0 509 509 rfl rfl (by decide) _).mono ?_
  rintro e w2 ⟨⟨k, hk, rfl⟩, rfl⟩
  obtain ⟨A, hA⟩ : ∃ v, Gf.mul x y = v := ⟨_, rfl⟩
  obtain ⟨I, hI⟩ : ∃ v, Gf.inv x = v := ⟨_, rfl⟩
  obtain ⟨J, hJ⟩ : ∃ v, Gf.inv y = v := ⟨_, rfl⟩
  obtain ⟨D, hD⟩ : ∃ v, Gf.mul x J = v := ⟨_, rfl⟩
  obtain ⟨R, hR⟩ : ∃ v, pI x n = v := ⟨_, rfl⟩
  have lJ : J < 256 := by rw [← hJ]; exact Gf.inv_lt _
  have e1 : Hid (((Gf.mul x y : Nat) : Int) = (A : Int)) := by show _ = _; rw [hA]
  have e2 : Hid (((Gf.inv x : Nat) : Int) = (I : Int)) := by show _ = _; rw [hI]
  have e3 : Hid (((Gf.inv y : Nat) : Int) = (J : Int)) := by show _ = _; rw [hJ]
  have e4 : Hid (((Gf.mul x J : Nat) : Int) = (D : Int)) := by show _ = _; rw [hD]
  have e5 : Hid (((Gf.mul x (Gf.inv y) : Nat) : Int) = (D : Int)) := by show _ = _; rw [hJ, hD]
  have e6 : Hid (((pI x n : Nat) : Int) = (R : Int)) := by show _ = _; rw [hR]
  clear hA hI hJ hD hR
  go_wp2_with fail
  refine (mul_c b x y _ _ _ rfl rfl e1.out hx hy _ vT1).mono ?_
  rintro e w2 ⟨rfl, n1, rfl⟩
  go_wp2_with fail
  refine (rmul_c x y _ _ _ rfl rfl e1.out hx hy _).mono ?_
  rintro e w2 ⟨rfl, rfl⟩
  go_wp2_with fail
  refine (inv_c b x _ _ rfl e2.out hx _ (vT1.drewN _)).mono ?_
  rintro e w2 ⟨rfl, n2, rfl⟩
  go_wp2_with fail
  refine (rinv_c x _ _ rfl e2.out hx _).mono ?_
  rintro e w2 ⟨rfl, rfl⟩
  go_wp2_with fail
  refine (div_c b x y _ _ _ rfl rfl e5.out hx hy _ (vT1.drewN _)).mono ?_
  rintro e w2 ⟨rfl, n3, rfl⟩
  go_wp2_with fail
  refine (rinv_c y _ _ rfl e3.out hy _).mono ?_
  rintro e w2 ⟨rfl, rfl⟩
  go_wp2_with fail
  refine (rmul_c x J _ _ _ rfl rfl e4.out hx lJ _).mono ?_
  rintro e w2 ⟨rfl, rfl⟩
  go_wp2_with fail
  refine (pow_i b x n _ e6.out hx _ (vT1.drewN _)).mono ?_
  rintro e w2 ⟨rfl, n4, rfl⟩
  go_wp2_with fail
  refine (rpow_i x n _ e6.out hx _).mono ?_
  rintro e w2 ⟨rfl, rfl⟩
  go_wp2_with fail
  refine wp_region_still_tail 38 (by kernel_rfl) (by kernel_rfl) ?_
  simp only [List.take_succ_cons, List.take_zero, List.drop_succ_cons, List.drop_zero]
  obtain ⟨Y, eY, y1, y2, yB⟩ : ∃ Y, Y = ({ w2.drewN (n1 + n2 + n3 + n4) with drawn := (w2.drewN (n1 + n2 + n3 + n4)).drawn + 1 } : World) ∧ HasTab Y b ∧ HasTab Y (b + 1) ∧ Below w.heap.size w Y :=
    ⟨_, rfl, vT1, vT2, below_drewN vB (n1 + n2 + n3 + n4 + 1)⟩
  rw [← eY]
  clear eY vT1 vT2 vB e1 e2 e3 e4 e5 e6 lJ
  have c1 := y1.ex k (by omega)
  have c2 := y1.lg (Gf.ex k) (Gf.ex_lt k)
  have c3 : Y.cell? ⟨b, 510, none⟩ = some (.int .u8 0) := y1.lg 0 (by decide)
  have lE := Gf.ex_lt k
  obtain ⟨E, hE⟩ : ∃ v, Gf.ex k = v := ⟨_, rfl⟩
  rw [hE] at c1 c2 lE
  have e7 : Hid (((Gf.pw 2 k : Nat) : Int) = (E : Int)) := by show _ = _; rw [Gf.pw_two, hE]
  have HE : Hid (Gf.lg E = k % 255) := by show _ = _; rw [← hE, Gf.lg_ex]
  clear hE
  by_cases hk2 : k ≤ 254
  · have HE2 : Gf.lg E = k := by rw [HE.out]; omega
    rw [HE2] at c2
    clear HE2
    have i1 : (k : Int) < 510 := by omega
    have i2 : (E : Int) < 256 := by omega
    have g1 : decide ((254 : Int) < (k : Int)) = false := by simp; omega
    have hwk : IntKind.i64.wrap (k : Int) = (k : Int) := by rw [IntKind.wrap_i64]; omega
    have hl1 : Sem.run Try.prog (Instr.loadAt 25 (.pointer (some ⟨b, 0, none⟩))) Y = .ok (.agg T) Y := load25 hT y1
    have hl2 : Sem.run Try.prog (Instr.loadAt 25 (.pointer (some ⟨b + 1, 0, none⟩))) Y = .ok (.agg T) Y := load25 hT y2
    have hq : Sem.run Try.prog (binOp .eql 25 (.agg T) (.agg T)) Y = .ok (.bool true) Y := eq25 hT Y
    repeat still_step
    still_call (rpow_c 2 k 2 _ _ rfl rfl e7.out (by decide) _)
    repeat still_step
    refine wpStill_load25 (.tmp 9) b hl1 rfl rfl rfl (by simp only [Act.put, List.setIfInBounds_toArray, List.set_cons_succ, List.set_cons_zero]; rfl) ?_
    refine wpStill_load25 (.tmp 10) (b + 1) hl2 rfl rfl rfl (by simp only [Act.put, List.setIfInBounds_toArray, List.set_cons_succ, List.set_cons_zero]; rfl) ?_
    refine wpStill_eql25 (.tmp 83) (.tmp 84) hT rfl rfl rfl rfl (by simp only [Act.put, List.setIfInBounds_toArray, List.set_cons_succ, List.set_cons_zero]; rfl) ?_
    clear hl1 hl2 hq c1 c2 c3 y1 y2
    repeat still_step
    refine wpStill_nil ?_
    go_wp2_with fail
    refine (runs_any _).mono ?_
    rintro e w3 ⟨rfl, hb3⟩
    go_wp2_with fail
    go_ret
    exact ⟨rfl, yB.trans (hb3.mono yB.size)⟩
  · clear c2
    have i1 : (k : Int) < 510 := by omega
    have i2 : (E : Int) < 256 := by omega
    have g1 : (254 : Int) < (k : Int) := by omega
    clear hk2
    have hwk : IntKind.i64.wrap (k : Int) = (k : Int) := by rw [IntKind.wrap_i64]; omega
    have hl1 : Sem.run Try.prog (Instr.loadAt 25 (.pointer (some ⟨b, 0, none⟩))) Y = .ok (.agg T) Y := load25 hT y1
    have hl2 : Sem.run Try.prog (Instr.loadAt 25 (.pointer (some ⟨b + 1, 0, none⟩))) Y = .ok (.agg T) Y := load25 hT y2
    have hq : Sem.run Try.prog (binOp .eql 25 (.agg T) (.agg T)) Y = .ok (.bool true) Y := eq25 hT Y
    repeat still_step
    still_call (rpow_c 2 k 2 _ _ rfl rfl e7.out (by decide) _)
    still_step
    still_step
    still_step
    still_step
    still_step
    still_step
    refine (wpStill_skip ?_ ?_ : _)
    · rfl
    simp only [Act.put, List.setIfInBounds_toArray, List.set_cons_succ, List.set_cons_zero]
    refine (wpStill_skip ?_ ?_ : _)
    · rfl
    simp only [Act.put, List.setIfInBounds_toArray, List.set_cons_succ, List.set_cons_zero]
    refine (wpStill_skip ?_ ?_ : _)
    · rfl
    simp only [Act.put, List.setIfInBounds_toArray, List.set_cons_succ, List.set_cons_zero]
    refine (wpStill_skip ?_ ?_ : _)
    · rfl
    simp only [Act.put, List.setIfInBounds_toArray, List.set_cons_succ, List.set_cons_zero]
    refine (wpStill_skip ?_ ?_ : _)
    · rfl
    simp only [Act.put, List.setIfInBounds_toArray, List.set_cons_succ, List.set_cons_zero]
    refine (wpStill_skip ?_ ?_ : _)
    · rfl
    simp only [Act.put, List.setIfInBounds_toArray, List.set_cons_succ, List.set_cons_zero]
    refine (wpStill_skip ?_ ?_ : _)
    · rfl
    simp only [Act.put, List.setIfInBounds_toArray, List.set_cons_succ, List.set_cons_zero]
    refine (wpStill_skip ?_ ?_ : _)
    · rfl
    simp only [Act.put, List.setIfInBounds_toArray, List.set_cons_succ, List.set_cons_zero]
    refine (wpStill_skip ?_ ?_ : _)
    · rfl
    simp only [Act.put, List.setIfInBounds_toArray, List.set_cons_succ, List.set_cons_zero]
    refine (wpStill_skip ?_ ?_ : _)
    · rfl
    simp only [Act.put, List.setIfInBounds_toArray, List.set_cons_succ, List.set_cons_zero]
    repeat still_step
    refine wpStill_load25 (.tmp 9) b hl1 rfl rfl rfl (by simp only [Act.put, List.setIfInBounds_toArray, List.set_cons_succ, List.set_cons_zero]; rfl) ?_
    refine wpStill_load25 (.tmp 10) (b + 1) hl2 rfl rfl rfl (by simp only [Act.put, List.setIfInBounds_toArray, List.set_cons_succ, List.set_cons_zero]; rfl) ?_
    refine wpStill_eql25 (.tmp 83) (.tmp 84) hT rfl rfl rfl rfl (by simp only [Act.put, List.setIfInBounds_toArray, List.set_cons_succ, List.set_cons_zero]; rfl) ?_
    clear hl1 hl2 hq c1 c3 y1 y2
    repeat still_step
    refine wpStill_nil ?_
    go_wp2_with fail
    refine (runs_any _).mono ?_
    rintro e w3 ⟨rfl, hb3⟩
    go_wp2_with fail
    go_ret
    exact ⟨rfl, yB.trans (hb3.mono yB.size)⟩
end Go.Proofs.Ytadabbodjkdkdaa
