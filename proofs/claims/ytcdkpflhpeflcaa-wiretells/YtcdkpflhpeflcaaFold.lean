/-
  BITS; folded and unfolded of the program; the ways to append.
-/
import Derived.Test.YtcdkpflhpeflcaaOwn

namespace Go.Proofs.Ytcdkpflhpeflcaa
open Go.RowKit
theorem and1 (u : Nat) (h : u < 18446744073709551616) : bits .and .u64 (u : Int) 1 = ((u % 2 : Nat) : Int) := by
  have := u64_and_nat u 1 h (by decide)
  rw [Nat.and_one_is_mod] at this; exact this
theorem and127 (u : Nat) (h : u < 18446744073709551616) : bits .and .u64 (u : Int) 127 = ((u % 128 : Nat) : Int) := by
  have := u64_and_nat u 127 h (by decide)
  rw [show (127 : Nat) = 2 ^ 7 - 1 by decide, Nat.and_two_pow_sub_one_eq_mod] at this; exact this
set_option maxRecDepth 20000 in
theorem or128 (c : Nat) (h : c < 256) : bits .or .u8 (c : Int) 128 = ((c % 128 + 128 : Nat) : Int) := by
  have := u8_or_nat c 128 h (by decide)
  rw [show c ||| 128 = c % 128 + 128 from (by decide : ∀ c : Fin 256, c.val ||| 128 = c.val % 128 + 128) ⟨c, h⟩] at this; exact this
set_option maxRecDepth 20000 in
theorem andNot128 (c : Nat) (h : c < 256) : bits .andNot .u8 (c : Int) 128 = ((c % 128 : Nat) : Int) := by
  have := u8_andNot_nat c 128 h (by decide)
  rw [show c &&& (255 - 128) = c % 128 from (by decide : ∀ c : Fin 256, c.val &&& (255 - 128) = c.val % 128) ⟨c, h⟩] at this; exact this
set_option maxRecDepth 20000 in
theorem and127' (c : Nat) (h : c < 256) : bits .and .u8 (c : Int) 127 = ((c % 128 : Nat) : Int) := by
  have := u8_and_nat c 127 h (by decide)
  rw [show c &&& 127 = c % 128 from (by decide : ∀ c : Fin 256, c.val &&& 127 = c.val % 128) ⟨c, h⟩] at this; exact this
theorem umax : IntKind.u64.max = 18446744073709551615 := by decide
theorem unot (x : Nat) (h : x < 18446744073709551616) : bits .xor .u64 IntKind.u64.max (x : Int) = ((18446744073709551615 - x : Nat) : Int) := by
  rw [umax]
  show IntKind.u64.wrap ((BitVec.ofInt 64 18446744073709551615 ^^^ BitVec.ofInt 64 (x : Int)).toNat : Int) = _
  have h1 : BitVec.ofInt 64 18446744073709551615 = BitVec.allOnes 64 := by decide
  rw [h1, BitVec.allOnes_xor, BitVec.toNat_not, ofInt_u64 x h]
  simp [IntKind.wrap, IntKind.bits, IntKind.signed]
  omega
theorem inot (a : Int) (h1 : -9223372036854775808 ≤ a) (h2 : a ≤ 9223372036854775807) : bits .xor .i64 (-1) a = -1 - a := by
  show IntKind.i64.wrap ((BitVec.ofInt 64 (-1) ^^^ BitVec.ofInt 64 a).toNat : Int) = _
  have h3 : BitVec.ofInt 64 (-1) = BitVec.allOnes 64 := by decide
  rw [h3, BitVec.allOnes_xor, BitVec.toNat_not, BitVec.toNat_ofInt]
  simp [IntKind.wrap, IntKind.bits, IntKind.signed]
  omega
theorem orsh (acc c i : Nat) (h : acc < 2 ^ (7 * i)) (h2 : acc + c * 2 ^ (7 * i) < 18446744073709551616) : bits .or .u64 (acc : Int) ((c * 2 ^ (7 * i) : Nat) : Int) = ((acc + c * 2 ^ (7 * i) : Nat) : Int) := by
  rw [u64_or_nat acc _ (by omega) (by omega), Nat.or_comm, Nat.mul_comm c, ← Nat.two_pow_add_eq_or_of_lt h, Nat.add_comm]
theorem or1 (a : Nat) (h : a % 2 = 0) (h2 : a < 18446744073709551616) : bits .or .u64 (a : Int) 1 = ((a + 1 : Nat) : Int) := by
  have := u64_or_nat a 1 h2 (by decide)
  rw [show a ||| 1 = a + 1 by
    have e := Nat.two_pow_add_eq_or_of_lt (i := 1) (b := 1) (by decide) (a / 2)
    rw [show 2 ^ 1 * (a / 2) = a by omega] at e
    exact e.symm] at this
  exact this
theorem folded_any (n : Int) (h1 : -9223372036854775808 ≤ n) (h2 : n ≤ 9223372036854775807) (w : World) : Calls Try.prog 35 #[.int .i64 n] w fun e w' => e = .returned (.int .u64 ((fold n : Nat) : Int)) ∧ w = w' := by
  by_cases h : n < 0
  · have hfn : Hid (fold n = (-n - 1).toNat * 2 + 1) := by show _ = _; unfold fold; rw [if_pos h]
    go_enter Try.func35, Try.ntmps35
    go_wp2
    go_ret
    refine ⟨ret_int ?_, rfl⟩
    have e : IntKind.u64.wrap (IntKind.u64.wrap n * 2) = ((18446744073709551615 - fold n : Nat) : Int) := by
      rw [IntKind.wrap_u64, IntKind.wrap_u64, hfn.out]
      omega
    have hf := fold_lt h1 h2
    rw [e, unot _ (by omega)]
    congr 1; omega
  · have i1 : decide (n < (0 : Int)) = false := by simp; omega
    have hfn : Hid ((fold n : Int) = n * 2) := by show _ = _; unfold fold; rw [if_neg h]; omega
    go_enter Try.func35, Try.ntmps35
    go_wp2
    go_ret
    exact ⟨ret_int hfn.out.symm, rfl⟩
theorem unfolded_any (u : Nat) (h2 : u < 18446744073709551616) (w : World) : Calls Try.prog 37 #[.int .u64 (u : Int)] w fun e w' => e = .returned (.int .i64 (unf u)) ∧ w = w' := by
  have e1 := and1 u h2
  have e2 := inot ((u : Int) / 2) (by omega) (by omega)
  by_cases h : u % 2 = 1
  · have hu : Hid (unf u = -1 - ((u : Int) / 2)) := by show _ = _; unfold unf; rw [if_pos h]; omega
    rw [h] at e1
    clear h
    go_enter Try.func37, Try.ntmps37
    go_wp2
    go_ret
    exact ⟨ret_int hu.out.symm, rfl⟩
  · have hu : Hid (unf u = ((u : Int) / 2)) := by show _ = _; unfold unf; rw [if_neg h]; omega
    rw [show u % 2 = 0 by omega] at e1
    clear h e2
    go_enter Try.func37, Try.ntmps37
    go_wp2
    go_ret
    exact ⟨ret_int hu.out.symm, rfl⟩
/-- Sources of append. -/
theorem src_row {w : World} {a : Option Addr} {f : Nat → Nat} {n c : Nat} (h : RowF w a f n) : Src Try.prog 1 22 (.slice a n c) (tab f n).length (cl (tab f n)) w := by
  rw [tab_length]
  by_cases h0 : n = 0
  · subst h0
    cases a with
    | none => exact Src.ofNil _ under32 c
    | some ad => exact Src.ofSlice _ under32 ad 0 c [] (by simp) (fun j u h => by simp at h) (fun u h => by cases h)
  · rcases h with h | ⟨p, off, rfl, hc⟩
    · exact absurd h h0
    · refine Src.ofSlice _ under32 _ n c _ (by rw [cl_length, tab_length, Nat.mul_one]) (fun j u hu => ?_) (cl_one _)
      have hj : j < n := by
        have := (List.getElem?_eq_some_iff.1 hu).1
        rwa [cl_length, tab_length] at this
      rw [cl_at (by rw [tab_length]; exact hj), lf_tab hj] at hu
      have e : (⟨p, off, none⟩ : Addr).add j = ⟨p, off + j, none⟩ := by unfold Addr.add; split <;> simp_all
      rw [e, hc j hj]; exact hu
theorem src_one (w : World) (x : Nat) (c : Nat) : Src Try.prog 1 22 (.slice (some ⟨w.heap.size, 0, none⟩) 1 c) [x].length (cl [x]) (w.alloc (.cells #[.int .u8 ((x : Nat) : Int)] 5)) := by
  refine Src.ofSlice _ under32 _ 1 c _ (by simp [cl]) (fun j u hu => ?_) (cl_one _)
  have hj : j < 1 := by
    have := (List.getElem?_eq_some_iff.1 hu).1
    simpa [cl] using this
  have : j = 0 := by omega
  subst this
  have e : (⟨w.heap.size, 0, none⟩ : Addr).add 0 = ⟨w.heap.size, 0, none⟩ := by unfold Addr.add; split <;> simp_all
  rw [e, World.cell?_alloc_new]
  simpa [cl] using hu
theorem src_str (w : World) (s : ByteArray) : Src Try.prog 1 9 (.string s) (sb s).length (cl (sb s)) w := by
  rw [sb_length, ← cl_sb]; exact Src.ofString w under9 s
theorem app_row {w : World} {B : Nat} {v : Value} {l : List Nat} {a : Option Addr} {f : Nat → Nat} {n : Nat} (c : Nat) (h : OwnC w B v l) (hB : B ≤ w.heap.size) (hr : RowF w a f n) (hb : l.length + n ≤ 140737488355328) :
    ∃ v' w', (Builtin.append_ #[22, 22] 22 #[v, .slice a n c]).run Try.prog w = .ok v' w' ∧ OwnC w' B v' (l ++ tab f n) ∧ Below B w w' :=
  app_src 22 h hB (src_row hr) (by rw [tab_length]; exact hb)
theorem app_one {w : World} {B : Nat} {v : Value} {l : List Nat} (x : Nat) (h : OwnC w B v l) (hB : B ≤ w.heap.size) (hb : l.length + 1 ≤ 140737488355328) :
    ∃ v' w', (Builtin.append_ #[22, 22] 22 #[v, .slice (some ⟨w.heap.size, 0, none⟩) 1 1]).run Try.prog (w.alloc (.cells #[.int .u8 ((x : Nat) : Int)] 5)) = .ok v' w' ∧ OwnC w' B v' (l ++ [x]) ∧ Below B w w' := by
  have hb1 : Below B w (w.alloc (.cells #[.int .u8 ((x : Nat) : Int)] 5)) := (Below.refl _ _).alloc hB _
  have hb2 : Below w.heap.size w (w.alloc (.cells #[.int .u8 ((x : Nat) : Int)] 5)) := (Below.refl _ _).alloc (Nat.le_refl _) _
  obtain ⟨v', w', h1, h2, h3⟩ := app_src (m := [x]) 22 (h.up hb2) (by rw [World.size_alloc]; omega) (src_one w x 1) hb
  exact ⟨v', w', h1, h2, hb1.trans h3⟩
theorem app_str {w : World} {B : Nat} {v : Value} {l : List Nat} (s : ByteArray) (h : OwnC w B v l) (hB : B ≤ w.heap.size) (hb : l.length + s.size ≤ 140737488355328) :
    ∃ v' w', (Builtin.append_ #[22, 9] 22 #[v, .string s]).run Try.prog w = .ok v' w' ∧ OwnC w' B v' (l ++ sb s) ∧ Below B w w' :=
  app_src 9 h hB (src_str w s) (by rw [sb_length]; exact hb)
theorem wpList_append_run {P : Program} {w w' : World} {ops : Array Oper} {rest : List Oper} {o : Oper} {a : Act} {Q : Exit → Act → World → Prop} (hgd : o.guard = none) (s x : Operand) (t tx : TypeId)
    (ho : o.op = .call { callee := .builtin .append, args := #[s, x], argTypes := #[t, tx] }) (v xv v' : Value) (hs : a.eval s = v) (hx : a.eval x = xv)
    (hr : (Builtin.append_ #[t, tx] o.type #[v, xv]).run P w = .ok v' w') (h : wpList P ops Q rest (a.put o.dst v') w') : wpList P ops Q (o :: rest) a w := by
  refine wpList_plain hgd fun K hK => ?_
  unfold Oper.wp execOp
  simp only [ho, resolve, invoke, builtin, Sem.run_bind, Sem.run_pure, Result.andThen_ok, List.map_toArray, List.map_cons, List.map_nil, hs, hx, hr]
  exact hK _ _ h
end Go.Proofs.Ytcdkpflhpeflcaa
