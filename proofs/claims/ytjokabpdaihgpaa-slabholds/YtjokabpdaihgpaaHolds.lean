/-
  S(Nat → Nat × Nat)HOLDS walked.
-/
import Derived.Test.YtjokabpdaihgpaaReg
import Derived.Test.YtjokabpdaihgpaaAsks
import Derived.Deep.CutRange
namespace Go.Proofs.Ytjokabpdaihgpaa
open Go.RowKit

theorem elem43 : Try.prog.underlying 43 = some (.slice (Try.prog.elem 43)) := by kernel_rfl
theorem elem43' : Try.prog.elem 43 = 34 := by kernel_rfl
theorem size34' (w : World) : (sizeOf 34).run Try.prog w = .ok 2 w := by kernel_rfl
theorem elem58 : Try.prog.underlying 58 = some (.slice (Try.prog.elem 58)) := by kernel_rfl
theorem elem58' : Try.prog.elem 58 = 9 := by kernel_rfl
theorem size9' (w : World) : (sizeOf 9).run Try.prog w = .ok 1 w := by kernel_rfl
/-- What stands behind the turn of one ask. -/
def Tail (w : World) (S p size i : Nat) (hv dv : Value) (wx : World) : Prop :=
  ∃ (nn : Nat) (HS : List (Nat × Nat)) (DS : List ByteArray) (ss : St) (oo : (Nat → Nat × Nat)) (av : Option Addr) (cv : Nat) (bv : Option Addr) (ev : Nat), hv = .slice av nn cv ∧ dv = .slice bv nn ev ∧ nn ≤ i + 1 ∧ nn = HS.length ∧ Led ss HS DS ∧ (ss.pages = p ∧ ss.page = size) ∧ OwnK wx oo (2, 0) 2 (.slice av nn cv) nn (hsc HS) ∧ OwnK wx oo (3, 0) 1 (.slice bv nn ev) nn (strc DS) ∧ IsSlab wx oo 1 S ss ∧ Fr T123 o0 oo w wx
theorem Reg.tail {w X : World} {S p size i : Nat} {s : St} {n : Nat} {hs : List (Nat × Nat)} {q : Nat × Nat} {ds : List ByteArray} {d : ByteArray} {L : List (Nat × Nat × Value)} {a : Option Addr} {c : Nat} {b : Option Addr} {e : Nat} (h : Reg w X S s (.slice a (n + 1) c) (n + 1) (hs ++ [q]) none q (.slice b (n + 1) e) (n + 1) (ds ++ [d]) none d L)
    (hl : Led s (hs ++ [q]) (ds ++ [d])) (hn : n = hs.length) (hp : s.pages = p ∧ s.page = size) (hi : n ≤ i) : Tail w S p size i (.slice a (n + 1) c) (.slice b (n + 1) e) X := by
  obtain ⟨o, h1, h2, h3, h4, _⟩ := h
  exact ⟨n + 1, _, _, s, o, a, c, b, e, rfl, rfl, by omega, by simp [hn], hl, hp, h1, h2, h3, h4⟩
/-- append as a step of a region that draws, its run given behind. -/
theorem step_app3 {P : Program} {ops : Array Oper} {o : Oper} {a : Act} {w : World} {K : Act → World → Prop} {Q : Exit → Act → World → Prop} {E : Prop} (hgd : o.guard = none) (s x : Operand) (t : TypeId)
    (ho : o.op = .call { callee := .builtin .append, args := #[s, x], argTypes := #[t, t] }) (ht : o.type = t)
    (h : ∃ X v xv v' w', w = X ∧ a.eval s = v ∧ a.eval x = xv ∧ (Builtin.append_ #[t, t] t #[v, xv]).run P X = .ok v' w' ∧ K (a.put o.dst v') w') :
    if Region.wanted o (yielded ops a.tmps) = true then Oper.wp P o a w K Q else E := by
  obtain ⟨X, v, xv, v', w', rfl, hs, hx, hr, hk⟩ := h
  exact step_app hgd s x t t ho v xv v' hs hx (by rw [ht]; exact hr) hk
/-- The cells that the last turn's region reads. -/
def fix (A B ci ck : Nat) (K N Z C H : Int) (D : ByteArray) (T : Bool) : List (Nat × Nat × Value) :=
  [(B, 0, .int .i64 (ci : Int)), (B, 1, .int .i64 (ck : Int)), (A, 0, .int .i64 K), (A, 1, .int .i64 N), (A, 2, .int .i64 Z), (A, 3, .string D), (A, 4, .int .i64 C), (A, 5, .int .i64 H), (A, 6, .bool T)]
/-- They, one by one. -/
def FixS (A B ci ck : Nat) (K N Z C H : Int) (D : ByteArray) (T : Bool) (X : World) : Prop :=
  X.cell? ⟨B, 0, none⟩ = some (.int .i64 (ci : Int)) ∧ X.cell? ⟨B, 1, none⟩ = some (.int .i64 (ck : Int)) ∧ X.cell? ⟨A, 0, none⟩ = some (.int .i64 K) ∧ X.cell? ⟨A, 1, none⟩ = some (.int .i64 N) ∧ X.cell? ⟨A, 2, none⟩ = some (.int .i64 Z) ∧ X.cell? ⟨A, 3, none⟩ = some (.string D) ∧ X.cell? ⟨A, 4, none⟩ = some (.int .i64 C) ∧ X.cell? ⟨A, 5, none⟩ = some (.int .i64 H) ∧ X.cell? ⟨A, 6, none⟩ = some (.bool T)
theorem Reg.fixS {w X : World} {S : Nat} {s : St} {hv : Value} {n : Nat} {hs : List (Nat × Nat)} {sa : Option Nat} {p : Nat × Nat} {dv : Value} {m : Nat} {ds : List ByteArray} {sb : Option Nat} {d : ByteArray} {A B ci ck : Nat} {K N Z C H : Int} {D : ByteArray} {T : Bool} (h : Reg w X S s hv n hs sa p dv m ds sb d (fix A B ci ck K N Z C H D T)) : FixS A B ci ck K N Z C H D T X := by
  obtain ⟨o, _, _, _, _, _, _, h7⟩ := h
  exact ⟨(h7 (B, 0, .int .i64 (ci : Int)) (by simp [fix])).1, (h7 (B, 1, .int .i64 (ck : Int)) (by simp [fix])).1, (h7 (A, 0, .int .i64 K) (by simp [fix])).1, (h7 (A, 1, .int .i64 N) (by simp [fix])).1, (h7 (A, 2, .int .i64 Z) (by simp [fix])).1, (h7 (A, 3, .string D) (by simp [fix])).1, (h7 (A, 4, .int .i64 C) (by simp [fix])).1, (h7 (A, 5, .int .i64 H) (by simp [fix])).1, (h7 (A, 6, .bool T) (by simp [fix])).1⟩
set_option maxHeartbeats 0 in
set_option maxRecDepth 100000 in
theorem holds_walk (pages page : Int) (la : Option Addr) (ln lc : Nat) (q : Nat → AskD) (hln : ln ≤ 9223372036854775807) (w : World) (ri : AskF w la q ln) :
    Calls Try.prog 5 #[.int .i64 pages, .int .i64 page, .slice la ln lc] w fun e w' => e = .returned (.bool true) ∧ Below w.heap.size w w' := by
  have RI : Hid (AskF w la q ln) := ri
  clear ri
  go_enter Try.func5, Try.ntmps5
  go_wp2_with fail
  refine (within_any pages 1 8 (by omega) (by omega) (by omega) _).mono ?_
  rintro e w0 ⟨⟨r, rfl, hr1, hr2⟩, rfl⟩
  obtain ⟨p, rfl⟩ : ∃ p : Nat, r = p := ⟨r.toNat, by omega⟩
  go_wp2_with fail
  refine (within_any page 64 2000 (by omega) (by omega) (by omega) _).mono ?_
  rintro e w0 ⟨⟨r, rfl, hz1, hz2⟩, rfl⟩
  obtain ⟨size, rfl⟩ : ∃ p : Nat, r = p := ⟨r.toNat, by omega⟩
  go_wp2_with fail
  refine (new_yes 1 p size p size rfl rfl (by omega) (by omega) (by omega) (by omega) _ o0 (fun b _ e => by cases e)).mono ?_
  rintro e w1 ⟨S, rfl, o1, m, I1, F1⟩
  have HF1 : Hid (Fr T123 o0 o1 w w1) := F1.mono (fun _ h => h.elim)
  have HI1 : Hid (IsSlab w1 o1 1 S (St.new p size m)) := I1
  have HL1 : Hid (Led (St.new p size m) [] []) := Led.new I1.ok
  clear F1 I1
  go_wp2_with fail
  go_loopw [11, 12, 13] (fun hv dv iv wr => ∃ (i n : Nat) (hs : List (Nat × Nat)) (ds : List ByteArray) (s : St) (o : (Nat → Nat × Nat)) (a : Option Addr) (c : Nat) (a' : Option Addr) (c' : Nat), hv = .slice a n c ∧ dv = .slice a' n c' ∧ iv = .int .i64 (i : Int) ∧ i ≤ 60 ∧ i ≤ ln ∧ n ≤ i ∧ Hid (n = hs.length) ∧ Hid (Led s hs ds) ∧ Hid (s.pages = p ∧ s.page = size) ∧ Hid (OwnK wr o (2, 0) 2 (.slice a n c) n (hsc hs)) ∧ Hid (OwnK wr o (3, 0) 1 (.slice a' n c') n (strc ds)) ∧ Hid (IsSlab wr o 1 S s) ∧ Hid (Fr T123 o0 o w wr)) (fun _ _ iv _ => 60 - (intOf iv).toNat)
  case atStart => exact ⟨0, 0, [], [], _, o1, none, 0, none, 0, rfl, rfl, rfl, by omega, by omega, by omega, rfl, HL1, ⟨rfl, rfl⟩, OwnK.nil _ _ _ _, OwnK.nil _ _ _ _, HI1, HF1⟩
  case round =>
    clear HL1 HI1 HF1
    obtain ⟨i, n, hs, ds, s, o, a, c, a', c', rfl, rfl, rfl, hi60, hiln, hni, HN, HL, HP, OH, OD, HI, HF⟩ := hrel
    by_cases hlt : i < ln ∧ i < 60
    · obtain ⟨g1, g2⟩ := hlt
      have k1 : (i : Int) < (ln : Int) := by omega
      have k2 : (i : Int) < (60 : Int) := by omega
      obtain ⟨pp, off, rfl, hask⟩ := RI.out.there g1 (o0_T123 w HF.out)
      obtain ⟨d0, d1, d2, d3, d4, d5, d6⟩ := hask
      obtain ⟨⟨K, N, Z, D, C, H, T⟩, hq⟩ : ∃ x, q i = x := ⟨_, rfl⟩
      rw [hq] at d0 d1 d2 d3 d4 d5 d6
      simp only at d0 d1 d2 d3 d4 d5 d6
      clear hq
      go_upto_region 11 with fail
      obtain ⟨A, hA⟩ : ∃ A, A = wr.heap.size := ⟨_, rfl⟩
      obtain ⟨w2, hw2⟩ : ∃ w2, w2 = wr.alloc (.cells #[.int .i64 K, .int .i64 N, .int .i64 Z, .string D, .int .i64 C, .int .i64 H, .bool T] 45) := ⟨_, rfl⟩
      have B2 : Below wr.heap.size wr w2 := by rw [hw2]; exact (Below.refl _ _).alloc (Nat.le_refl _) _
      have AA : AskAt w2 A 0 ⟨K, N, Z, D, C, H, T⟩ := by
        rw [hw2, hA]; refine ⟨?_, ?_, ?_, ?_, ?_, ?_, ?_⟩ <;> (rw [World.cell?_alloc_new]; rfl)
      obtain ⟨e0, e1, e2, e3, e4, e5, e6⟩ := AA
      simp only [Nat.zero_add] at e0 e1 e2 e3 e4 e5 e6
      have FA : ∀ U, Fr U o (lab o A (9, 0)) wr w2 := fun U => by rw [hw2, hA]; exact Fr.new U o wr _ _
      obtain ⟨o, OA, OH2, OD2, HI2, HF2⟩ : ∃ om : Nat → Nat × Nat, Hid (om A = (9, 0)) ∧ Hid (OwnK w2 om (2, 0) 2 (.slice a n c) n (hsc hs)) ∧ Hid (OwnK w2 om (3, 0) 1 (.slice a' n c') n (strc ds)) ∧ Hid (IsSlab w2 om 1 S s) ∧ Hid (Fr T123 o0 om w w2) :=
        ⟨lab o A (9, 0), lab_same _ _ _, OH.out.fr (FA (fun _ => False)) (fun x => x), OD.out.fr (FA (fun _ => False)) (fun x => x), IsSlab.fr HI.out (FA (fun _ => False)) (fun _ x => x), HF.out.trans (FA T123)⟩
      clear FA OH OD HI HF
      rw [← hw2, ← hA]
      clear hA hw2 B2 d0 d1 d2 d3 d4 d5 d6
      obtain ⟨bb, hbb⟩ : ∃ bb, bb = decide (K = 2 ∧ 0 < n) := ⟨_, rfl⟩
      have HBB : Hid (bb = decide (K = 2 ∧ 0 < n)) := hbb
      clear hbb
      go_cut [63] from 42 to 234 (fun cv wx => cv = .bool bb ∧ w2 = wx)
      case first =>
        by_cases hk : K = 2
        · subst hk
          by_cases hn0 : 0 < n
          · have k3 : decide (0 < n) = true := by simpa using hn0
            go_wp2_with fail
            go_meet
            exact ⟨by rw [HBB.out]; simp [hn0], rfl⟩
          · have k3 : decide (0 < n) = false := by simpa using hn0
            go_wp2_with fail
            go_meet
            exact ⟨by rw [HBB.out]; simp [hn0], rfl⟩
        · have k3 : (K == 2) = false := beq_eq_false_iff_ne.2 hk
          go_wp2_with fail
          go_meet
          exact ⟨by rw [HBB.out]; simp [hk], rfl⟩
      case rest =>
        obtain ⟨rfl, rfl⟩ := hcut
        go_upto_if 63 with fail
        go_cut [11, 12] from 42 to 234 (fun hv dv wx => Tail w S p size i hv dv wx)
        case first =>
          by_cases hb : bb = true
          · subst hb
            have hkn : K = 2 ∧ 0 < n := of_decide_eq_true HBB.out.symm
            obtain ⟨hK, hn0⟩ := hkn
            clear HBB hK
            go_wp2_with fail
            refine (within_any N 0 ((n : Int) - 1) (by omega) (by omega) (by omega) _).mono ?_
            rintro e w3 ⟨⟨r, rfl, hr0, hrn⟩, rfl⟩
            obtain ⟨kk, rfl⟩ : ∃ kk : Nat, r = kk := ⟨r.toNat, by omega⟩
            have hkk : kk < n := by omega
            have hkk' : (kk : Int) < (n : Int) := by omega
            obtain ⟨g, cap, eg, og, gl, hcap, hmx, hcell, _⟩ := OH2.out.there hn0
            injection eg with e1' _ e3'
            subst e1' e3'
            obtain ⟨g', cap', eg', og', gl', hcap', hmx', _, _⟩ := OD2.out.there hn0
            injection eg' with e1' _ e3'
            subst e1' e3'
            obtain ⟨h, hh⟩ : ∃ h, hs[kk]? = some h := ⟨_, List.getElem?_eq_getElem (by rw [← HN.out]; exact hkk)⟩
            obtain ⟨c1, c2⟩ := hsc_at _ _ _ hh
            have x0 := hcell _ _ c1
            have x1 := hcell _ _ c2
            have hfr := HL.out.free hh
            have H1 : Hid (s.has h.1 h.2 = true) := hfr.1
            have H2 : Hid ((s.free h.1 h.2).has h.1 h.2 = false) := hfr.2.1
            have HL5 : Hid (Led (s.free h.1 h.2) (out hs kk) (out ds kk)) := hfr.2.2
            have H3 : Hid ((s.free h.1 h.2).free h.1 h.2 = s.free h.1 h.2) := by show _ = _; rw [St.free, if_neg (by rw [H2.out]; simp)]
            have HP5 : Hid ((s.free h.1 h.2).pages = p ∧ (s.free h.1 h.2).page = size) := ⟨(s.free_same _ _).2.1.trans HP.out.1, (s.free_same _ _).2.2.1.trans HP.out.2⟩
            clear hcell c1 c2 hfr
            go_wp2_with fail
            refine (free_any 1 S (by decide) s h.1 h.2 _ o HI2.out).mono ?_
            rintro e w4 ⟨rfl, o4, I4, F4⟩
            rw [H1.out]
            have x0' := F4.cell x0 (by rw [og]; decide)
            have x1' := F4.cell x1 (by rw [og]; decide)
            have HI4 : Hid (IsSlab w4 o4 1 S (s.free h.1 h.2)) := I4
            have HF4 : Hid (Fr (fun t => t.1 = 1) o o4 w2 w4) := F4
            clear x0 x1 I4 F4
            go_wp2_with fail
            refine (free_any 1 S (by decide) (s.free h.1 h.2) h.1 h.2 _ o4 HI4.out).mono ?_
            rintro e w5 ⟨rfl, o5, I5, F5⟩
            rw [H2.out]
            rw [H3.out] at I5
            have F25 : Fr (fun t => t.1 = 1) o o5 w2 w5 := HF4.out.trans F5
            have OH5 : OwnK w5 o5 (2, 0) 2 (.slice (some ⟨g, 0, none⟩) n c) n (hsc hs) := OH2.out.fr F25 (fun e => by cases e)
            have OD5 : OwnK w5 o5 (3, 0) 1 (.slice (some ⟨g', 0, none⟩) n c') n (strc ds) := OD2.out.fr F25 (fun e => by cases e)
            have FF5 : Fr T123 o0 o5 w w5 := HF2.out.trans (F25.mono (fun t e => .inl e))
            obtain ⟨a1, q1, w6, a2, q2, w7, o7, run1, run2, O7, F7⟩ := erase_own (i := kk) 43 34 (.agg #[.int .i64 0, .int .i64 0]) 16 under43 info34 (by kernel_rfl) (OH5.fr (Fr.drew1 (fun _ => False) o5 w5) (fun x => x)) hkk (by omega) (by omega)
            rw [hsc_out] at O7
            have D7 := (OD5.fr (Fr.drew1 (fun _ => False) o5 w5) (fun x => x)).fr (F7 (fun _ => False)) (fun x => x)
            have I7 := (IsSlab.fr I5 (Fr.drew1 (fun _ => False) o5 w5) (fun _ x => x)).fr (F7 (fun _ => False)) (fun _ x => x)
            have FF7 := (FF5.trans (Fr.drew1 T123 o5 w5)).trans (F7 T123)
            obtain ⟨b1, u1, w8, b2, u2, w9, o9, run3, run4, O9, F9⟩ := erase_own (i := kk) 58 9 (.string ⟨#[]⟩) 16 under58 info9 (by kernel_rfl) (D7.fr (Fr.drew1 (fun _ => False) o7 w7) (fun x => x)) hkk (by omega) (by omega)
            rw [strc_out] at O9
            have H9 := (O7.fr (Fr.drew1 (fun _ => False) o7 w7) (fun x => x)).fr (F9 (fun _ => False)) (fun x => x)
            have I9 := (IsSlab.fr I7 (Fr.drew1 (fun _ => False) o7 w7) (fun _ x => x)).fr (F9 (fun _ => False)) (fun _ x => x)
            have FF9 := (FF7.trans (Fr.drew1 T123 o7 w7)).trans (F9 T123)
            have TT : Hid (Tail w S p size i (.slice a2 (n - 1) q2) (.slice b2 (n - 1) u2) w9) := ⟨n - 1, out hs kk, out ds kk, _, o9, a2, q2, b2, u2, rfl, rfl, by omega, by rw [out_length _ _ (by rw [← HN.out]; exact hkk), ← HN.out], HL5.out, HP5.out, H9, O9, I9, FF9⟩
            have sl1 := slice_hiT 43 34 2 elem43 elem43' size34' g n c kk (by omega)
            have sl2 : ∀ w, (Instr.sliceAt 43 (.slice (some ⟨g, 0, none⟩) n c) (some (.int .i64 ((kk : Int) + 1))) none none).run Try.prog w = .ok (.slice (some (cutA g (kk + 1) c 2)) (n - (kk + 1)) (c - (kk + 1))) w := slice_loT 43 34 2 elem43 elem43' size34' g n c (kk + 1) (by omega)
            have sl3 := slice_hiT 58 9 1 elem58 elem58' size9' g' n c' kk (by omega)
            have sl4 : ∀ w, (Instr.sliceAt 58 (.slice (some ⟨g', 0, none⟩) n c') (some (.int .i64 ((kk : Int) + 1))) none none).run Try.prog w = .ok (.slice (some (cutA g' (kk + 1) c' 1)) (n - (kk + 1)) (c' - (kk + 1))) w := slice_loT 58 9 1 elem58 elem58' size9' g' n c' (kk + 1) (by omega)
            have hwk : IntKind.i64.wrap ((kk : Int) + 1) = (kk : Int) + 1 := by rw [IntKind.wrap_i64]; omega
            clear I5 F5 F25 OH5 OD5 FF5 O7 F7 D7 I7 FF7 O9 F9 H9 I9 FF9 OH2 OD2 HI2 HF2 HI4 HF4 x0' x1' HL5 HP5 H1 H2 H3
            go_wp2_with fail
            go_region_law (first | (refine step_app rfl (.tmp 85) (.tmp 88) 43 43 rfl _ _ _ rfl rfl run1 ?_) | (refine step_app rfl (.tmp 89) (.tmp 93) 43 43 rfl _ _ _ rfl rfl run2 ?_))
            go_wp2_with fail
            go_region_law (first | (refine step_app rfl (.tmp 95) (.tmp 98) 58 58 rfl _ _ _ rfl rfl run3 ?_) | (refine step_app rfl (.tmp 99) (.tmp 103) 58 58 rfl _ _ _ rfl rfl run4 ?_))
            go_wp2_with fail
            go_meet
            exact TT.out
          · have hb : bb = false := by simpa using hb
            subst hb
            clear HBB
            go_wp2_with fail
            refine (data_any K N Z C H D T _).mono ?_
            rintro e w3 ⟨rfl, B3⟩
            have hdz := dt_size D Z
            obtain ⟨d, hd⟩ : ∃ d, d = dt D Z := ⟨_, rfl⟩
            rw [← hd] at hdz ⊢
            have HD : Hid (dt D Z = d) := hd.symm
            clear hd
            have OH3 : Hid (OwnK w3 o (2, 0) 2 (.slice a n c) n (hsc hs)) := OH2.out.below B3
            have OD3 : Hid (OwnK w3 o (3, 0) 1 (.slice a' n c') n (strc ds)) := OD2.out.below B3
            have HI3 : Hid (IsSlab w3 o 1 S s) := HI2.out.below B3
            have HF3 : Hid (Fr T123 o0 o w w3) := HF2.out.trans (Fr.ofBelow T123 o B3)
            have hAw : A < w2.heap.size := World.block_lt_of_cell? _ _ e0
            have e0' := cell_up B3 e0
            have e1' := cell_up B3 e1
            have e2' := cell_up B3 e2
            have e3' := cell_up B3 e3
            have e4' := cell_up B3 e4
            have e5' := cell_up B3 e5
            have e6' := cell_up B3 e6
            clear B3 OH2 OD2 HI2 HF2 e0 e1 e2 e3 e4 e5 e6
            go_wp2_with fail
            refine (alloc_any 1 S (by decide) s d (by omega) _ o HI3.out).mono ?_
            rintro e w4 ⟨rfl, o4, I4, F4⟩
            have F34 : Fr (fun t => t.1 = 1) o o4 w3 w4 := F4
            by_cases he : (s.alloc d).1.2.2 = 0
            · obtain ⟨ci, ck, hans⟩ : ∃ ci ck, (s.alloc d).1 = (ci, ck, 0) := ⟨_, _, by rw [← he]⟩
              obtain ⟨hled, hne⟩ := HL.out.alloc d hans
              rw [hans]
              unfold ansV
              obtain ⟨w5, hw5⟩ : ∃ w5, w5 = w4.alloc (.cells #[.int .i64 (ci : Int), .int .i64 (ck : Int)] 34) := ⟨_, rfl⟩
              obtain ⟨B, hB⟩ : ∃ B, B = w4.heap.size := ⟨_, rfl⟩
              have B5 : Below w4.heap.size w4 w5 := by rw [hw5]; exact (Below.refl _ _).alloc (Nat.le_refl _) _
              have y0 : w5.cell? ⟨B, 0, none⟩ = some (.int .i64 (ci : Int)) := by rw [hw5, hB, World.cell?_alloc_new]; rfl
              have y1 : w5.cell? ⟨B, 1, none⟩ = some (.int .i64 (ck : Int)) := by rw [hw5, hB, World.cell?_alloc_new]; rfl
              have OH5 : Hid (OwnK w5 o4 (2, 0) 2 (.slice a n c) n (hsc hs)) := (OH3.out.fr F34 (fun e => by cases e)).below B5
              have HLD : Hid (Led (s.alloc d).2 (hs ++ [(ci, ck)]) (ds ++ [d])) := hled
              have HNE : Hid (∀ (j : Nat) (b : Nat × Nat), hs[j]? = some b → b ≠ (ci, ck)) := hne
              have HP5 : Hid ((s.alloc d).2.pages = p ∧ (s.alloc d).2.page = size) := ⟨(s.alloc_same d).2.1.trans HP.out.1, (s.alloc_same d).2.2.trans HP.out.2⟩
              have hA3 : A < w3.heap.size := World.block_lt_of_cell? _ _ e0'
              have f0 : w5.cell? ⟨A, 0, none⟩ = some (.int .i64 K) := cell_up B5 (F34.cell e0' (by rw [OA.out]; decide))
              have f1 : w5.cell? ⟨A, 1, none⟩ = some (.int .i64 N) := cell_up B5 (F34.cell e1' (by rw [OA.out]; decide))
              have f2 : w5.cell? ⟨A, 2, none⟩ = some (.int .i64 Z) := cell_up B5 (F34.cell e2' (by rw [OA.out]; decide))
              have f3 : w5.cell? ⟨A, 3, none⟩ = some (.string D) := cell_up B5 (F34.cell e3' (by rw [OA.out]; decide))
              have f4 : w5.cell? ⟨A, 4, none⟩ = some (.int .i64 C) := cell_up B5 (F34.cell e4' (by rw [OA.out]; decide))
              have f5 : w5.cell? ⟨A, 5, none⟩ = some (.int .i64 H) := cell_up B5 (F34.cell e5' (by rw [OA.out]; decide))
              have f6 : w5.cell? ⟨A, 6, none⟩ = some (.bool T) := cell_up B5 (F34.cell e6' (by rw [OA.out]; decide))
              have HRA : Hid (∀ dd, Reg w (w5.drewN dd) S (s.alloc d).2 (.slice a n c) n hs none (ci, ck) (.slice a' n c') n ds none d (fix A B ci ck K N Z C H D T)) := fun dd => by
                have FB : ∀ U, Fr U o4 (lab o4 B (9, 0)) w4 w5 := fun U => by rw [hw5, hB]; exact Fr.new U o4 w4 _ _
                have hA4 : A < w4.heap.size := Nat.lt_of_lt_of_le hA3 F34.size
                have oA : lab o4 B (9, 0) A = (9, 0) := by rw [lab_other _ _ _ (by omega)]; exact (F34.lab A hA3).trans OA.out
                have oB : lab o4 B (9, 0) B = (9, 0) := lab_same _ _ _
                have base : Reg w w5 S (s.alloc d).2 (.slice a n c) n hs none (ci, ck) (.slice a' n c') n ds none d (fix A B ci ck K N Z C H D T) := by
                  refine ⟨lab o4 B (9, 0), (OH3.out.fr F34 (fun e => by cases e)).fr (FB (fun _ => False)) (fun x => x), (OD3.out.fr F34 (fun e => by cases e)).fr (FB (fun _ => False)) (fun x => x), IsSlab.fr I4 (FB (fun _ => False)) (fun _ x => x), (HF3.out.trans (F34.mono (fun t e => .inl e))).trans (FB T123), (fun b e => by cases e), (fun b e => by cases e), fun cc hcc => ?_⟩
                  simp only [fix, List.mem_cons, List.not_mem_nil, or_false] at hcc
                  rcases hcc with rfl | rfl | rfl | rfl | rfl | rfl | rfl | rfl | rfl
                  · exact ⟨y0, oB⟩
                  · exact ⟨y1, oB⟩
                  · exact ⟨f0, oA⟩
                  · exact ⟨f1, oA⟩
                  · exact ⟨f2, oA⟩
                  · exact ⟨f3, oA⟩
                  · exact ⟨f4, oA⟩
                  · exact ⟨f5, oA⟩
                  · exact ⟨f6, oA⟩
                exact base.mono (below_drewN (Below.refl _ _) dd)
              go_wp2_with fail
              rw [← hw5, ← hB]
              clear f0 f1 f2 f3 f4 f5 f6 hA3
              clear hw5 hB B5 I4 F4 F34 OH3 OD3 HI3 HF3 e0' e1' e2' e3' e4' e5' e6' hled hne hans he
              go_loopw [18] (fun y wr => ∃ j dd : Nat, j ≤ n ∧ y = .int .i64 (j : Int) ∧ Hid (wr = w5.drewN dd)) (fun y _ => n - (intOf y).toNat)
              case atStart => exact ⟨0, 0, by omega, rfl, rfl⟩
              case round =>
                obtain ⟨j, dd, hj, rfl, HW⟩ := hrel
                by_cases hjn : j < n
                · have k3 : (j : Int) < (n : Int) := by omega
                  obtain ⟨g, cap, eg, _, _, _, _, hcell, _⟩ := OH5.out.there (by omega)
                  injection eg with q1 _ q3
                  subst q1 q3
                  obtain ⟨h, hh⟩ : ∃ h, hs[j]? = some h := ⟨_, List.getElem?_eq_getElem (by rw [← HN.out]; exact hjn)⟩
                  obtain ⟨c1, c2⟩ := hsc_at _ _ _ hh
                  have x0 : wr.cell? ⟨g, j * 2, none⟩ = some (.int .i64 ((h.1 : Nat) : Int)) := by rw [HW.out]; exact hcell _ _ c1
                  have x1 : wr.cell? ⟨g, j * 2 + 1, none⟩ = some (.int .i64 ((h.2 : Nat) : Int)) := by rw [HW.out]; exact hcell _ _ c2
                  have y0' : wr.cell? ⟨B, 0, none⟩ = some (.int .i64 (ci : Int)) := by rw [HW.out]; exact y0
                  have y1' : wr.cell? ⟨B, 1, none⟩ = some (.int .i64 (ck : Int)) := by rw [HW.out]; exact y1
                  have hne2 := HNE.out j h hh
                  clear hcell c1 c2 hh
                  by_cases q : h.1 = ci
                  case' pos =>
                    have q1 : ((h.1 : Nat) : Int) = (ci : Int) := by omega
                    have q2 : ¬ ((h.2 : Nat) : Int) = (ck : Int) := fun e => hne2 (Prod.ext q (by show h.2 = ck; omega))
                  case' neg =>
                    have q1 : ¬ ((h.1 : Nat) : Int) = (ci : Int) := by omega
                  all_goals
                    clear hne2 q
                    go_wp2_with fail
                    go_quiet (fail)
                    go_wp2_with fail
                    exact ⟨⟨j + 1, dd + nq, by omega, by go_num, by show _ = _; rw [HW.out, World.drewN_drewN]⟩, by simp [intOf]; omega⟩
                · have k3 : decide ((j : Int) < (n : Int)) = false := by simp; omega
                  have HR : Hid (Reg w wr.drew S (s.alloc d).2 (.slice a n c) n hs none (ci, ck) (.slice a' n c') n ds none d (fix A B ci ck K N Z C H D T)) := by
                    have := HRA.out dd
                    rw [← HW.out] at this
                    exact this.mono (Fr.below (Fr.drew1 (fun _ => False) o0 wr) (Nat.le_refl _) (fun _ _ x => x))
                  have hn1 : n ≤ 1000 := by omega
                  have S0 := Reg.fixS HR.out
                  have HRa := Reg.allA HR.out
                  have S1 := Reg.fixS HRa
                  obtain ⟨ax, cx, wA, hrA, HRb⟩ := Reg.appA HRa hn1
                  have S2 := Reg.fixS HRb
                  have HRB : Hid (Reg w wA S (s.alloc d).2 (.slice ax (n + 1) cx) (n + 1) (hs ++ [(ci, ck)]) none (ci, ck) (.slice a' n c') n ds none d (fix A B ci ck K N Z C H D T)) := HRb
                  unfold FixS at S0 S1 S2
                  dsimp only at hrA S1
                  clear HRA y0 y1 OH5 HR HRa HRb
                  go_wp2_with fail
                  go_region_held3 (fun w' => w'.cell? ⟨B, 0, none⟩ = some (.int .i64 (ci : Int)) ∧ w'.cell? ⟨B, 1, none⟩ = some (.int .i64 (ck : Int)) ∧ w'.cell? ⟨A, 0, none⟩ = some (.int .i64 K) ∧ w'.cell? ⟨A, 1, none⟩ = some (.int .i64 N) ∧ w'.cell? ⟨A, 2, none⟩ = some (.int .i64 Z) ∧ w'.cell? ⟨A, 3, none⟩ = some (.string D) ∧ w'.cell? ⟨A, 4, none⟩ = some (.int .i64 C) ∧ w'.cell? ⟨A, 5, none⟩ = some (.int .i64 H) ∧ w'.cell? ⟨A, 6, none⟩ = some (.bool T)) (first | with_reducible exact S0 | with_reducible exact S1 | with_reducible exact S2 | with_reducible exact S3 | with_reducible exact S4 | with_reducible exact S5 | exact S0 | exact S1 | exact S2 | exact S3 | exact S4 | exact S5)
                    (first
                      | (refine step_app rfl (.tmp 126) (.tmp 128) 43 43 rfl _ _ _ rfl rfl hrA ?_)
                      | (go_at_call 17; refine (data_any K N Z C H D T wA).mono ?_; rintro e wD ⟨rfl, BD⟩; rw [HD.out]; have HRD := Reg.mono HRB.out BD; have S3 := Reg.fixS HRD; have HRd := Reg.allB HRD; have S4 := Reg.fixS HRd; obtain ⟨bx, ex, wB, hrB, HRe⟩ := Reg.appB HRd hn1; have S5 := Reg.fixS HRe; have HRE : Hid _ := HRe; unfold FixS at S3 S4 S5; clear HRD HRd HRe BD)
                      | (refine step_app rfl (.tmp 130) (.tmp 133) 58 58 rfl _ _ _ rfl rfl hrB ?_))
                  go_wp2_with fail
                  go_meet
                  exact Reg.tail HRE.out HLD.out HN.out HP5.out hni
            · have hx : (((s.alloc d).1.2.2 : Nat) : Int) ≠ 0 := by omega
              have hbad := s.alloc_bad d he
              rw [hbad.1] at I4
              obtain ⟨ec, hec⟩ : ∃ ec : Nat, ec = (s.alloc d).1.2.2 := ⟨_, rfl⟩
              unfold ansV
              rw [hbad.2.1, hbad.2.2, ← hec]
              rw [← hec] at hx
              have hxb : ((ec : Int) == 0) = false := beq_eq_false_iff_ne.2 hx
              have B5 : Below w4.heap.size w4 (w4.alloc (.cells #[.int .i64 0, .int .i64 0] 34)) := (Below.refl _ _).alloc (Nat.le_refl _) _
              have TT : Hid (Tail w S p size i (.slice a n c) (.slice a' n c') (w4.alloc (.cells #[.int .i64 0, .int .i64 0] 34))) := ⟨n, hs, ds, s, o4, a, c, a', c', rfl, rfl, by omega, HN.out, HL.out, HP.out, (OH3.out.fr F34 (fun e => by cases e)).below B5, (OD3.out.fr F34 (fun e => by cases e)).below B5, IsSlab.below I4 B5, (HF3.out.trans (F34.mono (fun t e => .inl e))).trans (Fr.ofBelow T123 o4 B5)⟩
              clear hec hbad I4 F4 F34 OH3 OD3 HI3 HF3 B5 hx he
              go_wp2_with fail
              go_meet
              exact TT.out
        case rest =>
          as_aux_lemma =>
            obtain ⟨nn, HS, DS, ss, oo, av, cv, bv, ev, rfl, rfl, hnn, tn, tl, tp, toh, tod, ti, tf⟩ := hcut
            have TN : Hid (nn = HS.length) := tn
            have TL : Hid (Led ss HS DS) := tl
            have TP : Hid (ss.pages = p ∧ ss.page = size) := tp
            have TH : Hid (OwnK wc oo (2, 0) 2 (.slice av nn cv) nn (hsc HS)) := toh
            have TD : Hid (OwnK wc oo (3, 0) 1 (.slice bv nn ev) nn (strc DS)) := tod
            have TI : Hid (IsSlab wc oo 1 S ss) := ti
            have TF : Hid (Fr T123 o0 oo w wc) := tf
            clear tn tl tp toh tod ti tf OH2 OD2 HI2 HF2 HL HP HN e0 e1 e2 e3 e4 e5 e6 HBB
            go_wp2_with fail
            refine (classes_any 1 S ss _ oo TI.out).mono ?_
            rintro e w3 ⟨g, rfl, hg, hc, B3⟩
            obtain ⟨nc, hnc⟩ : ∃ nc, nc = ss.n := ⟨_, rfl⟩
            have HNC : Hid (nc = ss.n) := hnc
            have hnc11 : nc ≤ 11 := by rw [hnc]; exact TI.out.ok.n2
            rw [← hnc] at hc ⊢
            have TC : Hid (∀ i, i < nc → w3.cell? ⟨g, i, none⟩ = some (.int .i64 ((sz i : Nat) : Int))) := hc
            have TB : Hid (Below wc.heap.size wc w3) := B3
            clear hc B3 hnc hg
            have hfit : needL HS ≤ 16000 := by
              have := TL.out.fits
              rw [TP.out.1, TP.out.2] at this
              exact Nat.le_trans this (Nat.le_trans (Nat.mul_le_mul (show p - ss.left ≤ 8 by omega) (show size ≤ 2000 by omega)) (by decide))
            go_wp2_with fail
            go_loopw [20, 21] (fun nv kv wr => ∃ (k nd : Nat), kv = .int .i64 (k : Int) ∧ nv = .int .i64 (nd : Int) ∧ k ≤ nn ∧ nd ≤ 16000 ∧ Hid (nd = needL (HS.take k)) ∧ Hid (Below w3.heap.size w3 wr)) (fun _ kv _ => nn - (intOf kv).toNat)
            case atStart => exact ⟨0, 0, rfl, rfl, by omega, by omega, rfl, Below.refl _ _⟩
            case round =>
              obtain ⟨k, nd, rfl, rfl, hk, hnd, HND, HBr⟩ := hrel
              have TBr : Hid (Below wc.heap.size wc wr) := TB.out.trans (HBr.out.mono TB.out.size)
              by_cases hkn : k < nn
              · have k3 : (k : Int) < (nn : Int) := by omega
                obtain ⟨gh, ch, egh, _, _, _, _, hcell, _⟩ := (TH.out.below TBr.out).there (by omega)
                injection egh with e1 _ e3
                subst e1 e3
                obtain ⟨gd, cd, egd, _, _, _, _, hcelld, _⟩ := (TD.out.below TBr.out).there (by omega)
                injection egd with e1 _ e3
                subst e1 e3
                have hkl : k < HS.length := by rw [← TN.out]; exact hkn
                obtain ⟨h, hh⟩ : ∃ h, HS[k]? = some h := ⟨_, List.getElem?_eq_getElem hkl⟩
                obtain ⟨d, hd⟩ : ∃ d, DS[k]? = some d := ⟨_, List.getElem?_eq_getElem (by rw [← TL.out.len]; exact hkl)⟩
                obtain ⟨c1, c2⟩ := hsc_at _ _ _ hh
                have x0 := hcell _ _ c1
                have x1 := hcell _ _ c2
                have x2 := hcelld _ _ (strc_at _ _ _ hd)
                obtain ⟨hat, hsz⟩ := TL.out.at' k h d hh hd
                have hhas := St.at_has hat
                have HH : Hid (ss.has h.1 h.2 = true ∧ ss.rd h.1 h.2 = d) := ⟨hhas.1, by unfold St.rd; rw [if_pos hhas.1]; exact hhas.2⟩
                have hcl : h.1 < nc := by rw [HNC.out]; exact hat.1
                have hcl' : (h.1 : Int) < (nc : Int) := by omega
                have x3 := cell_up HBr.out (TC.out h.1 hcl)
                have hnd2 : nd + sz h.1 ≤ needL HS ∧ nd + sz h.1 = needL (HS.take (k + 1)) := by
                  have e1 := cutout HS k h hh
                  have e2 : HS.take (k + 1) = HS.take k ++ [h] := by rw [List.take_succ_eq_append_getElem hkl]; rw [(List.getElem?_eq_some_iff.1 hh).2]
                  have e3 : needL HS = needL (HS.take k) + (sz h.1 + needL (HS.drop (k + 1))) := by
                    conv => lhs; rw [e1]
                    rw [needL_append]; rfl
                  rw [e2, needL_append, HND.out]
                  refine ⟨by omega, by simp [needL]⟩
                have HN2 : Hid (nd + sz h.1 = needL (HS.take (k + 1))) := hnd2.2
                have hn3 : nd + sz h.1 ≤ 16000 := by omega
                clear hcell hcelld c1 c2 hat hhas hnd2 hh hd
                go_wp2_with fail
                refine (read_any 1 S ss h.1 h.2 _ oo (TI.out.below TBr.out)).mono ?_
                rintro e w5 ⟨rfl, B5⟩
                rw [HH.out.1, HH.out.2]
                have HB5 : Hid (Below w3.heap.size w3 w5) := HBr.out.trans (B5.mono HBr.out.size)
                have x0' := cell_up B5 x0
                have x1' := cell_up B5 x1
                have x2' := cell_up B5 x2
                have x3' := cell_up B5 x3
                have k4 : decide (((h.1 : Nat) : Int) < 0) = false := by simp
                have k5 : decide (((nc : Nat) : Int) ≤ ((h.1 : Nat) : Int)) = false := by simp; omega
                have k6 : decide (((sz h.1 : Nat) : Int) < ((d.size : Nat) : Int)) = false := by simp; omega
                clear B5 x0 x1 x2 x3 HBr TBr
                go_wp2_with fail
                exact ⟨⟨k + 1, nd + sz h.1, by go_num, by go_num, by omega, by omega, HN2, HB5⟩, by simp [intOf]; omega⟩
              · have k3 : decide ((k : Int) < (nn : Int)) = false := by simp; omega
                have HI4 : Hid (IsSlab wr oo 1 S ss) := TI.out.below TBr.out
                go_wp2_with fail
                refine (pages_any 1 S ss _ oo HI4.out).mono ?_
                rintro e w5 ⟨rfl, B5⟩
                rw [TP.out.1]
                have TB5 : Hid (Below wc.heap.size wc w5) := TBr.out.trans (B5.mono TBr.out.size)
                have HI5 : Hid (IsSlab w5 oo 1 S ss) := HI4.out.below B5
                have hkk : k = nn := by omega
                have hfit2 : nd ≤ (p - ss.left) * size := by
                  have := TL.out.fits
                  rw [TP.out.1, TP.out.2] at this
                  rw [HND.out, hkk, TN.out, List.take_length]; exact this
                have hl1 : ss.left ≤ p := by have := TI.out.ok.l1; rw [TP.out.1] at this; exact this
                obtain ⟨lf, hlf⟩ : ∃ lf, lf = ss.left := ⟨_, rfl⟩
                obtain ⟨us, hus⟩ : ∃ us, us = p - lf := ⟨_, rfl⟩
                rw [← hlf] at hfit2 hl1 ⊢
                rw [← hus] at hfit2 ⊢
                have q1 : decide ((us : Int) < 0) = false := by simp
                have q2 : decide ((lf : Int) < 0) = false := by simp
                have q3 : ((us : Int) + (lf : Int) != (p : Int)) = false := by simp; omega
                have hmul : us * size ≤ 16000 := Nat.le_trans (Nat.mul_le_mul (show us ≤ 8 by omega) (show size ≤ 2000 by omega)) (by decide)
                obtain ⟨ml, hml⟩ : ∃ ml, ml = us * size := ⟨_, rfl⟩
                have q4 : (us : Int) * (size : Int) = (ml : Int) := by rw [hml]; simp
                have q5 : decide ((ml : Int) < (nd : Int)) = false := by simp; omega
                have HLV : Hid (ss.live = nn) := by show _ = _; rw [TL.out.live, TN.out]
                have q7 : nd ≤ ml := by omega
                have ub : us ≤ 8 := by omega
                have lb : lf ≤ 8 := by omega
                have mb : ml ≤ 16000 := by omega
                clear hlf hus hml B5 hfit2 hmul HI4 TBr HBr
                go_wp2_with fail
                refine (live_any 1 S ss _ oo HI5.out).mono ?_
                rintro e w6 ⟨rfl, B6⟩
                rw [HLV.out]
                have TB6 : Hid (Below wc.heap.size wc w6) := TB5.out.trans (B6.mono TB5.out.size)
                have q6 : ((nn : Int) != (nn : Int)) = false := by simp
                clear B6 TB5 HI5
                go_wp2_with fail
                exact ⟨⟨i + 1, nn, HS, DS, ss, oo, av, cv, bv, ev, rfl, rfl, by go_num, by omega, by omega, by omega, TN, TL, TP, TH.out.below TB6.out, TD.out.below TB6.out, TI.out.below TB6.out, TF.out.trans (Fr.ofBelow T123 oo TB6.out)⟩, by simp [intOf]; omega⟩
    · have hcase : (¬ i < ln) ∨ (i < ln ∧ ¬ i < 60) := by omega
      rcases hcase with g | ⟨g, g'⟩
      case' inl =>
        have k1 : decide ((i : Int) < (ln : Int)) = false := by simp; omega
      case' inr =>
        have k1 : (i : Int) < (ln : Int) := by omega
        have k2 : decide ((i : Int) < (60 : Int)) = false := by simp; omega
      all_goals
        clear hlt
        go_wp2_with fail
        refine (runs_any _).mono ?_
        rintro e w4 ⟨rfl, B4⟩
        have HB4 : Hid (Below w.heap.size w w4) := (o0_T123 w HF.out).trans (B4.mono HF.out.size)
        clear B4
        go_wp2_with fail
        go_ret
        exact ⟨rfl, HB4.out⟩
end Go.Proofs.Ytjokabpdaihgpaa
