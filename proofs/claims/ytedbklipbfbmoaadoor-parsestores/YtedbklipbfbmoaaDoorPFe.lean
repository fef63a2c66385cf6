/-
  FEED walked.
-/
import Derived.Test.YtedbklipbfbmoaaDoorPFd
namespace Go.Proofs.YtedbklipbfbmoaaDoor
open Go.RowKit

/-- What Feed comes to. -/
def FOut (w : World) (o : Nat → Nat × Nat) (x P : Nat) (te : Nat × Nat) (p : Ps) (b : B) (v : Value) (w' : World) : Prop :=
  ∃ o' a n c ka kn kc, Evs w' o' te v (feed p b).2 ∧ IsP w' o' x P (feed p b).1 a n c ka kn kc ∧ Fr (TF x te) o o' w w' ∧ Tb w' o'
theorem Fd.done {w : World} {o0 : Nat → Nat × Nat} {x P : Nat} {te : Nat × Nat} {p0 : Ps} {s : ByteArray} {wr : World} {rs : B} {acc : List Ev} {p : Ps} {ev : Value} (h : Fd w o0 x P te p0 s wr rs acc p ev) (e : feed p rs = (p, [])) : FOut w o0 x P te p0 (L s) ev wr := by
  obtain ⟨o, a, n, c, ka, kn, kc, h1, h2, h3, h4⟩ := h.ex
  have := h.eq
  rw [e, List.append_nil] at this
  exact ⟨o, a, n, c, ka, kn, kc, by rw [this]; exact h1, by rw [this]; exact h2, h3, h4⟩
theorem Fd.alloc {w : World} {o0 : Nat → Nat × Nat} {x P : Nat} {te : Nat × Nat} {p0 : Ps} {s : ByteArray} {wr : World} {rs : B} {acc : List Ev} {p : Ps} {ev : Value} (h : Fd w o0 x P te p0 s wr rs acc p ev) {W : World} (hW : W = wr.alloc (.cells (Ev.none.cs (.slice none 0 0)).toArray 36)) :
    ∃ o a n c ka kn kc, Evs W o te ev acc ∧ IsP W o x P p a n c ka kn kc ∧ Fr (TF x te) o0 o w W ∧ Tb W o ∧ Res W o wr.heap.size ∧ Fd w o0 x P te p0 s W rs acc p ev := by
  obtain ⟨o, a, n, c, ka, kn, kc, h1, h2, h3, h4⟩ := h.ex
  have F : Fr (fun _ => False) o (lab o wr.heap.size (8, 8)) wr W := by rw [hW]; exact Fr.new _ _ _ _ _
  have k1 := h1.fr F id id
  have k2 := h2.fr F id id id
  have k3 : Fr (TF x te) o0 (lab o wr.heap.size (8, 8)) w W := h3.trans (F.mono (fun _ h => h.elim))
  have k4 := h4.fr F id
  exact ⟨_, a, n, c, ka, kn, kc, k1, k2, k3, k4, by rw [hW]; exact Res.new _ _, ⟨_, a, n, c, ka, kn, kc, k1, k2, k3, k4⟩, h.ok, h.eq, h.sz⟩
theorem Fd.up {w : World} {o0 : Nat → Nat × Nat} {x P : Nat} {te : Nat × Nat} {p0 : Ps} {s : ByteArray} {wr wr' : World} {rs : B} {acc : List Ev} {p : Ps} {ev : Value} (h : Fd w o0 x P te p0 s wr rs acc p ev) (b : Below wr.heap.size wr wr') : Fd w o0 x P te p0 s wr' rs acc p ev := by
  obtain ⟨o, a, n, c, ka, kn, kc, h1, h2, h3, h4⟩ := h.ex
  have F := Fr.ofBelow (fun _ => False) o b
  exact ⟨⟨o, a, n, c, ka, kn, kc, h1.fr F id id, h2.fr F id id id, h3.trans (F.mono (fun _ h => h.elim)), h4.fr F id⟩, h.ok, h.eq, h.sz⟩
/-- An event that was read, stored in its block. -/
theorem Fd.read {w : World} {o0 o1 : Nat → Nat × Nat} {x P b : Nat} {te : Nat × Nat} {W1 w2 : World} {acc : List Ev} {evv : Value} (hx : x < 7) (hte : te.1 = 7) (E1 : Evs W1 o1 te evv acc) (F1 : Fr (TF x te) o0 o1 w W1) (T1 : Tb W1 o1) (R1 : Res W1 o1 b) (hb : w.heap.size ≤ b) {p2 : Ps} {ev : Ev} {E : List Value} (O2 : OutE W1 o1 x P p2 ev E w2) :
    E.length = 18 ∧ (∀ u ∈ E, u.oneCell' = true) ∧ w2.there b 0 E.length ∧ (w2.setCells b 0 E).rangeAt b 0 E ∧ ∃ o3 a n c ka kn kc, EvV (w2.setCells b 0 E) o3 E ev ∧ Evs (w2.setCells b 0 E) o3 te evv acc ∧ IsP (w2.setCells b 0 E) o3 x P p2 a n c ka kn kc ∧ Fr (TF x te) o0 o3 w (w2.setCells b 0 E) ∧ Tb (w2.setCells b 0 E) o3 := by
  obtain ⟨o2, a, n, c, ka, kn, kc, hE, hI, f⟩ := O2
  have R2 := R1.fr f (tx8 (by omega))
  have g : Fr (· = (8, 8)) o2 o2 w2 (w2.setCells b 0 E) := Fr.sets (T := (· = (8, 8))) R2.mark _ _ _
  refine ⟨hE.len, hE.one, by rw [hE.len]; exact R2.th, World.rangeAt_setCells_same _ _ _ _ (by rw [hE.len]; exact R2.th), o2, a, n, c, ka, kn, kc, hE.fr g (fun e => by cases e), (E1.fr f (fun h => ?_) (tx9 (by omega))).fr g (fun e => ?_) (fun e => by cases e), hI.fr g (fun e => by injection e with e _; omega) (fun e => by injection e with e _; omega) (fun e => by cases e), (F1.trans (f.mono (fun t h => .inl h))).setsNew hb _ _, (T1.fr f (tx9 (by omega))).fr g (fun e => by cases e)⟩
  · have : te.1 = x := h
    omega
  · rw [e] at hte; cases hte
set_option maxRecDepth 100000 in
set_option maxHeartbeats 1000000 in
theorem feed_any {o : Nat → Nat × Nat} {x P : Nat} {p : Ps} {a : Option Addr} {n c : Nat} {ka : Option Addr} {kn kc : Nat} (hx : x < 7) (te : Nat × Nat) (hte : te.1 = 7) (hp : Okp p) (s : ByteArray) (hs : s.size ≤ 1000000000) (w : World) (h : IsP w o x P p a n c ka kn kc) (ht : Tb w o) :
    Calls Tryd.prog 10 #[.pointer (some ⟨P, 0, none⟩), .string s] w fun e w' => ∃ v, e = .returned v ∧ FOut w o x P te p (L s) v w' := by
  have hx8 : x < 8 := by omega
  have H0 : Hid (Fd w o x P te p s w (L s) [] p (.slice none 0 0)) := Lib.hid ⟨⟨o, a, n, c, ka, kn, kc, Evs.nil _ _ _, h, Fr.refl _ _ _, ht⟩, hp, rfl, by rw [L_len]; exact Nat.le_refl _⟩
  clear h ht hp
  go_enter Tryd.func10, Tryd.ntmps10
  go_wp2_with fail
  go_step3
  go_wp2_with fail
  go_step3
  go_wp2_with fail
  go_loopw [1, 5] (fun b ev wr => ∃ (rs : B) (acc : List Ev) (p' : Ps) (ea : Option Addr) (ec : Nat), b = .string (S rs) ∧ ev = .slice ea acc.length ec ∧ Hid (Fd w o x P te p s wr rs acc p' (.slice ea acc.length ec))) (fun b _ wr => 2 * strLen b + stOf wr P)
  case atStart => exact ⟨L s, [], p, none, 0, rfl, rfl, H0⟩
  case round =>
    obtain ⟨rs, acc, p', ea, ec, rfl, rfl, HF⟩ := hrel
    clear H0
    cases rs with
    | nil =>
      rw [show (S ([] : B)) = ⟨#[]⟩ from rfl]
      go_wp2_with fail
      simp only [Exit.noGoto_ret]
      go_ret
      exact ⟨_, rfl, HF.out.done (feed_nil _)⟩
    | cons c0 t =>
      obtain ⟨str, hstr⟩ : ∃ str, str = S (c0 :: t) := ⟨_, rfl⟩
      have hsz : str.size = t.length + 1 := by rw [hstr, S_size]; rfl
      have tz : decide ((0 : Int) < (str.size : Int)) = true := by simp; omega
      have tz2 : 0 < str.size := by omega
      have hsb : str.size ≤ 1000000000 := by have := HF.out.sz; simp at this; omega
      have hLs : L str = c0 :: t := by rw [hstr]; rfl
      rw [← hstr]
      have HSTR := Lib.hid hLs
      have HSZ := Lib.hid hsz
      clear hstr hsz hLs
      obtain ⟨W1, hW1⟩ : ∃ W1, W1 = wr.alloc (.cells #[.int .i64 0, .slice none 0 0, .int .i64 0, .int .i64 0, .int .i64 0, .int .i64 0, .int .u64 0, .bool false, .string ⟨#[]⟩, .int .i64 0, .slice none 0 0, .bool false, .int .u64 0, .string ⟨#[]⟩, .int .i64 0, .int .i64 0, .int .i64 0, .int .i64 0] 36) := ⟨_, rfl⟩
      obtain ⟨o1, a1, n1, c1, ka1, kn1, kc1, E1, I1, F1, T1, R1, D1⟩ := HF.out.alloc (W := W1) hW1
      have HM : Hid (stOf wr P = st1 p') := Lib.hid (by obtain ⟨_, _, _, _, _, _, _, _, h2, _⟩ := HF.out.ex; exact stOf_is h2)
      have hok := HF.out.ok.1
      have HOK := Lib.hid HF.out.ok
      have HB := Lib.hid (And.intro E1 (And.intro F1 (And.intro T1 (And.intro R1 D1))))
      have HI1 := Lib.hid I1
      have HW1 := Lib.hid hW1
      have HFEW := Lib.hid HF.out.few
      have HLW : Hid (w.heap.size ≤ wr.heap.size) := Lib.hid (by obtain ⟨_, _, _, _, _, _, _, _, _, h3, _⟩ := HF.out.ex; exact h3.size)
      clear HF E1 F1 T1 R1 D1 hW1
      rcases hok with ⟨hl, e⟩ | ⟨h3, h8, b0, b1, hl, e⟩ | ⟨k1, k2, e⟩ | e | e
      · rw [e] at I1
        have s0 : W1.cell? ⟨P, 0, none⟩ = some (.int .i64 0) := I1.at_ 0 (.int .i64 0) rfl
        rw [HW1.out] at s0
        have HRD := Lib.hid (rd_line hx8 str hsb tz2 hl (by rw [← e]; exact HOK.out) W1 I1 HB.out.2.2.1)
        rw [HW1.out] at HRD
        have HE := Lib.hid e
        clear I1 e
        go_wp2_with fail
        refine HRD.out.mono ?_
        rintro e w2 ⟨E, p2, ev, rest, rfl, O2, hf2, hm2, hk2⟩
        rw [← HW1.out] at O2
        obtain ⟨E1, F1, T1, R1, D1⟩ := HB.out
        have hlw : w.heap.size ≤ wr.heap.size := HLW.out
        obtain ⟨hl, ho, htt, hr, o3, a3, n3, c3, ka3, kn3, kc3, V3, E3, I3, F3, T3⟩ := Fd.read hx hte E1 F1 T1 R1 hlw O2
        have HL := Lib.hid hl
        have H1 := Lib.hid ho
        have HT := Lib.hid htt
        obtain ⟨W3, hW3⟩ : ∃ W3, W3 = w2.setCells wr.heap.size 0 E := ⟨_, rfl⟩
        rw [← hW3] at hr V3 E3 I3 F3 T3
        have HW3 := Lib.hid hW3
        have HR := Lib.hid hr
        have HV := Lib.hid V3
        have HH := Lib.hid (And.intro E3 (And.intro I3 (And.intro F3 T3)))
        have HD1 := Lib.hid D1
        have HF2 := Lib.hid hf2
        have HM2 := Lib.hid hm2
        have HK2 := Lib.hid hk2
        clear hl ho htt hr hW3 V3 E3 I3 F3 T3 E1 F1 T1 R1 D1 O2 hf2 hm2 hk2 hlw
        have hrl : rest.length ≤ str.size := by
          have := HM2.out
          have : st1 p2 ≤ 1 := by unfold st1; split <;> omega
          have : st1 (pl p'.left) ≤ 1 := by unfold st1; split <;> omega
          omega
        cases hb : isn ev with
        | true =>
          have HN := Lib.hid (none_any W3 HV.out true hb)
          go_wp2_with (first
            | ((with_reducible show wpList _ _ _ (Oper.mk none (Op.store 36 (.tmp 6) _) _ _ _ _ :: _) _ _); refine wpList_store_mid (by rfl) 36 (.tmp 6) (.tmp 33) (by rfl) wr.heap.size 0 E.toArray (by rfl) (by rfl) HT.out (by rw [List.size_toArray, HL.out]; kernel_rfl) (all_oneCell_toArray H1.out) ?_; rw [show E.toArray.toList = E from rfl, ← HW3.out])
            | ((with_reducible show wpList _ _ _ (Oper.mk (some _) (Op.load 36 (.tmp 6)) _ _ _ _ :: _) _ _); refine wpList_load_mid (by rfl) 36 (.tmp 6) (by rfl) wr.heap.size 0 (by rfl) E _ HR.out Tryd.underlying36 (by rfl) (by rw [HL.out]; kernel_rfl) ?_))
          refine HN.out.mono ?_
          rintro e w4 ⟨rfl, b4⟩
          obtain ⟨E3, I3, F3, T3⟩ := HH.out
          have DD : Fd w o x P te p s w4 rest acc p2 (.slice ea acc.length ec) := by
            refine Fd.up (wr := W3) ⟨⟨o3, a3, n3, c3, ka3, kn3, kc3, E3, I3, F3, T3⟩, HK2.out, ?_, ?_⟩ b4
            · have := HF2.out
              rw [HSTR.out] at this
              rw [HD1.out.eq, HE.out, this, thn, isn_yes hb]; rfl
            · have := HD1.out.sz; simp at this; have := HSZ.out; omega
          have HDD := Lib.hid DD
          have MS : 2 * rest.length + stOf w4 P < 2 * str.size + stOf wr P := by
            rw [stOf_is (I3.below b4), HM.out, HE.out]
            exact HM2.out
          have HMS := Lib.hid MS
          clear DD MS E3 I3 F3 T3 b4
          go_wp2_with fail
          exact ⟨⟨_, acc, _, ea, ec, rfl, rfl, HDD⟩, by simp only [strLen]; rw [S_size]; exact HMS.out⟩
        | false =>
          have HN := Lib.hid (none_any W3 HV.out false hb)
          go_wp2_with (first
            | ((with_reducible show wpList _ _ _ (Oper.mk none (Op.store 36 (.tmp 6) _) _ _ _ _ :: _) _ _); refine wpList_store_mid (by rfl) 36 (.tmp 6) (.tmp 33) (by rfl) wr.heap.size 0 E.toArray (by rfl) (by rfl) HT.out (by rw [List.size_toArray, HL.out]; kernel_rfl) (all_oneCell_toArray H1.out) ?_; rw [show E.toArray.toList = E from rfl, ← HW3.out])
            | ((with_reducible show wpList _ _ _ (Oper.mk (some _) (Op.load 36 (.tmp 6)) _ _ _ _ :: _) _ _); refine wpList_load_mid (by rfl) 36 (.tmp 6) (by rfl) wr.heap.size 0 (by rfl) E _ HR.out Tryd.underlying36 (by rfl) (by rw [HL.out]; kernel_rfl) ?_))
          refine HN.out.mono ?_
          rintro e w4 ⟨rfl, b4⟩
          obtain ⟨E3, I3, F3, T3⟩ := HH.out
          have f4 := Fr.ofBelow (fun _ => False) o3 b4
          obtain ⟨a5, c5, w5, o5, hr5, E5, F5⟩ := (E3.fr f4 id id).app (fun e => by rw [e] at hte; cases hte) (HV.out.fr f4 id) (by have := HFEW.out; omega)
          have I4 := I3.below b4
          have I5 := I4.fr F5 (fun e => by rw [← e] at hte; simp at hte; omega) (fun e => by rw [← e] at hte; simp at hte; omega) (fun e => by rw [← e] at hte; cases hte)
          have DD : Fd w o x P te p s w5 rest (acc ++ [ev]) p2 (.slice a5 (acc.length + 1) c5) := by
            refine ⟨⟨o5, a3, n3, c3, ka3, kn3, kc3, E5, I5, (F3.trans (f4.mono (fun _ h => h.elim))).trans (F5.mono (fun t h => .inr h)), (T3.fr f4 id).fr F5 (fun e => by rw [← e] at hte; cases hte)⟩, HK2.out, ?_, ?_⟩
            · have := HF2.out
              rw [HSTR.out] at this
              rw [HD1.out.eq, HE.out, this, thn, isn_no hb]; simp
            · have := HD1.out.sz; simp at this; have := HSZ.out; omega
          have HDD := Lib.hid DD
          have MS : 2 * rest.length + stOf w5 P < 2 * str.size + stOf wr P := by
            rw [stOf_is I5, HM.out, HE.out]
            exact HM2.out
          have HMS := Lib.hid MS
          have HR4 : Hid (w4.rangeAt wr.heap.size 0 E) := Lib.hid (range_fr HR.out f4 id)
          obtain ⟨va, vn, vc, hEV, _⟩ := HV.out
          rw [hEV] at hr5
          simp only [Ev.cs] at hr5
          have HEV := Lib.hid hEV
          clear DD MS E3 I3 F3 T3 b4 f4 I4 I5 E5 F5 hEV
          go_wp2_with (first
            | ((with_reducible show wpList _ _ _ (Oper.mk (some _) (Op.load 36 (.tmp 6)) _ _ _ _ :: _) _ _); refine wpList_load_mid (by rfl) 36 (.tmp 6) (by rfl) wr.heap.size 0 (by rfl) E _ HR4.out Tryd.underlying36 (by rfl) (by rw [HL.out]; kernel_rfl) ?_; rw [HEV.out]; simp only [Ev.cs])
            | (at_builtin; refine wpList_append_run rfl (.tmp 44) (.tmp 46) 24 24 rfl _ _ _ rfl rfl hr5 ?_))
          refine ⟨⟨rest, acc ++ [ev], p2, a5, c5, rfl, by rw [List.length_append]; rfl, ?_⟩, by simp only [strLen]; rw [S_size]; exact HMS.out⟩
          rw [List.length_append]
          exact HDD
      · rw [e] at I1
        have s0 : W1.cell? ⟨P, 0, none⟩ = some (.int .i64 1) := I1.at_ 0 (.int .i64 1) rfl
        rw [HW1.out] at s0
        have HRD := Lib.hid (rd_data hx8 str hsb tz2 b0 b1 hl (by rw [← e]; exact HOK.out) W1 I1)
        rw [HW1.out] at HRD
        have HE := Lib.hid e
        clear I1 e
        go_wp2_with fail
        refine HRD.out.mono ?_
        rintro e w2 ⟨E, p2, ev, rest, rfl, O2, hf2, hm2, hk2⟩
        rw [← HW1.out] at O2
        obtain ⟨E1, F1, T1, R1, D1⟩ := HB.out
        have hlw : w.heap.size ≤ wr.heap.size := HLW.out
        obtain ⟨hl, ho, htt, hr, o3, a3, n3, c3, ka3, kn3, kc3, V3, E3, I3, F3, T3⟩ := Fd.read hx hte E1 F1 T1 R1 hlw O2
        have HL := Lib.hid hl
        have H1 := Lib.hid ho
        have HT := Lib.hid htt
        obtain ⟨W3, hW3⟩ : ∃ W3, W3 = w2.setCells wr.heap.size 0 E := ⟨_, rfl⟩
        rw [← hW3] at hr V3 E3 I3 F3 T3
        have HW3 := Lib.hid hW3
        have HR := Lib.hid hr
        have HV := Lib.hid V3
        have HH := Lib.hid (And.intro E3 (And.intro I3 (And.intro F3 T3)))
        have HD1 := Lib.hid D1
        have HF2 := Lib.hid hf2
        have HM2 := Lib.hid hm2
        have HK2 := Lib.hid hk2
        clear hl ho htt hr hW3 V3 E3 I3 F3 T3 E1 F1 T1 R1 D1 O2 hf2 hm2 hk2 hlw
        have hrl : rest.length ≤ str.size := by
          have := HM2.out
          have : st1 p2 ≤ 1 := by unfold st1; split <;> omega
          have : st1 (pd p'.left p'.rq) ≤ 1 := by unfold st1; split <;> omega
          omega
        cases hb : isn ev with
        | true =>
          have HN := Lib.hid (none_any W3 HV.out true hb)
          go_wp2_with (first
            | ((with_reducible show wpList _ _ _ (Oper.mk none (Op.store 36 (.tmp 6) _) _ _ _ _ :: _) _ _); refine wpList_store_mid (by rfl) 36 (.tmp 6) (.tmp 41) (by rfl) wr.heap.size 0 E.toArray (by rfl) (by rfl) HT.out (by rw [List.size_toArray, HL.out]; kernel_rfl) (all_oneCell_toArray H1.out) ?_; rw [show E.toArray.toList = E from rfl, ← HW3.out])
            | ((with_reducible show wpList _ _ _ (Oper.mk (some _) (Op.load 36 (.tmp 6)) _ _ _ _ :: _) _ _); refine wpList_load_mid (by rfl) 36 (.tmp 6) (by rfl) wr.heap.size 0 (by rfl) E _ HR.out Tryd.underlying36 (by rfl) (by rw [HL.out]; kernel_rfl) ?_))
          refine HN.out.mono ?_
          rintro e w4 ⟨rfl, b4⟩
          obtain ⟨E3, I3, F3, T3⟩ := HH.out
          have DD : Fd w o x P te p s w4 rest acc p2 (.slice ea acc.length ec) := by
            refine Fd.up (wr := W3) ⟨⟨o3, a3, n3, c3, ka3, kn3, kc3, E3, I3, F3, T3⟩, HK2.out, ?_, ?_⟩ b4
            · have := HF2.out
              rw [HSTR.out] at this
              rw [HD1.out.eq, HE.out, this, thn, isn_yes hb]; rfl
            · have := HD1.out.sz; simp at this; have := HSZ.out; omega
          have HDD := Lib.hid DD
          have MS : 2 * rest.length + stOf w4 P < 2 * str.size + stOf wr P := by
            rw [stOf_is (I3.below b4), HM.out, HE.out]
            exact HM2.out
          have HMS := Lib.hid MS
          clear DD MS E3 I3 F3 T3 b4
          go_wp2_with fail
          exact ⟨⟨_, acc, _, ea, ec, rfl, rfl, HDD⟩, by simp only [strLen]; rw [S_size]; exact HMS.out⟩
        | false =>
          have HN := Lib.hid (none_any W3 HV.out false hb)
          go_wp2_with (first
            | ((with_reducible show wpList _ _ _ (Oper.mk none (Op.store 36 (.tmp 6) _) _ _ _ _ :: _) _ _); refine wpList_store_mid (by rfl) 36 (.tmp 6) (.tmp 41) (by rfl) wr.heap.size 0 E.toArray (by rfl) (by rfl) HT.out (by rw [List.size_toArray, HL.out]; kernel_rfl) (all_oneCell_toArray H1.out) ?_; rw [show E.toArray.toList = E from rfl, ← HW3.out])
            | ((with_reducible show wpList _ _ _ (Oper.mk (some _) (Op.load 36 (.tmp 6)) _ _ _ _ :: _) _ _); refine wpList_load_mid (by rfl) 36 (.tmp 6) (by rfl) wr.heap.size 0 (by rfl) E _ HR.out Tryd.underlying36 (by rfl) (by rw [HL.out]; kernel_rfl) ?_))
          refine HN.out.mono ?_
          rintro e w4 ⟨rfl, b4⟩
          obtain ⟨E3, I3, F3, T3⟩ := HH.out
          have f4 := Fr.ofBelow (fun _ => False) o3 b4
          obtain ⟨a5, c5, w5, o5, hr5, E5, F5⟩ := (E3.fr f4 id id).app (fun e => by rw [e] at hte; cases hte) (HV.out.fr f4 id) (by have := HFEW.out; omega)
          have I4 := I3.below b4
          have I5 := I4.fr F5 (fun e => by rw [← e] at hte; simp at hte; omega) (fun e => by rw [← e] at hte; simp at hte; omega) (fun e => by rw [← e] at hte; cases hte)
          have DD : Fd w o x P te p s w5 rest (acc ++ [ev]) p2 (.slice a5 (acc.length + 1) c5) := by
            refine ⟨⟨o5, a3, n3, c3, ka3, kn3, kc3, E5, I5, (F3.trans (f4.mono (fun _ h => h.elim))).trans (F5.mono (fun t h => .inr h)), (T3.fr f4 id).fr F5 (fun e => by rw [← e] at hte; cases hte)⟩, HK2.out, ?_, ?_⟩
            · have := HF2.out
              rw [HSTR.out] at this
              rw [HD1.out.eq, HE.out, this, thn, isn_no hb]; simp
            · have := HD1.out.sz; simp at this; have := HSZ.out; omega
          have HDD := Lib.hid DD
          have MS : 2 * rest.length + stOf w5 P < 2 * str.size + stOf wr P := by
            rw [stOf_is I5, HM.out, HE.out]
            exact HM2.out
          have HMS := Lib.hid MS
          have HR4 : Hid (w4.rangeAt wr.heap.size 0 E) := Lib.hid (range_fr HR.out f4 id)
          obtain ⟨va, vn, vc, hEV, _⟩ := HV.out
          rw [hEV] at hr5
          simp only [Ev.cs] at hr5
          have HEV := Lib.hid hEV
          clear DD MS E3 I3 F3 T3 b4 f4 I4 I5 E5 F5 hEV
          go_wp2_with (first
            | ((with_reducible show wpList _ _ _ (Oper.mk (some _) (Op.load 36 (.tmp 6)) _ _ _ _ :: _) _ _); refine wpList_load_mid (by rfl) 36 (.tmp 6) (by rfl) wr.heap.size 0 (by rfl) E _ HR4.out Tryd.underlying36 (by rfl) (by rw [HL.out]; kernel_rfl) ?_; rw [HEV.out]; simp only [Ev.cs])
            | (at_builtin; refine wpList_append_run rfl (.tmp 44) (.tmp 46) 24 24 rfl _ _ _ rfl rfl hr5 ?_))
          refine ⟨⟨rest, acc ++ [ev], p2, a5, c5, rfl, by rw [List.length_append]; rfl, ?_⟩, by simp only [strLen]; rw [S_size]; exact HMS.out⟩
          rw [List.length_append]
          exact HDD
      · rw [e] at I1
        have s0 : W1.cell? ⟨P, 0, none⟩ = some (.int .i64 2) := I1.at_ 0 (.int .i64 2) rfl
        rw [HW1.out] at s0
        obtain ⟨m, hm⟩ : ∃ m : Nat, min (p'.past : Int) (str.size : Int) = (m : Int) := ⟨min p'.past str.size, by omega⟩
        have HPB := Lib.hid (pass_bytes hx8 str m hm k2 W1 I1)
        have HMM := Lib.hid hm
        have HE := Lib.hid e
        have HK := Lib.hid (And.intro k1 k2)
        clear I1 hm e k1 k2
        go_wp2_with fail
        rw [HW1.out] at HPB
        refine HPB.out.mono ?_
        rintro e w2 ⟨o2, a2, n2, c2, ka2, kn2, kc2, rfl, I2, F2⟩
        rw [← HW1.out] at F2
        obtain ⟨E1, F1, T1, R1, D1⟩ := HB.out
        have hmm : m = min p'.past str.size := by have := HMM.out; omega
        have hL : (L str).length = str.size := L_len _
        have DD : Fd w o x P te p s w2 ((L str).drop m) acc (if p'.past - m = 0 then pz 0 else pp (p'.past - m)) (.slice ea acc.length ec) := by
          refine D1.go hx hte E1 F1 T1 F2 I2 ?_ ?_ ?_
          · split
            · exact okp_pz 0 (.inl rfl)
            · exact okp_pp (by omega) (by have := HK.out.2; omega)
          · rw [← HSTR.out, HE.out]
            have := feed_pp HK.out.1 (L str)
            rw [hL, ← hmm] at this
            exact this
          · rw [List.length_drop, HSTR.out]; simp
        have HDD := Lib.hid DD
        have MS : 2 * ((L str).drop m).length + stOf w2 P < 2 * str.size + stOf wr P := by
          rw [stOf_is I2, HM.out, List.length_drop, hL]
          have : st1 (if p'.past - m = 0 then pz 0 else pp (p'.past - m)) = 0 := by split <;> rfl
          rw [this]
          have := HK.out.1
          omega
        have HMS := Lib.hid MS
        clear DD MS I2 F2 E1 F1 T1 R1 D1 hL hmm
        go_wp2_with fail
        exact ⟨⟨_, acc, _, ea, ec, rfl, rfl, HDD⟩, by simp only [strLen]; rw [S_size]; exact HMS.out⟩
      · rw [e] at I1
        have s0 : W1.cell? ⟨P, 0, none⟩ = some (.int .i64 3) := I1.at_ 0 (.int .i64 3) rfl
        rw [HW1.out] at s0
        have HE := Lib.hid e
        by_cases h10 : 10 ∈ L str
        · obtain ⟨ql, qr, hq, hn⟩ := cut_at h10
          clear h10
          have HPL := Lib.hid (passl_yes str ql qr hq hn (by omega) W1 I1)
          have HQ := Lib.hid (And.intro hq hn)
          clear I1 e hq hn
          go_wp2_with fail
          rw [HW1.out] at HPL
          refine HPL.out.mono ?_
          rintro e w2 ⟨rfl, I2, F2⟩
          rw [← HW1.out] at F2
          obtain ⟨E1, F1, T1, R1, D1⟩ := HB.out
          have DD : Fd w o x P te p s w2 qr acc (pz 0) (.slice ea acc.length ec) := by
            refine D1.go hx hte E1 F1 T1 F2 I2 (okp_pz 0 (.inl rfl)) ?_ ?_
            · rw [← HSTR.out, HE.out, HQ.out.1]; exact feed_3_end _ _ HQ.out.2
            · have := congrArg List.length HQ.out.1; rw [L_len, HSZ.out] at this; simp at this; simp; omega
          have HDD := Lib.hid DD
          have MS : 2 * (qr).length + stOf w2 P < 2 * str.size + stOf wr P := by
            rw [stOf_is I2, HM.out, HE.out]
            show 2 * _ + 0 < 2 * str.size + 0
            have := congrArg List.length HQ.out.1; rw [L_len] at this; simp at this; omega
          have HMS := Lib.hid MS
          clear DD MS I2 F2 E1 F1 T1 R1 D1
          go_wp2_with fail
          exact ⟨⟨_, acc, _, ea, ec, rfl, rfl, HDD⟩, by simp only [strLen]; rw [S_size]; exact HMS.out⟩
        · skip
          have HPL := Lib.hid (passl_no str h10 W1 I1)
          have HQ := Lib.hid h10
          clear I1 e h10
          go_wp2_with fail
          rw [HW1.out] at HPL
          refine HPL.out.mono ?_
          rintro e w2 ⟨rfl, I2, F2⟩
          rw [← HW1.out] at F2
          obtain ⟨E1, F1, T1, R1, D1⟩ := HB.out
          have DD : Fd w o x P te p s w2 ([] : B) acc (pz 3) (.slice ea acc.length ec) := by
            refine D1.go hx hte E1 F1 T1 F2 I2 (okp_pz 3 (.inr (.inl rfl))) ?_ ?_
            · rw [← HSTR.out, HE.out, feed_3 _ HQ.out, feed_nil]
            · simp
          have HDD := Lib.hid DD
          have MS : 2 * (([] : B)).length + stOf w2 P < 2 * str.size + stOf wr P := by
            rw [stOf_is I2, HM.out, HE.out]
            show 2 * _ + 0 < 2 * str.size + 0
            simp; omega
          have HMS := Lib.hid MS
          clear DD MS I2 F2 E1 F1 T1 R1 D1
          go_wp2_with fail
          exact ⟨⟨_, acc, _, ea, ec, rfl, rfl, HDD⟩, by simp only [strLen]; rw [S_size]; exact HMS.out⟩
      · -- shut
        rw [e] at I1
        have s0 : W1.cell? ⟨P, 0, none⟩ = some (.int .i64 4) := I1.at_ 0 (.int .i64 4) rfl
        rw [HW1.out] at s0
        have HE := Lib.hid e
        clear I1 e
        go_wp2_with fail
        rw [HW1.out] at HB
        simp only [Exit.noGoto_ret]
        go_ret
        exact ⟨_, rfl, HB.out.2.2.2.2.done (by rw [HE.out]; exact feed_shut _)⟩
end Go.Proofs.YtedbklipbfbmoaaDoor
