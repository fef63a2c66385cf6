/-
  One step of the reference's, whatever it stands at.
-/
import Derived.Test.YtedbklipbfbmoaaDoorQSp
import Derived.Test.YtedbklipbfbmoaaDoorQFd
import Derived.Test.YtedbklipbfbmoaaDoorPFe
namespace Go.Proofs.YtedbklipbfbmoaaDoor
open Go.RowKit

theorem stepR_any {o : Nat → Nat × Nat} {x P : Nat} {b : Ps} {RS : B} {ka : Option Addr} {kn kc : Nat} (hx : x < 8) (hRS : RS.length ≤ 1000000) (hb : Bs b) (h4 : b.st ≠ 4) (w : World) (h : IsRf w o x P b RS ka kn kc) :
    Calls Tryd.prog 25 #[.pointer (some ⟨P, 0, none⟩)] w fun e w' => SOut w o x P b RS e w' := by
  have hl := hb.1
  rcases hb.2.1 with ⟨_, e⟩ | ⟨h3, h8, b0, b1, _, e⟩ | ⟨k1, k2, e⟩ | e | e
  · rw [hl] at e
    obtain rfl : b = pz 0 := e
    exact stepR_l hx hRS w h
  · rw [hl] at e
    generalize b.rq = q at h3 h8 b0 b1 e
    subst e
    exact stepR_pd hx hRS h3 b0 b1 hb w h
  · generalize b.past = k at k1 k2 e
    subst e
    exact stepR_pp hx hRS k1 k2 w h
  · subst e
    exact stepR_3 hx hRS w h
  · subst e
    exact absurd rfl h4
end Go.Proofs.YtedbklipbfbmoaaDoor


namespace Go.Proofs.YtedbklipbfbmoaaDoor
open Go.RowKit

theorem FdR.up {w : World} {o0 : Nat → Nat × Nat} {x P : Nat} {te : Nat × Nat} {f : Ps × List Ev} {n : Nat} {wr wr' : World} {b : Ps} {R : B} {acc : List Ev} {ev : Value} (h : FdR w o0 x P te f n wr b R acc ev) (bl : Below wr.heap.size wr wr') : FdR w o0 x P te f n wr' b R acc ev := by
  obtain ⟨o, ka, kn, kc, h1, h2, h3⟩ := h.ex
  have F := Fr.ofBelow (fun _ => False) o bl
  exact ⟨⟨o, ka, kn, kc, h1.fr F id id, h2.fr F id id, h3.trans (F.mono (fun _ h => h.elim))⟩, h.bs, h.eq, h.sz⟩
/-- An event that was read, stored in its block. -/
theorem FdR.read {w : World} {o0 o1 : Nat → Nat × Nat} {x P b : Nat} {te : Nat × Nat} {W1 w2 : World} {acc : List Ev} {evv : Value} (hx : x < 7) (hte : te.1 = 7) (E1 : Evs W1 o1 te evv acc) (F1 : Fr (TF x te) o0 o1 w W1) (R1 : Res W1 o1 b) (hb : w.heap.size ≤ b) {b2 : Ps} {R2 : B} {ev : Ev} {E : List Value} (O2 : OutR W1 o1 x P b2 R2 ev E w2) :
    E.length = 18 ∧ (∀ u ∈ E, u.oneCell' = true) ∧ w2.there b 0 E.length ∧ (w2.setCells b 0 E).rangeAt b 0 E ∧ ∃ o3 ka kn kc, EvV (w2.setCells b 0 E) o3 E ev ∧ Evs (w2.setCells b 0 E) o3 te evv acc ∧ IsRf (w2.setCells b 0 E) o3 x P b2 R2 ka kn kc ∧ Fr (TF x te) o0 o3 w (w2.setCells b 0 E) := by
  obtain ⟨o2, ka, kn, kc, hE, hI, f⟩ := O2
  have R2 := R1.fr f (tx8 (by omega))
  have g : Fr (· = (8, 8)) o2 o2 w2 (w2.setCells b 0 E) := Fr.sets (T := (· = (8, 8))) R2.mark _ _ _
  refine ⟨hE.len, hE.one, by rw [hE.len]; exact R2.th, World.rangeAt_setCells_same _ _ _ _ (by rw [hE.len]; exact R2.th), o2, ka, kn, kc, hE.fr g (fun e => by cases e), (E1.fr f (fun h => ?_) (tx9 (by omega))).fr g (fun e => ?_) (fun e => by cases e), hI.fr g (fun e => by injection e with e _; omega) (fun e => by cases e), (F1.trans (f.mono (fun _ h => .inl h))).setsNew hb _ _⟩
  · have : te.1 = x := h
    omega
  · rw [e] at hte; cases hte
/-- The last step: nothing more. -/
theorem FdR.stop {w : World} {o0 : Nat → Nat × Nat} {x P : Nat} {te : Nat × Nat} {b b' : Ps} {R R' : B} {ev : Ev} {acc : List Ev} {f : Ps × List Ev} (hf : f = ((feed b R).1, acc ++ (feed b R).2)) (hr : Rel b R b' R' ev false) {W : World} {o : Nat → Nat × Nat} {ka : Option Addr} {kn kc : Nat} {v : Value} (h1 : Evs W o te v (acc ++ evs ev)) (h2 : IsRf W o x P b' R' ka kn kc) (h3 : Fr (TF x te) o0 o w W) : FOutR w o0 x P te f v W := by
  obtain ⟨hb, h⟩ := hr
  rcases h with ⟨e, _⟩ | ⟨_, e⟩
  · cases e
  · rw [hf, e]
    refine ⟨o, ka, kn, kc, h1, ?_, h3⟩
    show IsRf W o x P (bse { b' with left := R' }) R' ka kn kc
    rw [show bse { b' with left := R' } = b' by
      have := hb.1
      unfold bse
      cases b'
      simp_all]
    exact h2
/-- A step more: what is told so far, and where it goes on. -/
theorem FdR.go {w : World} {o0 : Nat → Nat × Nat} {x P : Nat} {te : Nat × Nat} {b b' : Ps} {R R' : B} {ev : Ev} {acc : List Ev} {f : Ps × List Ev} {n : Nat} (hn : R.length ≤ n) (hf : f = ((feed b R).1, acc ++ (feed b R).2)) (hr : Rel b R b' R' ev true) {W : World} {o : Nat → Nat × Nat} {ka : Option Addr} {kn kc : Nat} {v : Value} (h1 : Evs W o te v (acc ++ evs ev)) (h2 : IsRf W o x P b' R' ka kn kc) (h3 : Fr (TF x te) o0 o w W) : FdR w o0 x P te f n W b' R' (acc ++ evs ev) v ∧ 2 * R'.length + st1 b' < 2 * R.length + st1 b ∧ (b'.st = 4 → R' = []) := by
  obtain ⟨hb, h⟩ := hr
  rcases h with ⟨_, e, hm, hz⟩ | ⟨e, _⟩
  · refine ⟨⟨⟨o, ka, kn, kc, h1, h2, h3⟩, hb, ?_, ?_⟩, hm, hz⟩
    · rw [hf, e, thn]
      simp
    · have : st1 b ≤ 1 := by unfold st1; split <;> omega
      omega
  · cases e
end Go.Proofs.YtedbklipbfbmoaaDoor


namespace Go.Proofs.YtedbklipbfbmoaaDoor
open Go.RowKit

/-- How much is left, and whether it waits: out of memory. -/
def rlOf (w : World) (P : Nat) : Nat := match w.cell? ⟨P, 0, none⟩ with
  | some (.string s) => s.size
  | _ => 0
def wtOf (w : World) (P : Nat) : Nat := match w.cell? ⟨P, 1, none⟩ with
  | some (.int .i64 v) => if v = 0 then 0 else 1
  | _ => 0
theorem rlOf_is {w : World} {o : Nat → Nat × Nat} {x P : Nat} {b : Ps} {R : B} {ka : Option Addr} {kn kc : Nat} (h : IsRf w o x P b R ka kn kc) : rlOf w P = R.length := by
  unfold rlOf
  rw [h.at_ 0 _ rfl]
  exact S_size R
theorem wtOf_is {w : World} {o : Nat → Nat × Nat} {x P : Nat} {b : Ps} {R : B} {ka : Option Addr} {kn kc : Nat} (hb : Bs b) (h : IsRf w o x P b R ka kn kc) : wtOf w P = st1 b := by
  unfold wtOf st1
  rw [h.at_ 1 _ rfl]
  rcases hb.2.1 with ⟨_, e⟩ | ⟨h3, h8, b0, b1, _, e⟩ | ⟨k1, k2, e⟩ | e | e
  · rw [e]; rfl
  · have e1 : b.st = 1 := by rw [e]; rfl
    rw [e1]
    show (if ((b.rq.verb : Nat) : Int) = 0 then 0 else 1) = 1
    rw [if_neg (by omega)]
  · rw [e]; rfl
  · rw [e]; rfl
  · rw [e]; rfl
theorem bs_shut {b : Ps} (hb : Bs b) (h : b.st = 4) : b = pz 4 := by
  rcases hb.2.1 with ⟨_, e⟩ | ⟨h3, h8, b0, b1, _, e⟩ | ⟨k1, k2, e⟩ | e | e
  · rw [e] at h; cases h
  · rw [e] at h; cases h
  · rw [e] at h; cases h
  · rw [e] at h; cases h
  · exact e
theorem S_add (R : B) (s : ByteArray) : S R ++ s = S (R ++ L s) := L_inj (by rw [L_append, L_S, L_S])
/-- The event of a step, laid in a block of its own. -/
theorem FdR.lay {w : World} {o0 o1 : Nat → Nat × Nat} {x P : Nat} {te : Nat × Nat} {wr w2 W3 : World} {acc : List Ev} {evv : Value} (hx : x < 7) (hte : te.1 = 7) (E1 : Evs wr o1 te evv acc) (F1 : Fr (TF x te) o0 o1 w wr) {b2 : Ps} {R2 : B} {ev : Ev} {E : List Value} (O2 : OutR wr o1 x P b2 R2 ev E w2) (hW : W3 = (w2.alloc (.cells #[.int .i64 0, .slice none 0 0, .int .i64 0, .int .i64 0, .int .i64 0, .int .i64 0, .int .u64 0, .bool false, .string ⟨#[]⟩, .int .i64 0, .slice none 0 0, .bool false, .int .u64 0, .string ⟨#[]⟩, .int .i64 0, .int .i64 0, .int .i64 0, .int .i64 0] 44)).setCells w2.heap.size 0 E) :
    E.length = 18 ∧ (∀ u ∈ E, u.oneCell' = true) ∧ (w2.alloc (.cells #[.int .i64 0, .slice none 0 0, .int .i64 0, .int .i64 0, .int .i64 0, .int .i64 0, .int .u64 0, .bool false, .string ⟨#[]⟩, .int .i64 0, .slice none 0 0, .bool false, .int .u64 0, .string ⟨#[]⟩, .int .i64 0, .int .i64 0, .int .i64 0, .int .i64 0] 44)).there w2.heap.size 0 E.length ∧ W3.rangeAt w2.heap.size 0 E ∧ ∃ o3 ka kn kc, EvV W3 o3 E ev ∧ Evs W3 o3 te evv acc ∧ IsRf W3 o3 x P b2 R2 ka kn kc ∧ Fr (TF x te) o0 o3 w W3 := by
  obtain ⟨o2, ka, kn, kc, hE, hI, f⟩ := O2
  obtain ⟨W2, hW2⟩ : ∃ W2, W2 = w2.alloc (.cells #[.int .i64 0, .slice none 0 0, .int .i64 0, .int .i64 0, .int .i64 0, .int .i64 0, .int .u64 0, .bool false, .string ⟨#[]⟩, .int .i64 0, .slice none 0 0, .bool false, .int .u64 0, .string ⟨#[]⟩, .int .i64 0, .int .i64 0, .int .i64 0, .int .i64 0] 44) := ⟨_, rfl⟩
  have F2 : Fr (fun _ => False) o2 (lab o2 w2.heap.size (8, 8)) w2 W2 := by rw [hW2]; exact Fr.new _ _ _ _ _
  have R2 : Res W2 (lab o2 w2.heap.size (8, 8)) w2.heap.size := by rw [hW2]; exact Res.new44 _ _
  have E2 := E1.fr f (fun h => by have : te.1 = x := h; omega) (tx9 (by omega))
  have G1 := F1.trans (f.mono (fun t h => (.inl h : TF x te t)))
  rw [hW, ← hW2]
  exact FdR.read hx hte (E2.fr F2 id id) (G1.trans (F2.mono (fun _ h => h.elim))) R2 (G1.size) ⟨_, ka, kn, kc, hE.fr F2 id, hI.fr F2 id id, Fr.refl _ _ _⟩
set_option maxRecDepth 100000 in
set_option maxHeartbeats 4000000 in
theorem feedR_any {o : Nat → Nat × Nat} {x P : Nat} {b : Ps} {R : B} {ka : Option Addr} {kn kc : Nat} (hx : x < 7) (te : Nat × Nat) (hte : te.1 = 7) (hb : Bs b) (h4 : b.st = 4 → R = []) (s : ByteArray) (hs : R.length + s.size ≤ 1000000) (w : World) (h : IsRf w o x P b R ka kn kc) :
    Calls Tryd.prog 13 #[.pointer (some ⟨P, 0, none⟩), .string s] w fun e w' => ∃ v, e = .returned v ∧ FOutR w o x P te (feed b (R ++ L s)) v w' := by
  by_cases hst : b.st = 4
  · have c12 : w.cell? ⟨P, 12, none⟩ = some (.bool true) := by
      have := h.at_ 12 (.bool (b.st == 4)) rfl
      rwa [hst] at this
    have HO : Hid (FOutR w o x P te (feed b (R ++ L s)) (.slice none 0 0) w) := Lib.hid (by
      have e4 := bs_shut hb hst
      have eR := h4 hst
      subst e4 eR
      rw [feed_shut]
      exact ⟨o, ka, kn, kc, Evs.nil _ _ _, h, Fr.refl _ _ _⟩)
    clear h hb h4 hst hs
    go_enter Tryd.func13, Tryd.ntmps13
    go_wp2_with fail
    go_ret
    exact ⟨_, rfl, HO.out⟩
  · have c12 : w.cell? ⟨P, 12, none⟩ = some (.bool false) := by
      have := h.at_ 12 (.bool (b.st == 4)) rfl
      rwa [show (b.st == 4) = false from beq_eq_false_iff_ne.2 hst] at this
    have c0 : w.cell? ⟨P, 0, none⟩ = some (.string (S R)) := h.at_ 0 _ rfl
    have fz0 : w.frozen? ⟨P, 0, none⟩ = false := h.fz 0
    obtain ⟨f, hf⟩ : ∃ f, f = feed b (R ++ L s) := ⟨_, rfl⟩
    have hfl : f.2.length ≤ 1000000 := by
      have := feed_len (R ++ L s) b
      rw [hf]; rw [List.length_append, L_len] at this; omega
    have HFL := Lib.hid hfl
    obtain ⟨hI, hF⟩ := h.set (b' := b) (R' := R ++ L s) (by omega) 0 (.string (S R ++ s)) (by decide) rfl (by rw [S_add]; rfl)
    have H0 : Hid (FdR w o x P te f 1000000 (w.setCell ⟨P, 0, none⟩ (.string (S R ++ s))) b (R ++ L s) [] (.slice none 0 0)) := Lib.hid ⟨⟨o, ka, kn, kc, Evs.nil _ _ _, hI, hF.mono (fun _ h => .inl h)⟩, hb, by rw [hf]; rfl, by rw [List.length_append, L_len]; omega⟩
    have HZ0 : Hid (b.st = 4 → R ++ L s = []) := Lib.hid (fun e => absurd e hst)
    have hsz : (S R).size + s.size ≤ 1000000 := by rw [S_size]; exact hs
    rw [← hf]
    clear h hb h4 hst hs hI hF hf hfl
    generalize R ++ L s = R0 at H0 HZ0
    generalize hSR : S R = SR at H0 c0 hsz
    clear hSR
    go_enter Tryd.func13, Tryd.ntmps13
    go_wp2_with fail
    go_loopw [5] (fun ev wr => ∃ (b : Ps) (R : B) (acc : List Ev) (ea : Option Addr) (ec : Nat), ev = .slice ea acc.length ec ∧ Hid (FdR w o x P te f 1000000 wr b R acc (.slice ea acc.length ec)) ∧ Hid (b.st = 4 → R = [])) (fun _ wr => 2 * rlOf wr P + wtOf wr P)
    case atStart => exact ⟨b, R0, [], none, 0, rfl, H0, HZ0⟩
    case round =>
      clear c12 c0 fz0 H0 HZ0
      obtain ⟨b, R, acc, ea, ec, rfl, HF, HZ⟩ := hrel
      by_cases hst : b.st = 4
      · have c12 : wr.cell? ⟨P, 12, none⟩ = some (.bool true) := by
          obtain ⟨o1, ka, kn, kc, h1, h2, h3⟩ := HF.out.ex
          have := h2.at_ 12 (.bool (b.st == 4)) rfl
          rwa [hst] at this
        have HO : Hid (FOutR w o x P te f (.slice ea acc.length ec) wr) := Lib.hid (by
          obtain ⟨o1, ka, kn, kc, h1, h2, h3⟩ := HF.out.ex
          have e4 := bs_shut HF.out.bs hst
          have eR := HZ.out hst
          subst eR
          have := HF.out.eq
          rw [feed_nil, List.append_nil] at this
          rw [this, e4]
          rw [e4] at h2
          exact ⟨o1, ka, kn, kc, h1, h2, h3⟩)
        clear hst HF HZ
        go_wp2_with fail
        go_ret
        exact ⟨_, rfl, HO.out⟩
      · obtain ⟨o1, ka1, kn1, kc1, h1, h2, h3⟩ := HF.out.ex
        have c12 : wr.cell? ⟨P, 12, none⟩ = some (.bool false) := by
          have := h2.at_ 12 (.bool (b.st == 4)) rfl
          rwa [show (b.st == 4) = false from beq_eq_false_iff_ne.2 hst] at this
        have HM : Hid (2 * rlOf wr P + wtOf wr P = 2 * R.length + st1 b) := Lib.hid (by rw [rlOf_is h2, wtOf_is HF.out.bs h2])
        have HST := Lib.hid (stepR_any (by omega) HF.out.sz HF.out.bs hst wr h2)
        have HE := Lib.hid (And.intro h1 h3)
        clear h1 h2 h3 hst
        go_wp2_with fail
        refine HST.out.mono ?_
        rintro e w2 ⟨E, b', R', ev, more, rfl, O2, hr⟩
        obtain ⟨W3, hW3⟩ : ∃ W3, W3 = (w2.alloc (.cells #[.int .i64 0, .slice none 0 0, .int .i64 0, .int .i64 0, .int .i64 0, .int .i64 0, .int .u64 0, .bool false, .string ⟨#[]⟩, .int .i64 0, .slice none 0 0, .bool false, .int .u64 0, .string ⟨#[]⟩, .int .i64 0, .int .i64 0, .int .i64 0, .int .i64 0] 44)).setCells w2.heap.size 0 E := ⟨_, rfl⟩
        obtain ⟨hl, ho, htt, hrg, o3, ka3, kn3, kc3, V3, E3, I3, F3⟩ := FdR.lay hx hte HE.out.1 HE.out.2 O2 hW3
        have HR := Lib.hid hr
        have HL := Lib.hid hl
        have H1 := Lib.hid ho
        have HT := Lib.hid htt
        have HW3 := Lib.hid hW3
        have HG := Lib.hid hrg
        have HV := Lib.hid V3
        have HH := Lib.hid (And.intro E3 (And.intro I3 F3))
        have c0 : W3.cell? ⟨w2.heap.size, 0, none⟩ = some (.int .i64 ((ev.rq.verb : Nat) : Int)) := by
          obtain ⟨va, vn, vc, hEV, _⟩ := V3
          have := hrg 0 (.int .i64 ((ev.rq.verb : Nat) : Int)) (by rw [hEV]; rfl)
          rwa [Nat.zero_add] at this
        have c9 : W3.cell? ⟨w2.heap.size, 9, none⟩ = some (.int .i64 ((ev.kind : Nat) : Int)) := by
          obtain ⟨va, vn, vc, hEV, _⟩ := V3
          have := hrg 9 (.int .i64 ((ev.kind : Nat) : Int)) (by rw [hEV]; rfl)
          rwa [Nat.zero_add] at this
        clear O2 hr hl ho htt hW3 hrg V3 E3 I3 F3
        have hbb : ∃ bb, isn ev = bb := ⟨_, rfl⟩
        obtain ⟨bb, hbb⟩ := hbb
        have HBB := Lib.hid hbb
        unfold isn at hbb
        obtain ⟨V, hV⟩ : ∃ V : Int, V = ((ev.rq.verb : Nat) : Int) := ⟨_, rfl⟩
        obtain ⟨K, hK⟩ : ∃ K : Int, K = ((ev.kind : Nat) : Int) := ⟨_, rfl⟩
        rw [← hV] at hbb c0
        rw [← hK] at hbb c9
        clear hV hK
        obtain ⟨a5, c5, w5, o5, hr5, E5, F5⟩ := HH.out.1.app44 (fun e => by rw [e] at hte; cases hte) HV.out (by have := HF.out.eq; have h2 := HFL.out; rw [this] at h2; simp at h2; omega)
        have I5 := HH.out.2.1.fr F5 (fun e => by rw [← e] at hte; simp at hte; omega) (fun e => by rw [← e] at hte; cases hte)
        have G5 := HH.out.2.2.trans (F5.mono (fun t h => (.inr h : TF x te t)))
        have H5 := Lib.hid (And.intro E5 (And.intro I5 G5))
        obtain ⟨va, vn, vc, hEV, _⟩ := HV.out
        rw [hEV] at hr5
        simp only [Ev.cs] at hr5
        have HEV := Lib.hid hEV
        clear E5 F5 I5 G5 hEV
        have key : ∀ (aa : Option Addr) (n cc : Nat) (W : World), (bb = true ∧ aa = ea ∧ n = acc.length ∧ cc = ec ∧ W = W3) ∨ (bb = false ∧ aa = a5 ∧ n = acc.length + 1 ∧ cc = c5 ∧ W = w5) → Hid ((more = false → FOutR w o x P te f (.slice aa n cc) W) ∧ (more = true → ∃ acc2 b2 R2, n = List.length acc2 ∧ Hid (FdR w o x P te f 1000000 W b2 R2 acc2 (.slice aa n cc)) ∧ Hid (b2.st = 4 → R2 = []) ∧ 2 * rlOf W P + wtOf W P < 2 * rlOf wr P + wtOf wr P)) := by
          intro aa n cc W hw
          refine Lib.hid ?_
          have ex : ∃ o6 ka6 kn6 kc6, Evs W o6 te (.slice aa n cc) (acc ++ evs ev) ∧ IsRf W o6 x P b' R' ka6 kn6 kc6 ∧ Fr (TF x te) o o6 w W := by
            rcases hw with ⟨e1, rfl, rfl, rfl, rfl⟩ | ⟨e1, rfl, rfl, rfl, rfl⟩
            · rw [isn_yes (HBB.out.trans e1), List.append_nil]
              exact ⟨o3, ka3, kn3, kc3, HH.out⟩
            · rw [isn_no (HBB.out.trans e1)]
              exact ⟨o5, ka3, kn3, kc3, H5.out⟩
          have hn : n = (acc ++ evs ev).length := by
            rcases hw with ⟨e1, rfl, rfl, rfl, rfl⟩ | ⟨e1, rfl, rfl, rfl, rfl⟩
            · rw [isn_yes (HBB.out.trans e1), List.append_nil]
            · rw [isn_no (HBB.out.trans e1), List.length_append]; rfl
          obtain ⟨o6, ka6, kn6, kc6, k1, k2, k3⟩ := ex
          refine ⟨fun em => ?_, fun em => ?_⟩
          · have hr := HR.out
            rw [em] at hr
            exact FdR.stop HF.out.eq hr k1 k2 k3
          · have hr := HR.out
            rw [em] at hr
            obtain ⟨q1, q2, q3⟩ := FdR.go HF.out.sz HF.out.eq hr k1 k2 k3
            refine ⟨_, b', R', hn, Lib.hid q1, Lib.hid q3, ?_⟩
            rw [HM.out, rlOf_is k2, wtOf_is hr.1 k2]
            exact q2
        clear HF HZ HM HST HE HR HV HH HBB H5
        subst hbb
        cases hv : (V == 0) with
        | false =>
          cases more with
          | false =>
            have HK := key a5 _ c5 w5 (.inr ⟨by simp_all, rfl, rfl, rfl, rfl⟩)
            clear key
            go_wp2_with (first
              | ((with_reducible show wpList _ _ _ (Oper.mk none (Op.store 44 (.tmp 6) _) _ _ _ _ :: _) _ _); refine wpList_store_mid (by rfl) 44 (.tmp 6) (.tmp 29) (by rfl) w2.heap.size 0 E.toArray (by rfl) (by rfl) HT.out (by rw [List.size_toArray, HL.out]; kernel_rfl) (all_oneCell_toArray H1.out) ?_; rw [show E.toArray.toList = E from rfl, ← HW3.out])
              | ((with_reducible show wpList _ _ _ (Oper.mk (some _) (Op.load 44 (.tmp 6)) _ _ _ _ :: _) _ _); refine wpList_load_mid (by rfl) 44 (.tmp 6) (by rfl) w2.heap.size 0 (by rfl) E _ HG.out Tryd.underlying44 (by rfl) (by rw [HL.out]; kernel_rfl) ?_; rw [HEV.out]; simp only [Ev.cs])
              | (at_builtin; refine wpList_append_run rfl (.tmp 41) (.tmp 43) 42 42 rfl _ _ _ rfl rfl hr5 ?_))
            go_ret
            exact ⟨_, rfl, HK.out.1 (by first | rfl | trivial)⟩
          | true =>
            have HK := key a5 _ c5 w5 (.inr ⟨by simp_all, rfl, rfl, rfl, rfl⟩)
            clear key
            go_wp2_with (first
              | ((with_reducible show wpList _ _ _ (Oper.mk none (Op.store 44 (.tmp 6) _) _ _ _ _ :: _) _ _); refine wpList_store_mid (by rfl) 44 (.tmp 6) (.tmp 29) (by rfl) w2.heap.size 0 E.toArray (by rfl) (by rfl) HT.out (by rw [List.size_toArray, HL.out]; kernel_rfl) (all_oneCell_toArray H1.out) ?_; rw [show E.toArray.toList = E from rfl, ← HW3.out])
              | ((with_reducible show wpList _ _ _ (Oper.mk (some _) (Op.load 44 (.tmp 6)) _ _ _ _ :: _) _ _); refine wpList_load_mid (by rfl) 44 (.tmp 6) (by rfl) w2.heap.size 0 (by rfl) E _ HG.out Tryd.underlying44 (by rfl) (by rw [HL.out]; kernel_rfl) ?_; rw [HEV.out]; simp only [Ev.cs])
              | (at_builtin; refine wpList_append_run rfl (.tmp 41) (.tmp 43) 42 42 rfl _ _ _ rfl rfl hr5 ?_))
            obtain ⟨acc2, b2, R2, e2, k1, k2, k3⟩ := HK.out.2 (by first | rfl | trivial)
            exact ⟨⟨b2, R2, acc2, a5, c5, by rw [← e2], by rw [← e2]; exact k1, k2⟩, k3⟩
        | true =>
          obtain rfl : V = 0 := by simpa using hv
          cases hk : (K == 0) with
          | false =>
            cases more with
            | false =>
              have HK := key a5 _ c5 w5 (.inr ⟨by simp_all, rfl, rfl, rfl, rfl⟩)
              clear key
              go_wp2_with (first
                | ((with_reducible show wpList _ _ _ (Oper.mk none (Op.store 44 (.tmp 6) _) _ _ _ _ :: _) _ _); refine wpList_store_mid (by rfl) 44 (.tmp 6) (.tmp 29) (by rfl) w2.heap.size 0 E.toArray (by rfl) (by rfl) HT.out (by rw [List.size_toArray, HL.out]; kernel_rfl) (all_oneCell_toArray H1.out) ?_; rw [show E.toArray.toList = E from rfl, ← HW3.out])
                | ((with_reducible show wpList _ _ _ (Oper.mk (some _) (Op.load 44 (.tmp 6)) _ _ _ _ :: _) _ _); refine wpList_load_mid (by rfl) 44 (.tmp 6) (by rfl) w2.heap.size 0 (by rfl) E _ HG.out Tryd.underlying44 (by rfl) (by rw [HL.out]; kernel_rfl) ?_; rw [HEV.out]; simp only [Ev.cs])
                | (at_builtin; refine wpList_append_run rfl (.tmp 41) (.tmp 43) 42 42 rfl _ _ _ rfl rfl hr5 ?_))
              go_ret
              exact ⟨_, rfl, HK.out.1 (by first | rfl | trivial)⟩
            | true =>
              have HK := key a5 _ c5 w5 (.inr ⟨by simp_all, rfl, rfl, rfl, rfl⟩)
              clear key
              go_wp2_with (first
                | ((with_reducible show wpList _ _ _ (Oper.mk none (Op.store 44 (.tmp 6) _) _ _ _ _ :: _) _ _); refine wpList_store_mid (by rfl) 44 (.tmp 6) (.tmp 29) (by rfl) w2.heap.size 0 E.toArray (by rfl) (by rfl) HT.out (by rw [List.size_toArray, HL.out]; kernel_rfl) (all_oneCell_toArray H1.out) ?_; rw [show E.toArray.toList = E from rfl, ← HW3.out])
                | ((with_reducible show wpList _ _ _ (Oper.mk (some _) (Op.load 44 (.tmp 6)) _ _ _ _ :: _) _ _); refine wpList_load_mid (by rfl) 44 (.tmp 6) (by rfl) w2.heap.size 0 (by rfl) E _ HG.out Tryd.underlying44 (by rfl) (by rw [HL.out]; kernel_rfl) ?_; rw [HEV.out]; simp only [Ev.cs])
                | (at_builtin; refine wpList_append_run rfl (.tmp 41) (.tmp 43) 42 42 rfl _ _ _ rfl rfl hr5 ?_))
              obtain ⟨acc2, b2, R2, e2, k1, k2, k3⟩ := HK.out.2 (by first | rfl | trivial)
              exact ⟨⟨b2, R2, acc2, a5, c5, by rw [← e2], by rw [← e2]; exact k1, k2⟩, k3⟩
          | true =>
            obtain rfl : K = 0 := by simpa using hk
            cases more with
            | false =>
              have HK := key ea _ ec W3 (.inl ⟨by simp_all, rfl, rfl, rfl, rfl⟩)
              clear key
              go_wp2_with (first
                | ((with_reducible show wpList _ _ _ (Oper.mk none (Op.store 44 (.tmp 6) _) _ _ _ _ :: _) _ _); refine wpList_store_mid (by rfl) 44 (.tmp 6) (.tmp 29) (by rfl) w2.heap.size 0 E.toArray (by rfl) (by rfl) HT.out (by rw [List.size_toArray, HL.out]; kernel_rfl) (all_oneCell_toArray H1.out) ?_; rw [show E.toArray.toList = E from rfl, ← HW3.out])
                | ((with_reducible show wpList _ _ _ (Oper.mk (some _) (Op.load 44 (.tmp 6)) _ _ _ _ :: _) _ _); refine wpList_load_mid (by rfl) 44 (.tmp 6) (by rfl) w2.heap.size 0 (by rfl) E _ HG.out Tryd.underlying44 (by rfl) (by rw [HL.out]; kernel_rfl) ?_; rw [HEV.out]; simp only [Ev.cs])
                | (at_builtin; refine wpList_append_run rfl (.tmp 41) (.tmp 43) 42 42 rfl _ _ _ rfl rfl hr5 ?_))
              go_ret
              exact ⟨_, rfl, HK.out.1 (by first | rfl | trivial)⟩
            | true =>
              have HK := key ea _ ec W3 (.inl ⟨by simp_all, rfl, rfl, rfl, rfl⟩)
              clear key
              go_wp2_with (first
                | ((with_reducible show wpList _ _ _ (Oper.mk none (Op.store 44 (.tmp 6) _) _ _ _ _ :: _) _ _); refine wpList_store_mid (by rfl) 44 (.tmp 6) (.tmp 29) (by rfl) w2.heap.size 0 E.toArray (by rfl) (by rfl) HT.out (by rw [List.size_toArray, HL.out]; kernel_rfl) (all_oneCell_toArray H1.out) ?_; rw [show E.toArray.toList = E from rfl, ← HW3.out])
                | ((with_reducible show wpList _ _ _ (Oper.mk (some _) (Op.load 44 (.tmp 6)) _ _ _ _ :: _) _ _); refine wpList_load_mid (by rfl) 44 (.tmp 6) (by rfl) w2.heap.size 0 (by rfl) E _ HG.out Tryd.underlying44 (by rfl) (by rw [HL.out]; kernel_rfl) ?_; rw [HEV.out]; simp only [Ev.cs])
                | (at_builtin; refine wpList_append_run rfl (.tmp 41) (.tmp 43) 42 42 rfl _ _ _ rfl rfl hr5 ?_))
              obtain ⟨acc2, b2, R2, e2, k1, k2, k3⟩ := HK.out.2 (by first | rfl | trivial)
              exact ⟨⟨b2, R2, acc2, ea, ec, by rw [← e2], by rw [← e2]; exact k1, k2⟩, k3⟩

end Go.Proofs.YtedbklipbfbmoaaDoor
