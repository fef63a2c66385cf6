/-
  THE REFERENCE'S Put.
-/
import Derived.Test.YtaflabjeddckeaaRStep
namespace Go.Proofs.Ytaflabjeddckeaa
open Go.RowKit

/-- What the reference's Put leaves. -/
def RPutP (w : World) (o : Nat → Nat × Nat) (x C : Nat) (a' : A) (w' : World) : Prop := ∃ o', IsRef w' o' x C a' ∧ Fr (fun t => t.1 = x) o o' w w'
theorem mB_A (x n i m : Nat) : mB x n i ≠ mA x m := fun e => by unfold mB mA at e; injection e with _ e; omega
theorem mB_0 (x n i : Nat) : mB x n i ≠ (x, 0) := fun e => by unfold mB at e; injection e with _ e; omega
theorem mA_0 (x n : Nat) : mA x n ≠ (x, 0) := fun e => by unfold mA at e; injection e with _ e; omega
/-- The marks of the two rows are others. -/
theorem A.Ok.apart {a : A} (h : a.Ok) (x : Nat) {r r' : Bool} (hr : 0 < a.cnt r) (hr' : 0 < a.cnt r') (hne : r ≠ r') : mA x (a.cnt r) ≠ mA x (a.cnt r') ∧ ∀ i j, i < a.cnt r → j < a.cnt r' → mB x (a.cnt r) i ≠ mB x (a.cnt r') j := by
  have h3 := h.2.2
  cases r <;> cases r'
  · exact absurd rfl hne
  · have e1 : a.cnt false = a.m := rfl
    have e2 : a.cnt true = a.n := rfl
    rw [e1] at hr ⊢
    rw [e2]
    exact ⟨fun e => by unfold mA at e; injection e with _ e; omega, fun i j hi hj e => by unfold mB at e; injection e with _ e; omega⟩
  · have e1 : a.cnt false = a.m := rfl
    have e2 : a.cnt true = a.n := rfl
    rw [e1] at hr' ⊢
    rw [e2]
    exact ⟨fun e => by unfold mA at e; injection e with _ e; omega, fun i j hi hj e => by unfold mB at e; injection e with _ e; omega⟩
  · exact absurd rfl hne
/-- A bucket turned by a call, its cell stored or left, then another count of keys. -/
theorem IsR.turn {w w' : World} {o o' : Nat → Nat × Nat} {x C : Nat} {a : A} {B : Bool → Nat → List KV} {G : Bool → Nat} (h : IsR w o x C a B G) {k : ByteArray} {l : List KV} {v : Option Int} {q : Int}
    (hl : Has (a.set k v q) (upd2 B (a.row k) (a.at_ k) l))
    (hrow : RowB w' o' x (G (a.row k)) (a.cnt (a.row k)) (updN (B (a.row k)) (a.at_ k) l))
    (F : Fr (fun t => t = mB x (a.cnt (a.row k)) (a.at_ k) ∨ t = mA x (a.cnt (a.row k)) ∨ t = (x, 0)) o o' w w')
    (hc : ∀ j, j ≠ 3 → w'.cell? ⟨C, j, none⟩ = w.cell? ⟨C, j, none⟩) (c3 : w'.cell? ⟨C, 3, none⟩ = some (.int .i64 q)) (fz : ∀ j, w'.frozen? ⟨C, j, none⟩ = false) :
    IsR w' o' x C (a.set k v q) (upd2 B (a.row k) (a.at_ k) l) G := by
  have hlt := World.block_lt_of_cell? _ _ h.c0
  refine ⟨hl, (F.lab C hlt).trans h.oC, (hc 0 (by decide)).trans h.c0, (hc 1 (by decide)).trans h.c1, (hc 2 (by decide)).trans h.c2, c3, fz, fun r hr => ?_⟩
  have hr : 0 < a.cnt r := hr
  show RowB w' o' x (G r) (a.cnt r) _
  by_cases e : r = a.row k
  · subst e
    have : upd2 B (a.row k) (a.at_ k) l (a.row k) = updN (B (a.row k)) (a.at_ k) l := by
      funext i; unfold upd2 updN; simp
    rw [this]; exact hrow
  · have : upd2 B (a.row k) (a.at_ k) l r = B r := by
      funext i; exact upd2_other _ _ _ _ (fun h => e h.1)
    rw [this]
    have hcr := A.cnt_row h.has.ok k
    have hat := A.at_lt h.has.ok k
    obtain ⟨p1, p2⟩ := h.has.ok.apart x hr hcr e
    refine (h.row r hr).fr hr F (fun e => ?_) (fun i hi e => ?_)
    · rcases e with e | e | e
      · exact mB_A _ _ _ _ e.symm
      · exact p1 e
      · exact mA_0 _ _ e
    · rcases e with e | e | e
      · exact p2 i _ hi hat e
      · exact mB_A _ _ _ _ e
      · exact mB_0 _ _ _ e
/-- A bucket's list turned in place: one number. -/
theorem RowB.renum {w : World} {o : Nat → Nat × Nat} {x G n j g c : Nat} {B : Nat → List KV} (h : RowB w o x G n B) (hj : j < n) (hv : w.cell? ⟨G, j, none⟩ = some (.slice (some ⟨g, 0, none⟩) (B j).length c)) (ow : OwnK w o (mB x n j) 2 (.slice (some ⟨g, 0, none⟩) (B j).length c) (B j).length (kvc (B j))) {i : Nat} {k : ByteArray} {u : Int} (v : Int) (hi : (B j)[i]? = some (k, u)) :
    RowB (w.setCell ⟨g, i * 2 + 1, none⟩ (.int .i64 v)) o x G n (updN B j ((B j).set i (k, v))) ∧ Fr (· = mB x n j) o o w (w.setCell ⟨g, i * 2 + 1, none⟩ (.int .i64 v)) := by
  have hil := (List.getElem?_eq_some_iff.1 hi).1
  obtain ⟨g', c', eg, og, _⟩ := ow.there (by omega)
  injection eg with e1 _ _
  injection e1 with e1
  injection e1 with e1
  subst e1
  have fs : Fr (· = mB x n j) o o w (w.setCell ⟨g, i * 2 + 1, none⟩ (.int .i64 v)) := Fr.set (a := ⟨g, i * 2 + 1, none⟩) og _
  have hG : ¬ (o G = mB x n j) := by rw [h.og]; exact fun e => mB_A _ _ _ _ e.symm
  have hlt := h.lt (by omega)
  refine ⟨⟨h.og, fun q hq => ?_, fun q hq => (fs.frozen hlt hG).trans (h.fz q hq)⟩, fs⟩
  by_cases e : q = j
  · subst e
    rw [updN_same, List.length_set]
    refine ⟨_, fs.cell hv hG, ?_⟩
    have := ow.set (i * 2 + 1) (.int .i64 v) rfl (by omega)
    rw [kvc_set _ _ _ _ _ hi] at this
    exact this
  · rw [updN_other _ _ _ e]
    obtain ⟨u', hu, ho⟩ := h.bk q hq
    exact ⟨u', fs.cell hu hG, ho.fr fs (fun e' => e (by unfold mB at e'; injection e' with _ e'; omega))⟩
theorem set_split {l : List KV} {i : Nat} {k : ByteArray} {u : Int} (v : Int) (h : l[i]? = some (k, u)) : l = l.take i ++ (k, u) :: l.drop (i + 1) ∧ l.set i (k, v) = l.take i ++ (k, v) :: l.drop (i + 1) := by
  have hi := (List.getElem?_eq_some_iff.1 h).1
  have he := (List.getElem?_eq_some_iff.1 h).2
  constructor
  · have := List.take_append_drop i l
    rw [List.drop_eq_getElem_cons hi, he] at this
    exact this.symm
  · rw [List.set_eq_take_append_cons_drop, if_pos hi]
/-- Twice as many buckets, in new memory. -/
theorem IsR.grown {w w' : World} {o : Nat → Nat × Nat} {x C : Nat} {b : A} {B : Bool → Nat → List KV} {G : Bool → Nat} (h : IsR w o x C b B G) (hm : b.m = 0) (hn : b.n < 4096) (hb : ∀ q, q < w.heap.size → q ≠ C → w'.heap[q]? = w.heap[q]?)
    (c0 : w'.cell? ⟨C, 0, none⟩ = some (.slice (some ⟨w.heap.size, 0, none⟩) (2 * b.n) (2 * b.n))) (c1 : w'.cell? ⟨C, 1, none⟩ = some (.slice (some ⟨G true, 0, none⟩) b.n b.n)) (c2 : w'.cell? ⟨C, 2, none⟩ = some (.int .i64 0)) (c3 : w'.cell? ⟨C, 3, none⟩ = some (.int .i64 b.keys)) (fz : ∀ j, w'.frozen? ⟨C, j, none⟩ = false)
    (hcl : ∀ i, i < 2 * b.n → w'.cell? ⟨w.heap.size, i, none⟩ = some (.slice none 0 0)) (hfz : ∀ i, w'.frozen? ⟨w.heap.size, i, none⟩ = false) : IsRef w' (lab o w.heap.size (mA x (2 * b.n))) x C b.grow ∨ ¬ (2 * (b.n : Int) < b.keys) := by
  by_cases hk : 2 * (b.n : Int) < b.keys
  · left
    have eg : b.grow = { b with n := 2 * b.n, m := b.n, mv := 0 } := by unfold A.grow; rw [if_pos ⟨hm, hk, hn⟩]
    rw [eg]
    have hn0 := h.has.ok.1
    have hlt := World.block_lt_of_cell? _ _ h.c0
    have rn : RowB w o x (G true) b.n (B true) := h.row true hn0
    have hgl := rn.lt hn0
    have hgC : G true ≠ C := fun e => by have h1 := rn.og; rw [e, h.oC] at h1; exact mA_0 _ _ h1.symm
    have lo : ∀ q, q < w.heap.size → lab o w.heap.size (mA x (2 * b.n)) q = o q := fun q hq => lab_other _ _ _ (Nat.ne_of_lt hq)
    refine ⟨fun r j => if r then [] else B true j, fun r => if r then w.heap.size else G true, h.has.grown hm hn, (lo C hlt).trans h.oC, c0, ?_, c2, c3, fz, fun r hr => ?_⟩
    · show _ = some (oldV b.n (G true))
      rw [c1, oldV_pos (by omega)]
    · cases r with
      | true => exact ⟨lab_same _ _ _, fun i hi => ⟨_, hcl i hi, OwnK.nil _ _ _ _⟩, fun i _ => hfz i⟩
      | false =>
        refine ⟨(lo _ hgl).trans rn.og, fun i hi => ?_, fun i hi => (World.frozen?_of_block (a := ⟨G true, i, none⟩) (hb _ hgl hgC)).trans (rn.fz i hi)⟩
        obtain ⟨v, hv, hl, h1, ho⟩ := rn.bk i hi
        refine ⟨v, (World.cell?_of_block (a := ⟨G true, i, none⟩) (hb _ hgl hgC)).trans hv, hl, h1, ?_⟩
        rcases ho with ho | ⟨g, cap, e1, e2, e3, e4, e5, e6, e7⟩
        · exact .inl ho
        · have gC : g ≠ C := fun e => by rw [e, h.oC] at e2; exact mB_0 _ _ _ e2.symm
          have hbg := hb g e3 gC
          refine .inr ⟨g, cap, e1, (lo _ e3).trans e2, ?_, e4, e5, fun j u hu => (World.cell?_of_block (a := ⟨g, j, none⟩) hbg).trans (e6 j u hu), fun j hj => ⟨?_, (World.frozen?_of_block (a := ⟨g, j, none⟩) hbg).trans (e7 j hj).2⟩⟩
          · have hne : w.heap[g]? ≠ none := by rw [Array.getElem?_eq_getElem e3]; exact Option.some_ne_none _
            rw [← hbg] at hne
            exact Nat.lt_of_not_le fun hle => hne (Array.getElem?_eq_none hle)
          · rw [World.cell?_of_block (a := ⟨g, j, none⟩) hbg]; exact (e7 j hj).1
  · exact .inr hk
theorem Dom.step {a : A} {K : List ByteArray} (h : Dom a K) : Dom a.step K := by unfold Dom; rw [A.step_F]; exact h
set_option maxHeartbeats 2000000 in
theorem rput_any (x C : Nat) (a : A) (k : ByteArray) (v : Int) (hk : k.size ≤ 140737488355328) (hk1 : -1000000000 ≤ a.keys) (hk2 : a.keys ≤ 1000000000) (K : List ByteArray) (hK : Dom a K) (w : World) (o : Nat → Nat × Nat) (h : IsRef w o x C a) :
    Calls Try.prog 17 #[.pointer (some ⟨C, 0, none⟩), .string k, .int .i64 v] w fun e w' => e = .returned (.bool (!(a.F k).isSome)) ∧ RPutP w o x C (a.put k v) w' := by
  obtain ⟨bb, hbb⟩ : ∃ b, b = (!(a.F k).isSome) := ⟨_, rfl⟩
  rw [← hbb]
  have HBB : Hid (bb = (!(a.F k).isSome)) := hbb
  clear hbb
  go_enter Try.func17, Try.ntmps17
  go_wp2_with fail
  refine (rstep_any x C a K hK _ o h).mono ?_
  rintro e w1 ⟨rfl, o1, ⟨B, G, h1⟩, F1⟩
  have HC1 : Hid (IsR w1 o1 x C a.step B G) := h1
  have HF1 : Hid (Fr (fun t => t.1 = x) o o1 w w1) := F1
  clear h h1 F1
  go_wp2_with fail
  refine (rbucket_any x C a.step k hk _ o1 B G HC1.out).mono ?_
  rintro e w2 ⟨rfl, d, rfl⟩
  obtain ⟨W2, hW2⟩ : ∃ W2, W2 = w1.drewN d := ⟨_, rfl⟩
  have bd : Below w1.heap.size w1 W2 := by rw [hW2]; exact below_drewN (Below.refl _ _) d
  have HC : Hid (IsR W2 o1 x C a.step B G) := HC1.out.below bd
  have HF2 : Hid (Fr (fun t => t.1 = x) o o1 w W2) := HF1.out.trans (Fr.ofBelow _ o1 bd)
  rw [← hW2]
  clear hW2 bd HC1 HF1
  obtain ⟨rr, hat⟩ := HC.out.bucket k
  have hsh := HC.out.has.short hK.step hat
  obtain ⟨bv, hbv, ow⟩ := rr.bk _ hat
  have hbz := rr.fz _ hat
  obtain ⟨va, vc, rfl, _⟩ := ow.form
  obtain ⟨Gr, hGr⟩ : ∃ g, g = G (a.step.row k) := ⟨_, rfl⟩
  obtain ⟨t, ht⟩ : ∃ t, t = a.step.at_ k := ⟨_, rfl⟩
  obtain ⟨nr, hnr⟩ : ∃ t, t = a.step.cnt (a.step.row k) := ⟨_, rfl⟩
  obtain ⟨l, hl⟩ : ∃ l, l = B (a.step.row k) (a.step.at_ k) := ⟨_, rfl⟩
  have HL : Hid (l = B (a.step.row k) (a.step.at_ k)) := hl
  have HRR : Hid (RowB W2 o1 x Gr nr (B (a.step.row k))) := by rw [hGr, hnr]; exact rr
  have HG : Hid (Gr = G (a.step.row k) ∧ t = a.step.at_ k ∧ nr = a.step.cnt (a.step.row k)) := ⟨hGr, ht, hnr⟩
  rw [← hl] at hsh hbv ow
  rw [← hGr, ← ht] at hbv hbz ⊢
  rw [← ht, ← hnr] at ow hat
  obtain ⟨n, hn⟩ : ∃ n, n = l.length := ⟨_, rfl⟩
  have HN : Hid (n = l.length) := hn
  rw [← hn] at hsh hbv ow
  have HOW : Hid (OwnK W2 o1 (mB x nr t) 2 (.slice va n vc) n (kvc l)) := ow
  have HAT : Hid (t < nr) := hat
  have HFS : Hid (a.step.F = a.F) := a.step_F
  have HKS : Hid (a.step.keys = a.keys) := a.step_keys
  clear rr ow hl hn hGr ht hnr hat
  go_wp2_with fail
  go_loopw [8] (fun y wr => ∃ j : Nat, y = .int .i64 (j : Int) ∧ j ≤ n ∧ Hid (∀ (i : Nat) p, i < j → l[i]? = some p → p.1 ≠ k) ∧ W2 = wr) (fun y _ => n - (intOf y).toNat)
  case atStart => exact ⟨0, rfl, by omega, fun i p hi => by omega, rfl⟩
  case round =>
    obtain ⟨j, rfl, hj, HP, rfl⟩ := hrel
    by_cases hjn : j < n
    · have k1 : (j : Int) < (n : Int) := by omega
      obtain ⟨g, c, eg, og, _, _, _, hcell, hroom⟩ := HOW.out.there (by omega)
      injection eg with e1 _ e3
      subst e1 e3
      obtain ⟨⟨k', u⟩, hp⟩ : ∃ p, l[j]? = some p := ⟨_, List.getElem?_eq_getElem (by rw [← HN.out]; exact hjn)⟩
      obtain ⟨q1, q2⟩ := kvc_at _ _ _ hp
      have y1 := hcell _ _ q1
      have y2 := hcell _ _ q2
      simp only at y1 y2
      have yz := (hroom (j * 2 + 1) (by omega)).2
      have HPj : Hid (l[j]? = some (k', u)) := hp
      clear hcell q1 q2 hp hroom
      by_cases hpk : k' = k
      · subst hpk
        have s1 : (k'.toList == k'.toList) = true := by rw [str_beq]; simp
        have hF : a.F k' = some u := by
          rw [← HFS.out]
          exact (HC.out.has.at_ k' u).2 (by rw [← HL.out]; exact List.mem_of_getElem? HPj.out)
        have HQ1 : Hid ((!(a.F k').isSome) = false) := by show _ = _; rw [hF]; rfl
        have HQ2 : Hid (a.put k' v = a.step.set k' (some v) a.step.keys) := by show _ = _; unfold A.put; rw [hF, a.step_keys]; rfl
        have HR : Hid (RPutP w o x C (a.put k' v) (W2.setCell ⟨g, j * 2 + 1, none⟩ (.int .i64 v))) := by
          obtain ⟨g1, g2, g3⟩ := HG.out
          have hr := HRR.out.renum (j := t) HAT.out (by rw [show (B (a.step.row k') t) = l by rw [HL.out, g2], ← HN.out]; exact hbv) (by rw [show (B (a.step.row k') t) = l by rw [HL.out, g2], ← HN.out]; exact HOW.out) (i := j) (k := k') (u := u) v (by rw [show (B (a.step.row k') t) = l by rw [HL.out, g2]]; exact HPj.out)
          rw [show (B (a.step.row k') t) = l by rw [HL.out, g2]] at hr
          obtain ⟨hr1, hr2⟩ := hr
          obtain ⟨sp1, sp2⟩ := set_split v HPj.out
          have hso := HC.out.has.setOld k' u v a.step.keys _ _ (HL.out.symm.trans sp1)
          rw [← sp2] at hso
          have gC : ¬ (o1 C = mB x nr t) := by rw [HC.out.oC]; exact fun e => mB_0 _ _ _ e.symm
          have hCl := World.block_lt_of_cell? _ _ HC.out.c0
          rw [HQ2.out]
          refine ⟨o1, ⟨_, G, HC.out.turn hso ?_ ?_ (fun i _ => ?_) ?_ (fun i => ?_)⟩, HF2.out.trans (hr2.mono (fun t e => by rw [e]; rfl))⟩
          · rw [← g1, ← g2, ← g3]; exact hr1
          · rw [← g2, ← g3]; exact hr2.mono (fun t e => .inl e)
          · exact World.cell?_of_block (a := ⟨C, i, none⟩) (hr2.block C hCl gC)
          · exact (World.cell?_of_block (a := ⟨C, 3, none⟩) (hr2.block C hCl gC)).trans HC.out.c3
          · exact (hr2.frozen hCl gC).trans (HC.out.fz i)
        clear hF
        go_wp2_with fail
        go_ret
        exact ⟨by rw [HBB.out, HQ1.out]; rfl, HR.out⟩
      · have s1 : (k'.toList == k.toList) = false := by rw [str_beq, decide_eq_false hpk]
        have HPK : Hid (k' ≠ k) := hpk
        clear hpk
        go_wp2_with fail
        refine ⟨⟨j + 1, by go_num, by omega, fun i q hi hq => ?_, trivial⟩, by simp [intOf]; omega⟩
        by_cases e : i = j
        · rw [e, HPj.out] at hq; injection hq with hq; rw [← hq]; exact HPK.out
        · exact HP.out i q (by omega) hq
    · have k1 : decide ((j : Int) < (n : Int)) = false := by simp; omega
      have hno : ∀ (i : Nat) p, l[i]? = some p → p.1 ≠ k := fun i p hp => HP.out i p (by have := (List.getElem?_eq_some_iff.1 hp).1; rw [← HN.out] at this; omega) hp
      have hF : a.F k = none := by
        rw [← HFS.out]
        exact HC.out.has.no (fun i p hp => hno i p (by rw [HL.out]; exact hp))
      have HQ1 : Hid ((!(a.F k).isSome) = true) := by show _ = _; rw [hF]; rfl
      have HQ2 : Hid (a.put k v = (a.step.set k (some v) (a.keys + 1)).grow) := by show _ = _; unfold A.put; rw [hF]; rfl
      obtain ⟨v3, w3, o3, hrun, O3, F3⟩ := app_one 66 68 (.agg #[.string ⟨#[]⟩, .int .i64 0]) 24 under66 info68 (by kernel_rfl) HOW.out [.string k, .int .i64 v] rfl (fun x hx => by simp at hx; rcases hx with rfl | rfl <;> rfl) (by omega) (by omega)
      obtain ⟨a3, c3, rfl, _⟩ := O3.form
      have O3' : OwnK w3 o3 (mB x nr t) 2 (.slice a3 (n + 1) c3) (l ++ [(k, v)]).length (kvc (l ++ [(k, v)])) := by
        rw [kvc_append, List.length_append, ← HN.out]; exact O3
      obtain ⟨r4, F4⟩ := HRR.out.turn HAT.out F3 O3'
      have gC : ¬ (o1 C = mB x nr t) := by rw [HC.out.oC]; exact fun e => mB_0 _ _ _ e.symm
      have gG : ¬ (o1 Gr = mB x nr t) := by rw [HRR.out.og]; exact fun e => mB_A _ _ _ _ e.symm
      have hCl := World.block_lt_of_cell? _ _ HC.out.c0
      have hGC : Gr ≠ C := fun e => by have h1 := HRR.out.og; rw [e, HC.out.oC] at h1; exact mA_0 _ _ h1.symm
      have x3 := F3.cell hbv gG
      have xz : w3.frozen? ⟨Gr, t, none⟩ = false := (F3.frozen (World.block_lt_of_cell? _ _ hbv) gG).trans hbz
      obtain ⟨Z, hZ⟩ : ∃ Z, Z = w3.setCell ⟨Gr, t, none⟩ (.slice a3 (n + 1) c3) := ⟨_, rfl⟩
      rw [← hZ] at r4 F4
      have cZ : ∀ i, Z.cell? ⟨C, i, none⟩ = W2.cell? ⟨C, i, none⟩ := fun i => by
        rw [hZ]; exact World.cell?_of_block (a := ⟨C, i, none⟩) ((blk_set _ _ _ (fun e => hGC e.symm)).trans (F3.block C hCl gC))
      have zZ : ∀ i, Z.frozen? ⟨C, i, none⟩ = false := fun i => by
        rw [hZ, World.frozen?_setCell]; exact (F3.frozen hCl gC).trans (HC.out.fz i)
      have oC3 : o3 C = (x, 0) := (F3.lab C hCl).trans HC.out.oC
      have z3 : Z.cell? ⟨C, 3, none⟩ = some (.int .i64 a.keys) := (cZ 3).trans (by rw [← HKS.out]; exact HC.out.c3)
      have z3f := zZ 3
      have HNew : Hid (∃ B2, IsR (Z.setCell ⟨C, 3, none⟩ (.int .i64 (a.keys + 1))) o3 x C (a.step.set k (some v) (a.keys + 1)) B2 G) := by
        obtain ⟨g1, g2, g3⟩ := HG.out
        have hsn := HC.out.has.setNew k v (a.keys + 1) (fun p hp => by
          rw [← HL.out] at hp
          obtain ⟨i, hi⟩ := List.mem_iff_getElem?.1 hp
          exact hno i p hi)
        rw [← HL.out] at hsn
        have fs : Fr (· = (x, 0)) o3 o3 Z (Z.setCell ⟨C, 3, none⟩ (.int .i64 (a.keys + 1))) := Fr.set (a := ⟨C, 3, none⟩) oC3 _
        refine ⟨_, HC.out.turn hsn ?_ ?_ (fun i hi => ?_) (World.cell?_setCell_same _ _ _ z3) (fun i => by rw [World.frozen?_setCell]; exact zZ i)⟩
        · rw [← g1, ← g2, ← g3]
          exact r4.fr (Nat.lt_of_le_of_lt (Nat.zero_le _) HAT.out) fs (mA_0 _ _) (fun i _ => mB_0 _ _ _)
        · rw [← g2, ← g3]
          exact (F4.mono (fun t e => by rcases e with e | e; exact .inl e; exact .inr (.inl e))).trans (fs.mono (fun t e => .inr (.inr e)))
        · rw [World.cell?_setCell_other _ _ _ _ (fun e => hi (by injection e with _ e; exact e.symm))]; exact cZ i
      have HF5 : Hid (Fr (fun t => t.1 = x) o o3 w (Z.setCell ⟨C, 3, none⟩ (.int .i64 (a.keys + 1)))) :=
        (HF2.out.trans (F4.mono (fun t e => by rcases e with rfl | rfl <;> rfl))).trans (Fr.set (a := ⟨C, 3, none⟩) (by show (o3 C).1 = x; rw [oC3]) _)
      have HZ : Hid (Z = w3.setCell ⟨Gr, t, none⟩ (.slice a3 (n + 1) c3)) := hZ
      clear hF hno O3 O3' F3 r4 F4 gC gG hCl cZ zZ oC3 hZ HOW HRR HL HN HP
      go_upto_region 10 with (at_builtin; refine wpList_append_run rfl (.tmp 41) (.tmp 45) 66 66 rfl _ _ _ rfl rfl hrun ?_)
      rw [← HZ.out]
      clear hrun x3 xz HZ hbv hbz
      go_upto_region 11 with fail
      obtain ⟨B2, hI⟩ := HNew.out
      obtain ⟨Y, hY⟩ : ∃ Y, Y = Z.setCell ⟨C, 3, none⟩ (.int .i64 (a.keys + 1)) := ⟨_, rfl⟩
      rw [← hY] at hI HF5 ⊢
      have HI : Hid (IsR Y o3 x C (a.step.set k (some v) (a.keys + 1)) B2 G) := hI
      clear hY HNew hI z3 z3f
      obtain ⟨b, hb⟩ : ∃ b, b = a.step.set k (some v) (a.keys + 1) := ⟨_, rfl⟩
      have hbk : b.keys = a.keys + 1 := by rw [hb]; rfl
      rw [← hb] at HI HQ2
      clear hb
      have c0 := HI.out.c0
      have c1 := HI.out.c1
      have c2 := HI.out.c2
      have c3 := HI.out.c3
      have hok := HI.out.has.ok
      have hn0 := hok.1
      have hn2 := hok.2.1
      have hm2 : b.m ≤ 8192 := by have := hok.2.2; omega
      obtain ⟨s, hs⟩ := oldV_form b.m (G false)
      rw [hs] at c1
      rw [hbk] at c3
      have z0 := HI.out.fz 0
      have z1 := HI.out.fz 1
      have z2 := HI.out.fz 2
      by_cases hg : b.m = 0 ∧ 2 * (b.n : Int) < b.keys ∧ b.n < 4096
      · have eg : b.grow = { b with n := 2 * b.n, m := b.n, mv := 0 } := by unfold A.grow; rw [if_pos hg]
        obtain ⟨g1, g2, g3⟩ := hg
        rw [hbk] at g2
        have HG1 : Hid (b.m = 0) := g1
        have HG3 : Hid (b.n < 4096) := g3
        have j1 : ((b.m : Int) == 0) = true := by simp; omega
        have j2 : decide (2 * (b.n : Int) < a.keys + 1) = true := by simp; omega
        have j3 : decide ((b.n : Int) < 4096) = true := by simp; omega
        have HEG : Hid (b.grow = { b with n := 2 * b.n, m := b.n, mv := 0 }) := eg
        clear eg g1 hok hs
        go_quiet (fail)
        go_wp2_with fail
        obtain ⟨Y2, hY2⟩ : ∃ Y2, Y2 = Y.drewN nq := ⟨_, rfl⟩
        have by2 : Below Y.heap.size Y Y2 := by rw [hY2]; exact below_drewN (Below.refl _ _) nq
        have HI2 : Hid (IsR Y2 o3 x C b B2 G) := HI.out.below by2
        have HF6 : Hid (Fr (fun t => t.1 = x) o o3 w Y2) := HF5.out.trans (Fr.ofBelow _ o3 by2)
        rw [← hY2]
        clear hY2 by2 c0 c1 c2 c3 z0 z1 z2 HI HF5
        have u0 := HI2.out.c0
        have u1 := HI2.out.c1
        have u2 := HI2.out.c2
        have u3 := HI2.out.c3
        have uz0 := HI2.out.fz 0
        have uz1 := HI2.out.fz 1
        have uz2 := HI2.out.fz 2
        obtain ⟨s', hs'⟩ := oldV_form b.m (G false)
        rw [hs'] at u1
        have hCl := World.block_lt_of_cell? _ _ u0
        have oC := HI2.out.oC
        have gk : ∀ {Wf : World}, IsRef Wf (lab o3 Y2.heap.size (mA x (2 * b.n))) x C b.grow ∨ ¬ (2 * (b.n : Int) < b.keys) → Fr (fun t => t.1 = x) o3 (lab o3 Y2.heap.size (mA x (2 * b.n))) Y2 Wf → RPutP w o x C (a.put k v) Wf := fun h1 h2 => by
          rcases h1 with h1 | h1
          · exact ⟨_, by rw [HQ2.out]; exact h1, HF6.out.trans h2⟩
          · exact absurd (by rw [hbk]; exact g2) h1
        -- the row is made first
        obtain ⟨ob, hrun, hcl, hfz⟩ := make_rows Y2.drew (2 * b.n) (2 * (b.n : Int)) (by omega) (by omega)
        have N7 : ∀ U, Fr U o3 (lab o3 Y2.heap.size (mA x (2 * b.n))) Y2.drew (Y2.drew.alloc ob) := fun U => Fr.new U o3 Y2.drew ob (mA x (2 * b.n))
        obtain ⟨X3, hX3⟩ : ∃ X3, X3 = Y2.drew.alloc ob := ⟨_, rfl⟩
        have up3 : ∀ q, q < Y2.heap.size → X3.heap[q]? = Y2.heap[q]? := fun q hq => by rw [hX3]; exact (Below.heap_alloc _ _ _ hq).trans rfl
        rw [← hX3] at hrun hcl hfz N7
        have hrun1 : (Instr.makeSlice 41 (.int .i64 (2 * (b.n : Int))) (.int .i64 (2 * (b.n : Int)))).run Try.prog Y2.drew = .ok (.slice (some ⟨Y2.heap.size, 0, none⟩) (2 * b.n) (2 * b.n)) X3 := hrun
        have cX : ∀ j, X3.cell? ⟨C, j, none⟩ = Y2.cell? ⟨C, j, none⟩ := fun j => World.cell?_of_block (a := ⟨C, j, none⟩) (up3 C hCl)
        have zX : ∀ j, X3.frozen? ⟨C, j, none⟩ = false := fun j => (World.frozen?_of_block (a := ⟨C, j, none⟩) (up3 C hCl)).trans (HI2.out.fz j)
        have oC' : lab o3 Y2.heap.size (mA x (2 * b.n)) C = (x, 0) := (lab_other _ _ _ (Nat.ne_of_lt hCl)).trans oC
        have oC'' : (lab o3 Y2.heap.size (mA x (2 * b.n)) C).1 = x := by rw [oC']
        have hneC : Y2.heap.size ≠ C := fun e => by have : C < Y2.heap.size := hCl; omega
        have G1 : Hid (RPutP w o x C (a.put k v) (((X3.setCell ⟨C, 1, none⟩ (.slice (some ⟨G true, 0, none⟩) b.n b.n)).setCell ⟨C, 0, none⟩ (.slice (some ⟨Y2.heap.size, 0, none⟩) (2 * b.n) (2 * b.n))).setCell ⟨C, 2, none⟩ (.int .i64 0))) := by
          have blk : ∀ q, q ≠ C → (((X3.setCell ⟨C, 1, none⟩ (.slice (some ⟨G true, 0, none⟩) b.n b.n)).setCell ⟨C, 0, none⟩ (.slice (some ⟨Y2.heap.size, 0, none⟩) (2 * b.n) (2 * b.n))).setCell ⟨C, 2, none⟩ (.int .i64 0)).heap[q]? = X3.heap[q]? := fun q hq => (blk_set _ _ _ hq).trans (heap_set2 _ _ _ _ _ hq hq)
          refine gk (HI2.out.grown HG1.out HG3.out (fun q h1 h2 => (blk q h2).trans (up3 q h1)) ?_ ?_ ?_ ?_ (fun j => ?_) (fun i hi => ?_) (fun i => ?_)) ?_
          · rw [World.cell?_setCell_other _ _ _ _ (fun e => by injection e with _ e; cases e)]
            exact World.cell?_setCell_same _ _ _ ((World.cell?_setCell_other _ _ _ _ (fun e => by injection e with _ e; cases e)).trans ((cX 0).trans u0))
          · rw [World.cell?_setCell_other _ _ _ _ (fun e => by injection e with _ e; cases e), World.cell?_setCell_other _ _ _ _ (fun e => by injection e with _ e; cases e)]
            exact World.cell?_setCell_same _ _ _ ((cX 1).trans u1)
          · exact World.cell?_setCell_same _ _ _ ((World.cell?_setCell_other _ _ _ _ (fun e => by injection e with _ e; cases e)).trans ((World.cell?_setCell_other _ _ _ _ (fun e => by injection e with _ e; cases e)).trans ((cX 2).trans u2)))
          · rw [World.cell?_setCell_other _ _ _ _ (fun e => by injection e with _ e; cases e), World.cell?_setCell_other _ _ _ _ (fun e => by injection e with _ e; cases e), World.cell?_setCell_other _ _ _ _ (fun e => by injection e with _ e; cases e)]
            exact (cX 3).trans u3
          · rw [World.frozen?_setCell, World.frozen?_setCell, World.frozen?_setCell]; exact zX j
          · exact (World.cell?_of_block (a := ⟨Y2.heap.size, i, none⟩) (blk _ hneC)).trans (hcl i hi)
          · exact (World.frozen?_of_block (a := ⟨Y2.heap.size, i, none⟩) (blk _ hneC)).trans (hfz i)
          · exact ((((Fr.drew1 _ o3 Y2).trans (N7 _)).trans (Fr.set (a := ⟨C, 1, none⟩) oC'' _)).trans (Fr.set (a := ⟨C, 0, none⟩) oC'' _)).trans (Fr.set (a := ⟨C, 2, none⟩) oC'' _)
        -- the first store comes ahead of it
        obtain ⟨ob4, hrun4, hcl4, hfz4⟩ := make_rows (Y2.setCell ⟨C, 1, none⟩ (.slice (some ⟨G true, 0, none⟩) b.n b.n)).drew (2 * b.n) (2 * (b.n : Int)) (by omega) (by omega)
        have hs4 : (Y2.setCell ⟨C, 1, none⟩ (.slice (some ⟨G true, 0, none⟩) b.n b.n)).drew.heap.size = Y2.heap.size := by
          show (Y2.setCell ⟨C, 1, none⟩ (.slice (some ⟨G true, 0, none⟩) b.n b.n)).heap.size = _
          simp [World.setCell]
        have N8 : ∀ U, Fr U o3 (lab o3 Y2.heap.size (mA x (2 * b.n))) (Y2.setCell ⟨C, 1, none⟩ (.slice (some ⟨G true, 0, none⟩) b.n b.n)).drew ((Y2.setCell ⟨C, 1, none⟩ (.slice (some ⟨G true, 0, none⟩) b.n b.n)).drew.alloc ob4) := fun U => by
          have := Fr.new U o3 (Y2.setCell ⟨C, 1, none⟩ (.slice (some ⟨G true, 0, none⟩) b.n b.n)).drew ob4 (mA x (2 * b.n))
          rw [hs4] at this; exact this
        rw [hs4] at hrun4 hcl4 hfz4
        obtain ⟨X4, hX4⟩ : ∃ X4, X4 = (Y2.setCell ⟨C, 1, none⟩ (.slice (some ⟨G true, 0, none⟩) b.n b.n)).drew.alloc ob4 := ⟨_, rfl⟩
        have up4 : ∀ q, q < Y2.heap.size → X4.heap[q]? = (Y2.setCell ⟨C, 1, none⟩ (.slice (some ⟨G true, 0, none⟩) b.n b.n)).heap[q]? := fun q hq => by
          rw [hX4]; exact (Below.heap_alloc _ _ _ (by rw [hs4]; exact hq)).trans rfl
        rw [← hX4] at hrun4 hcl4 hfz4 N8
        have cX4 : ∀ j, X4.cell? ⟨C, j, none⟩ = (Y2.setCell ⟨C, 1, none⟩ (.slice (some ⟨G true, 0, none⟩) b.n b.n)).cell? ⟨C, j, none⟩ := fun j => World.cell?_of_block (a := ⟨C, j, none⟩) (up4 C hCl)
        have zX4 : ∀ j, X4.frozen? ⟨C, j, none⟩ = false := fun j => (World.frozen?_of_block (a := ⟨C, j, none⟩) (up4 C hCl)).trans (by rw [World.frozen?_setCell]; exact HI2.out.fz j)
        have v0 : X4.cell? ⟨C, 0, none⟩ = some (.slice (some ⟨G true, 0, none⟩) b.n b.n) := (cX4 0).trans ((World.cell?_setCell_other _ _ _ _ (fun e => by injection e with _ e; cases e)).trans u0)
        have v1 : X4.cell? ⟨C, 1, none⟩ = some (.slice (some ⟨G true, 0, none⟩) b.n b.n) := (cX4 1).trans (World.cell?_setCell_same _ _ _ u1)
        have v2 : X4.cell? ⟨C, 2, none⟩ = some (.int .i64 ((b.mv : Nat) : Int)) := (cX4 2).trans ((World.cell?_setCell_other _ _ _ _ (fun e => by injection e with _ e; cases e)).trans u2)
        have v3 : X4.cell? ⟨C, 3, none⟩ = some (.int .i64 b.keys) := (cX4 3).trans ((World.cell?_setCell_other _ _ _ _ (fun e => by injection e with _ e; cases e)).trans u3)
        have G2 : Hid (RPutP w o x C (a.put k v) ((X4.setCell ⟨C, 0, none⟩ (.slice (some ⟨Y2.heap.size, 0, none⟩) (2 * b.n) (2 * b.n))).setCell ⟨C, 2, none⟩ (.int .i64 0))) := by
          have blk : ∀ q, q ≠ C → ((X4.setCell ⟨C, 0, none⟩ (.slice (some ⟨Y2.heap.size, 0, none⟩) (2 * b.n) (2 * b.n))).setCell ⟨C, 2, none⟩ (.int .i64 0)).heap[q]? = X4.heap[q]? := fun q hq => heap_set2 _ _ _ _ _ hq hq
          refine gk (HI2.out.grown HG1.out HG3.out (fun q h1 h2 => (blk q h2).trans ((up4 q h1).trans (blk_set _ _ _ h2))) ?_ ?_ ?_ ?_ (fun j => ?_) (fun i hi => ?_) (fun i => ?_)) ?_
          · rw [World.cell?_setCell_other _ _ _ _ (fun e => by injection e with _ e; cases e)]
            exact World.cell?_setCell_same _ _ _ v0
          · rw [World.cell?_setCell_other _ _ _ _ (fun e => by injection e with _ e; cases e), World.cell?_setCell_other _ _ _ _ (fun e => by injection e with _ e; cases e)]
            exact v1
          · exact World.cell?_setCell_same _ _ _ ((World.cell?_setCell_other _ _ _ _ (fun e => by injection e with _ e; cases e)).trans v2)
          · rw [World.cell?_setCell_other _ _ _ _ (fun e => by injection e with _ e; cases e), World.cell?_setCell_other _ _ _ _ (fun e => by injection e with _ e; cases e)]
            exact v3
          · rw [World.frozen?_setCell, World.frozen?_setCell]; exact zX4 j
          · exact (World.cell?_of_block (a := ⟨Y2.heap.size, i, none⟩) (blk _ hneC)).trans (hcl4 i hi)
          · exact (World.frozen?_of_block (a := ⟨Y2.heap.size, i, none⟩) (blk _ hneC)).trans (hfz4 i)
          · have oC1 : (o3 C).1 = x := by rw [oC]
            exact ((((Fr.set (a := ⟨C, 1, none⟩) oC1 _).trans (Fr.drew1 _ o3 _)).trans (N8 _)).trans (Fr.set (a := ⟨C, 0, none⟩) oC'' _)).trans (Fr.set (a := ⟨C, 2, none⟩) oC'' _)
        have y0 := (cX 0).trans u0
        have y1 := (cX 1).trans u1
        have y2 := (cX 2).trans u2
        have yz0 := zX 0
        have yz1 := zX 1
        have yz2 := zX 2
        have vz0 := zX4 0
        have vz2 := zX4 2
        have hw2 : IntKind.i64.wrap (2 * (b.n : Int)) = 2 * (b.n : Int) := by rw [IntKind.wrap_i64]; omega
        clear hX3 hX4 hrun hcl hfz N7 N8 hs' up3 up4 cX zX cX4 zX4 hcl4 hfz4 hs4 gk oC oC' oC'' hneC
        go_region
        all_goals
          go_wp2_with fail
          go_ret
          exact ⟨by rw [HBB.out, HQ1.out]; rfl, by first | exact G1.out | exact G2.out⟩
      · have eg : b.grow = b := by unfold A.grow; rw [if_neg hg]
        have HR : Hid (RPutP w o x C (a.put k v) Y) := ⟨o3, ⟨B2, G, by rw [HQ2.out, eg]; exact HI.out⟩, HF5.out⟩
        have hc : 0 < b.m ∨ (b.m = 0 ∧ a.keys + 1 ≤ 2 * (b.n : Int)) ∨ (b.m = 0 ∧ 2 * (b.n : Int) < a.keys + 1 ∧ 4096 ≤ b.n) := by rw [hbk] at hg; omega
        clear hg hs eg hok
        have HRq : Hid (∀ q, RPutP w o x C (a.put k v) (Y.drewN q)) := fun q => by
          obtain ⟨o9, i9, f9⟩ := HR.out
          exact ⟨o9, i9.below (below_drewN (Below.refl _ _) q), f9.trans (Fr.drewN _ o9 Y q)⟩
        rcases hc with g1 | ⟨g1, g2⟩ | ⟨g1, g2, g3⟩
        · have j1 : ((b.m : Int) == 0) = false := by simp; omega
          go_quiet (fail)
          go_wp2_with fail
          go_ret
          exact ⟨by rw [HBB.out, HQ1.out]; rfl, HRq.out _⟩
        · have j1 : ((b.m : Int) == 0) = true := by simp; omega
          have j2 : decide (2 * (b.n : Int) < a.keys + 1) = false := by simp; omega
          clear g1
          go_quiet (fail)
          go_wp2_with fail
          go_ret
          exact ⟨by rw [HBB.out, HQ1.out]; rfl, HRq.out _⟩
        · have j1 : ((b.m : Int) == 0) = true := by simp; omega
          have j2 : decide (2 * (b.n : Int) < a.keys + 1) = true := by simp; omega
          have j3 : decide ((b.n : Int) < 4096) = false := by simp; omega
          clear g1
          go_quiet (fail)
          go_wp2_with fail
          go_ret
          exact ⟨by rw [HBB.out, HQ1.out]; rfl, HRq.out _⟩
end Go.Proofs.Ytaflabjeddckeaa
