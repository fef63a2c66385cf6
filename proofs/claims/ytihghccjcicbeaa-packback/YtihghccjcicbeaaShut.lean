/-
  PACKBACK's inner function: what was written is read back.
-/
import Derived.Test.YtihghccjcicbeaaWrs
import Derived.Deep.RegionWith
namespace Go.Proofs.Ytihghccjcicbeaa
open Go.RowKit

/-- n numbers, n strings lie at a. -/
def IntsF (w : World) (a : Option Addr) (N : Nat → Int) (n : Nat) : Prop := n = 0 ∨ ∃ p off, a = some ⟨p, off, none⟩ ∧ ∀ i, i < n → w.cell? ⟨p, off + i, none⟩ = some (.int .i64 (N i))
def StrF (w : World) (a : Option Addr) (T : Nat → ByteArray) (n : Nat) : Prop := n = 0 ∨ ∃ p off, a = some ⟨p, off, none⟩ ∧ ∀ i, i < n → w.cell? ⟨p, off + i, none⟩ = some (.string (T i))
theorem IntsF.up {w w' : World} {a : Option Addr} {N : Nat → Int} {n : Nat} (h : IntsF w a N n) (hb : Below w.heap.size w w') : IntsF w' a N n := by
  rcases h with h | ⟨p, off, e, hr⟩
  · exact .inl h
  · exact .inr ⟨p, off, e, fun i hi => cell_up hb (hr i hi)⟩
theorem StrF.up {w w' : World} {a : Option Addr} {N : Nat → ByteArray} {n : Nat} (h : StrF w a N n) (hb : Below w.heap.size w w') : StrF w' a N n := by
  rcases h with h | ⟨p, off, e, hr⟩
  · exact .inl h
  · exact .inr ⟨p, off, e, fun i hi => cell_up hb (hr i hi)⟩
theorem rdnum_is {R L A E : Nat} {g : Nat → Nat} {c s e : Nat} {X : Int} (hp : pk g L A E = (c, s, e)) (hX : unf c = X) (w : World) (h : IsRd w R g L A E) :
    Calls Try.prog 17 #[.pointer (some ⟨R, 0, none⟩)] w fun x w' => x = .returned (.int .i64 X) ∧ IsRd w' R g L (A + s) e ∧ Turn R w w' := by
  have := rdnum_any R L A E g w h
  rw [hp] at this
  subst hX
  exact this
theorem rdtext_is {R L A E : Nat} {g : Nat → Nat} {most : Int} {s : ByteArray} {a e : Nat} (hp : txt g L A E most = (s, a, e)) (w : World) (h : IsRd w R g L A E) :
    Calls Try.prog 19 #[.pointer (some ⟨R, 0, none⟩), .int .i64 most] w fun x w' => x = .returned (.string s) ∧ IsRd w' R g L a e ∧ Turn R w w' := by
  have := rdtext_any R L A E g most w h
  rw [hp] at this
  exact this
/-- The three ways of a round: both are told; an error stands behind it; or the number isn't told, and no text is asked. -/
def Way (g : Nat → Nat) (L A E : Nat) (s : ByteArray) (x : Int) (P1 Pn : Nat) : Prop :=
  (∃ c s', pk g L A E = (c, s', 0) ∧ unf c = x ∧ txt g L (A + s') 0 100 = (s, P1, 0)) ∨ (∃ c s' e1 A' e', pk g L A E = (c, s', e1) ∧ unf c = x ∧ txt g L (A + s') e1 100 = (⟨#[]⟩, A', e') ∧ e' ≠ 0 ∧ L < Pn) ∨ (∃ e, pk g L A E = (0, 0, e) ∧ e ≠ 0 ∧ x ≠ 0 ∧ L < Pn)
theorem way_err {g : Nat → Nat} {L A E P1 Pn e : Nat} {s : ByteArray} {x : Int} (h1 : pk g L A E = (0, 0, e)) (h2 : e ≠ 0) (h3 : L < Pn) : Way g L A E s x P1 Pn := by
  by_cases h0 : x = 0
  · exact .inr (.inl ⟨0, 0, e, A, e, h1, by rw [h0]; rfl, txt_err (pk_wr h2) h2, h2, h3⟩)
  · exact .inr (.inr ⟨e, h1, h2, h0, h3⟩)
theorem way_of {g : Nat → Nat} {L k n A E : Nat} {N : Nat → Int} {T : Nat → ByteArray} (hN : ∀ i, i < n → -9223372036854775808 ≤ N i ∧ N i ≤ 9223372036854775807) (hT : ∀ i, i < n → (T i).size ≤ 100) (hk : k < n) (hag : Agree g L (wrs N T n)) (hAL : A ≤ L)
    (h : (E = 0 ∧ A = (wrs N T k).length) ∨ (E ≠ 0 ∧ L < (wrs N T n).length)) : Way g L A E (T k) (N k) (wrs N T (k + 1)).length (wrs N T n).length := by
  rcases h with ⟨rfl, rfl⟩ | ⟨hE, hLP⟩
  · rcases num_here hN hk hag hAL with ⟨q1, q2⟩ | ⟨q1, q2⟩
    · rcases text_here hT hk hag q2 with ⟨t1, t2⟩ | ⟨t1, t2⟩
      · exact .inl ⟨_, _, q1, unf_fold _, t1⟩
      · exact .inr (.inl ⟨_, _, 0, _, 3, q1, unf_fold _, t1, by decide, t2⟩)
    · exact way_err q1 (by decide) q2
  · exact way_err (pk_wr hE) hE hLP
/-- What is answered of L bytes, where l were written. -/
def BackR (L l : Nat) (e : Ending) : Prop := ∃ (B : Bool) (E : Nat), e = .returned (.tuple #[.bool B, .int .i64 ((E : Nat) : Int)]) ∧ ((l ≤ L ∧ B = true ∧ E = if l < L then 5 else 0) ∨ (L < l ∧ E ≠ 0))
theorem neq_some (ad : Addr) (w : World) : (binOp .neq 35 (.pointer (some ad)) (.pointer none)).run Try.prog w = .ok (.bool true) w := by kernel_rfl
set_option maxHeartbeats 4000000 in
theorem back_any (a : Option Addr) (L c : Nat) (g : Nat → Nat) (gb : ∀ i, g i < 256) (hL : L ≤ 140737488355328) (Bn Bt Bm n tl tc nl nc : Nat) (ta na : Option Addr) (N : Nat → Int) (T : Nat → ByteArray) (hn12 : n ≤ 12) (hntl : n ≤ tl) (hnnl : n ≤ nl)
    (hN : ∀ i, i < n → -9223372036854775808 ≤ N i ∧ N i ≤ 9223372036854775807) (hag : Agree g L (wrs N (fun i => cut100 (T i)) n)) (w : World) (ra : RowF w a g L)
    (cn : w.cell? ⟨Bn, 0, none⟩ = some (.int .i64 ((n : Nat) : Int))) (ct : w.cell? ⟨Bt, 0, none⟩ = some (.slice ta tl tc)) (cm : w.cell? ⟨Bm, 0, none⟩ = some (.slice na nl nc)) (rt : StrF w ta T tl) (rm : IntsF w na N nl) :
    Calls Try.prog 25 #[.slice a L c, .pointer (some ⟨Bn, 0, none⟩), .pointer (some ⟨Bt, 0, none⟩), .pointer (some ⟨Bm, 0, none⟩)] w fun e w' => BackR L (wrs N (fun i => cut100 (T i)) n).length e ∧ Below w.heap.size w w' := by
  have RT : Hid (StrF w ta T tl) := rt
  have RM : Hid (IntsF w na N nl) := rm
  have CN : Hid (w.cell? ⟨Bn, 0, none⟩ = some (.int .i64 ((n : Nat) : Int))) := cn
  have CT : Hid (w.cell? ⟨Bt, 0, none⟩ = some (.slice ta tl tc)) := ct
  have CM : Hid (w.cell? ⟨Bm, 0, none⟩ = some (.slice na nl nc)) := cm
  have HN : Hid (∀ i, i < n → -9223372036854775808 ≤ N i ∧ N i ≤ 9223372036854775807) := hN
  have HAG : Hid (Agree g L (wrs N (fun i => cut100 (T i)) n)) := hag
  have HT : Hid (∀ i, i < n → ((fun i => cut100 (T i)) i).size ≤ 100) := fun i _ => cut100_le _
  obtain ⟨P, hP⟩ : ∃ P : Nat → Nat, P = fun k => (wrs N (fun i => cut100 (T i)) k).length := ⟨_, rfl⟩
  have HP : Hid (∀ k, P k = (wrs N (fun i => cut100 (T i)) k).length) := fun k => by rw [hP]
  have hP0 : Hid (P 0 = 0) := by show _ = _; rw [HP.out]; rfl
  clear rt rm cn ct cm hN hag hP
  have e1 := neq_some
  go_enter Try.func25, Try.ntmps25
  go_wp2_with fail
  refine (read_any a L c g gb hL _ ra).mono ?_
  rintro e w2 ⟨R, rfl, hR, h2, b2⟩
  have H2 : Hid (IsRd w2 R g L 0 0) := h2
  have HB2 : Hid (Below w.heap.size w w2) := b2
  clear h2 b2 ra
  go_wp2_with fail
  go_loopw [8, 9] (fun x y wr => ∃ (b : Bool) (i A E : Nat), x = .bool b ∧ y = .int .i64 ((i : Nat) : Int) ∧ i ≤ n ∧ Hid (IsRd wr R g L A E) ∧ Hid ((b = true ∧ E = 0 ∧ A = P i) ∨ (E ≠ 0 ∧ L < P n)) ∧ Hid (Below w.heap.size w wr)) (fun _ y _ => n - (intOf y).toNat)
  case atStart => exact ⟨true, 0, 0, 0, rfl, rfl, by omega, H2, .inl ⟨rfl, rfl, hP0.out.symm⟩, HB2⟩
  case round =>
    clear H2 HB2
    obtain ⟨b, i, A, E, rfl, rfl, hin, H1, HS, HB⟩ := hrel
    have d0 : wr.cell? ⟨Bn, 0, none⟩ = some (.int .i64 ((n : Nat) : Int)) := cell_up HB.out CN.out
    by_cases hgo : b = true ∧ i < n
    · obtain ⟨rfl, hlt⟩ := hgo
      have k1 : (i : Int) < (n : Int) := by omega
      have k2 : (i : Int) < (tl : Int) := by omega
      have k3 : (i : Int) < (nl : Int) := by omega
      have d1 : wr.cell? ⟨Bt, 0, none⟩ = some (.slice ta tl tc) := cell_up HB.out CT.out
      have d2 : wr.cell? ⟨Bm, 0, none⟩ = some (.slice na nl nc) := cell_up HB.out CM.out
      obtain ⟨p, off, rfl, hc⟩ : ∃ p off, ta = some ⟨p, off, none⟩ ∧ ∀ i, i < tl → w.cell? ⟨p, off + i, none⟩ = some (.string (T i)) := by
        rcases RT.out with r | r
        · exfalso; omega
        · exact r
      obtain ⟨p', off', rfl, hc'⟩ : ∃ p off, na = some ⟨p, off, none⟩ ∧ ∀ i, i < nl → w.cell? ⟨p, off + i, none⟩ = some (.int .i64 (N i)) := by
        rcases RM.out with r | r
        · exfalso; omega
        · exact r
      have d3 : wr.cell? ⟨p, off + i, none⟩ = some (.string (T i)) := cell_up HB.out (hc i (by omega))
      have d4 : wr.cell? ⟨p', off' + i, none⟩ = some (.int .i64 (N i)) := cell_up HB.out (hc' i (by omega))
      have C4 : Hid (∀ Z, Below w.heap.size w Z → Z.cell? ⟨Bm, 0, none⟩ = some (.slice (some ⟨p', off', none⟩) nl nc) ∧ Z.cell? ⟨p', off' + i, none⟩ = some (.int .i64 (N i))) := fun Z hZ => ⟨cell_up hZ CM.out, cell_up hZ (hc' i (by omega))⟩
      clear hc hc'
      obtain ⟨s, hs⟩ : ∃ s, s = cut100 (T i) := ⟨_, rfl⟩
      have HSS : Hid (s = cut100 (T i)) := hs
      have H1A : Hid (∀ X, Alike wr X → IsRd X R g L A E) := fun X hX => H1.out.up (hX.below _)
      have HBA : Hid (∀ X Z, Alike wr X → Turn R X Z → Below w.heap.size w Z) := fun X Z hX hZ => hZ.below (HB.out.trans (hX.below _)) hR
      have HX : Hid (Way g L A E s (N i) (P (i + 1)) (P n)) := by
        have := way_of (T := fun i => cut100 (T i)) HN.out HT.out hlt HAG.out H1.out.hat (by
          rcases HS.out with ⟨_, h1, h2⟩ | h1
          · exact .inl ⟨h1, by rw [← HP.out]; exact h2⟩
          · exact .inr (by rw [← HP.out]; exact h1))
        rw [← HP.out, ← HP.out, ← hs] at this
        exact this
      clear HS
      by_cases h100 : 100 < (T i).size
      case' pos =>
        have s1 : (100 : Int) < ((T i).size : Int) := by omega
        have s2 : (100 : Int) ≤ ((T i).size : Int) := by omega
        have es : (T i).extract 0 100 = s := by rw [hs]; unfold cut100; rw [if_pos h100]
        clear hs
        go_wp2_with fail
      case' neg =>
        have s1 : decide ((100 : Int) < ((T i).size : Int)) = false := by simp; omega
        have es : T i = s := by rw [hs]; unfold cut100; rw [if_neg h100]
        rw [es] at d3 s1
        clear hs es
        go_wp2_with fail
      all_goals
        rcases HX.out with ⟨c1, s1', hpk, hu, htx⟩ | ⟨c1, s1', e1', A1, E1, hpk, hu, htx, hE1, hLP⟩ | ⟨e1', hpk, he1, hN0, hLP⟩
        · go_region_held3 (fun w' => w'.cell? ⟨Bm, 0, none⟩ = some (.slice (some ⟨p', off', none⟩) nl nc) ∧ w'.cell? ⟨p', off' + i, none⟩ = some (.int .i64 (N i)))
            (first | exact ⟨d2, d4⟩ | exact hC5 | exact hC6)
            (first
              | (go_at_call 17; refine (rdnum_is hpk hu _ (H1A.out wr.drew ⟨rfl, rfl, rfl, rfl⟩)).mono ?_; rintro e w5 ⟨rfl, h5, t5⟩; have HB5 := HBA.out wr.drew w5 ⟨rfl, rfl, rfl, rfl⟩ t5; have hC5 := C4.out _ HB5)
              | (go_at_call 19; refine (rdtext_is htx _ h5).mono ?_; rintro e w6 ⟨rfl, h6, t6⟩; have HB6 := t6.below HB5 hR; have hC6 := C4.out _ HB6))
          go_wp2_with fail
          exact ⟨⟨true, i + 1, P (i + 1), 0, rfl, by go_num, by omega, h6, .inl ⟨rfl, rfl, rfl⟩, HB6⟩, by simp [intOf]; omega⟩
        · obtain ⟨z, hz0⟩ : ∃ z : ByteArray, z = ⟨#[]⟩ := ⟨_, rfl⟩
          rw [← hz0] at htx
          obtain ⟨qb, hqb⟩ : ∃ q : Bool, (z.toList == s.toList) = q := ⟨_, rfl⟩
          clear hz0
          go_region_held3 (fun w' => w'.cell? ⟨Bm, 0, none⟩ = some (.slice (some ⟨p', off', none⟩) nl nc) ∧ w'.cell? ⟨p', off' + i, none⟩ = some (.int .i64 (N i)))
            (first | exact ⟨d2, d4⟩ | exact hC5 | exact hC6)
            (first
              | (go_at_call 17; refine (rdnum_is hpk hu _ (H1A.out wr.drew ⟨rfl, rfl, rfl, rfl⟩)).mono ?_; rintro e w5 ⟨rfl, h5, t5⟩; have HB5 := HBA.out wr.drew w5 ⟨rfl, rfl, rfl, rfl⟩ t5; have hC5 := C4.out _ HB5)
              | (go_at_call 19; refine (rdtext_is htx _ h5).mono ?_; rintro e w6 ⟨rfl, h6, t6⟩; have HB6 := t6.below HB5 hR; have hC6 := C4.out _ HB6))
          go_wp2_with fail
          exact ⟨⟨_, i + 1, A1, E1, rfl, by go_num, by omega, h6, .inr ⟨hE1, hLP⟩, HB6⟩, by simp [intOf]; omega⟩
        · have hz : ((0 : Int) == N i) = false := by simp; omega
          first
            | go_region_with (go_at_call 17; refine (rdnum_is hpk unf_zero _ (H1A.out wr.drew ⟨rfl, rfl, rfl, rfl⟩)).mono ?_; rintro e w5 ⟨rfl, h5, t5⟩; have HB5 := HBA.out wr.drew w5 ⟨rfl, rfl, rfl, rfl⟩ t5; have hC5 := (C4.out _ HB5).1; have hC6 := (C4.out _ HB5).2)
            | fail
          all_goals
            go_wp2_with fail
            exact ⟨⟨_, i + 1, A, e1', rfl, by go_num, by omega, h5, .inr ⟨he1, hLP⟩, HB5⟩, by simp [intOf]; omega⟩
    · have HPn : Hid (P n = (wrs N (fun i => cut100 (T i)) n).length) := HP.out n
      cases b with
      | false =>
        obtain ⟨hE, hLP⟩ : E ≠ 0 ∧ L < P n := by
          rcases HS.out with ⟨h, _⟩ | h
          · cases h
          · exact h
        have HE : Hid (endE L A E = E) := by show _ = _; unfold endE; rw [if_neg (fun h => hE h.1)]
        have HR : Hid (BackR L (wrs N (fun i => cut100 (T i)) n).length (.returned (.tuple #[.bool false, .int .i64 (E : Int)]))) := ⟨false, E, rfl, .inr ⟨by rw [← HPn.out]; exact hLP, hE⟩⟩
        clear hgo HS
        go_wp2_with fail
        refine (rdend_any R L A E g _ H1.out).mono ?_
        rintro e w5 ⟨rfl, h5, t5⟩
        rw [HE.out]
        go_wp2_with fail
        exact bodyPost_ret (v := .tuple #[.bool false, .int .i64 (E : Int)]) (by simp [results, Try.results25, go_sem]) rfl ⟨HR.out, t5.below HB.out hR⟩
      | true =>
        have hin2 : i = n := by
          by_cases h : i < n
          · exact absurd ⟨rfl, h⟩ hgo
          · omega
        subst hin2
        have k1 : decide ((i : Int) < (i : Int)) = false := by simp
        clear hgo
        rcases HS.out with ⟨_, rfl, rfl⟩ | ⟨hE, hLP⟩
        · have hle := H1.out.hat
          have HR : Hid (BackR L (wrs N (fun i => cut100 (T i)) i).length (.returned (.tuple #[.bool true, .int .i64 ((endE L (P i) 0 : Nat) : Int)]))) := by
            refine ⟨true, _, rfl, .inl ⟨by rw [← HPn.out]; exact hle, rfl, ?_⟩⟩
            rw [← HPn.out]; unfold endE
            by_cases h : P i < L
            · rw [if_pos ⟨rfl, h⟩, if_pos h]
            · rw [if_neg (fun h2 => h h2.2), if_neg h]
          clear HS
          go_wp2_with fail
          refine (wrong_any R L _ _ g _ H1.out).mono ?_
          rintro e w4 ⟨rfl, rfl⟩
          go_wp2_with fail
          refine (rdend_any R L _ _ g _ H1.out).mono ?_
          rintro e w5 ⟨rfl, h5, t5⟩
          go_wp2_with fail
          exact bodyPost_ret (v := .tuple #[.bool true, .int .i64 ((endE L (P i) 0 : Nat) : Int)]) (by simp [results, Try.results25, go_sem]) rfl ⟨HR.out, t5.below HB.out hR⟩
        · have HE : Hid (endE L A E = E) := by show _ = _; unfold endE; rw [if_neg (fun h => hE h.1)]
          have hz : ((E : Int) == 0) = false := by simp; omega
          have HR : Hid (BackR L (wrs N (fun i => cut100 (T i)) i).length (.returned (.tuple #[.bool false, .int .i64 (E : Int)]))) := ⟨false, E, rfl, .inr ⟨by rw [← HPn.out]; exact hLP, hE⟩⟩
          clear HS
          go_wp2_with fail
          refine (wrong_any R L _ _ g _ H1.out).mono ?_
          rintro e w4 ⟨rfl, rfl⟩
          go_wp2_with fail
          refine (rdend_any R L _ _ g _ H1.out).mono ?_
          rintro e w5 ⟨rfl, h5, t5⟩
          rw [HE.out]
          go_wp2_with fail
          exact bodyPost_ret (v := .tuple #[.bool false, .int .i64 (E : Int)]) (by simp [results, Try.results25, go_sem]) rfl ⟨HR.out, t5.below HB.out hR⟩
end Go.Proofs.Ytihghccjcicbeaa
