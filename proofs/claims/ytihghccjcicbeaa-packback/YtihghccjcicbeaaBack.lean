/-
  PACKBACK walked: numbers and texts come back; cut off they don't, behind a byte more End says so.
-/
import Derived.Test.YtihghccjcicbeaaShut
namespace Go.Proofs.Ytihghccjcicbeaa
open Go.RowKit

theorem sb_lt (s : ByteArray) : ∀ x ∈ sb s, x < 256 := by
  intro x hx
  simp only [sb, tab, List.mem_map] at hx
  obtain ⟨i, _, rfl⟩ := hx
  exact bt_lt s i
theorem wrs_lt (N : Nat → Int) (T : Nat → ByteArray) : ∀ n, ∀ x ∈ wrs N T n, x < 256 := by
  intro n
  induction n with
  | zero => intro x hx; cases hx
  | succ n ih =>
    intro x hx
    rcases List.mem_append.1 hx with h | h
    · exact ih x h
    · unfold wr1 at h
      rcases List.mem_append.1 h with h | h
      · exact enc_lt _ x h
      · rcases List.mem_append.1 h with h | h
        · exact enc_lt _ x h
        · exact sb_lt _ x h
theorem wrs_len (N : Nat → Int) (T : Nat → ByteArray) (hT : ∀ i, (T i).size ≤ 100) : ∀ n, (∀ i, i < n → -9223372036854775808 ≤ N i ∧ N i ≤ 9223372036854775807) → (wrs N T n).length ≤ 120 * n := by
  intro n
  induction n with
  | zero => intro _; exact Nat.le_refl _
  | succ n ih =>
    intro h
    have h1 := ih (fun i hi => h i (by omega))
    have h2 := enc_len10 (fold_lt (h n (by omega)).1 (h n (by omega)).2)
    have h3 := hT n
    have h4 := enc_len10 (u := (T n).size * 2) (by omega)
    show (wrs N T n ++ wr1 (N n) (T n)).length ≤ _
    unfold wr1
    rw [List.length_append, List.length_append, List.length_append, sb_length]; omega
/-- What the inner function has of the outer one's variables. -/
structure Caps (w : World) (Bn Bt Bm k tl tc nl nc : Nat) (ta na : Option Addr) : Prop where
  cn : w.cell? ⟨Bn, 0, none⟩ = some (.int .i64 ((k : Nat) : Int))
  fn : w.frozen? ⟨Bn, 0, none⟩ = false
  ct : w.cell? ⟨Bt, 0, none⟩ = some (.slice ta tl tc)
  cm : w.cell? ⟨Bm, 0, none⟩ = some (.slice na nl nc)
theorem Caps.up {w w' : World} {Bn Bt Bm k tl tc nl nc : Nat} {ta na : Option Addr} (h : Caps w Bn Bt Bm k tl tc nl nc ta na) (hb : Below w.heap.size w w') : Caps w' Bn Bt Bm k tl tc nl nc ta na :=
  ⟨cell_up hb h.cn, (World.frozen?_of_block (a := ⟨Bn, 0, none⟩) (hb.block Bn (World.block_lt_of_cell? _ _ h.cn))).trans h.fn, cell_up hb h.ct, cell_up hb h.cm⟩
theorem Caps.set {w : World} {Bn Bt Bm k k' tl tc nl nc : Nat} {ta na : Option Addr} (h : Caps w Bn Bt Bm k tl tc nl nc ta na) (h1 : Bt ≠ Bn) (h2 : Bm ≠ Bn) : Caps (w.setCell ⟨Bn, 0, none⟩ (.int .i64 ((k' : Nat) : Int))) Bn Bt Bm k' tl tc nl nc ta na :=
  ⟨World.cell?_setCell_same _ _ _ h.cn, by rw [World.frozen?_setCell]; exact h.fn, by rw [World.cell?_setCell_other _ _ _ _ (fun e => by injection e with e _ _; exact h1 e.symm)]; exact h.ct, by rw [World.cell?_setCell_other _ _ _ _ (fun e => by injection e with e _ _; exact h2 e.symm)]; exact h.cm⟩
/-- The number in a variable. -/
def cntOf (w : World) (B : Nat) : Nat := (intOf ((w.cell? ⟨B, 0, none⟩).getD (.bool false))).toNat
theorem Caps.cnt {w : World} {Bn Bt Bm k tl tc nl nc : Nat} {ta na : Option Addr} (h : Caps w Bn Bt Bm k tl tc nl nc ta na) : cntOf w Bn = k := by
  unfold cntOf; rw [h.cn]; simp [intOf]
set_option maxHeartbeats 4000000 in
theorem pback_walk (na : Option Addr) (nl nc : Nat) (N : Nat → Int) (hN : ∀ i, i < nl → -9223372036854775808 ≤ N i ∧ N i ≤ 9223372036854775807) (ta : Option Addr) (tl tc : Nat) (T : Nat → ByteArray) (ma : Option Addr) (ml mc : Nat) (f : Nat → Nat) (fb : ∀ i, f i < 256) (hmc : ml ≤ mc)
    (hnl : nl ≤ 9223372036854775807) (htl : tl ≤ 9223372036854775807) (hml : ml ≤ 9223372036854775807) (cut : Int) (w : World) (rm : IntsF w na N nl) (rt : StrF w ta T tl) (rb : RowF w ma f ml) :
    Calls Try.prog 6 #[.slice na nl nc, .slice ta tl tc, .slice ma ml mc, .int .i64 cut] w fun e w' => e = .returned (.bool true) ∧ Below w.heap.size w w' := by
  have RM : Hid (IntsF w na N nl) := rm
  have RT : Hid (StrF w ta T tl) := rt
  have RB : Hid (RowF w ma f ml) := rb
  have HN : Hid (∀ i, i < nl → -9223372036854775808 ≤ N i ∧ N i ≤ 9223372036854775807) := hN
  have FB : Hid (∀ i, f i < 256) := fb
  clear rm rt rb hN fb
  have hmf : ∀ (fn : Fn) (first cap : Array Value) (w : World), (Instr.makeFunc fn first cap).run Try.prog w = .ok (.func fn first cap) w := fun _ _ _ _ => rfl
  go_enter Try.func6, Try.ntmps6
  go_wp2_with fail
  obtain ⟨w1, hw1⟩ : ∃ w1, w1 = ((w.alloc (Obj.cells #[Value.slice na nl nc] 43)).alloc (Obj.cells #[Value.slice ta tl tc] 44)).alloc (Obj.cells #[Value.int IntKind.i64 0] 3) := ⟨_, rfl⟩
  obtain ⟨Bm, hBm⟩ : ∃ B, B = w.heap.size := ⟨_, rfl⟩
  obtain ⟨Bt, hBt⟩ : ∃ B, B = w.heap.size + 1 := ⟨_, rfl⟩
  obtain ⟨Bn, hBn⟩ : ∃ B, B = w.heap.size + 1 + 1 := ⟨_, rfl⟩
  have HC1 : Hid (Caps w1 Bn Bt Bm 0 tl tc nl nc ta na) := by
    rw [hw1, hBm, hBt, hBn]
    refine ⟨?_, ?_, ?_, ?_⟩
    · have := World.cell?_alloc_new ((w.alloc (Obj.cells #[Value.slice na nl nc] 43)).alloc (Obj.cells #[Value.slice ta tl tc] 44)) #[Value.int IntKind.i64 0] 3 0
      simpa using this
    · have := World.frozen?_alloc_new ((w.alloc (Obj.cells #[Value.slice na nl nc] 43)).alloc (Obj.cells #[Value.slice ta tl tc] 44)) #[Value.int IntKind.i64 0] 3 0
      simpa using this
    · have h1 := World.cell?_alloc_new (w.alloc (Obj.cells #[Value.slice na nl nc] 43)) #[Value.slice ta tl tc] 44 0
      have h2 : (w.alloc (Obj.cells #[Value.slice na nl nc] 43)).heap.size = w.heap.size + 1 := World.size_alloc _ _
      rw [h2] at h1
      exact cell_up ((Below.refl _ _).alloc (Nat.le_refl _) _) (h1.trans rfl)
    · have h1 := World.cell?_alloc_new w #[Value.slice na nl nc] 43 0
      exact cell_up ((Below.refl _ _).alloc (Nat.le_refl _) _) (cell_up ((Below.refl _ _).alloc (Nat.le_refl _) _) (h1.trans rfl))
  have HB1 : Hid (Below w.heap.size w w1) := by
    rw [hw1]
    exact (((Below.refl _ _).alloc (Nat.le_refl _) _).alloc (by simp) _).alloc (by simp; omega) _
  have hd1 : Bt ≠ Bn := by omega
  have hd2 : Bm ≠ Bn := by omega
  have hd3 : w.heap.size ≤ Bn := by omega
  have HD : Hid (Bt ≠ Bn ∧ Bm ≠ Bn) := ⟨hd1, hd2⟩
  rw [← hw1, ← hBn, ← hBt, ← hBm]
  clear hw1 hBn hBt hd1 hd2
  have EBM : Hid (Bm = w.heap.size) := hBm
  clear hBm
  obtain ⟨T', hT'⟩ : ∃ T' : Nat → ByteArray, T' = fun i => cut100 (T i) := ⟨_, rfl⟩
  have HT : Hid (T' = fun i => cut100 (T i)) := hT'
  have HTs : Hid (∀ i, (T' i).size ≤ 100) := fun i => by rw [hT']; exact cut100_le _
  clear hT'
  go_loopw [9] (fun x wr => ∃ (k m : Nat) (a : Option Addr) (c : Nat), x = .slice a m c ∧ k ≤ 12 ∧ k ≤ nl ∧ k ≤ tl ∧ m ≤ c ∧ Hid (m = (wrs N T' k).length) ∧ Hid (RowF wr a (lf (wrs N T' k)) m) ∧ Hid (Caps wr Bn Bt Bm k tl tc nl nc ta na) ∧ Hid (Below w.heap.size w wr)) (fun _ wr => 12 - cntOf wr Bn)
  case atStart => exact ⟨0, 0, none, 0, rfl, by omega, by omega, by omega, by omega, rfl, .inl rfl, HC1, HB1⟩
  case round =>
    clear HC1 HB1
    obtain ⟨k, m, a, c, rfl, hk12, hknl, hktl, hmc', HM, RA, HC, HB⟩ := hrel
    have HCN : Hid (cntOf wr Bn = k) := HC.out.cnt
    have d0 := HC.out.cn
    have d0f := HC.out.fn
    have d1 := HC.out.ct
    have d2 := HC.out.cm
    have hm : m ≤ 120 * k := by rw [HM.out]; exact wrs_len N T' HTs.out k (fun i hi => HN.out i (by omega))
    by_cases hgo : k < nl ∧ k < tl ∧ k < 12
    · obtain ⟨g1, g2, g3⟩ := hgo
      have k1 : (k : Int) < (nl : Int) := by omega
      have k2 : (k : Int) < (tl : Int) := by omega
      have k3 : (k : Int) < (12 : Int) := by omega
      obtain ⟨p, off, rfl, hc⟩ : ∃ p off, ta = some ⟨p, off, none⟩ ∧ ∀ i, i < tl → w.cell? ⟨p, off + i, none⟩ = some (.string (T i)) := by
        rcases RT.out with r | r
        · exfalso; omega
        · exact r
      obtain ⟨p', off', rfl, hc'⟩ : ∃ p off, na = some ⟨p, off, none⟩ ∧ ∀ i, i < nl → w.cell? ⟨p, off + i, none⟩ = some (.int .i64 (N i)) := by
        rcases RM.out with r | r
        · exfalso; omega
        · exact r
      have d3 : wr.cell? ⟨p, off + k, none⟩ = some (.string (T k)) := cell_up HB.out (hc k (by omega))
      have d4 : wr.cell? ⟨p', off' + k, none⟩ = some (.int .i64 (N k)) := cell_up HB.out (hc' k (by omega))
      have hNk := HN.out k g1
      clear hc hc'
      obtain ⟨s, hs⟩ : ∃ s, s = cut100 (T k) := ⟨_, rfl⟩
      have hs100 : s.size ≤ 100 := by rw [hs]; exact cut100_le _
      have HS : Hid (T' k = s) := by show _ = _; rw [HT.out, hs]
      by_cases h100 : 100 < (T k).size
      case' pos =>
        have s1 : (100 : Int) < ((T k).size : Int) := by omega
        have s2 : (100 : Int) ≤ ((T k).size : Int) := by omega
        have es : (T k).extract 0 100 = s := by rw [hs]; unfold cut100; rw [if_pos h100]
        clear hs
        go_wp2_with fail
      case' neg =>
        have s1 : decide ((100 : Int) < ((T k).size : Int)) = false := by simp; omega
        have es : T k = s := by rw [hs]; unfold cut100; rw [if_neg h100]
        rw [es] at d3 s1
        clear hs es
        go_wp2_with fail
      all_goals
        refine (num_any a m c (lf (wrs N T' k)) (N k) hNk.1 hNk.2 (by omega) _ RA.out).mono ?_
        rintro e w4 ⟨v4, rfl, O4, B4⟩
        have hl4 := enc_len10 (fold_lt hNk.1 hNk.2)
        obtain ⟨l4, hl4e⟩ : ∃ l4, l4 = tab (lf (wrs N T' k)) m ++ enc (fold (N k)) := ⟨_, rfl⟩
        have HL4 : Hid (l4 = wrs N T' k ++ enc (fold (N k))) := by
          show _ = _
          have := HM.out
          rw [hl4e, this, tab_lf]
        rw [← hl4e] at O4
        have hl4b : l4.length ≤ m + 10 := by rw [HL4.out, List.length_append, ← HM.out]; omega
        obtain ⟨a4, c4, rfl, _, r4⟩ := O4.row
        obtain ⟨m4, hm4⟩ : ∃ m4, m4 = l4.length := ⟨_, rfl⟩
        rw [← hm4] at r4 hl4b ⊢
        have R4 : Hid (RowF w4 a4 (lf l4) m4) := r4
        have HC4 : Hid (Caps w4 Bn Bt Bm k tl tc nl nc (some ⟨p, off, none⟩) (some ⟨p', off', none⟩)) := HC.out.up B4
        have HB4 : Hid (Below w.heap.size w w4) := HB.out.trans (B4.mono HB.out.size)
        have HM4 : Hid (m4 = l4.length) := hm4
        clear hl4e O4 B4 r4 hm4 hl4 RA HC HB d0 d0f d1 d2 d3 d4
        go_wp2_with fail
        refine (text_any a4 m4 c4 (lf l4) s (by omega) _ R4.out).mono ?_
        rintro e w5 ⟨v5, rfl, O5, B5⟩
        have hL5 : tab (lf l4) m4 ++ (enc (s.size * 2) ++ sb s) = wrs N T' (k + 1) := by
          have h4 := HM4.out
          rw [h4, tab_lf, HL4.out, List.append_assoc]
          show _ = wrs N T' k ++ wr1 (N k) (T' k)
          rw [HS.out]; rfl
        rw [hL5] at O5
        obtain ⟨a5, c5, rfl, hc5, r5⟩ := O5.row
        obtain ⟨m5, hm5⟩ : ∃ m5, m5 = (wrs N T' (k + 1)).length := ⟨_, rfl⟩
        rw [← hm5] at r5 hc5 ⊢
        have R5 : Hid (RowF w5 a5 (lf (wrs N T' (k + 1))) m5) := r5
        have HC5 : Hid (Caps w5 Bn Bt Bm k tl tc nl nc (some ⟨p, off, none⟩) (some ⟨p', off', none⟩)) := HC4.out.up B5
        have HB5 : Hid (Below w.heap.size w w5) := HB4.out.trans (B5.mono HB4.out.size)
        have HM5 : Hid (m5 = (wrs N T' (k + 1)).length) := hm5
        have e0 := HC5.out.cn
        have e0f := HC5.out.fn
        clear O5 B5 r5 hm5 hL5 R4 HC4 HB4
        go_wp2_with fail
        have hk1 : ((k : Int) + 1) = ((k + 1 : Nat) : Int) := by omega
        have hC6 : Caps (w5.setCell ⟨Bn, 0, none⟩ (.int .i64 ((k : Int) + 1))) Bn Bt Bm (k + 1) tl tc nl nc (some ⟨p, off, none⟩) (some ⟨p', off', none⟩) := by
          rw [hk1]; exact HC5.out.set HD.out.1 HD.out.2
        refine ⟨⟨k + 1, m5, a5, c5, rfl, by omega, by omega, by omega, hc5, HM5, R5.out.set e0 (fun x e => by cases e), hC6, HB5.out.setCell hd3 _⟩, ?_⟩
        rw [hC6.cnt, HCN.out]; omega
    · have hcase : (¬ k < nl) ∨ (k < nl ∧ ¬ k < tl) ∨ (k < nl ∧ k < tl ∧ ¬ k < 12) := by omega
      have hL12 : m ≤ 1440 := by omega
      obtain ⟨l, hl⟩ : ∃ l, l = wrs N T' k := ⟨_, rfl⟩
      have HL : Hid (l = wrs N (fun i => cut100 (T i)) k) := by show _ = _; rw [hl, HT.out]
      have HLB : Hid (∀ x ∈ l, x < 256) := by rw [hl]; exact wrs_lt N T' k
      rw [← hl] at HM RA
      clear hl hgo
      have HNk : Hid (∀ i, i < k → -9223372036854775808 ≤ N i ∧ N i ≤ 9223372036854775807) := fun i hi => HN.out i (by omega)
      have R0 : Hid (RowF wr a (lf l) m) := RA
      obtain ⟨q, hq⟩ : ∃ q, q = min ml 50 := ⟨_, rfl⟩
      have hq50 : q ≤ 50 := by omega
      have hqml : q ≤ ml := by omega
      have HLM : Hid (tab (lf l) m = l) := by show _ = _; have := HM.out; rw [this, tab_lf]
      obtain ⟨v3, w3, hrun1, O3, B3⟩ := copy_row c R0.out (by omega)
      rw [HLM.out] at O3
      have HB3 : Hid (Below w.heap.size w w3) := HB.out.trans (B3.mono HB.out.size)
      have rq : RowF w3 ma f q := (RB.out.below HB3.out).short hqml
      obtain ⟨v4, w4, hrun2, O4, B4⟩ := app_row mc O3 B3.size rq (by rw [← HM.out]; omega)
      have B34 : Below wr.heap.size wr w4 := B3.trans B4
      have HB4 : Hid (Below w.heap.size w w4) := HB.out.trans (B34.mono HB.out.size)
      have HC4 : Hid (Caps w4 Bn Bt Bm k tl tc nl nc ta na) := HC.out.up B34
      have RA4 : Hid (RowF w4 a (lf l) m) := R0.out.below B34
      obtain ⟨a3, c3, rfl, _, _⟩ := O3.row
      obtain ⟨a4, c4, rfl, _, r4⟩ := O4.row
      obtain ⟨m4, hm4⟩ : ∃ m4, m4 = (l ++ tab f q).length := ⟨_, rfl⟩
      have hm4' : m4 = m + q := by rw [hm4, List.length_append, tab_length, ← HM.out]
      rw [← hm4] at r4 hrun2
      rw [← HM.out] at hrun1 hrun2
      have R4 : Hid (RowF w4 a4 (lf (l ++ tab f q)) m4) := r4
      have HG4 : Hid (∀ i, lf (l ++ tab f q) i < 256) := fun i => lf_lt (fun x hx => by
        rcases List.mem_append.1 hx with h | h
        · exact HLB.out x h
        · simp only [tab, List.mem_map] at h
          obtain ⟨j, _, rfl⟩ := h
          exact FB.out j) i
      have HAG4 : Hid (Agree (lf (l ++ tab f q)) m4 (wrs N (fun i => cut100 (T i)) k)) := by
        rw [← HL.out]; intro i _ h2; exact lf_left h2
      have HM4 : Hid (m4 = m + q) := hm4'
      clear hm4 r4 O3 O4 B3 B4 rq hm4' HB3 B34 RA
      rcases hcase with h0 | ⟨h0, h1⟩ | ⟨h0, h1, h2⟩
      case' inl =>
        have k1 : decide ((k : Int) < (nl : Int)) = false := by simp; omega
      case' inr.inl =>
        have k1 : (k : Int) < (nl : Int) := by omega
        have k2 : decide ((k : Int) < (tl : Int)) = false := by simp; omega
      case' inr.inr =>
        have k1 : (k : Int) < (nl : Int) := by omega
        have k2 : (k : Int) < (tl : Int) := by omega
        have k3 : decide ((k : Int) < (12 : Int)) = false := by simp; omega
      all_goals
        by_cases h50 : 50 < ml
        case' pos =>
          have j1 : (50 : Int) < (ml : Int) := by omega
          have j2 : (50 : Int) ≤ (mc : Int) := by omega
          have q50 : q = 50 := by omega
          subst q50
          clear hq
          go_wp2_with (at_builtin; first | refine wpList_append_run rfl (.tmp 60) (.tmp 61) 23 23 rfl _ _ _ rfl rfl hrun1 ?_ | refine wpList_append_run rfl (.tmp 62) (.tmp 63) 23 23 rfl _ _ _ rfl rfl hrun2 ?_)
        case' neg =>
          have j1 : decide ((50 : Int) < (ml : Int)) = false := by simp; omega
          have q50 : ml = q := by omega
          subst q50
          clear hq
          go_wp2_with (at_builtin; first | refine wpList_append_run rfl (.tmp 60) (.tmp 61) 23 23 rfl _ _ _ rfl rfl hrun1 ?_ | refine wpList_append_run rfl (.tmp 62) (.tmp 63) 23 23 rfl _ _ _ rfl rfl hrun2 ?_)
        all_goals
          refine (back_any a4 m4 c4 _ HG4.out (by have := HM4.out; omega) Bn Bt Bm k tl tc nl nc ta na N T hk12 hktl hknl HNk.out HAG4.out _ R4.out HC4.out.cn HC4.out.ct HC4.out.cm (RT.out.up HB4.out) (RM.out.up HB4.out)).mono ?_
          rintro e w5 ⟨⟨B, E, rfl, hE⟩, b5⟩
          rw [← HL.out, ← HM.out] at hE
          have hm4 := HM4.out
          obtain ⟨rfl, hE2⟩ : B = true ∧ E = if m < m4 then 5 else 0 := by
            rcases hE with ⟨_, h1, h2⟩ | ⟨h1, _⟩
            · exact ⟨h1, h2⟩
            · exfalso; omega
          have HB5 : Hid (Below w.heap.size w w5) := HB4.out.trans (b5.mono HB4.out.size)
          have HC5 : Hid (Caps w5 Bn Bt Bm k tl tc nl nc ta na) := HC4.out.up b5
          have RA5 : Hid (RowF w5 a (lf l) m) := RA4.out.below b5
          have HAG5 : Hid (∀ K, Agree (lf l) K (wrs N (fun i => cut100 (T i)) k)) := fun K => by rw [← HL.out]; intro i _ _; rfl
          have HG5 : Hid (∀ i, lf l i < 256) := fun i => lf_lt HLB.out i
          clear hE b5 HG4 HAG4 R4 HC4 RA4 HB4 hrun1 hrun2 HB HC R0 d0 d0f d1 d2 k1
          rcases Nat.lt_or_ge m m4 with hlt4 | hge4
          case' inl =>
            rw [if_pos hlt4] at hE2
            subst hE2
            have j5 : (0 : Int) < (ml : Int) := by omega
            clear hm4 HM4 hlt4
            go_wp2_with fail
          case' inr =>
            rw [if_neg (by omega)] at hE2
            subst hE2
            have hml0 : ml = 0 := by omega
            first
              | (exfalso; omega)
              | (subst hml0
                 clear hm4 HM4 hge4
                 go_wp2_with fail)
          all_goals
            refine (within_c cut 0 _ m rfl rfl (by omega) _).mono ?_
            rintro e w6 ⟨⟨kk, hkk, rfl⟩, rfl⟩
            have j6 : (kk : Int) ≤ (c : Int) := by omega
            go_wp2_with fail
            refine (back_any a kk c (lf l) HG5.out (by omega) Bn Bt Bm k tl tc nl nc ta na N T hk12 hktl hknl HNk.out (HAG5.out kk) _ (RA5.out.short hkk) HC5.out.cn HC5.out.ct HC5.out.cm (RT.out.up HB5.out) (RM.out.up HB5.out)).mono ?_
            rintro e w7 ⟨⟨B7, E7, rfl, hE7⟩, b7⟩
            rw [← HL.out, ← HM.out] at hE7
            have HB7 : Hid (Below w.heap.size w w7) := HB5.out.trans (b7.mono HB5.out.size)
            clear b7 HB5 HC5 RA5 HAG5 HG5
            have jb : (((E7 : Int) == 0) == ((kk : Int) == (m : Int))) = true := by
              rcases hE7 with ⟨h1, _, h2⟩ | ⟨h1, h2⟩
              · have : kk = m := by omega
                subst this
                rw [if_neg (by omega)] at h2
                subst h2; simp
              · have e1 : ((E7 : Int) == 0) = false := by simp; omega
                have e2 : ((kk : Int) == (m : Int)) = false := by simp; omega
                rw [e1, e2]; rfl
            clear hE7
            go_wp2_with fail
            refine (runs_any _).mono ?_
            rintro e w9 ⟨rfl, B9⟩
            have HB9 : Hid (Below w.heap.size w w9) := HB7.out.trans (B9.mono HB7.out.size)
            clear B9 HB7
            go_wp2_with fail
            go_ret
            exact ⟨rfl, HB9.out⟩
end Go.Proofs.Ytihghccjcicbeaa
