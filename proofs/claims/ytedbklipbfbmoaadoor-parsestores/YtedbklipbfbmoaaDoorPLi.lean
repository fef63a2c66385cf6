/-
  PARSELINES walked: lines behind which no data stand tell one thing each, as words says, till one ends the connection.
-/
import Derived.Test.YtedbklipbfbmoaaDoorPCu
namespace Go.Proofs.YtedbklipbfbmoaaDoor
open Go.RowKit

theorem trim_cr (l : B) : trim (l ++ [13]) = l := by
  unfold trim Lib.trimSuffix Lib.hasSuffix
  simp
/-- A whole line behind which no data stand. -/
theorem feed_line (l : B) (h : ∀ c ∈ l, c ≠ 10 ∧ c ≠ 13) (hl : l.length ≤ 500) : feed (pz 0) (l ++ [13, 10]) = ((obey l).1, evs (obey l).2) := by
  have h10 : (10 : UInt8) ∉ l ++ [13] := fun hm => by
    rcases List.mem_append.1 hm with hm | hm
    · exact (h 10 hm).1 rfl
    · simp at hm
  have := feed_pl_end (l ++ [13]) [] [] h10 (by simp; omega)
  rw [List.nil_append, trim_cr] at this
  rw [show l ++ [13, 10] = (l ++ [13]) ++ 10 :: [] by simp]
  refine this.trans ?_
  simp [thn, feed_nil]
/-- The parser of a law's: shut or in a line's beginning. -/
structure Ln (w : World) (P : Nat) (wr : World) (b : Bool) (o : Nat → Nat × Nat) : Prop where
  ip : ∃ a c ka kn kc, IsP wr o 1 P (pz (if b then 4 else 0)) a 0 c ka kn kc
  tb : Tb wr o
  fr : Fr (· ≠ (9, 9)) on9 o w wr
theorem Ln.below {w : World} {P : Nat} {wr : World} {b : Bool} {o : Nat → Nat × Nat} (h : Ln w P wr b o) : Below w.heap.size w wr := below_9 h.fr
theorem Ln.frm {T : Nat × Nat → Prop} {w : World} {P : Nat} {wr wr' : World} {b : Bool} {o o' : Nat → Nat × Nat} (h : Ln w P wr b o) (f : Fr T o o' wr wr') (h0 : ¬ T (1, 0)) (h1 : ¬ T (1, 1)) (h9 : ¬ T (9, 9)) : Ln w P wr' b o' := by
  obtain ⟨a, c, ka, kn, kc, ip⟩ := h.ip
  exact ⟨⟨a, c, ka, kn, kc, ip.fr f h0 h1 h9⟩, h.tb.fr f h9, h.fr.trans (f.mono (fun t ht e => h9 (e ▸ ht)))⟩
theorem Ln.up {w : World} {P : Nat} {wr wr' : World} {b : Bool} {o : Nat → Nat × Nat} (h : Ln w P wr b o) (hb : Below wr.heap.size wr wr') : Ln w P wr' b o := h.frm (Fr.ofBelow (fun _ => False) o hb) id id id
theorem Ln.new (w : World) (ht : HasTab w) {W1 : World} (hW1 : W1 = w.alloc (.cells ((pz 0).cs (.slice none 0 0) (.slice none 0 0)).toArray 60)) : ∃ o, Ln w w.heap.size W1 false o := by
  have i1 : IsP W1 (lab on9 w.heap.size (1, 0)) 1 w.heap.size (pz 0) none 0 0 none 0 0 := by rw [hW1]; exact IsP.new _ _ _
  have f1 : Fr (fun _ => False) on9 (lab on9 w.heap.size (1, 0)) w W1 := by rw [hW1]; exact Fr.new _ _ _ _ _
  have T0 : Tb w on9 := ⟨ht, rfl⟩
  exact ⟨_, ⟨_, _, _, _, _, i1⟩, T0.fr f1 id, f1.mono (fun _ h => h.elim)⟩
/-- A line more. -/
theorem Ln.fed {w : World} {P : Nat} {wr w5 : World} {b b' : Bool} {o : Nat → Nat × Nat} (h : Ln w P wr b o) {s : B} {l : List Ev} {v : Value} (hF : FOut wr o 1 P (7, 1) (pz (if b then 4 else 0)) s v w5) (e : feed (pz (if b then 4 else 0)) s = (pz (if b' then 4 else 0), l)) :
    ∃ o', Evs w5 o' (7, 1) v l ∧ Ln w P w5 b' o' ∧ Fr (TF 1 (7, 1)) o o' wr w5 := by
  obtain ⟨o2, a2, n2, c2, ka2, kn2, kc2, E2, I2, F2, T2⟩ := hF
  rw [e] at E2 I2
  have hn : n2 = 0 := I2.len
  subst hn
  exact ⟨o2, E2, ⟨⟨_, _, _, _, _, I2⟩, T2, h.fr.trans (F2.mono (nine (by decide) rfl))⟩, F2⟩
/-- One event, written out. -/
theorem Evs.lit {w : World} {o : Nat → Nat × Nat} {E : List Value} {ev : Ev} (hE : EvV w o E ev) (t : Nat × Nat) {A : Array Value} (hA : A = E.toArray) : Evs (w.alloc (.cells A 36)) (lab o w.heap.size t) t (.slice (some ⟨w.heap.size, 0, none⟩) 1 1) [ev] := by
  subst hA
  refine ⟨[E], rfl, ?_, fun i E' hi => ?_⟩
  · have := own_new (w := w) (o := o) (t := t) (k := 18) (n := 1) (cap := 1) (e := 36) E #[] (by rw [hE.len]) hE.one (Nat.le_refl _) (by unfold maxLen; omega) rfl
    simpa using this
  · have hz : i = 0 := by
      have := (List.getElem?_eq_some_iff.1 hi).1
      simp at this; exact this
    subst hz
    simp at hi
    subst hi
    exact ⟨ev, rfl, hE.fr (Fr.new (fun _ => False) _ _ _ _) id⟩
theorem tf_17 : ¬ TF 1 (7, 1) (9, 9) := tf_no (by decide) (by decide)
/-- What the law has made to be held against what was got. -/
def Both (w : World) (P : Nat) (W : World) (b : Bool) (u v : Value) : Prop := ∃ o l, Evs W o (7, 1) u l ∧ (∃ t, Evs W o t v l) ∧ Ln w P W b o ∧ (∀ ev ∈ l, ev.rq.keys.length ≤ 100000) ∧ l.length ≤ 1
theorem Both.lit {w : World} {P : Nat} {W : World} {b : Bool} {o : Nat → Nat × Nat} {u : Value} {ev : Ev} {E : List Value} (h1 : Evs W o (7, 1) u [ev]) (h2 : Ln w P W b o) (hE : EvV W o E ev) (hk : ev.rq.keys.length ≤ 100000) {A : Array Value} (hA : A = E.toArray) {W' : World} (hW : W' = W.alloc (.cells A 36)) {g : Nat} (hg : g = W.heap.size) : Both w P W' b u (.slice (some ⟨g, 0, none⟩) 1 1) := by
  subst hW hg
  have f : Fr (fun _ => False) o (lab o W.heap.size (7, 2)) W (W.alloc (.cells A 36)) := Fr.new _ _ _ _ _
  exact ⟨_, [ev], h1.fr f id id, ⟨_, Evs.lit hE (7, 2) hA⟩, h2.frm f id id id, fun e he => by simp at he; subst he; exact hk, Nat.le_refl _⟩
theorem obey_12 {l : B} {r : Rq} (h : line l = (r, 4)) : obey l = (pz 0, ans 12 []) := by unfold obey obeyR; rw [h]; rfl
theorem obey_13 {l : B} {r : Rq} {er : Nat} (h : line l = (r, er)) (h4 : er ≠ 4) (h0 : er ≠ 0) : obey l = (pz 0, ans 13 badLine) := by unfold obey obeyR; rw [h]; simp [h4, h0]
theorem obey_15 {l : B} {r : Rq} (h : line l = (r, 0)) (hv : r.verb = 17) : obey l = (pz 4, ans 15 []) := by unfold obey obeyR; rw [h]; simp [hv]
theorem obey_r {l : B} {r : Rq} (h : line l = (r, 0)) (hv : r.verb ≠ 17) (hs : ¬ (3 ≤ r.verb ∧ r.verb ≤ 8)) : obey l = (pz 0, req r []) := by unfold obey obeyR; rw [h]; simp only; rw [if_neg (by decide), if_neg (by simp), if_neg hv, if_neg hs]
theorem evs_ans (k : Nat) (t : B) (hk : k ≠ 0) : evs (ans k t) = [ans k t] := by unfold evs ans; rw [if_neg (fun h => hk h.2)]
theorem evs_req (r : Rq) (d : B) (h : r.verb ≠ 0) : evs (req r d) = [req r d] := by unfold evs req; rw [if_neg (fun e => h e.1)]
/-- The line, read and laid down. -/
structure Rdn (w : World) (P : Nat) (X : World) (b : Bool) (o : Nat → Nat × Nat) (G : Nat) (R : List Value) (v : Value) (ks : List B) : Prop where
  ln : Ln w P X b o
  ks : Ks X o v ks
  lay : X.rangeAt G 0 R
  mrk : o G = (9, 9)
theorem Rdn.new {w : World} {P : Nat} {wr w2 X : World} {b : Bool} {o : Nat → Nat × Nat} (h : Ln w P wr b o) {a : Option Addr} {n c : Nat} {l : List B} (h2 : Strs w2 (.slice a n c) l) (b2 : Below wr.heap.size wr w2) (hn : ∀ A, a = some A → wr.heap.size ≤ A.block) {R : List Value} {A : Array Value} (hA : A = R.toArray) (hX : X = w2.alloc (.cells A 30)) : ∃ o', Rdn w P X b o' w2.heap.size R (.slice a n c) l := by
  subst hA hX
  have f1 : Fr (fun _ => False) o (over o wr.heap.size (9, 9)) wr w2 := Fr.over _ _ b2 _
  have f2 : Fr (fun _ => False) (over o wr.heap.size (9, 9)) (over o wr.heap.size (9, 9)) w2 (w2.alloc (.cells R.toArray 30)) := Fr.alloc _ _ _ _
  exact ⟨_, (h.frm f1 id id id).frm f2 id id id, (h2.ks b2 hn).fr f2 id, lay_new _ _, by unfold over; rw [if_neg (by have := b2.size; omega)]⟩
set_option maxRecDepth 100000 in
set_option maxHeartbeats 4000000 in
theorem lines_walk (sa : Option Addr) (len cap : Nat) (T : Nat → ByteArray) (_hlen : len ≤ 9223372036854775807) (w : World) (hC : StrF w sa T len) (ht : HasTab w) :
    Calls Tryd.prog 8 #[.slice sa len cap] w fun e w' => e = .returned (.bool true) ∧ Below w.heap.size w w' := by
  have HC := Lib.hid hC
  obtain ⟨W1, hW1⟩ : ∃ W, W = w.alloc (.cells ((pz 0).cs (.slice none 0 0) (.slice none 0 0)).toArray 60) := ⟨_, rfl⟩
  obtain ⟨o1, H1⟩ := Ln.new w ht hW1
  have H1 := Lib.hid H1
  have HW1 := Lib.hid hW1
  clear hW1 ht hC
  go_enter Tryd.func8, Tryd.ntmps8
  go_wp2_with fail
  refine (new_any w).mono ?_
  rintro e w1 ⟨rfl, hw1⟩
  have : w1 = W1 := by rw [hw1, HW1.out]
  clear hw1
  subst this
  obtain ⟨P, hP⟩ : ∃ P, P = w.heap.size := ⟨_, rfl⟩
  rw [← hP] at H1
  rw [← hP]
  clear HW1 hP
  have ep := eqp P
  go_wp2_with fail
  clear ep
  go_loopw [4, 5, 6] (fun wv sv iv wr => ∃ (i n c : Nat) (a : Option Addr) (b : Bool) (o : Nat → Nat × Nat), iv = .int .i64 (i : Int) ∧ sv = .bool b ∧ wv = .slice a n c ∧ i ≤ 20 ∧ Hid (Ln w P wr b o)) (fun _ _ iv _ => 20 - (intOf iv).toNat)
  case atStart => exact ⟨0, 0, 0, none, false, o1, rfl, rfl, rfl, by omega, H1⟩
  case round =>
    obtain ⟨i, n0, k0, a0, b, o, rfl, rfl, rfl, hi, HL⟩ := hrel
    clear H1
    by_cases hgo : i < len ∧ i < 20
    · obtain ⟨h1, h2⟩ := hgo
      have g1 : (i : Int) < (len : Int) := by omega
      have g2 : (i : Int) < 20 := by omega
      obtain ⟨cp, coff, rfl, hcc⟩ : ∃ p off, sa = some ⟨p, off, none⟩ ∧ ∀ j, j < len → wr.cell? ⟨p, off + j, none⟩ = some (.string (T j)) := by
        rcases (HC.out.below HL.out.below) with h | h
        · omega
        · exact h
      have hci := hcc i h1
      clear hcc
      obtain ⟨s0, hs0⟩ : ∃ s0, s0 = T i := ⟨_, rfl⟩
      rw [← hs0] at hci
      clear hs0
      by_cases hbig : 500 < s0.size
      case' pos =>
        have b1 : decide ((500 : Int) < (s0.size : Int)) = true := by simp; omega
        have sl : ∀ w : World, (Instr.sliceAt 9 (.string s0) none (some (.int .i64 500)) none).run Tryd.prog w = .ok (.string (S ((L s0).take 500))) w := fun w => str_hi s0 500 (by omega) w
        go_wp2_with fail
        obtain ⟨s, hss⟩ : ∃ s, s = S ((L s0).take 500) := ⟨_, rfl⟩
        rw [← hss]
        have hs : s.size ≤ 500 := by rw [hss, S_size, List.length_take]; omega
        clear hss sl b1 hbig hci
      case' neg =>
        have b1 : decide ((500 : Int) < (s0.size : Int)) = false := by simp; omega
        go_wp2_with fail
        obtain ⟨s, hss⟩ : ∃ s, s = s0 := ⟨_, rfl⟩
        rw [← hss]
        have hs : s.size ≤ 500 := by rw [hss]; omega
        clear hss b1 hbig hci
      all_goals
        obtain ⟨WR, hWR⟩ : ∃ WR, WR = wr := ⟨_, rfl⟩
        have HWR := Lib.hid hWR
        rw [← hWR] at HL
        clear hWR
        go_loopw [8, 9] (fun kv jv wx => ∃ (j : Nat) (ok : Bool), jv = .int .i64 (j : Int) ∧ kv = .bool ok ∧ j ≤ s.size ∧ Hid (WR = wx) ∧ Hid (ok = true → ∀ c ∈ (L s).take j, c ≠ 10 ∧ c ≠ 13)) (fun _ jv _ => s.size - (intOf jv).toNat)
        case atStart => exact ⟨0, true, rfl, rfl, by omega, HWR, Lib.hid (fun _ c h => by simp at h)⟩
        case round =>
          clear HWR
          obtain ⟨j, ok, rfl, rfl, hj, HX, HK⟩ := hrel
          by_cases hlt : j < s.size
          · have hi1 : (j : Int) < (s.size : Int) := by omega
            obtain ⟨c, hc⟩ : ∃ c, (L s)[j]? = some c := ⟨_, List.getElem?_eq_getElem (by rw [L_len]; exact hlt)⟩
            have ix : ∀ w : World, (Instr.index 9 (.string s) (.int .i64 (j : Int))).run Tryd.prog w = .ok (.int .u8 ((c.toNat : Nat) : Int)) w := fun w => str_at (s := s) (q := j) (c := c) hc w
            have HCC := Lib.hid hc
            clear hc
            cases ok
            · go_wp2_with fail
              exact ⟨⟨j + 1, false, by go_num, rfl, by omega, HX, Lib.hid (fun h => by cases h)⟩, by simp [intOf]; omega⟩
            · by_cases h10 : c = 10
              · have e10 : (((c.toNat : Nat) : Int) != 10) = false := by rw [h10]; rfl
                go_wp2_with fail
                exact ⟨⟨j + 1, false, by go_num, rfl, by omega, HX, Lib.hid (fun h => by cases h)⟩, by simp [intOf]; omega⟩
              · have e10 : (((c.toNat : Nat) : Int) != 10) = true := by
                  rw [bne_iff_ne]; exact fun e => h10 (UInt8.toNat_inj.1 (by simp; omega))
                by_cases h13 : c = 13
                · have e13 : (((c.toNat : Nat) : Int) != 13) = false := by rw [h13]; rfl
                  go_wp2_with fail
                  exact ⟨⟨j + 1, false, by go_num, rfl, by omega, HX, Lib.hid (fun h => by cases h)⟩, by simp [intOf]; omega⟩
                · have e13 : (((c.toNat : Nat) : Int) != 13) = true := by
                    rw [bne_iff_ne]; exact fun e => h13 (UInt8.toNat_inj.1 (by simp; omega))
                  go_wp2_with fail
                  exact ⟨⟨j + 1, true, by go_num, rfl, by omega, HX, Lib.hid (fun _ d hd => by
                    rw [List.take_add_one, HCC.out] at hd
                    rcases List.mem_append.1 hd with hd | hd
                    · exact HK.out rfl d hd
                    · simp at hd; subst hd; exact ⟨h10, h13⟩)⟩, by simp [intOf]; omega⟩
          · obtain rfl : j = s.size := by omega
            have hi1 : decide ((s.size : Int) < (s.size : Int)) = false := by simp
            have HK2 : Hid (ok = true → ∀ c ∈ L s, c ≠ 10 ∧ c ≠ 13) := Lib.hid (by have := HK.out; rw [← L_len, List.take_length] at this; exact this)
            have := HX.out
            subst this
            clear HK HX
            obtain ⟨⟨v, ks, f, x, bb, cc, d, q⟩, er, hLn⟩ : ∃ r er, line (L s) = (r, er) := ⟨_, _, rfl⟩
            obtain ⟨V, hV⟩ : ∃ V : Int, ((v : Nat) : Int) = V := ⟨_, rfl⟩
            obtain ⟨D, hD⟩ : ∃ D : Int, ((d : Nat) : Int) = D := ⟨_, rfl⟩
            obtain ⟨E, hE⟩ : ∃ E : Int, ((er : Nat) : Int) = E := ⟨_, rfl⟩
            have LA := Lib.hid (line_c s (by omega) hLn V D E hV hD hE)
            have HLn := Lib.hid hLn
            have HVE := Lib.hid (And.intro hV (And.intro hD hE))
            clear hLn hV hD hE
            go_wp2_with fail
            refine (LA.out WR HL.out.tb.1).mono ?_
            rintro e w2 ⟨xa, xn, xc, rfl, S2, b2, n2⟩
            obtain ⟨X2, hX2⟩ : ∃ X, X = w2.alloc (.cells #[.int .i64 V, .slice xa xn xc, .int .i64 f, .int .i64 x, .int .i64 bb, .int .i64 cc, .int .u64 D, .bool q, .string ⟨#[]⟩] 30) := ⟨_, rfl⟩
            obtain ⟨o2, R2⟩ := Rdn.new HL.out S2 b2 n2 (R := [.int .i64 V, .slice xa xn xc, .int .i64 f, .int .i64 x, .int .i64 bb, .int .i64 cc, .int .u64 D, .bool q, .string ⟨#[]⟩]) rfl hX2
            have c0 := R2.lay 0 _ rfl
            obtain ⟨G2, hG2⟩ : ∃ G, G = w2.heap.size := ⟨_, rfl⟩
            rw [← hG2] at R2 c0
            have HR2 := Lib.hid R2
            have HX2 := Lib.hid hX2
            have HG2 := Lib.hid hG2
            rw [Nat.zero_add] at c0
            clear S2 b2 n2 R2 hX2 hG2 LA HL
            cases ok
            · go_wp2_with fail
              rw [← HX2.out]
              exact ⟨⟨i + 1, n0, k0, a0, b, o2, by go_num, rfl, rfl, by omega, Lib.hid HR2.out.ln⟩, by simp [intOf]; omega⟩
            · obtain ⟨sb, hsb⟩ : ∃ sb, (decide ((3 : Int) ≤ V) && decide (V ≤ 8)) = sb := ⟨_, rfl⟩
              have HSB := Lib.hid hsb
              clear hsb
              have c0' : (w2.alloc (.cells #[.int .i64 V, .slice xa xn xc, .int .i64 f, .int .i64 x, .int .i64 bb, .int .i64 cc, .int .u64 D, .bool q, .string ⟨#[]⟩] 30)).cell? ⟨w2.heap.size, 0, none⟩ = some (.int .i64 V) := by rw [← HX2.out, ← HG2.out]; exact c0
              go_wp2_with fail
              rw [← HX2.out, ← HG2.out]
              clear c0'
              refine (storing_c V sb HSB.out _).mono ?_
              rintro e w3 ⟨rfl, rfl⟩
              cases sb
              case true =>
                go_wp2_with fail
                exact ⟨⟨i + 1, n0, k0, a0, b, o2, by go_num, rfl, rfl, by omega, Lib.hid HR2.out.ln⟩, by simp [intOf]; omega⟩
              case false =>
                obtain ⟨str, hstr⟩ : ∃ str, s ++ (⟨#[13, 10]⟩ : ByteArray) = str := ⟨_, rfl⟩
                have HSTR : Hid (L str = L s ++ [13, 10]) := Lib.hid (by rw [← hstr, L_append]; rfl)
                have hsz : str.size ≤ 1000000000 := by rw [← L_len, HSTR.out, List.length_append, L_len]; simp; omega
                obtain ⟨ia, ic, ika, ikn, ikc, ip⟩ := HR2.out.ln.ip
                have HFD := Lib.hid (feed_any (by decide) (7, 1) rfl (okp_pz _ (by cases b; exact .inl rfl; exact .inr (.inr rfl))) str hsz X2 ip HR2.out.ln.tb)
                clear ip hsz
                go_wp2_with fail
                refine HFD.out.mono ?_
                rintro e w5 ⟨v5, rfl, F5⟩
                rw [HSTR.out] at F5
                clear HFD
                have HLK := Lib.hid (HK2.out (by trivial))
                have HLL : Hid ((L s).length ≤ 500) := Lib.hid (by rw [L_len]; exact hs)
                cases b
                case' true =>
                  obtain ⟨o5, E5, L5, G5⟩ := HR2.out.ln.fed (b' := true) F5 (feed_shut _)
                  obtain ⟨ga, gc, rfl⟩ := E5.form
                  obtain ⟨gn, hgn⟩ : ∃ gn, gn = ([] : List Ev).length := ⟨_, rfl⟩
                  rw [← hgn] at E5 ⊢
                  have HBo : Hid (Both w P w5 true (.slice ga gn gc) (.slice none 0 0)) := Lib.hid ⟨o5, [], E5, ⟨(7, 2), Evs.nil _ _ _⟩, L5, fun _ h => by simp at h, Nat.zero_le _⟩
                  clear F5 E5 L5 G5 hgn
                  obtain ⟨W6, hW6⟩ : ∃ W, W = w5 := ⟨_, rfl⟩
                  have HW6 := Lib.hid hW6
                  rw [← hW6] at HBo
                  clear hW6
                  go_wp2_with fail
                  rw [← HW6.out]
                case' false =>
                  by_cases h4 : er = 4
                  case' pos =>
                    have e4 : E = 4 := by have := HVE.out.2.2; omega
                    subst e4
                    have hfd := feed_line (L s) HLK.out HLL.out
                    rw [obey_12 (by rw [HLn.out, h4])] at hfd
                    rw [evs_ans 12 [] (by decide)] at hfd
                    obtain ⟨o5, E5, L5, G5⟩ := HR2.out.ln.fed (b' := false) F5 hfd
                    obtain ⟨ga, gc, rfl⟩ := E5.form
                    obtain ⟨gn, hgn⟩ : ∃ gn, gn = [ans 12 []].length := ⟨_, rfl⟩
                    rw [← hgn] at E5 ⊢
                    obtain ⟨W6, hW6⟩ : ∃ W, W = w5.alloc (.cells #[.int .i64 0, .slice none 0 0, .int .i64 0, .int .i64 0, .int .i64 0, .int .i64 0, .int .u64 0, .bool false, .string ⟨#[]⟩, .int .i64 12, .slice none 0 0, .bool false, .int .u64 0, .string ⟨#[]⟩, .int .i64 0, .int .i64 0, .int .i64 0, .int .i64 0] 36) := ⟨_, rfl⟩
                    obtain ⟨gw, hgw⟩ : ∃ g, g = w5.heap.size := ⟨_, rfl⟩
                    have HBo : Hid (Both w P W6 false (.slice ga gn gc) (.slice (some ⟨gw, 0, none⟩) 1 1)) := Lib.hid (Both.lit E5 L5 ⟨none, 0, 0, rfl, Ks.nil _ _⟩ (by decide) rfl hW6 hgw)
                    have HW6 := Lib.hid hW6
                    have HGW := Lib.hid hgw
                    clear F5 E5 L5 G5 hgn hW6 hgw hfd
                    go_wp2_with fail
                    rw [← HW6.out, ← HGW.out]
                  case' neg =>
                    have e4 : ¬ (E = 4) := by have := HVE.out.2.2; omega
                    by_cases h0 : er = 0
                    case' neg =>
                      have e0 : ¬ (E = 0) := by have := HVE.out.2.2; omega
                      have hfd := feed_line (L s) HLK.out HLL.out
                      rw [obey_13 HLn.out h4 h0] at hfd
                      rw [evs_ans 13 badLine (by decide)] at hfd
                      obtain ⟨o5, E5, L5, G5⟩ := HR2.out.ln.fed (b' := false) F5 hfd
                      obtain ⟨ga, gc, rfl⟩ := E5.form
                      obtain ⟨gn, hgn⟩ : ∃ gn, gn = [ans 13 badLine].length := ⟨_, rfl⟩
                      rw [← hgn] at E5 ⊢
                      obtain ⟨W6, hW6⟩ : ∃ W, W = w5.alloc (.cells #[.int .i64 0, .slice none 0 0, .int .i64 0, .int .i64 0, .int .i64 0, .int .i64 0, .int .u64 0, .bool false, .string ⟨#[]⟩, .int .i64 13, .slice none 0 0, .bool false, .int .u64 0, .string ⟨#[98, 97, 100, 32, 99, 111, 109, 109, 97, 110, 100, 32, 108, 105, 110, 101, 32, 102, 111, 114, 109, 97, 116]⟩, .int .i64 0, .int .i64 0, .int .i64 0, .int .i64 0] 36) := ⟨_, rfl⟩
                      obtain ⟨gw, hgw⟩ : ∃ g, g = w5.heap.size := ⟨_, rfl⟩
                      have HBo : Hid (Both w P W6 false (.slice ga gn gc) (.slice (some ⟨gw, 0, none⟩) 1 1)) := Lib.hid (Both.lit E5 L5 ⟨none, 0, 0, rfl, Ks.nil _ _⟩ (by decide) rfl hW6 hgw)
                      have HW6 := Lib.hid hW6
                      have HGW := Lib.hid hgw
                      clear F5 E5 L5 G5 hgn hW6 hgw hfd
                      go_wp2_with fail
                      rw [← HW6.out, ← HGW.out]
                    case' pos =>
                      have e0 : E = 0 := by have := HVE.out.2.2; omega
                      subst e0
                      have hl0 : line (L s) = (⟨v, ks, f, x, bb, cc, d, q⟩, 0) := by rw [HLn.out, h0]
                      have hvp : v ≠ 0 := by have := line_pos (L s) (by rw [hl0]); rw [hl0] at this; simp only at this; omega
                      by_cases h17 : V = 17
                      case' pos =>
                        have hv17 : v = 17 := by have := HVE.out.1; omega
                        subst h17
                        have hfd := feed_line (L s) HLK.out HLL.out
                        rw [obey_15 hl0 hv17] at hfd
                        rw [evs_ans 15 [] (by decide)] at hfd
                        obtain ⟨o5, E5, L5, G5⟩ := HR2.out.ln.fed (b' := true) F5 hfd
                        obtain ⟨ga, gc, rfl⟩ := E5.form
                        obtain ⟨gn, hgn⟩ : ∃ gn, gn = [ans 15 []].length := ⟨_, rfl⟩
                        rw [← hgn] at E5 ⊢
                        obtain ⟨W6, hW6⟩ : ∃ W, W = w5.alloc (.cells #[.int .i64 0, .slice none 0 0, .int .i64 0, .int .i64 0, .int .i64 0, .int .i64 0, .int .u64 0, .bool false, .string ⟨#[]⟩, .int .i64 15, .slice none 0 0, .bool false, .int .u64 0, .string ⟨#[]⟩, .int .i64 0, .int .i64 0, .int .i64 0, .int .i64 0] 36) := ⟨_, rfl⟩
                        obtain ⟨gw, hgw⟩ : ∃ g, g = w5.heap.size := ⟨_, rfl⟩
                        have HBo : Hid (Both w P W6 true (.slice ga gn gc) (.slice (some ⟨gw, 0, none⟩) 1 1)) := Lib.hid (Both.lit E5 L5 ⟨none, 0, 0, rfl, Ks.nil _ _⟩ (by decide) rfl hW6 hgw)
                        have HW6 := Lib.hid hW6
                        have HGW := Lib.hid hgw
                        have cR : w5.rangeAt G2 0 [.int .i64 17, .slice xa xn xc, .int .i64 f, .int .i64 x, .int .i64 bb, .int .i64 cc, .int .u64 D, .bool q, .string ⟨#[]⟩] := fun j u hu => G5.cell (HR2.out.lay j u hu) (by rw [HR2.out.mrk]; exact tf_17)
                        have p0 : w5.cell? ⟨G2, 0, none⟩ = some (.int .i64 17) := by have := cR 0 _ rfl; rwa [Nat.zero_add] at this
                        clear cR
                        clear F5 E5 L5 G5 hgn hW6 hgw hfd
                        go_wp2_with fail
                        rw [← HW6.out, ← HGW.out]
                      case' neg =>
                        have hfd := feed_line (L s) HLK.out HLL.out
                        rw [obey_r hl0 (by have := HVE.out.1; simp only; omega) (by have h1 := HVE.out.1; have h2 := HSB.out; simp at h2; simp only; omega)] at hfd
                        rw [evs_req _ _ hvp] at hfd
                        obtain ⟨o5, E5, L5, G5⟩ := HR2.out.ln.fed (b' := false) F5 hfd
                        obtain ⟨ga, gc, rfl⟩ := E5.form
                        obtain ⟨gn, hgn⟩ : ∃ gn, gn = [req ⟨v, ks, f, x, bb, cc, d, q⟩ []].length := ⟨_, rfl⟩
                        rw [← hgn] at E5 ⊢
                        obtain ⟨W6, hW6⟩ : ∃ W, W = w5.alloc (.cells #[.int .i64 V, .slice xa xn xc, .int .i64 f, .int .i64 x, .int .i64 bb, .int .i64 cc, .int .u64 D, .bool q, .string ⟨#[]⟩, .int .i64 0, .slice none 0 0, .bool false, .int .u64 0, .string ⟨#[]⟩, .int .i64 0, .int .i64 0, .int .i64 0, .int .i64 0] 36) := ⟨_, rfl⟩
                        obtain ⟨gw, hgw⟩ : ∃ g, g = w5.heap.size := ⟨_, rfl⟩
                        have HBo : Hid (Both w P W6 false (.slice ga gn gc) (.slice (some ⟨gw, 0, none⟩) 1 1)) := Lib.hid (Both.lit E5 L5 ⟨xa, xn, xc, by rw [← HVE.out.1, ← HVE.out.2.1]; rfl, HR2.out.ks.fr G5 tf_17⟩ (by have := line_few (L s); rw [hl0] at this; exact Nat.le_trans this (by decide)) rfl hW6 hgw)
                        have HW6 := Lib.hid hW6
                        have HGW := Lib.hid hgw
                        have cR : w5.rangeAt G2 0 [.int .i64 V, .slice xa xn xc, .int .i64 f, .int .i64 x, .int .i64 bb, .int .i64 cc, .int .u64 D, .bool q, .string ⟨#[]⟩] := fun j u hu => G5.cell (HR2.out.lay j u hu) (by rw [HR2.out.mrk]; exact tf_17)
                        have p0 : w5.cell? ⟨G2, 0, none⟩ = some (.int .i64 V) := by have := cR 0 _ rfl; rwa [Nat.zero_add] at this
                        have p1 : w5.cell? ⟨G2, 1, none⟩ = some (.slice xa xn xc) := by have := cR 1 _ rfl; rwa [Nat.zero_add] at this
                        have p2 : w5.cell? ⟨G2, 2, none⟩ = some (.int .i64 f) := by have := cR 2 _ rfl; rwa [Nat.zero_add] at this
                        have p3 : w5.cell? ⟨G2, 3, none⟩ = some (.int .i64 x) := by have := cR 3 _ rfl; rwa [Nat.zero_add] at this
                        have p4 : w5.cell? ⟨G2, 4, none⟩ = some (.int .i64 bb) := by have := cR 4 _ rfl; rwa [Nat.zero_add] at this
                        have p5 : w5.cell? ⟨G2, 5, none⟩ = some (.int .i64 cc) := by have := cR 5 _ rfl; rwa [Nat.zero_add] at this
                        have p6 : w5.cell? ⟨G2, 6, none⟩ = some (.int .u64 D) := by have := cR 6 _ rfl; rwa [Nat.zero_add] at this
                        have p7 : w5.cell? ⟨G2, 7, none⟩ = some (.bool q) := by have := cR 7 _ rfl; rwa [Nat.zero_add] at this
                        have p8 : w5.cell? ⟨G2, 8, none⟩ = some (.string ⟨#[]⟩) := by have := cR 8 _ rfl; rwa [Nat.zero_add] at this
                        clear cR
                        clear F5 E5 L5 G5 hgn hW6 hgw hfd
                        go_wp2_with fail
                        rw [← HW6.out, ← HGW.out]
                all_goals
                  obtain ⟨oo, ll, B1, ⟨t2, B2⟩, BL, BK, Bl⟩ := HBo.out
                  have HBL := Lib.hid BL
                  refine (same_evs BK (by omega) W6 B1 B2).mono ?_
                  rintro e w7 ⟨rfl, b7⟩
                  have L7 := HBL.out.up b7
                  obtain ⟨ja, jc, jka, jkn, jkc, ip7⟩ := L7.ip
                  have HL7 := Lib.hid L7
                  have HI7 := Lib.hid ip7
                  clear B1 B2 BL BK Bl b7 ip7 L7 HBL HBo
                  go_wp2_with fail
                  first | refine (shut_any w7 HI7.out false rfl).mono ?_ | refine (shut_any w7 HI7.out true rfl).mono ?_
                  rintro e w8 ⟨rfl, rfl⟩
                  go_wp2_with fail
                  refine (left_any w7 HI7.out).mono ?_
                  rintro e w8 ⟨rfl, rfl⟩
                  rw [show (((0 : Nat) : Int)) = 0 from rfl]
                  go_wp2_with fail
                  exact ⟨⟨i + 1, _, _, _, _, oo, by go_num, rfl, rfl, by omega, HL7⟩, by simp [intOf]; omega⟩
    · have tst : i < len → ¬ i < 20 := fun h1 h2 => hgo ⟨h1, h2⟩
      clear hgo
      by_cases h1 : i < len
      case' pos =>
        have g1 : (i : Int) < (len : Int) := by omega
        have g2 : decide ((i : Int) < 20) = false := by have := tst h1; simp; omega
        go_wp2_with fail
      case' neg =>
        have g1 : decide ((i : Int) < (len : Int)) = false := by simp; omega
        go_wp2_with fail
      all_goals
        refine (runs_any wr HL.out.tb.1).mono ?_
        rintro e w8 ⟨rfl, b8⟩
        have HB8 : Hid (Below w.heap.size w w8) := Lib.hid (HL.out.below.trans (b8.mono HL.out.below.size))
        clear b8
        go_wp2_with fail
        go_ret
        exact ⟨rfl, HB8.out⟩
end Go.Proofs.YtedbklipbfbmoaaDoor
