/-
  WHICHEVER k FRAGMENTS COME, IN WHICHEVER ORDER: the law's walk.
-/
import Derived.Test.YtmhhegkpkncebaaPick
import Derived.Deep.RegionHeld3
namespace Go.Proofs.Ytmhhegkpkncebaa
open Go.RowKit

theorem own_ne {w : World} {B e s k g t : Nat} {v : Value} {xs : List Value} {C : Array Value} (h : w.ownsRow B e s v k xs) (hg : w.heap[g]? = some (.cells C t (0, 0))) (hne : t ≠ e) : some g ≠ v.ownBlock := by
  rcases h.2 with ⟨rfl, _⟩ | ⟨g', cap', cur', rfl, _, hh', _⟩
  · intro e0; cases e0
  · intro e0
    injection e0 with e0
    subst e0
    rw [show w.heap[g]? = _ from hh'] at hg
    injection hg with hg; injection hg with _ e2 _
    exact hne e2.symm
theorem four_one {x y : Int} {s t : ByteArray} : ∀ u ∈ [Value.int .i64 x, .string s, .int .i64 y, .string t], u.oneCell' = true := by
  intro u hu
  simp at hu
  rcases hu with hu | hu | hu | hu <;> subst hu <;> rfl

set_option maxHeartbeats 8000000 in
set_option maxRecDepth 100000 in
theorem rany_walk (a0 a1 : Int) (a2 : ByteArray) (a3 : Option Addr) (len2 cap2 : Nat) (z2 : List Int) (a4 : Int) (w : World) (w2 : IsRow .i64 w a3 len2 cap2 z2) :
    Calls Try.prog 6 #[.int .i64 a0, .int .i64 a1, .string a2, .slice a3 len2 cap2, .int .i64 a4] w fun e w' => e = .returned (.bool true) ∧ Below w.heap.size w w' := by
  have hpk : Hid (∀ i, i < len2 → ∃ x z, a3 = some x ∧ len2 ≤ maxLen ∧ w.cell? (x.add i) = some (.int .i64 z)) := fun i hi => by
    rcases w2 with ⟨_, rfl, _⟩ | ⟨x, h1, h2, h3, h4, h5, _⟩
    · exfalso; omega
    · exact ⟨x, _, h1, by omega, h5 i (by omega)⟩
  clear w2
  go_enter Try.func6, Try.ntmps6
  go_wp2_with fail
  refine (within_l a0 _ _ 1 8 rfl rfl (by decide) (by decide) _).mono ?_
  rintro e w1 ⟨⟨a, ha1, ha8, rfl⟩, rfl⟩
  go_wp2_with fail
  refine (within_0 a1 _ _ (12 - a) rfl (by omega) (by omega) _).mono ?_
  rintro e w1 ⟨⟨b', hb', rfl⟩, rfl⟩
  go_wp2_with fail
  refine (new_any a b' _ _ rfl rfl ha1 ha8 (by omega) _).mono ?_
  rintro e w1 ⟨b, rfl, hC1, hb1⟩
  obtain ⟨n, hn⟩ : ∃ n, n = a + b' := ⟨_, rfl⟩
  rw [← hn] at hC1
  have HC1 : Hid (IsCode w1 b a n) := hC1
  have HB1 : Hid (Below w.heap.size w w1) := hb1
  have en : (a : Int) + (b' : Int) = (n : Int) := by omega
  have n0 : ((n : Int) != (n : Int)) = false := by simp
  have hn12 : n ≤ 12 := by omega
  have han : a ≤ n := by omega
  clear hC1 hb1 hn hb'
  go_wp2_with fail
  refine (short_any a2 150 _ rfl _).mono ?_
  rintro e w2 ⟨v, rfl, hv, rfl⟩
  go_wp2_with fail
  refine (encode_any b a n v ha1 ha8 hn12 (by omega) _ HC1.out).mono ?_
  rintro e Wc ⟨gf, rfl, hgf, OF, hbc⟩
  have HF : Hid (OwnS Wc gf n (fragS a v) n) := OF
  have HCc : Hid (IsCode Wc b a n) := HC1.out.up hbc
  have Bc : Hid (Below w.heap.size w Wc) := HB1.out.trans (hbc.mono HB1.out.size)
  obtain ⟨D, hD⟩ : ∃ D, Wc.heap.size = D := ⟨_, rfl⟩
  have HD : Hid (Wc.heap.size = D) := hD
  clear OF hbc HC1 HB1 hD hgf
  go_wp2_with fail
  go_loopw [17, 18] (fun v x wr => ∃ i : Nat, i ≤ n ∧ x = .int .i64 (i : Int) ∧ wr.ownsRow D 3 1 v i (ints (List.range i)) ∧ Hid (Below D Wc wr)) (fun _ x _ => n - (intOf x).toNat)
  case atStart => exact ⟨0, by omega, rfl, World.ownsRow_nil _ _ _ _, Below.refl _ _⟩
  case round =>
    obtain ⟨i, hi, rfl, own1, HB1⟩ := hrel
    by_cases hlt : i < n
    · have hi1 : (i : Int) < (n : Int) := by omega
      obtain ⟨i0, q0, q1, q2, q3⟩ := info_parts info3
      have hsz : D ≤ wr.heap.size := by rw [← HD.out]; exact HB1.out.size
      go_wp2_with (at_builtin; refine wpList_append_own _ rfl _ _ 51 rfl D 3 i0 (.int .i64 0) 1 8 under49 q0 q1 q2 q3 rfl (by decide) _ _ _ rfl (own1.alloc _) ⟨wr.heap.size, 0, none⟩ 1 1 [.int .i64 (i : Int)] rfl rfl ?c1 ?c2 ?c3 ?c4 ?c5 ?_)
      case c1 =>
        intro j u hj
        match j, hj with
        | 0, hj => simp at hj; subst hj; simp [Addr.add]
      case c2 => intro u hu; simp at hu; subst hu; rfl
      case c3 => unfold maxLen; omega
      case c4 => omega
      case c5 => simp; omega
      intro v' w1 hown' hgrow _
      have O2 : w1.ownsRow D 3 1 v' (i + 1) (ints (List.range (i + 1))) := by
        have e : ints (List.range (i + 1)) = ints (List.range i) ++ [.int .i64 (i : Int)] := by simp [ints, List.range_succ]
        rw [e]; exact hown'
      have Bl : Hid (Below D Wc w1) := (HB1.out.alloc hsz _).grown hgrow (by rw [World.size_alloc]; omega) (fun q e => (own1.lt q e).1)
      clear own1 HB1 hown' hgrow q0 q1 q2 q3 hsz
      go_wp2
      go_roundw
      case rel => exact ⟨i + 1, by omega, by go_num, O2, Bl⟩
      case measure => simp [intOf]; omega
    · have hin : i = n := by omega
      have j1 : decide ((i : Int) < (n : Int)) = false := by simp; omega
      have O1 : wr.ownsRow D 3 1 u17 (n - 0) (ints (List.range n)) := by rw [← hin]; exact own1
      have P0 : Hid (PickR n 0 (fun _ => 0) (List.range n)) := PickR.start n _
      clear own1 hin
      go_wp2_with fail
      go_loopw [17, 19, 20] (fun u vv x wr => ∃ (i : Nat) (r : Nat → Nat) (l : List Nat), i ≤ a ∧ x = .int .i64 (i : Int) ∧ wr.ownsRow D 3 1 u (n - i) (ints l) ∧ wr.ownsRow D 31 2 vv (2 * i) (pc (atI r) (atD a v r) (List.range (2 * i))) ∧ Hid (PickR n i r l) ∧ Hid (Below D Wc wr)) (fun _ _ x _ => a - (intOf x).toNat)
      case atStart => exact ⟨0, fun _ => 0, List.range n, by omega, rfl, O1, World.ownsRow_nil _ _ _ _, P0, HB1⟩
      case round =>
        obtain ⟨i, r, l, hi, rfl, own1, own2, HP, HB⟩ := hrel
        clear O1 P0 HB1
        by_cases hia : i < a
        · have hi1 : (i : Int) < (a : Int) := by omega
          have hll : l.length = n - i := HP.out.len
          obtain ⟨gl, cl, rfl, hDg, hlc, hgl, hcl⟩ := own_cells own1 (by omega)
          have Hcl : Hid (∀ j u, (ints l)[j]? = some u → wr.cell? ⟨gl, j, none⟩ = some u) := hcl
          clear hcl
          by_cases hpi : i < len2
          · obtain ⟨x3, z, rfl, hml, hcell⟩ := hpk.out i hpi
            have cz : wr.cell? (x3.add i) = some (.int .i64 z) := cell_later (Bc.out.trans ((by rw [HD.out]; exact HB.out : Below Wc.heap.size Wc wr).mono Bc.out.size)) hcell
            have hi2 : (i : Int) < (len2 : Int) := by omega
            clear hcell
            unfold maxLen at hml
            go_wp2_with fail
            refine (within_0 z _ _ (n - i - 1) rfl (by omega) (by omega) _).mono ?_
            rintro e w3 ⟨⟨p, hp, rfl⟩, rfl⟩
            clear cz hml hi2
            obtain ⟨x, hx⟩ : ∃ x, l[p]? = some x := ⟨l[p]'(by omega), List.getElem?_eq_getElem _⟩
            have hxn : x < n := (HP.out.mem x (List.mem_of_getElem? hx)).1
            have cl1 : wr.cell? ⟨gl, p, none⟩ = some (.int .i64 (x : Int)) := Hcl.out p _ (ints_at hx)
            obtain ⟨y, ey⟩ : ∃ y, y = if i = 0 then x else r 0 := ⟨_, rfl⟩
            have hyn : y < n := by
              rw [ey]
              by_cases e : i = 0
              · rw [if_pos e]; exact hxn
              · rw [if_neg e]; exact HP.out.lt 0 (by omega)
            have hBW : Below Wc.heap.size Wc wr := by rw [HD.out]; exact HB.out
            have cf1 : wr.cell? ⟨gf, x, none⟩ = some (.string (fragS a v x)) := cell_later hBW (ownS_at HF.out hxn)
            have cf2 : wr.cell? ⟨gf, y, none⟩ = some (.string (fragS a v y)) := cell_later hBW (ownS_at HF.out hyn)
            have hpl : (p : Int) < ((n - i : Nat) : Int) := by omega
            have hpl2 : p < n - i := by omega
            have hxn' : (x : Int) < (n : Int) := by omega
            have hyn' : (y : Int) < (n : Int) := by omega
            have P1 : Hid (PickR n (i + 1) (fun t => if t = i then x else r t) (l.take p ++ l.drop (p + 1))) := HP.out.step (by omega) hx
            have EY : Hid (y = if i = 0 then x else r 0) := ey
            obtain ⟨i0, q0, q1, q2, q3⟩ := info_parts info31p
            have hsz : D ≤ wr.heap.size := by rw [← HD.out]; exact HB.out.size
            obtain ⟨al, cpl, hul, HPt⟩ : ∃ al cpl, u19 = .slice al (2 * i) cpl ∧ PartF wr al (atI r) (atD a v r) (2 * i) := by
              rcases Nat.eq_zero_or_pos i with h0 | h0
              · subst h0
                rcases own2.2 with ⟨h1, _⟩ | ⟨g, cap, cur, h1, _⟩
                · exact ⟨none, 0, h1, Or.inl rfl⟩
                · exact ⟨some ⟨g, 0, none⟩, cap, h1, Or.inl rfl⟩
              · obtain ⟨g, cap, h1, _, _, h2⟩ := own_pick (by omega) own2
                exact ⟨some ⟨g, 0, none⟩, cap, h1, h2⟩
            subst hul
            have HY0 : Hid (((y : Nat) : Int) = if 2 * i = 0 then (x : Int) else atI r 0) := by
              show _ = _
              rw [ey]
              by_cases e : i = 0
              · rw [if_pos e, if_pos (by omega)]
              · rw [if_neg e, if_neg (by omega)]; unfold atI; rw [show atR r 0 = r 0 from rfl]
            have O3 : Hid (wr.ownsRow D 3 1 (.slice (some ⟨gl, 0, none⟩) (n - i) cl) (n - i) (ints l)) := own1
            have O4 : Hid (wr.ownsRow D 31 2 (.slice al (2 * i) cpl) (2 * i) (pc (atI r) (atD a v r) (List.range (2 * i)))) := own2
            have HPd : Hid (PartF wr.drew al (atI r) (atD a v r) (2 * i)) := HPt.alike ⟨rfl, rfl, rfl, rfl⟩
            have H2i : 2 * i ≤ 4096 := by omega
            clear hx hBW HP own1 own2 ey HPt Hcl
            obtain ⟨cg3, hg3⟩ : ∃ C, wr.heap[gl]? = some (.cells C 3 (0, 0)) := by
              rcases O3.out.2 with ⟨h1, _⟩ | ⟨g, cap, cur, h1, _, hh, _⟩
              · cases h1
              · injection h1 with e1 _ _; injection e1 with e1; injection e1 with e1 _ _
                subst e1; exact ⟨cur, hh⟩
            obtain ⟨cg9, hg9⟩ : ∃ C, wr.heap[gf]? = some (.cells C 9 (0, 0)) := by
              obtain ⟨C, h1, _⟩ := HF.out
              exact ⟨C, ((by rw [HD.out]; exact HB.out : Below Wc.heap.size Wc wr).block gf (Array.getElem?_eq_some_iff.1 h1).1).trans h1⟩
            have NE3 : Hid (some gl ≠ (Value.slice al (2 * i) cpl).ownBlock) := own_ne O4.out hg3 (by decide)
            have NE9 : Hid (some gf ≠ (Value.slice al (2 * i) cpl).ownBlock) := own_ne O4.out hg9 (by decide)
            have HLT : Hid (gl < wr.heap.size ∧ gf < wr.heap.size) := ⟨(Array.getElem?_eq_some_iff.1 hg3).1, (Array.getElem?_eq_some_iff.1 hg9).1⟩
            have B1 : Hid (Below wr.heap.size wr (wr.alloc (.cells #[.int .i64 (x : Int), .string (fragS a v x), .int .i64 (y : Int), .string (fragS a v y)] 31))) := (Below.refl _ _).alloc (Nat.le_refl _) _
            have O6 : Hid (∀ X, Alike (wr.alloc (.cells #[.int .i64 (x : Int), .string (fragS a v x), .int .i64 (y : Int), .string (fragS a v y)] 31)) X → X.ownsRow D 31 2 (.slice al (2 * i) cpl) (2 * i) (pc (atI r) (atD a v r) (List.range (2 * i)))) := fun X hX => own_up (own_up O4.out B1.out) (hX.below _)
            have K1 : Hid (∀ X, Alike (wr.alloc (.cells #[.int .i64 (x : Int), .string (fragS a v x), .int .i64 (y : Int), .string (fragS a v y)] 31)) X → ∀ j u, [Value.int .i64 (x : Int), .string (fragS a v x), .int .i64 (y : Int), .string (fragS a v y)][j]? = some u → X.cell? ((⟨wr.heap.size, 0, none⟩ : Addr).add j) = some u) := fun X hX j u hj => by
              rw [addr_add, Nat.zero_add]
              have e := World.cell?_alloc_mark wr #[.int .i64 (x : Int), .string (fragS a v x), .int .i64 (y : Int), .string (fragS a v y)] 31 (0, 0) j
              have e2 : X.cell? ⟨wr.heap.size, j, none⟩ = (wr.alloc (.cells #[.int .i64 (x : Int), .string (fragS a v x), .int .i64 (y : Int), .string (fragS a v y)] 31)).cell? ⟨wr.heap.size, j, none⟩ := World.cell?_of_block (by rw [hX.heap])
              rw [e2, e, ← hj]; simp
            have L1 : Hid (∀ X, Alike (wr.alloc (.cells #[.int .i64 (x : Int), .string (fragS a v x), .int .i64 (y : Int), .string (fragS a v y)] 31)) X → D ≤ X.heap.size) := fun X hX => by
              rw [hX.heap, World.size_alloc]; omega
            have SA : Hid (∀ X, Alike (wr.alloc (.cells #[.int .i64 (x : Int), .string (fragS a v x), .int .i64 (y : Int), .string (fragS a v y)] 31)) X → X.cell? ⟨gl, p, none⟩ = some (.int .i64 (x : Int)) ∧ X.cell? ⟨gf, x, none⟩ = some (.string (fragS a v x)) ∧ X.cell? ⟨gf, y, none⟩ = some (.string (fragS a v y))) := fun X hX =>
              ⟨cell_later (below_alike B1.out hX) cl1, cell_later (below_alike B1.out hX) cf1, cell_later (below_alike B1.out hX) cf2⟩
            have SG : Hid (∀ X w5 : World, X.grownBy w5 (Value.slice al (2 * i) cpl).ownBlock → Alike (wr.alloc (.cells #[.int .i64 (x : Int), .string (fragS a v x), .int .i64 (y : Int), .string (fragS a v y)] 31)) X → w5.cell? ⟨gl, p, none⟩ = some (.int .i64 (x : Int)) ∧ w5.cell? ⟨gf, x, none⟩ = some (.string (fragS a v x)) ∧ w5.cell? ⟨gf, y, none⟩ = some (.string (fragS a v y))) := fun X w5 hg hX => by
              have h0 := SA.out X hX
              have l1 : gl < X.heap.size := by rw [hX.heap, World.size_alloc]; have := HLT.out.1; omega
              have l2 : gf < X.heap.size := by rw [hX.heap, World.size_alloc]; have := HLT.out.2; omega
              exact ⟨(World.cell?_of_block (hg.block gl l1 NE3.out)).trans h0.1, (World.cell?_of_block (hg.block gf l2 NE9.out)).trans h0.2.1, (World.cell?_of_block (hg.block gf l2 NE9.out)).trans h0.2.2⟩
            have WG : Hid (∀ X w5 : World, X.grownBy w5 (Value.slice al (2 * i) cpl).ownBlock → Alike (wr.alloc (.cells #[.int .i64 (x : Int), .string (fragS a v x), .int .i64 (y : Int), .string (fragS a v y)] 31)) X → Below D Wc w5 ∧ w5.ownsRow D 3 1 (.slice (some ⟨gl, 0, none⟩) (n - i) cl) (n - i) (ints l)) := fun X w5 hg hX => by
              have hX1 : Below D Wc X := below_alike (HB.out.alloc hsz _) hX
              refine ⟨hX1.grown hg (L1.out X hX) (fun q e => (O4.out.lt q e).1), ?_⟩
              have o1 : X.ownsRow D 3 1 (.slice (some ⟨gl, 0, none⟩) (n - i) cl) (n - i) (ints l) := own_up (own_up O3.out B1.out) (hX.below _)
              refine ⟨o1.1, ?_⟩
              rcases o1.2 with h1 | ⟨g, cap, cur, h1, h2, hh, h3⟩
              · exact Or.inl h1
              · injection h1 with e1 e2 e3; injection e1 with e1; injection e1 with e1 _ _
                subst e1
                refine Or.inr ⟨gl, cap, cur, by rw [e3], h2, ?_, h3⟩
                rw [hg.block gl (by rw [hX.heap, World.size_alloc]; have := HLT.out.1; omega) NE3.out]; exact hh
            clear hg3 hg9 hsz B1
            go_wp2_with fail
            go_region_held3 (fun w' => w'.cell? ⟨gl, p, none⟩ = some (.int .i64 (x : Int)) ∧ w'.cell? ⟨gf, x, none⟩ = some (.string (fragS a v x)) ∧ w'.cell? ⟨gf, y, none⟩ = some (.string (fragS a v y)))
              (first | exact ⟨cl1, cf1, cf2⟩ | exact SA.out _ ⟨rfl, rfl, rfl, rfl⟩ | exact hS4)
              (first
                | (go_at_call 26; refine (l0_any al (2 * i) cpl (atI r) (atD a v r) (x : Int) (y : Int) HY0.out H2i _ HPd.out).mono ?_; rintro e w7 ⟨rfl, rfl⟩)
                | (refine step_append_mine rfl _ _ 44 rfl D 31 i0 (.agg #[.int .i64 0, .string ⟨#[]⟩]) 2 24 under44 q0 q1 q2 q3 rfl (by decide) (.slice al (2 * i) cpl) (2 * i) _ rfl (O6.out _ ⟨rfl, rfl, rfl, rfl⟩) ⟨wr.heap.size, 0, none⟩ 2 2 [.int .i64 (x : Int), .string (fragS a v x), .int .i64 (y : Int), .string (fragS a v y)] rfl rfl (K1.out _ ⟨rfl, rfl, rfl, rfl⟩) four_one (by unfold maxLen; omega) (by omega) (L1.out _ ⟨rfl, rfl, rfl, rfl⟩) ?_; intro v4 w4 own44 hgrow4; have hS4 := SG.out _ w4 hgrow4 ⟨rfl, rfl, rfl, rfl⟩; have hW4 := WG.out _ w4 hgrow4 ⟨rfl, rfl, rfl, rfl⟩))
            rename_i hHeld
            have own4 : w4.ownsRow D 31 2 v4 (2 * (i + 1)) (pc (atI (fun t => if t = i then x else r t)) (atD a v (fun t => if t = i then x else r t)) (List.range (2 * (i + 1)))) := by
              rw [← pc_step a v r i x y EY.out]; exact own44
            have own5 := hW4.2
            have B4 : Hid (Below D Wc w4) := hW4.1
            clear own44 hgrow4 hS4 hW4 hHeld HPd O3 O4 HY0 EY NE3 NE9 HLT O6 K1 L1 SA SG WG HB hyn' hyn hxn' cl1 cf1 cf2 q0 q1 q2 q3 hgl
            obtain ⟨gl', cl', ev, _, hlc', hgl', hcl'⟩ := own_cells own5 (by omega)
            injection ev with ev1 _ ev2; injection ev1 with ev1; injection ev1 with ev1 _ _
            subst ev1 ev2
            obtain ⟨j0, q0, q1, q2, q3⟩ := info_parts info3
            obtain ⟨S, hS⟩ : ∃ S, w4.heap.size = S := ⟨_, rfl⟩
            have hDS : D ≤ S := by rw [← hS, ← HD.out]; exact B4.out.size
            obtain ⟨ad1, ea1, hc1⟩ := head_cells (c := cl) (p := p) hcl'
            obtain ⟨ad2, ea2, hc2⟩ := cut_cells (c := cl) (p := p + 1) (by omega) hcl'
            have hs1 : ∀ w, (Instr.sliceAt 51 (.slice (some ⟨gl, 0, none⟩) (n - i) cl) none (some (.int .i64 (p : Int))) none).run Try.prog w = .ok (.slice (some ad1) p cl) w := fun w => by
              have := islice_hi (some ⟨gl, 0, none⟩) (n - i) cl p (by omega) w
              rwa [ea1] at this
            have hs2 : ∀ w, (Instr.sliceAt 51 (.slice (some ⟨gl, 0, none⟩) (n - i) cl) (some (.int .i64 ((p : Int) + 1))) none none).run Try.prog w = .ok (.slice (some ad2) (n - i - (p + 1)) (cl - (p + 1))) w := fun w => by
              have := islice_lo (some ⟨gl, 0, none⟩) (n - i) cl (p + 1) (by omega) w
              rwa [ea2] at this
            have hwr : IntKind.i64.wrap ((p : Int) + 1) = ((p : Int) + 1) := by unfold IntKind.wrap; simp [IntKind.bits, IntKind.signed] <;> omega
            have htn : ((p : Int) + 1).toNat = p + 1 := by omega
            have hb2 : ((p : Int) + 1) ≤ ((n - i : Nat) : Int) := by omega
            have hb3 : (0 : Int) ≤ ((p : Int) + 1) := by omega
            have ea3 : (if cl = p + 1 then (some ⟨gl, 0, none⟩ : Option Addr) else some ⟨gl, p + 1, none⟩) = some ad2 := by
              rw [← ea2]; unfold sl
              by_cases e : cl = p + 1
              · rw [if_pos e, if_pos e]
              · rw [if_neg e, if_neg e]; show _ = some ((⟨gl, 0, none⟩ : Addr).add ((p + 1) * 1)); rw [addr_add]; all_goals (congr 2; omega)
            have O6 : Hid (∀ X, Alike (w4.alloc (.cells #[] 3)) X → X.ownsRow S 3 1 (.slice (some ⟨S, 0, none⟩) 0 0) 0 []) := fun X hX =>
              ⟨rfl, Or.inr ⟨S, 0, #[], rfl, Nat.le_refl _, by rw [hX.heap, ← hS]; exact heap_alloc_last _ _, Nat.le_refl _, Nat.zero_le _, rfl, rfl⟩⟩
            have L6 : Hid (∀ X, Alike (w4.alloc (.cells #[] 3)) X → Below w4.heap.size w4 X) := fun X hX => below_alike ((Below.refl _ _).alloc (Nat.le_refl _) _) hX
            have L6g : Hid (∀ X w5 : World, X.grownBy w5 (some S) → Alike (w4.alloc (.cells #[] 3)) X → Below w4.heap.size w4 w5) := fun X w5 hg hX =>
              (below_alike ((Below.refl _ _).alloc (Nat.le_refl _) _) hX).grown hg (by rw [hX.heap]; simp) (fun q e => by cases e; exact Nat.le_of_eq hS)
            have K1 : Hid (∀ X, Below w4.heap.size w4 X → ∀ j u, (ints (l.take p))[j]? = some u → X.cell? (ad1.add j) = some u) := fun X hX j u hj => cell_later hX (hc1 j u hj)
            have K2 : Hid (∀ X, Below w4.heap.size w4 X → ∀ j u, (ints (l.drop (p + 1)))[j]? = some u → X.cell? (ad2.add j) = some u) := fun X hX j u hj => cell_later hX (hc2 j u hj)
            have N1 : Hid ((ints (l.take p)).length = p * 1) := by show _ = _; rw [ints_length, List.length_take]; omega
            have N2 : Hid ((ints (l.drop (p + 1))).length = (n - i - (p + 1)) * 1) := by show _ = _; rw [ints_length, List.length_drop]; omega
            have HS : Hid (w4.heap.size = S) := hS
            clear hcl' hgl' hlc' hc1 hc2 ea1 ea2 own5
            go_wp2_with fail
            go_region_law (first
              | (refine step_append_mine rfl _ _ 51 rfl S 3 j0 (.int .i64 0) 1 8 under49 q0 q1 q2 q3 rfl (by decide) (.slice (some ⟨S, 0, none⟩) 0 0) 0 [] rfl (O6.out _ ⟨rfl, rfl, rfl, rfl⟩) ad1 p cl (ints (l.take p)) rfl N1.out (K1.out _ (L6.out _ ⟨rfl, rfl, rfl, rfl⟩)) (ints_one _) (by unfold maxLen; omega) (by omega) (by have := (L6.out _ ⟨rfl, rfl, rfl, rfl⟩ : Below w4.heap.size w4 _).size; rw [HS.out] at this; exact this) ?_; intro v5 w5 own6 hgrow1; have L5 : Hid (Below w4.heap.size w4 w5) := L6g.out _ _ hgrow1 ⟨rfl, rfl, rfl, rfl⟩)
              | (refine step_append_mine rfl _ _ 51 rfl S 3 j0 (.int .i64 0) 1 8 under49 q0 q1 q2 q3 rfl (by decide) v5 _ _ rfl own6 ad2 (n - i - (p + 1)) (cl - (p + 1)) (ints (l.drop (p + 1))) rfl N2.out (K2.out _ L5.out) (ints_one _) (by unfold maxLen; omega) (by omega) (by have := L5.out.size; rw [HS.out] at this; exact this) ?_; intro v6 w6 own7 hgrow2; have L7 : Hid (Below w4.heap.size w4 w6) := L5.out.grown hgrow2 L5.out.size (fun q e => by rw [HS.out]; exact (own6.lt q e).1)))
            have O7 : w6.ownsRow D 3 1 v6 (n - (i + 1)) (ints (l.take p ++ l.drop (p + 1))) := by
              have h := own_mono own7 hDS
              rwa [show 0 + p + (n - i - (p + 1)) = n - (i + 1) by omega, List.nil_append, ints_append] at h
            have O8 := own_up own4 L7.out
            have B6 : Hid (Below D Wc w6) := B4.out.trans (L7.out.mono (by rw [HS.out]; exact hDS))
            clear own6 own7 own4 hgrow1 hgrow2 L5 L7 B4 K1 K2 N1 N2 L6 L6g O6 hs1 hs2 hwr htn hb2 hb3 ea3 q0 q1 q2 q3 HS hS
            go_wp2_with fail
            exact ⟨⟨i + 1, _, _, by omega, by go_num, O7, O8, P1, B6⟩, by simp [intOf]; omega⟩

          · have hi2 : decide ((i : Int) < (len2 : Int)) = false := by simp; omega
            obtain ⟨x, hx⟩ : ∃ x, l[0]? = some x := ⟨l[0]'(by omega), List.getElem?_eq_getElem _⟩
            have hxn : x < n := (HP.out.mem x (List.mem_of_getElem? hx)).1
            have cl1 : wr.cell? ⟨gl, 0, none⟩ = some (.int .i64 (x : Int)) := Hcl.out 0 _ (ints_at hx)
            obtain ⟨y, ey⟩ : ∃ y, y = if i = 0 then x else r 0 := ⟨_, rfl⟩
            have hyn : y < n := by
              rw [ey]
              by_cases e : i = 0
              · rw [if_pos e]; exact hxn
              · rw [if_neg e]; exact HP.out.lt 0 (by omega)
            have hBW : Below Wc.heap.size Wc wr := by rw [HD.out]; exact HB.out
            have cf1 : wr.cell? ⟨gf, x, none⟩ = some (.string (fragS a v x)) := cell_later hBW (ownS_at HF.out hxn)
            have cf2 : wr.cell? ⟨gf, y, none⟩ = some (.string (fragS a v y)) := cell_later hBW (ownS_at HF.out hyn)
            have hpl : (0 : Int) < ((n - i : Nat) : Int) := by omega
            have hpl2 : 0 < n - i := by omega
            have hxn' : (x : Int) < (n : Int) := by omega
            have hyn' : (y : Int) < (n : Int) := by omega
            have P1 : Hid (PickR n (i + 1) (fun t => if t = i then x else r t) (l.take 0 ++ l.drop (1))) := HP.out.step (by omega) hx
            have EY : Hid (y = if i = 0 then x else r 0) := ey
            obtain ⟨i0, q0, q1, q2, q3⟩ := info_parts info31p
            have hsz : D ≤ wr.heap.size := by rw [← HD.out]; exact HB.out.size
            obtain ⟨al, cpl, hul, HPt⟩ : ∃ al cpl, u19 = .slice al (2 * i) cpl ∧ PartF wr al (atI r) (atD a v r) (2 * i) := by
              rcases Nat.eq_zero_or_pos i with h0 | h0
              · subst h0
                rcases own2.2 with ⟨h1, _⟩ | ⟨g, cap, cur, h1, _⟩
                · exact ⟨none, 0, h1, Or.inl rfl⟩
                · exact ⟨some ⟨g, 0, none⟩, cap, h1, Or.inl rfl⟩
              · obtain ⟨g, cap, h1, _, _, h2⟩ := own_pick (by omega) own2
                exact ⟨some ⟨g, 0, none⟩, cap, h1, h2⟩
            subst hul
            have HY0 : Hid (((y : Nat) : Int) = if 2 * i = 0 then (x : Int) else atI r 0) := by
              show _ = _
              rw [ey]
              by_cases e : i = 0
              · rw [if_pos e, if_pos (by omega)]
              · rw [if_neg e, if_neg (by omega)]; unfold atI; rw [show atR r 0 = r 0 from rfl]
            have O3 : Hid (wr.ownsRow D 3 1 (.slice (some ⟨gl, 0, none⟩) (n - i) cl) (n - i) (ints l)) := own1
            have O4 : Hid (wr.ownsRow D 31 2 (.slice al (2 * i) cpl) (2 * i) (pc (atI r) (atD a v r) (List.range (2 * i)))) := own2
            have HPd : Hid (PartF wr.drew al (atI r) (atD a v r) (2 * i)) := HPt.alike ⟨rfl, rfl, rfl, rfl⟩
            have H2i : 2 * i ≤ 4096 := by omega
            clear hx hBW HP own1 own2 ey HPt Hcl
            obtain ⟨cg3, hg3⟩ : ∃ C, wr.heap[gl]? = some (.cells C 3 (0, 0)) := by
              rcases O3.out.2 with ⟨h1, _⟩ | ⟨g, cap, cur, h1, _, hh, _⟩
              · cases h1
              · injection h1 with e1 _ _; injection e1 with e1; injection e1 with e1 _ _
                subst e1; exact ⟨cur, hh⟩
            obtain ⟨cg9, hg9⟩ : ∃ C, wr.heap[gf]? = some (.cells C 9 (0, 0)) := by
              obtain ⟨C, h1, _⟩ := HF.out
              exact ⟨C, ((by rw [HD.out]; exact HB.out : Below Wc.heap.size Wc wr).block gf (Array.getElem?_eq_some_iff.1 h1).1).trans h1⟩
            have NE3 : Hid (some gl ≠ (Value.slice al (2 * i) cpl).ownBlock) := own_ne O4.out hg3 (by decide)
            have NE9 : Hid (some gf ≠ (Value.slice al (2 * i) cpl).ownBlock) := own_ne O4.out hg9 (by decide)
            have HLT : Hid (gl < wr.heap.size ∧ gf < wr.heap.size) := ⟨(Array.getElem?_eq_some_iff.1 hg3).1, (Array.getElem?_eq_some_iff.1 hg9).1⟩
            have B1 : Hid (Below wr.heap.size wr (wr.alloc (.cells #[.int .i64 (x : Int), .string (fragS a v x), .int .i64 (y : Int), .string (fragS a v y)] 31))) := (Below.refl _ _).alloc (Nat.le_refl _) _
            have O6 : Hid (∀ X, Alike (wr.alloc (.cells #[.int .i64 (x : Int), .string (fragS a v x), .int .i64 (y : Int), .string (fragS a v y)] 31)) X → X.ownsRow D 31 2 (.slice al (2 * i) cpl) (2 * i) (pc (atI r) (atD a v r) (List.range (2 * i)))) := fun X hX => own_up (own_up O4.out B1.out) (hX.below _)
            have K1 : Hid (∀ X, Alike (wr.alloc (.cells #[.int .i64 (x : Int), .string (fragS a v x), .int .i64 (y : Int), .string (fragS a v y)] 31)) X → ∀ j u, [Value.int .i64 (x : Int), .string (fragS a v x), .int .i64 (y : Int), .string (fragS a v y)][j]? = some u → X.cell? ((⟨wr.heap.size, 0, none⟩ : Addr).add j) = some u) := fun X hX j u hj => by
              rw [addr_add, Nat.zero_add]
              have e := World.cell?_alloc_mark wr #[.int .i64 (x : Int), .string (fragS a v x), .int .i64 (y : Int), .string (fragS a v y)] 31 (0, 0) j
              have e2 : X.cell? ⟨wr.heap.size, j, none⟩ = (wr.alloc (.cells #[.int .i64 (x : Int), .string (fragS a v x), .int .i64 (y : Int), .string (fragS a v y)] 31)).cell? ⟨wr.heap.size, j, none⟩ := World.cell?_of_block (by rw [hX.heap])
              rw [e2, e, ← hj]; simp
            have L1 : Hid (∀ X, Alike (wr.alloc (.cells #[.int .i64 (x : Int), .string (fragS a v x), .int .i64 (y : Int), .string (fragS a v y)] 31)) X → D ≤ X.heap.size) := fun X hX => by
              rw [hX.heap, World.size_alloc]; omega
            have SA : Hid (∀ X, Alike (wr.alloc (.cells #[.int .i64 (x : Int), .string (fragS a v x), .int .i64 (y : Int), .string (fragS a v y)] 31)) X → X.cell? ⟨gl, 0, none⟩ = some (.int .i64 (x : Int)) ∧ X.cell? ⟨gf, x, none⟩ = some (.string (fragS a v x)) ∧ X.cell? ⟨gf, y, none⟩ = some (.string (fragS a v y))) := fun X hX =>
              ⟨cell_later (below_alike B1.out hX) cl1, cell_later (below_alike B1.out hX) cf1, cell_later (below_alike B1.out hX) cf2⟩
            have SG : Hid (∀ X w5 : World, X.grownBy w5 (Value.slice al (2 * i) cpl).ownBlock → Alike (wr.alloc (.cells #[.int .i64 (x : Int), .string (fragS a v x), .int .i64 (y : Int), .string (fragS a v y)] 31)) X → w5.cell? ⟨gl, 0, none⟩ = some (.int .i64 (x : Int)) ∧ w5.cell? ⟨gf, x, none⟩ = some (.string (fragS a v x)) ∧ w5.cell? ⟨gf, y, none⟩ = some (.string (fragS a v y))) := fun X w5 hg hX => by
              have h0 := SA.out X hX
              have l1 : gl < X.heap.size := by rw [hX.heap, World.size_alloc]; have := HLT.out.1; omega
              have l2 : gf < X.heap.size := by rw [hX.heap, World.size_alloc]; have := HLT.out.2; omega
              exact ⟨(World.cell?_of_block (hg.block gl l1 NE3.out)).trans h0.1, (World.cell?_of_block (hg.block gf l2 NE9.out)).trans h0.2.1, (World.cell?_of_block (hg.block gf l2 NE9.out)).trans h0.2.2⟩
            have WG : Hid (∀ X w5 : World, X.grownBy w5 (Value.slice al (2 * i) cpl).ownBlock → Alike (wr.alloc (.cells #[.int .i64 (x : Int), .string (fragS a v x), .int .i64 (y : Int), .string (fragS a v y)] 31)) X → Below D Wc w5 ∧ w5.ownsRow D 3 1 (.slice (some ⟨gl, 0, none⟩) (n - i) cl) (n - i) (ints l)) := fun X w5 hg hX => by
              have hX1 : Below D Wc X := below_alike (HB.out.alloc hsz _) hX
              refine ⟨hX1.grown hg (L1.out X hX) (fun q e => (O4.out.lt q e).1), ?_⟩
              have o1 : X.ownsRow D 3 1 (.slice (some ⟨gl, 0, none⟩) (n - i) cl) (n - i) (ints l) := own_up (own_up O3.out B1.out) (hX.below _)
              refine ⟨o1.1, ?_⟩
              rcases o1.2 with h1 | ⟨g, cap, cur, h1, h2, hh, h3⟩
              · exact Or.inl h1
              · injection h1 with e1 e2 e3; injection e1 with e1; injection e1 with e1 _ _
                subst e1
                refine Or.inr ⟨gl, cap, cur, by rw [e3], h2, ?_, h3⟩
                rw [hg.block gl (by rw [hX.heap, World.size_alloc]; have := HLT.out.1; omega) NE3.out]; exact hh
            clear hg3 hg9 hsz B1
            go_wp2_with fail
            go_region_held3 (fun w' => w'.cell? ⟨gl, 0, none⟩ = some (.int .i64 (x : Int)) ∧ w'.cell? ⟨gf, x, none⟩ = some (.string (fragS a v x)) ∧ w'.cell? ⟨gf, y, none⟩ = some (.string (fragS a v y)))
              (first | exact ⟨cl1, cf1, cf2⟩ | exact SA.out _ ⟨rfl, rfl, rfl, rfl⟩ | exact hS4)
              (first
                | (go_at_call 26; refine (l0_any al (2 * i) cpl (atI r) (atD a v r) (x : Int) (y : Int) HY0.out H2i _ HPd.out).mono ?_; rintro e w7 ⟨rfl, rfl⟩)
                | (refine step_append_mine rfl _ _ 44 rfl D 31 i0 (.agg #[.int .i64 0, .string ⟨#[]⟩]) 2 24 under44 q0 q1 q2 q3 rfl (by decide) (.slice al (2 * i) cpl) (2 * i) _ rfl (O6.out _ ⟨rfl, rfl, rfl, rfl⟩) ⟨wr.heap.size, 0, none⟩ 2 2 [.int .i64 (x : Int), .string (fragS a v x), .int .i64 (y : Int), .string (fragS a v y)] rfl rfl (K1.out _ ⟨rfl, rfl, rfl, rfl⟩) four_one (by unfold maxLen; omega) (by omega) (L1.out _ ⟨rfl, rfl, rfl, rfl⟩) ?_; intro v4 w4 own44 hgrow4; have hS4 := SG.out _ w4 hgrow4 ⟨rfl, rfl, rfl, rfl⟩; have hW4 := WG.out _ w4 hgrow4 ⟨rfl, rfl, rfl, rfl⟩))
            rename_i hHeld
            have own4 : w4.ownsRow D 31 2 v4 (2 * (i + 1)) (pc (atI (fun t => if t = i then x else r t)) (atD a v (fun t => if t = i then x else r t)) (List.range (2 * (i + 1)))) := by
              rw [← pc_step a v r i x y EY.out]; exact own44
            have own5 := hW4.2
            have B4 : Hid (Below D Wc w4) := hW4.1
            clear own44 hgrow4 hS4 hW4 hHeld HPd O3 O4 HY0 EY NE3 NE9 HLT O6 K1 L1 SA SG WG HB hyn' hyn hxn' cl1 cf1 cf2 q0 q1 q2 q3 hgl
            obtain ⟨gl', cl', ev, _, hlc', hgl', hcl'⟩ := own_cells own5 (by omega)
            injection ev with ev1 _ ev2; injection ev1 with ev1; injection ev1 with ev1 _ _
            subst ev1 ev2
            obtain ⟨j0, q0, q1, q2, q3⟩ := info_parts info3
            obtain ⟨S, hS⟩ : ∃ S, w4.heap.size = S := ⟨_, rfl⟩
            have hDS : D ≤ S := by rw [← hS, ← HD.out]; exact B4.out.size
            obtain ⟨ad1, ea1, hc1⟩ := head_cells (c := cl) (p := 0) hcl'
            obtain ⟨ad2, ea2, hc2⟩ := cut_cells (c := cl) (p := 1) (by omega) hcl'
            have hs1 : ∀ w, (Instr.sliceAt 51 (.slice (some ⟨gl, 0, none⟩) (n - i) cl) none (some (.int .i64 (0 : Int))) none).run Try.prog w = .ok (.slice (some ad1) 0 cl) w := fun w => by
              have := islice_hi (some ⟨gl, 0, none⟩) (n - i) cl 0 (by omega) w
              rwa [ea1] at this
            have hs2 : ∀ w, (Instr.sliceAt 51 (.slice (some ⟨gl, 0, none⟩) (n - i) cl) (some (.int .i64 (1 : Int))) none none).run Try.prog w = .ok (.slice (some ad2) (n - i - (1)) (cl - (1))) w := fun w => by
              have := islice_lo (some ⟨gl, 0, none⟩) (n - i) cl (1) (by omega) w
              rwa [ea2] at this
            have hwr : IntKind.i64.wrap (1 : Int) = (1 : Int) := by unfold IntKind.wrap; simp [IntKind.bits, IntKind.signed] <;> omega
            have htn : (1 : Int).toNat = 1 := by omega
            have hb2 : (1 : Int) ≤ ((n - i : Nat) : Int) := by omega
            have hb3 : (0 : Int) ≤ (1 : Int) := by omega
            have ea3 : (if cl = 1 then (some ⟨gl, 0, none⟩ : Option Addr) else some ⟨gl, 1, none⟩) = some ad2 := by
              rw [← ea2]; unfold sl
              by_cases e : cl = 1
              · rw [if_pos e, if_pos e]
              · rw [if_neg e, if_neg e]; show _ = some ((⟨gl, 0, none⟩ : Addr).add ((1) * 1)); rw [addr_add]; all_goals (congr 2; omega)
            have O6 : Hid (∀ X, Alike (w4.alloc (.cells #[] 3)) X → X.ownsRow S 3 1 (.slice (some ⟨S, 0, none⟩) 0 0) 0 []) := fun X hX =>
              ⟨rfl, Or.inr ⟨S, 0, #[], rfl, Nat.le_refl _, by rw [hX.heap, ← hS]; exact heap_alloc_last _ _, Nat.le_refl _, Nat.zero_le _, rfl, rfl⟩⟩
            have L6 : Hid (∀ X, Alike (w4.alloc (.cells #[] 3)) X → Below w4.heap.size w4 X) := fun X hX => below_alike ((Below.refl _ _).alloc (Nat.le_refl _) _) hX
            have L6g : Hid (∀ X w5 : World, X.grownBy w5 (some S) → Alike (w4.alloc (.cells #[] 3)) X → Below w4.heap.size w4 w5) := fun X w5 hg hX =>
              (below_alike ((Below.refl _ _).alloc (Nat.le_refl _) _) hX).grown hg (by rw [hX.heap]; simp) (fun q e => by cases e; exact Nat.le_of_eq hS)
            have K1 : Hid (∀ X, Below w4.heap.size w4 X → ∀ j u, (ints (l.take 0))[j]? = some u → X.cell? (ad1.add j) = some u) := fun X hX j u hj => cell_later hX (hc1 j u hj)
            have K2 : Hid (∀ X, Below w4.heap.size w4 X → ∀ j u, (ints (l.drop (1)))[j]? = some u → X.cell? (ad2.add j) = some u) := fun X hX j u hj => cell_later hX (hc2 j u hj)
            have N1 : Hid ((ints (l.take 0)).length = 0 * 1) := by show _ = _; rw [ints_length, List.length_take]; omega
            have N2 : Hid ((ints (l.drop (1))).length = (n - i - (1)) * 1) := by show _ = _; rw [ints_length, List.length_drop]; omega
            have HS : Hid (w4.heap.size = S) := hS
            clear hcl' hgl' hlc' hc1 hc2 ea1 ea2 own5
            go_wp2_with fail
            go_region_law (first
              | (refine step_append_mine rfl _ _ 51 rfl S 3 j0 (.int .i64 0) 1 8 under49 q0 q1 q2 q3 rfl (by decide) (.slice (some ⟨S, 0, none⟩) 0 0) 0 [] rfl (O6.out _ ⟨rfl, rfl, rfl, rfl⟩) ad1 0 cl (ints (l.take 0)) rfl N1.out (K1.out _ (L6.out _ ⟨rfl, rfl, rfl, rfl⟩)) (ints_one _) (by unfold maxLen; omega) (by omega) (by have := (L6.out _ ⟨rfl, rfl, rfl, rfl⟩ : Below w4.heap.size w4 _).size; rw [HS.out] at this; exact this) ?_; intro v5 w5 own6 hgrow1; have L5 : Hid (Below w4.heap.size w4 w5) := L6g.out _ _ hgrow1 ⟨rfl, rfl, rfl, rfl⟩)
              | (refine step_append_mine rfl _ _ 51 rfl S 3 j0 (.int .i64 0) 1 8 under49 q0 q1 q2 q3 rfl (by decide) v5 _ _ rfl own6 ad2 (n - i - (1)) (cl - (1)) (ints (l.drop (1))) rfl N2.out (K2.out _ L5.out) (ints_one _) (by unfold maxLen; omega) (by omega) (by have := L5.out.size; rw [HS.out] at this; exact this) ?_; intro v6 w6 own7 hgrow2; have L7 : Hid (Below w4.heap.size w4 w6) := L5.out.grown hgrow2 L5.out.size (fun q e => by rw [HS.out]; exact (own6.lt q e).1)))
            have O7 : w6.ownsRow D 3 1 v6 (n - (i + 1)) (ints (l.take 0 ++ l.drop (1))) := by
              have h := own_mono own7 hDS
              rwa [show 0 + 0 + (n - i - (1)) = n - (i + 1) by omega, List.nil_append, ints_append] at h
            have O8 := own_up own4 L7.out
            have B6 : Hid (Below D Wc w6) := B4.out.trans (L7.out.mono (by rw [HS.out]; exact hDS))
            clear own6 own7 own4 hgrow1 hgrow2 L5 L7 B4 K1 K2 N1 N2 L6 L6g O6 hs1 hs2 hwr htn hb2 hb3 ea3 q0 q1 q2 q3 HS hS
            go_wp2_with fail
            exact ⟨⟨i + 1, _, _, by omega, by go_num, O7, O8, P1, B6⟩, by simp [intOf]; omega⟩

        · have hia' : i = a := by omega
          subst hia'
          have j2 : decide ((i : Int) < (i : Int)) = false := by simp
          obtain ⟨g, cap, rfl, _, hcap, HPt⟩ := own_pick (by omega) own2
          have hBW : Below Wc.heap.size Wc wr := by rw [HD.out]; exact HB.out
          have HPr : Hid (PartF wr (some ⟨g, 0, none⟩) (atI r) (atD i v r) (2 * i)) := HPt
          have HCr : Hid (IsCode wr b i n) := HCc.out.up hBW
          have HFr : Hid (OwnS wr gf n (fragS i v) n) := HF.out.up hBW
          have BR : Hid (Below w.heap.size w wr) := Bc.out.trans (hBW.mono Bc.out.size)
          have Hown : Hid (∀ j, j < 2 * i → 0 ≤ atI r j ∧ atI r j < (n : Int) ∧ atD i v r j = fragS i v (atI r j).toNat) := atD_own rfl HP.out.lt
          have Hl : Hid ((fst (atI r) i (2 * i)).length = i) := by show _ = _; rw [fst_pick (Nat.le_refl _) HP.out.inj]; simp
          have Hl2 : Hid ((fst (atI r) i (2 * (i - 1))).length < i) := by
            show _ < _
            rw [fst_pick (by omega) (fun s t hs ht => HP.out.inj s t (by omega) (by omega))]; simp; omega
          clear own1 own2 HB hBW HP HPt
          go_wp2_with fail
          refine (decode_any b i n (2 * i) cap _ _ (atI r) (atD i v r) ha1 ha8 hn12 (by omega) _ HCr.out HPr.out).mono ?_
          rintro e w5 ⟨s5, r5, rfl, hd5, hb5⟩
          obtain ⟨es, er⟩ := dec_own (v := v) ha1 rfl (by omega) Hown.out Hl.out hd5
          subst es er
          have HC5 : Hid (IsCode w5 b i n) := HCr.out.up hb5
          have HP5 : Hid (PartF w5 (some ⟨g, 0, none⟩) (atI r) (atD i s5 r) (2 * i)) := HPr.out.up hb5
          have HF5 : Hid (OwnS w5 gf n (fragS i s5) n) := HFr.out.up hb5
          have B5 : Hid (Below w.heap.size w w5) := BR.out.trans (hb5.mono BR.out.size)
          clear hd5 hb5 HCr HPr HFr BR
          go_wp2_with fail
          refine (within_0 a4 _ _ (n - 1) rfl (by omega) (by omega) _).mono ?_
          rintro e w6 ⟨⟨q, hq, rfl⟩, rfl⟩
          have hqn : q < n := by omega
          have hqn' : (q : Int) < (n : Int) := by omega
          go_wp2_with fail
          refine (rebuild_any b i n (2 * i) cap _ _ _ (atI r) (atD i s5 r) ha1 ha8 hn12 (by omega) _ HC5.out HP5.out).mono ?_
          rintro e w6 ⟨s6, r6, rfl, hd6, hb6⟩
          obtain ⟨es, er⟩ := reb_own (v := s5) (x := q) ha1 rfl (by omega) Hown.out Hl.out rfl hqn hd6
          subst es er
          have HC6 : Hid (IsCode w6 b i n) := HC5.out.up hb6
          have HP6 : Hid (PartF w6 (some ⟨g, 0, none⟩) (atI r) (atD i s5 r) (2 * (i - 1))) := (HP5.out.up hb6).head (by omega)
          have HF6 : Hid (OwnS w6 gf n (fragS i s5) n) := HF5.out.up hb6
          have B6 : Hid (Below w.heap.size w w6) := B5.out.trans (hb6.mono B5.out.size)
          have hsl : ∀ w, (Instr.sliceAt 44 (.slice (some ⟨g, 0, none⟩) (2 * i) cap) none (some (.int .i64 (2 * (i : Int) - 2))) none).run Try.prog w = .ok (.slice (some ⟨g, 0, none⟩) (2 * (i - 1)) cap) w := fun w => by
            rw [show (2 * (i : Int) - 2) = ((2 * (i - 1) : Nat) : Int) by omega]
            exact pslice_hi g (2 * i) cap (2 * (i - 1)) (by omega) w
          clear hd6 hb6 HC5 HP5 HF5 B5
          go_wp2_with fail
          refine (decode_any b i n (2 * (i - 1)) cap _ _ (atI r) (atD i s5 r) ha1 ha8 hn12 (by omega) _ HC6.out HP6.out).mono ?_
          rintro e w7 ⟨s7, r7, rfl, hd7, hb7⟩
          have er := dec_few (v := s5) rfl (by omega) (fun j hj => Hown.out j (by omega)) Hl2.out hd7
          subst er
          have cfq := ownS_at (HF6.out.up hb7) hqn
          have B7 : Hid (Below w.heap.size w w7) := B6.out.trans (hb7.mono B6.out.size)
          clear hd7 hb7 HC6 HP6 HF6 B6 hsl
          go_wp2_with fail
          refine (rruns_any _).mono ?_
          rintro e w8 ⟨rfl, hb8⟩
          have B8 : Hid (Below w.heap.size w w8) := B7.out.trans (hb8.mono B7.out.size)
          clear hb8
          go_wp2_with fail
          go_ret
          exact ⟨rfl, B8.out⟩
end Go.Proofs.Ytmhhegkpkncebaa
