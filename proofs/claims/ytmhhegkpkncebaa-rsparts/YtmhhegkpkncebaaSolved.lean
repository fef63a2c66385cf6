/-
  SOLVED of the program: the value that has these k fragments.
-/
import Derived.Test.YtmhhegkpkncebaaFirst
namespace Go.Proofs.Ytmhhegkpkncebaa
open Go.RowKit

/-- A list of n rows that lie elsewhere, the first t told. -/
def RowsAt (w w0 : World) (G n k : Nat) (A : Nat → Nat → Nat) (t : Nat) : Prop :=
  ∃ C, w.heap[G]? = some (.cells C 54 (0, 0)) ∧ C.size = n ∧ ∀ i, i < t → ∃ ra rc, C[i]? = some (.slice ra k rc) ∧ k ≤ rc ∧ RowF w0 ra (A i) k
theorem RowsAt.up {w w' w0 : World} {G n k t : Nat} {A : Nat → Nat → Nat} (h : RowsAt w w0 G n k A t) (hb : Below w.heap.size w w') : RowsAt w' w0 G n k A t := by
  obtain ⟨C, h1, h2⟩ := h
  exact ⟨C, (hb.block G (Array.getElem?_eq_some_iff.1 h1).1).trans h1, h2⟩
theorem RowsAt.alike {w w' w0 : World} {G n k t : Nat} {A : Nat → Nat → Nat} (h : RowsAt w w0 G n k A t) (e : Alike w w') : RowsAt w' w0 G n k A t := h.up (e.below _)
theorem OwnS.alike {w w' : World} {G n k : Nat} {R : Nat → ByteArray} (h : OwnS w G n R k) (e : Alike w w') : OwnS w' G n R k := h.up (e.below _)
theorem RowsAt.has {w w0 : World} {G n k t : Nat} {A : Nat → Nat → Nat} (h : RowsAt w w0 G n k A t) {i : Nat} (hi : i < n) : ∃ u, w.cell? ⟨G, i, none⟩ = some u := by
  obtain ⟨C, h1, h2, _⟩ := h
  exact ⟨C[i]'(by omega), by rw [cell_of_row w G i C 54 (0, 0) h1]; simp⟩
theorem RowsAt.fz {w w0 : World} {G n k t : Nat} {A : Nat → Nat → Nat} (h : RowsAt w w0 G n k A t) (i : Nat) : w.frozen? ⟨G, i, none⟩ = false := by
  obtain ⟨C, h1, _⟩ := h
  simp [World.frozen?, h1]
theorem RowsAt.set {w w0 : World} {G n k t rc : Nat} {A : Nat → Nat → Nat} {ra : Option Addr} (h : RowsAt w w0 G n k A t) (ht : t < n) (hc : k ≤ rc) (hr : RowF w0 ra (A t) k) : RowsAt (w.setCell ⟨G, t, none⟩ (.slice ra k rc)) w0 G n k A (t + 1) := by
  obtain ⟨C, h1, h2, h3⟩ := h
  refine ⟨C.setIfInBounds t (.slice ra k rc), by rw [setCell_eq_setRow w G t C 54 (0, 0) _ h1]; exact setRow_heap w G C _ 54 (0, 0) h1, by simp [h2], fun i hi => ?_⟩
  by_cases e : i = t
  · subst e; exact ⟨ra, rc, by rw [Array.getElem?_setIfInBounds_self_of_lt (by omega)], hc, hr⟩
  · obtain ⟨ra', rc', h4, h5⟩ := h3 i (by omega)
    exact ⟨ra', rc', by rw [Array.getElem?_setIfInBounds_ne (by omega)]; exact h4, h5⟩
theorem RowsAt.far {w w0 : World} {G n k t : Nat} {A : Nat → Nat → Nat} {ad : Addr} {u : Value} (h : RowsAt w w0 G n k A t) (hne : G ≠ ad.block) : RowsAt (w.setCell ad u) w0 G n k A t := by
  obtain ⟨C, h1, h2⟩ := h
  exact ⟨C, by rw [Below.heap_setCell _ _ _ _ hne]; exact h1, h2⟩
theorem OwnS.far {w : World} {G n k : Nat} {R : Nat → ByteArray} {ad : Addr} {u : Value} (h : OwnS w G n R k) (hne : G ≠ ad.block) : OwnS (w.setCell ad u) G n R k := by
  obtain ⟨C, h1, h2⟩ := h
  exact ⟨C, by rw [Below.heap_setCell _ _ _ _ hne]; exact h1, h2⟩
theorem RowsAt.matF {w w0 : World} {G n k : Nat} {A : Nat → Nat → Nat} (h : RowsAt w w0 G n k A n) (hb : Below w0.heap.size w0 w) : MatF w (some ⟨G, 0, none⟩) A n k := by
  obtain ⟨C, h1, h2, h3⟩ := h
  refine Or.inr ⟨G, 0, rfl, fun i hi => ?_⟩
  obtain ⟨ra, rc, h4, h5, h6⟩ := h3 i hi
  exact ⟨ra, rc, by rw [Nat.zero_add, cell_of_row w G i C 54 (0, 0) h1]; exact h4, h5, h6.below hb⟩

/-- What is solved: the rows one behind the other. -/
def solF (V : Nat → Nat → Nat) (D : Nat → ByteArray) (k L : Nat) (y : Nat) : Nat := mixF (V (y / L)) D k (y % L)
/-- Its cells, so far. -/
def solC (V : Nat → Nat → Nat) (D : Nat → ByteArray) (k L : Nat) : Nat → List Value
  | 0 => []
  | t + 1 => solC V D k L t ++ (List.range L).map (fun x => Value.int .u8 ((mixF (V t) D k x : Nat) : Int))
theorem solC_length (V : Nat → Nat → Nat) (D : Nat → ByteArray) (k L : Nat) : ∀ t, (solC V D k L t).length = t * L
  | 0 => by simp [solC]
  | t + 1 => by rw [solC, List.length_append, solC_length V D k L t, List.length_map, List.length_range, Nat.succ_mul]
theorem solC_at (V : Nat → Nat → Nat) (D : Nat → ByteArray) (k L : Nat) : ∀ t y, y < t * L → (solC V D k L t)[y]? = some (.int .u8 ((solF V D k L y : Nat) : Int))
  | 0, y, h => by simp at h
  | t + 1, y, h => by
    rw [Nat.succ_mul] at h
    by_cases hy : y < t * L
    · rw [solC, List.getElem?_append_left (by rw [solC_length]; exact hy)]; exact solC_at V D k L t y hy
    · rw [solC, List.getElem?_append_right (by rw [solC_length]; omega), solC_length]
      obtain ⟨x, rfl⟩ : ∃ x, y = t * L + x := ⟨y - t * L, by omega⟩
      have hx : x < L := by omega
      rw [Nat.add_sub_cancel_left]
      unfold solF
      rw [show t * L + x = x + L * t by rw [Nat.mul_comm]; omega, Nat.add_mul_div_left _ _ (by omega), Nat.div_eq_of_lt hx, Nat.add_mul_mod_self_left, Nat.mod_eq_of_lt hx, Nat.zero_add]
      simp [hx]

set_option maxHeartbeats 2000000 in
set_option maxRecDepth 100000 in
theorem solved_any (b k N L c : Nat) (a : Option Addr) (x : Nat → Nat) (D : Nat → ByteArray) (hk1 : 1 ≤ k) (hk : k ≤ 8) (hN : N ≤ 12) (hL : L ≤ 1048583) (hx : ∀ i, i < k → x i < N) (hd : ∀ i j, i < k → j < k → x i = x j → i = j) (hD : ∀ i, i < k → (D i).size = L) (w : World) (hC : IsCode w b k N) (hp : PartF w a (fun i => ((x i : Nat) : Int)) D k) :
    Calls Try.prog 33 #[.pointer (some ⟨b, 0, none⟩), .slice a k c] w fun e w' => ∃ V a' cap, e = .returned (.slice a' (k * L) cap) ∧ k * L ≤ cap ∧ RowF w' a' (solF V D k L) (k * L) ∧ Gf.B8 V ∧ Gf.EqN k (Gf.mm k V (fun i j => Gf.cau k (x i) j)) Gf.idm ∧ Gf.EqN k (Gf.mm k (fun i j => Gf.cau k (x i) j) V) Gf.idm ∧ Below w.heap.size w w' := by
  have HC : Hid (IsCode w b k N) := hC
  have HX : Hid (∀ i, i < k → x i < N) := hx
  have Hd : Hid (∀ i j, i < k → j < k → x i = x j → i = j) := hd
  have HD : Hid (∀ i, i < k → (D i).size = L) := hD
  have HP : Hid (PartF w a (fun i => ((x i : Nat) : Int)) D k) := hp
  have c0 := hC.kcell
  clear hC hx hd hD hp
  go_enter Try.func33, Try.ntmps33
  go_wp2_with fail
  obtain ⟨w1, cur1, hrun, hg1, hs1, hb1⟩ := make_rows w k (by omega)
  rw [hrun]
  clear hrun
  obtain ⟨Gr, eGr⟩ : ∃ G, G = w.heap.size := ⟨_, rfl⟩
  have c1 := (HC.out.up hb1).kcell
  rw [← eGr]
  have EGr : Hid (Gr = w.heap.size) := eGr
  clear eGr c0
  go_wp2_with fail
  obtain ⟨w2, cur2, hrun, hg2, hs2, hb2⟩ := make_strs w1 k (by omega)
  rw [hrun]
  clear hrun
  obtain ⟨Gd, eGd⟩ : ∃ G, G = w1.heap.size := ⟨_, rfl⟩
  have OR : Hid (RowsAt w2 w Gr k k (fun i j => Gf.cau k (x i) j) 0) := RowsAt.up ⟨cur1, by rw [EGr.out]; exact hg1, hs1, fun i hi => by omega⟩ hb2
  have OD : Hid (OwnS w2 Gd k D 0) := ⟨cur2, by rw [eGd]; exact hg2, hs2, fun i hi => by omega⟩
  have HB2 : Hid (Below w.heap.size w w2) := hb1.trans (hb2.mono hb1.size)
  have hne : Hid (Gr ≠ Gd) := by
    show Gr ≠ Gd
    have := (Array.getElem?_eq_some_iff.1 hg1).1
    rw [eGd, EGr.out]; omega
  have hGd : Hid (w.heap.size ≤ Gd) := by show _ ≤ _; rw [eGd]; exact hb1.size
  rw [← eGd]
  clear hg1 hs1 hb1 hg2 hs2 hb2 eGd c1
  go_wp2_with fail
  go_loopw [26] (fun i wr => ∃ t : Nat, t ≤ k ∧ i = .int .i64 (t : Int) ∧ Hid (RowsAt wr w Gr k k (fun i j => Gf.cau k (x i) j) t) ∧ Hid (OwnS wr Gd k D t) ∧ Hid (Below w.heap.size w wr)) (fun i _ => k - (intOf i).toNat)
  case atStart => exact ⟨0, by omega, rfl, OR, OD, HB2⟩
  case round =>
    obtain ⟨t, ht, rfl, HR, HS, HB⟩ := hrel
    clear OR OD HB2
    by_cases hlt : t < k
    · have hi1 : (t : Int) < (k : Int) := by omega
      obtain ⟨p, o, rfl, q1⟩ : ∃ p off, a = some ⟨p, off, none⟩ ∧ ∀ i, i < k → wr.cell? ⟨p, off + i * 2, none⟩ = some (.int .i64 ((x i : Nat) : Int)) ∧ wr.cell? ⟨p, off + i * 2 + 1, none⟩ = some (.string (D i)) := by
        rcases HP.out.up HB.out with r | r
        · exfalso; omega
        · exact r
      obtain ⟨d1, d2⟩ := q1 t hlt
      clear q1
      have hxN := HX.out t hlt
      have hxN' : ((x t : Nat) : Int) < (N : Int) := by omega
      go_wp2_with fail
      obtain ⟨B, W, eB, eW, g1, g2, BW2⟩ : ∃ B W, B = wr.heap.size ∧ W = wr.alloc (.cells #[.int .i64 ((x t : Nat) : Int), .string (D t)] 31) ∧ W.cell? ⟨B, 0, none⟩ = some (.int .i64 ((x t : Nat) : Int)) ∧ W.cell? ⟨B, 1, none⟩ = some (.string (D t)) ∧ Below wr.heap.size wr W :=
        ⟨_, _, rfl, rfl, World.cell?_alloc_mark wr _ 31 (0, 0) 0, World.cell?_alloc_mark wr _ 31 (0, 0) 1, (Below.refl _ _).alloc (Nat.le_refl _) _⟩
      have HBW : Hid (Below w.heap.size w W) := HB.out.trans (BW2.mono HB.out.size)
      have RW : Hid (RowsAt W w Gr k k (fun i j => Gf.cau k (x i) j) t) := HR.out.up BW2
      have SW : Hid (OwnS W Gd k D t) := HS.out.up BW2
      have hBG : Gr ≠ B := by
        obtain ⟨C, h1, _⟩ := HR.out
        have := (Array.getElem?_eq_some_iff.1 h1).1
        omega
      rw [← eB, ← eW]
      clear eB eW BW2 HB HR HS d1 d2
      obtain ⟨g0, cap0, c1, HM⟩ := HC.out.rows
      have c2 := cell_later HBW.out c1
      obtain ⟨p0, o0, e0, hr⟩ : ∃ p off, (some ⟨g0, 0, none⟩ : Option Addr) = some ⟨p, off, none⟩ ∧ ∀ i, i < N → ∃ ra rc, w.cell? ⟨p, off + i, none⟩ = some (.slice ra k rc) ∧ k ≤ rc ∧ RowF w ra (Gf.cau k i) k := by
        rcases HM with r | r
        · exfalso; omega
        · exact r
      injection e0 with e0; injection e0 with e1 e2 _
      subst e1 e2
      obtain ⟨ra, rc, d1, hkc, hrow⟩ := hr (x t) hxN
      rw [Nat.zero_add] at d1
      have d2 := cell_later HBW.out d1
      obtain ⟨u, d3⟩ := RW.out.has hlt
      have d4 := RW.out.fz t
      have R3 : Hid (RowsAt (W.setCell ⟨Gr, t, none⟩ (.slice ra k rc)) w Gr k k (fun i j => Gf.cau k (x i) j) (t + 1)) := RW.out.set hlt hkc hrow
      have S3 : Hid (OwnS (W.setCell ⟨Gr, t, none⟩ (.slice ra k rc)) Gd k D t) := SW.out.far hne.out.symm
      have B3 : Hid (Below w.heap.size w (W.setCell ⟨Gr, t, none⟩ (.slice ra k rc))) := HBW.out.setCell (by rw [EGr.out]; exact Nat.le_refl _) _
      clear RW SW HBW c1 d1 hr hrow
      have g3 : (W.setCell ⟨Gr, t, none⟩ (.slice ra k rc)).cell? ⟨B, 1, none⟩ = some (.string (D t)) := (World.cell?_of_block (Below.heap_setCell _ _ _ _ hBG.symm)).trans g2
      go_region
      obtain ⟨X, eX, g4, R4, S4, B4⟩ : ∃ X, X = (W.setCell ⟨Gr, t, none⟩ (.slice ra k rc)).drew ∧ X.cell? ⟨B, 1, none⟩ = some (.string (D t)) ∧ RowsAt X w Gr k k (fun i j => Gf.cau k (x i) j) (t + 1) ∧ OwnS X Gd k D t ∧ Below w.heap.size w X :=
        ⟨_, rfl, g3, R3.out.alike ⟨rfl, rfl, rfl, rfl⟩, S3.out.alike ⟨rfl, rfl, rfl, rfl⟩, below_alike B3.out ⟨rfl, rfl, rfl, rfl⟩⟩
      rw [← eX]
      clear eX g1 g2 g3 c2 d2 d3 d4 R3 S3 B3 hkc
      obtain ⟨u2, d5⟩ := S4.some hlt
      have d6 := S4.fz t
      have R5 : Hid (RowsAt (X.setCell ⟨Gd, t, none⟩ (.string (D t))) w Gr k k (fun i j => Gf.cau k (x i) j) (t + 1)) := R4.far hne.out
      have S5 : Hid (OwnS (X.setCell ⟨Gd, t, none⟩ (.string (D t))) Gd k D (t + 1)) := S4.set hlt
      have B5 : Hid (Below w.heap.size w (X.setCell ⟨Gd, t, none⟩ (.string (D t)))) := B4.setCell hGd.out _
      clear R4 S4 B4
      go_wp2_with fail
      exact ⟨⟨t + 1, by omega, by go_num, R5, S5, B5⟩, by simp [intOf]; omega⟩
    · have htk : t = k := by omega
      subst htk
      have i1 : decide ((t : Int) < (t : Int)) = false := by simp
      have HMat : Hid (MatF wr (some ⟨Gr, 0, none⟩) (fun i j => Gf.cau t (x i) j) t t) := HR.out.matF HB.out
      have HStr : Hid (StrF wr (some ⟨Gd, 0, none⟩) D t) := HS.out.strF
      have HI : Hid (Gf.Inj t (fun i j => Gf.cau t (x i) j)) := Gf.cauchy_inj (by omega) x (fun i hi => by have := HX.out i hi; omega) Hd.out
      clear HR HS
      go_wp2_with fail
      refine (invert_any (some ⟨Gr, 0, none⟩) b t t (fun i j => Gf.cau t (x i) j) (fun i j => Gf.cau_lt _ _ _) hk1 (by omega) _ HMat.out (HC.out.up HB.out).tab).mono ?_
      rintro e w3 ⟨hb3, h3⟩
      rcases h3 with ⟨g2, P2, V, rfl, GV, BV, E1, E2, _⟩ | ⟨_, h3⟩
      · have B3 : Hid (Below w.heap.size w w3) := HB.out.trans (hb3.mono HB.out.size)
        have S3 : Hid (StrF w3 (some ⟨Gd, 0, none⟩) D t) := HStr.out.up hb3
        have HGV : Hid (Grid w3 wr.heap.size g2 P2 V t t t) := GV
        have HBV : Hid (Gf.B8 V) := BV
        have HE1 : Hid (Gf.EqN t (Gf.mm t V (fun i j => Gf.cau t (x i) j)) Gf.idm) := E1
        have HE2 : Hid (Gf.EqN t (Gf.mm t (fun i j => Gf.cau t (x i) j) V) Gf.idm) := E2
        clear hb3 GV BV E1 E2 HB HMat HStr HI
        go_wp2_with fail
        go_loopw [11, 58] (fun v i wr => ∃ j : Nat, j ≤ t ∧ i = .int .i64 (j : Int) ∧ wr.ownsRow w3.heap.size 5 1 v (j * L) (solC V D t L j) ∧ Hid (Below w3.heap.size w3 wr)) (fun _ i _ => t - (intOf i).toNat)
        case atStart => exact ⟨0, by omega, rfl, by rw [Nat.zero_mul]; exact World.ownsRow_nil _ _ _ _, Below.refl _ _⟩
        case round =>
          obtain ⟨j, hj, rfl, HO, HB⟩ := hrel
          by_cases hlt : j < t
          · have hi1 : (j : Int) < (t : Int) := by omega
            have d1 := (HGV.out.up HB.out).tcell hlt
            have hrow := (HGV.out.up HB.out).rowF hlt
            have HO' : Hid (wr.ownsRow w3.heap.size 5 1 u11 (j * L) (solC V D t L j)) := HO
            clear HO
            go_wp2_with fail
            refine (mixed_any b t N L t t (some ⟨P2 j, 0, none⟩) (some ⟨Gd, 0, none⟩) (V j) D (HBV.out j) hk1 hk (by omega) HD.out _ (HC.out.up (B3.out.trans (HB.out.mono B3.out.size))) hrow (S3.out.up HB.out)).mono ?_
            rintro e w4 ⟨G4, rfl, hG4, O4, hb4⟩
            have own4 := own_up HO'.out hb4
            have B4 : Hid (Below w3.heap.size w3 w4) := HB.out.trans (hb4.mono HB.out.size)
            have hsz : w3.heap.size ≤ w4.heap.size := B4.out.size
            have HO4 : Hid (OwnB w4 G4 (mixF (V j) D t) L) := O4
            obtain ⟨i0, hi, hz0, hz1, hz2⟩ := info_parts info5
            have hjL : j * L + L ≤ 8388664 := by
              have : (j + 1) * L ≤ 8 * L := Nat.mul_le_mul_right L (by omega)
              rw [Nat.succ_mul] at this; omega
            clear hb4 O4 d1 hrow HO' HB
            go_wp2_with (at_builtin; refine wpList_append_own _ rfl _ _ 54 rfl w3.heap.size 5 i0 (.int .u8 0) 1 1 under32 hi hz0 hz1 hz2 rfl (by decide) _ _ _ rfl own4 ⟨G4, 0, none⟩ L L ((List.range L).map (fun x => Value.int .u8 ((mixF (V j) D t x : Nat) : Int))) rfl ?c0 ?c1 ?c2 ?c3 ?c4 ?c5 ?_)
            case c0 => simp
            case c1 =>
              intro q u hq
              have hqL : q < L := by
                rcases Nat.lt_or_ge q L with h | h
                · exact h
                · rw [List.getElem?_eq_none (by simpa using h)] at hq; cases hq
              simp [hqL] at hq
              subst hq
              have e : (⟨G4, 0, none⟩ : Addr).add q = ⟨G4, q, none⟩ := by unfold Addr.add; split <;> simp_all
              rw [e]; exact HO4.out.cell hqL
            case c2 =>
              intro u hu
              obtain ⟨q, _, rfl⟩ := List.mem_map.1 hu
              rfl
            case c3 => unfold maxLen; omega
            case c4 => omega
            case c5 => exact hsz
            intro v' w8 hown' hgrow _
            have O8 : w8.ownsRow w3.heap.size 5 1 v' ((j + 1) * L) (solC V D t L (j + 1)) := by rw [Nat.succ_mul]; exact hown'
            have B8 : Hid (Below w3.heap.size w3 w8) := B4.out.grown hgrow hsz (fun k e => (own4.lt k e).1)
            clear hown' hgrow own4
            go_wp2_with fail
            exact ⟨⟨j + 1, by omega, by go_num, O8, B8⟩, by simp [intOf]; omega⟩
          · have hjt : j = t := by omega
            subst hjt
            have i2 : decide ((j : Int) < (j : Int)) = false := by simp
            obtain ⟨a', cap, hv, hcap, hrow⟩ : ∃ a' cap, u11 = .slice a' (j * L) cap ∧ j * L ≤ cap ∧ RowF wr a' (solF V D j L) (j * L) := by
              rcases HO.2 with ⟨h1, h2⟩ | ⟨g, cap, cur, h1, _, hh, hcap, _, hcs, hx⟩
              · exact ⟨none, 0, by rw [h1, h2], by omega, Or.inl h2⟩
              · refine ⟨some ⟨g, 0, none⟩, cap, h1, hcap, Or.inr ⟨g, 0, rfl, fun y hy => ?_⟩⟩
                have h3 := solC_at V D j L j y hy
                rw [← hx, List.getElem?_take_of_lt (by omega)] at h3
                rw [Nat.zero_add, cell_of_row wr g y cur 5 (0, 0) hh]
                simpa using h3
            subst hv
            have HRow : Hid (RowF wr a' (solF V D j L) (j * L)) := hrow
            have B5 : Hid (Below w.heap.size w wr) := B3.out.trans (HB.out.mono B3.out.size)
            clear HO hrow HB
            go_wp2_with fail
            go_ret
            exact ⟨V, a', cap, rfl, hcap, HRow.out, HBV.out, HE1.out, HE2.out, B5.out⟩
      · exact absurd HI.out h3
end Go.Proofs.Ytmhhegkpkncebaa
