/-
  SlotVersions walked.
-/
import Derived.Test.YtfinaichajbnkaaGreatDoorPrn
import Derived.Test.YtfinaichajbnkaaGreatDoorPap
import Derived.Test.YtfinaichajbnkaaGreatDoorPop
import Derived.Test.YtfinaichajbnkaaGreatDoorSve
import Derived.Test.YtfinaichajbnkaaGreatDoorShelfN
import Derived.Deep.CutBlock
import Derived.Deep.CutRange
namespace Go.Proofs.YtfinaichajbnkaaGreatDoor
open Go.RowKit
open Wi (F)
set_option linter.unusedVariables false

def DD : ByteArray → Int → ByteArray := fun _ v => (⟨#[114]⟩ : ByteArray) ++ its v.toNat
def EE : Int → ByteArray := fun v => (⟨#[118]⟩ : ByteArray) ++ its v.toNat
theorem DD_size (v : Nat) (h : v ≤ 20) : (DD ⟨#[107]⟩ (v : Int)).size ≤ 3 := by
  have e : (⟨#[114]⟩ : ByteArray).size = 1 := rfl
  have := its_size v h
  show ((⟨#[114]⟩ : ByteArray) ++ its v).size ≤ 3
  rw [ByteArray.size_append]; omega
theorem EE_size (v : Nat) (h : v ≤ 20) : (EE (v : Int)).size ≤ 3 := by
  have e : (⟨#[118]⟩ : ByteArray).size = 1 := rfl
  have := its_size v h
  show ((⟨#[118]⟩ : ByteArray) ++ its v).size ≤ 3
  rw [ByteArray.size_append]; omega
/-- Numbers as cells. -/
def icn (l : List Nat) : List Value := l.map fun (v : Nat) => Value.int .i64 (v : Int)
theorem under22i : Tryz.prog.underlying 22 = some (.slice 3) := by kernel_rfl
theorem info3i : (Tryz.prog.info? 3).map (fun i => (i.zero, i.size, i.bytes)) = some (some (.int .i64 0), 1, 8) := by kernel_rfl
theorem Bv.mono {s : Sl} {page n m : Nat} {V : ByteArray → Int} {D : ByteArray → Int → ByteArray} {k : ByteArray} {W : Int → Bool} {E : Int → ByteArray} {R R' : Int} {q q' : Nat} (h : Bv s page n m V D k W E R q) (hR : R ≤ R') (hq : q ≤ q') : Bv s page n m V D k W E R' q' :=
  ⟨h.b, h.p, h.V0, fun a ha => by have := h.dn a ha; omega, Nat.le_trans h.dl hq⟩
theorem itoa_q (v : Nat) (h : v < 100) (w : World) : Calls Tryz.prog 8 #[.int .i64 (v : Int)] w fun e w' => e = .returned (.string (its v)) ∧ w' = w := (itoa_any v h w).mono fun _ _ q => ⟨q.1, q.2.symm⟩
theorem lw_new16 (w : World) : Calls Tryz.prog 4 #[.int .i64 1, .int .i64 16, .int .i64 4096] w fun e w' => ∃ X o n, e = .returned (.tuple #[.pointer (some ⟨X, 0, none⟩), .int .i64 0]) ∧ Lw w w' o X (Sl.new 1 16 4096 n) :=
  (pnews_yes 1 16 4096 16 4096 rfl rfl (by omega) (by omega) (by omega) (by omega) (by omega) (by omega) w o00).mono (by
    rintro e w' ⟨X, o', n, rfl, hn, I, g⟩
    exact ⟨X, o', n, rfl, I, g.mono (fun _ e => e.elim)⟩)
theorem lw_take2 {w0 W : World} {o : Nat → Nat × Nat} {X : Nat} {s : Sl} (h : Lw w0 W o X s) (hn : s.done.length ≤ 90000) (f : F) {r : Option F} {s' : Sl} (ht : s.take f = (r, s')) {v : Value} {b : Bool} (hv : optv r = v) (hb : r.isSome = b) :
    Calls Tryz.prog 5 #[.pointer (some ⟨X, 0, none⟩), f.v] W fun e w' => e = .returned (.tuple #[v, .bool b]) ∧ ∃ o', Lw w0 w' o' X s' ∧ Fr TP o o' W w' :=
  (ptake_any X s f hn W o h.I).mono (by
    rintro e w' ⟨rfl, o', I, g⟩
    rw [ht] at I ⊢
    subst hv hb
    exact ⟨rfl, o', h.fr I g, g⟩)
set_option maxRecDepth 100000 in
set_option maxHeartbeats 20000000 in
theorem versions_walk (a0 : Option Addr) (len0 cap0 : Nat) (z0 : Nat → Int) (d : Int) (w : World) (_ : len0 ≤ 9223372036854775807) (h0 : IntsF w a0 z0 len0) :
    Calls Tryz.prog 3 #[.slice a0 len0 cap0, .int .i64 d] w fun e w' => e = .returned (.bool true) ∧ Below w.heap.size w w' := by
  have HA := hid h0
  clear h0
  go_enter Tryz.func3, Tryz.ntmps3
  go_wp2_with fail
  refine (lw_new16 _).mono ?_
  rintro e w0 ⟨X, o0, n, rfl, l0⟩
  have L0 := hid l0
  have ok : OkSp ⟨St.new 16 4096 n, []⟩ := by
    obtain ⟨C, D, d, I⟩ := l0.I
    exact I.st.ok
  obtain ⟨s1, t1, q1⟩ := bv_begin ok DD ⟨#[107]⟩ EE
  have T1 := hid t1
  have Q1 := hid q1
  clear l0 ok t1 q1
  go_wp2_with fail
  refine (ask5_any 1 ⟨#[]⟩ ⟨#[]⟩ 0 _).mono ?_
  rintro e w1 ⟨rfl, b1⟩
  have L1 := hid (L0.out.below b1)
  clear b1 L0
  have TK : Hid (Calls Tryz.prog 5 #[.pointer (some ⟨X, 0, none⟩), .agg #[.int .i64 5, .int .i64 1, .int .i64 3, .int .i64 1, .int .i64 0, .int .i64 0, .string ⟨#[]⟩, .int .i64 0, .string ⟨#[]⟩]] w1 fun e w' => e = .returned (.tuple #[.agg #[.int .i64 6, .int .i64 1, .int .i64 3, .int .i64 1, .int .i64 0, .int .i64 0, .string ⟨#[]⟩, .int .i64 0, .string ⟨#[]⟩], .bool true]) ∧ ∃ o', Lw w w' o' X s1 ∧ Fr TP o0 o' w1 w') := hid (lw_take2 L1.out (Nat.zero_le _) (⟨5, 1, 3, 1, 0, 0, ⟨#[]⟩, 0, ⟨#[]⟩⟩ : F) T1.out rfl rfl)
  go_wp2_with fail
  refine TK.out.mono ?_
  rintro e w2 ⟨rfl, o2, l2, g2⟩
  have L2 := hid l2
  clear TK L1 T1 l2 g2
  go_upto_block 0 with fail
  go_cut [7, 8, 9, 10, 11, 12] from 34 to 76 (fun rid gv lv _ _ _ wx => ∃ (j r gr : Nat) (o : Nat → Nat × Nat) (s : Sl) (V : ByteArray → Int) (W : Int → Bool) (vs : List Nat) (b : Option Addr) (c : Nat), gv = .int .i64 (gr : Int) ∧ lv = .slice b j c ∧ j ≤ 12 ∧ Hid (r = 2 * j + 1) ∧ r ≤ 25 ∧ gr ≤ 20 ∧ Hid (V ⟨#[107]⟩ = (gr : Int)) ∧ Hid (Bv s 4096 n (2 * j) V DD ⟨#[107]⟩ W EE ((r : Int) + 2) (2 * j)) ∧ Hid (∀ v ∈ vs, 1 ≤ v ∧ v ≤ 20 ∧ W (v : Int) = true) ∧ Hid (Lw w wx o X s) ∧ Hid (OwnK wx o (7, 1) 1 (.slice b j c) j (icn vs)))
  case first =>
    go_wp2_with fail
    go_loopw [7, 8, 9, 10] (fun rid gv lv i wx => ∃ (j r gr : Nat) (o : Nat → Nat × Nat) (s : Sl) (V : ByteArray → Int) (W : Int → Bool) (vs : List Nat) (b : Option Addr) (c : Nat), rid = .int .i64 (r : Int) ∧ gv = .int .i64 (gr : Int) ∧ lv = .slice b j c ∧ i = .int .i64 (j : Int) ∧ j ≤ 12 ∧ Hid (r = 2 * j + 1) ∧ r ≤ 25 ∧ gr ≤ 20 ∧ Hid (V ⟨#[107]⟩ = (gr : Int)) ∧ Hid (Bv s 4096 n (2 * j) V DD ⟨#[107]⟩ W EE ((r : Int) + 2) (2 * j)) ∧ Hid (∀ v ∈ vs, 1 ≤ v ∧ v ≤ 20 ∧ W (v : Int) = true) ∧ Hid (Lw w wx o X s) ∧ Hid (OwnK wx o (7, 1) 1 (.slice b j c) j (icn vs))) (fun _ _ _ i _ => 12 - (intOf i).toNat)
    case atStart => exact ⟨0, 1, 0, o2, s1, fun _ => 0, fun _ => false, [], none, 0, rfl, rfl, rfl, rfl, by omega, hid rfl, by omega, by omega, hid rfl, hid (Q1.out.mono (by omega) (Nat.le_refl _)), hid (fun v hv => by cases hv), L2, hid (OwnK.nil _ _ _ _)⟩
    case round =>
      clear L2 Q1
      obtain ⟨j, r, gr, o, s, V, W, vs, b, c, rfl, rfl, rfl, rfl, hj, HR, hrb, hgr, HG, HBV, HW, LR, HO⟩ := hrel
      by_cases hlt : j < len0 ∧ j < 12
      · obtain ⟨hl1, hl2⟩ := hlt
        rcases HA.out with h0 | ⟨p, off, rfl, hcl⟩
        · omega
        have c0 := cell_b (hcl j hl1) LR.out.fin
        obtain ⟨x, hx⟩ : ∃ x, x = z0 j := ⟨_, rfl⟩
        rw [← hx] at c0
        clear hx hcl
        have hi1 : (j : Int) < (len0 : Int) := by omega
        have hi2 : (j : Int) < 12 := by omega
        have hwb := wi_bd x 1 20 (by omega)
        obtain ⟨v, hv⟩ : ∃ v : Nat, wi x 1 20 = (v : Int) := ⟨(wi x 1 20).toNat, by omega⟩
        rw [hv] at hwb
        have HVV := hid hv
        obtain ⟨tv, htv⟩ : ∃ t, t = its v := ⟨_, rfl⟩
        have hz := its_size v (by omega)
        rw [← htv] at hz
        have HIT := hid (fun w => itoa_any v (by omega) w)
        rw [← htv] at HIT
        have hs1 : ¬ (9223372036854775807 < (⟨#[118]⟩ : ByteArray).size + tv.size) := by have e : (⟨#[118]⟩ : ByteArray).size = 1 := rfl; omega
        have hs2 : ¬ (9223372036854775807 < (⟨#[114]⟩ : ByteArray).size + tv.size) := by have e : (⟨#[114]⟩ : ByteArray).size = 1 := rfl; omega
        have hk1 : (⟨#[107]⟩ : ByteArray).size = 1 := rfl
        obtain ⟨sA, aA, tA, BA⟩ := HBV.out.vput (rid := (r : Int) + 2) (ver := (v : Int)) (by omega) (by omega) (by omega) (by omega) (by have := EE_size v (by omega); omega)
        obtain ⟨sB, aB, tB, BB⟩ := BA.rput (rid := (r : Int) + 2 + 1) (ver := (v : Int)) (by omega) (by omega) (by omega) (by omega) (by have := DD_size v (by omega); omega)
        rw [show EE (v : Int) = (⟨#[118]⟩ : ByteArray) ++ tv by rw [htv]; rfl] at tA
        rw [show DD ⟨#[107]⟩ (v : Int) = (⟨#[114]⟩ : ByteArray) ++ tv by rw [htv]; rfl] at tB
        have TA := hid tA
        have TB := hid tB
        have HBA := hid BA
        have HBB := hid BB
        clear hv tA tB BA BB hk1 htv
        go_wp2_with fail
        refine (within_any x 1 20 (by omega) (by omega) (by omega) _).mono ?_
        rintro e y0 ⟨rfl, rfl⟩
        rw [HVV.out]
        clear c0
        go_wp2_with fail
        refine (HIT.out _).mono ?_
        rintro e y0 ⟨rfl, rfl⟩
        go_wp2_with fail
        refine (askn_any 1 ((r : Int) + 2) ⟨#[107]⟩ ((⟨#[118]⟩ : ByteArray) ++ tv) (v : Int) rfl _).mono ?_
        rintro e yn1 ⟨rfl, bb⟩
        have Ln1 := hid (LR.out.below bb)
        have On1 := hid (HO.out.below bb)
        clear bb LR HO
        go_upto_region 14 with fail
        obtain ⟨on2, hon2⟩ : ∃ oz, oz = nwl o yn1.heap.size := ⟨_, rfl⟩
        obtain ⟨Bn2, hBn2⟩ : ∃ Bz, Bz = yn1.heap.size := ⟨_, rfl⟩
        obtain ⟨yn2, hyn2⟩ : ∃ Vz, Vz = yn1.alloc (.cells #[.int .i64 1, .int .i64 1, .int .i64 3, .int .i64 ((r : Int) + 2), .int .i64 0, .int .i64 1, .string ⟨#[107]⟩, .int .i64 ((v : Int)), .string ((⟨#[118]⟩ : ByteArray) ++ tv)] 28) := ⟨_, rfl⟩
        have qn2 := Ln1.out.box (⟨1, 1, 3, (r : Int) + 2, 0, 1, ⟨#[107]⟩, (v : Int), (⟨#[118]⟩ : ByteArray) ++ tv⟩ : F)
        have hgen2 : w.heap.size ≤ Bn2 := by rw [hBn2]; exact Ln1.out.ge
        rw [show (⟨1, 1, 3, (r : Int) + 2, 0, 1, ⟨#[107]⟩, (v : Int), (⟨#[118]⟩ : ByteArray) ++ tv⟩ : F).cs.toArray = #[.int .i64 1, .int .i64 1, .int .i64 3, .int .i64 ((r : Int) + 2), .int .i64 0, .int .i64 1, .string ⟨#[107]⟩, .int .i64 ((v : Int)), .string ((⟨#[118]⟩ : ByteArray) ++ tv)] from rfl, ← hyn2, ← hon2, ← hBn2] at qn2
        rw [← hyn2, ← hBn2]
        have gn2 : Fr (fun _ => False) o on2 yn1 yn2 := by rw [hon2]; exact nwl_fr _ o (by rw [hyn2]; exact bel_alloc _ _)
        have Ln2 := hid qn2.1
        have Kn2 := hid qn2.2.1
        have On2 := hid (On1.out.fr gn2 id)
        clear qn2 gn2 hon2 hyn2 hBn2 Ln1 On1
        have x5 := Kn2.out.k.q 5 _ rfl
        have z5 := Kn2.out.z 5
        go_upto_region 15 with fail
        have ly := Ln2.out.set Kn2.out.k.lb hgen2 5 (.int .i64 2)
        have ky := Kn2.out.set5 2
        have oy := On2.out.fr (Fr.set (T := (· = (8, 1))) (o := on2) (w := yn2) (a := ⟨Bn2, 5, none⟩) Kn2.out.k.lb (.int .i64 2)) (fun e => by cases e)
        obtain ⟨yn3, hyn3⟩ : ∃ Vz, Vz = yn2.setCell ⟨Bn2, 5, none⟩ (.int .i64 2) := ⟨_, rfl⟩
        rw [← hyn3] at ly ky oy ⊢
        have Ln3 := hid ly
        have On3 := hid oy
        have b0 := ky.k.q 0 _ rfl
        have b1 := ky.k.q 1 _ rfl
        have b2 := ky.k.q 2 _ rfl
        have b3 := ky.k.q 3 _ rfl
        have b4 := ky.k.q 4 _ rfl
        have b5 := ky.k.q 5 _ rfl
        have b6 := ky.k.q 6 _ rfl
        have b7 := ky.k.q 7 _ rfl
        have b8 := ky.k.q 8 _ rfl
        clear ly ky oy hyn3 x5 z5 Ln2 On2 Kn2
        have TK : Hid (Calls Tryz.prog 5 #[.pointer (some ⟨X, 0, none⟩), .agg #[.int .i64 1, .int .i64 1, .int .i64 3, .int .i64 ((r : Int) + 2), .int .i64 0, .int .i64 2, .string ⟨#[107]⟩, .int .i64 ((v : Int)), .string ((⟨#[118]⟩ : ByteArray) ++ tv)]] yn3 fun e w' => e = .returned (.tuple #[(.agg aA.cs.toArray), .bool true]) ∧ ∃ o', Lw w w' o' X sA ∧ Fr TP on2 o' yn3 w') := hid (lw_take2 Ln3.out (by have := HBV.out.dl; omega) (⟨1, 1, 3, (r : Int) + 2, 0, 2, ⟨#[107]⟩, (v : Int), (⟨#[118]⟩ : ByteArray) ++ tv⟩ : F) (r := some aA) TA.out rfl rfl)
        go_wp2_with fail
        refine TK.out.mono ?_
        rintro e yn4 ⟨rfl, on4, ln4, gn4⟩
        have Ln4 := hid ln4
        have On4 := hid (On3.out.fr gn4 (nTP7' _))
        clear TK ln4 gn4 Ln3 On3 b0 b1 b2 b3 b4 b5 b6 b7 b8
        go_wp2_with fail
        refine (HIT.out _).mono ?_
        rintro e y0 ⟨rfl, rfl⟩
        go_wp2_with fail
        refine (askn_any 1 ((r : Int) + 2 + 1) ⟨#[107]⟩ ((⟨#[114]⟩ : ByteArray) ++ tv) (v : Int) rfl _).mono ?_
        rintro e yn5 ⟨rfl, bb⟩
        have Ln5 := hid (Ln4.out.below bb)
        have On5 := hid (On4.out.below bb)
        clear bb Ln4 On4
        have TK : Hid (Calls Tryz.prog 5 #[.pointer (some ⟨X, 0, none⟩), .agg #[.int .i64 1, .int .i64 1, .int .i64 3, .int .i64 ((r : Int) + 2 + 1), .int .i64 0, .int .i64 1, .string ⟨#[107]⟩, .int .i64 ((v : Int)), .string ((⟨#[114]⟩ : ByteArray) ++ tv)]] yn5 fun e w' => e = .returned (.tuple #[(.agg aB.cs.toArray), .bool true]) ∧ ∃ o', Lw w w' o' X sB ∧ Fr TP on4 o' yn5 w') := hid (lw_take2 Ln5.out (by have := HBA.out.dl; omega) (⟨1, 1, 3, (r : Int) + 2 + 1, 0, 1, ⟨#[107]⟩, (v : Int), (⟨#[114]⟩ : ByteArray) ++ tv⟩ : F) (r := some aB) TB.out rfl rfl)
        go_wp2_with fail
        refine TK.out.mono ?_
        rintro e yn6 ⟨rfl, on6, ln6, gn6⟩
        have Ln6 := hid ln6
        have On6 := hid (On5.out.fr gn6 (nTP7' _))
        clear TK ln6 gn6 Ln5 On5 TA HBA
        obtain ⟨v8, y8, o8, hrun, O8, F8⟩ := app_one 22 3 (.int .i64 0) 8 under22i info3i rfl On6.out [.int .i64 (v : Int)] rfl (fun u hu => by simp at hu; rw [hu]; rfl) (by omega) (by omega)
        obtain ⟨b8, c8, rfl, _⟩ := O8.form
        have L8 := hid (Ln6.out.grow F8 (nTP7 _) (n07 _))
        have HO8 : Hid (OwnK y8 o8 (7, 1) 1 (.slice b8 (j + 1) c8) (j + 1) (icn (vs ++ [v]))) := hid (by unfold icn; rw [List.map_append]; exact O8)
        have G8 : Hid (updV V ⟨#[107]⟩ (max (V ⟨#[107]⟩) (v : Int)) ⟨#[107]⟩ = ((max gr v : Nat) : Int)) := hid (by unfold updV; rw [if_pos rfl, HG.out]; omega)
        have V8 : Hid (∀ u ∈ vs ++ [v], 1 ≤ u ∧ u ≤ 20 ∧ updW W (v : Int) true (u : Int) = true) := hid (fun u hu => by
          rcases List.mem_append.1 hu with h | h
          · obtain ⟨h1, h2, h3⟩ := HW.out u h
            refine ⟨h1, h2, ?_⟩
            unfold updW
            split
            · rfl
            · exact h3
          · rw [List.mem_singleton.1 h]
            refine ⟨by omega, by omega, ?_⟩
            unfold updW
            exact if_pos rfl)
        have B8 : Hid (Bv sB 4096 n (2 * (j + 1)) (updV V ⟨#[107]⟩ (max (V ⟨#[107]⟩) (v : Int))) DD ⟨#[107]⟩ (updW W (v : Int) true) EE (((r + 2 : Nat) : Int) + 2) (2 * (j + 1))) := hid (by
          have := HBB.out
          rw [show (r : Int) + 2 + 1 + 1 = ((r + 2 : Nat) : Int) + 2 by omega] at this
          exact this)
        clear On6 Ln6 O8 F8 HBB HBV HG HW TB hs1 hs2
        go_wp2_with (at_builtin; refine wpList_append_run rfl (.tmp 73) (.tmp 75) 22 22 rfl _ _ _ rfl rfl hrun ?_)
        exact ⟨⟨j + 1, r + 2, max gr v, o8, sB, _, _, _, b8, c8, by go_num, by go_num, rfl, by go_num, by omega, hid (by have := HR.out; omega), by have := HR.out; omega, by omega, G8, B8, V8, L8, HO8⟩, by simp [intOf]; omega⟩
      · have hn : ¬ (j : Int) < (len0 : Int) ∨ (j : Int) < (len0 : Int) ∧ ¬ (j : Int) < 12 := by
          rcases Nat.lt_or_ge j len0 with h | h
          · exact .inr ⟨by omega, by omega⟩
          · exact .inl (by omega)
        clear hlt
        rcases hn with hn | hn
        · go_wp2_with fail
          go_meet
          exact ⟨j, r, gr, o, s, V, W, vs, b, c, rfl, rfl, hj, HR, hrb, hgr, HG, HBV, HW, LR, HO⟩
        · go_wp2_with fail
          go_meet
          exact ⟨j, r, gr, o, s, V, W, vs, b, c, rfl, rfl, hj, HR, hrb, hgr, HG, HBV, HW, LR, HO⟩
  case rest =>
    clear L2 Q1 HA
    obtain ⟨j, r, gr, o, s, V, W, vs, b, c, rfl, rfl, hj, HR, hrb, hgr, HG, HBV, HW, LR, HO⟩ := hcut
    obtain ⟨wr, hwr⟩ : ∃ wr, wr = wc := ⟨_, rfl⟩
    rw [← hwr] at LR HO ⊢
    clear hwr
    have hwb := wi_bd d 1 20 (by omega)
    obtain ⟨u, hu⟩ : ∃ v : Nat, wi d 1 20 = (v : Int) := ⟨(wi d 1 20).toNat, by omega⟩
    rw [hu] at hwb
    have HUU := hid hu
    have hk1 : (⟨#[107]⟩ : ByteArray).size = 1 := rfl
    obtain ⟨sA, aA, tA, BA⟩ := HBV.out.vdrop (rid := 100) (ver := (u : Int)) (by omega) (by omega) (by omega) (by omega)
    have TA := hid tA
    have HBA := hid BA
    clear hu tA BA
    go_wp2_with fail
    refine (within_any d 1 20 (by omega) (by omega) (by omega) _).mono ?_
    rintro e y0 ⟨rfl, rfl⟩
    rw [HUU.out]
    go_wp2_with fail
    refine (askn_any 3 100 ⟨#[107]⟩ ⟨#[]⟩ (u : Int) rfl _).mono ?_
    rintro e yn1 ⟨rfl, bb⟩
    have Ln1 := hid (LR.out.below bb)
    have On1 := hid (HO.out.below bb)
    clear bb LR HO
    go_upto_region 21 with fail
    obtain ⟨on2, hon2⟩ : ∃ oz, oz = nwl o yn1.heap.size := ⟨_, rfl⟩
    obtain ⟨Bn2, hBn2⟩ : ∃ Bz, Bz = yn1.heap.size := ⟨_, rfl⟩
    obtain ⟨yn2, hyn2⟩ : ∃ Vz, Vz = yn1.alloc (.cells #[.int .i64 3, .int .i64 1, .int .i64 3, .int .i64 100, .int .i64 0, .int .i64 1, .string ⟨#[107]⟩, .int .i64 ((u : Int)), .string ⟨#[]⟩] 28) := ⟨_, rfl⟩
    have qn2 := Ln1.out.box (⟨3, 1, 3, 100, 0, 1, ⟨#[107]⟩, (u : Int), ⟨#[]⟩⟩ : F)
    have hgen2 : w.heap.size ≤ Bn2 := by rw [hBn2]; exact Ln1.out.ge
    rw [show (⟨3, 1, 3, 100, 0, 1, ⟨#[107]⟩, (u : Int), ⟨#[]⟩⟩ : F).cs.toArray = #[.int .i64 3, .int .i64 1, .int .i64 3, .int .i64 100, .int .i64 0, .int .i64 1, .string ⟨#[107]⟩, .int .i64 ((u : Int)), .string ⟨#[]⟩] from rfl, ← hyn2, ← hon2, ← hBn2] at qn2
    rw [← hyn2, ← hBn2]
    have gn2 : Fr (fun _ => False) o on2 yn1 yn2 := by rw [hon2]; exact nwl_fr _ o (by rw [hyn2]; exact bel_alloc _ _)
    have Ln2 := hid qn2.1
    have Kn2 := hid qn2.2.1
    have On2 := hid (On1.out.fr gn2 id)
    clear qn2 gn2 hon2 hyn2 hBn2 Ln1 On1
    have x5 := Kn2.out.k.q 5 _ rfl
    have z5 := Kn2.out.z 5
    go_upto_region 22 with fail
    have ly := Ln2.out.set Kn2.out.k.lb hgen2 5 (.int .i64 2)
    have ky := Kn2.out.set5 2
    have oy := On2.out.fr (Fr.set (T := (· = (8, 1))) (o := on2) (w := yn2) (a := ⟨Bn2, 5, none⟩) Kn2.out.k.lb (.int .i64 2)) (fun e => by cases e)
    obtain ⟨yn3, hyn3⟩ : ∃ Vz, Vz = yn2.setCell ⟨Bn2, 5, none⟩ (.int .i64 2) := ⟨_, rfl⟩
    rw [← hyn3] at ly ky oy ⊢
    have Ln3 := hid ly
    have On3 := hid oy
    have b0 := ky.k.q 0 _ rfl
    have b1 := ky.k.q 1 _ rfl
    have b2 := ky.k.q 2 _ rfl
    have b3 := ky.k.q 3 _ rfl
    have b4 := ky.k.q 4 _ rfl
    have b5 := ky.k.q 5 _ rfl
    have b6 := ky.k.q 6 _ rfl
    have b7 := ky.k.q 7 _ rfl
    have b8 := ky.k.q 8 _ rfl
    clear ly ky oy hyn3 x5 z5 Ln2 On2 Kn2
    have TK : Hid (Calls Tryz.prog 5 #[.pointer (some ⟨X, 0, none⟩), .agg #[.int .i64 3, .int .i64 1, .int .i64 3, .int .i64 100, .int .i64 0, .int .i64 2, .string ⟨#[107]⟩, .int .i64 ((u : Int)), .string ⟨#[]⟩]] yn3 fun e w' => e = .returned (.tuple #[(.agg aA.cs.toArray), .bool true]) ∧ ∃ o', Lw w w' o' X sA ∧ Fr TP on2 o' yn3 w') := hid (lw_take2 Ln3.out (by have := HBV.out.dl; omega) (⟨3, 1, 3, 100, 0, 2, ⟨#[107]⟩, (u : Int), ⟨#[]⟩⟩ : F) (r := some aA) TA.out rfl rfl)
    go_wp2_with fail
    refine TK.out.mono ?_
    rintro e yn4 ⟨rfl, on4, ln4, gn4⟩
    have Ln4 := hid ln4
    have On4 := hid (On3.out.fr gn4 (nTP7' _))
    clear TK ln4 gn4 Ln3 On3 b0 b1 b2 b3 b4 b5 b6 b7 b8
    go_wp2_with fail
    have HB0 : Hid (Bv sA 4096 n (2 * j) V DD ⟨#[107]⟩ (updW W (u : Int) false) EE (200 + ((0 : Nat) : Int)) (2 * j + 1 + 0)) := hid (HBA.out.mono (by omega) (Nat.le_refl _))
    clear HBA HBV TA
    go_loopw [15] (fun i wr => ∃ (t : Nat) (o : Nat → Nat × Nat) (s : Sl), i = .int .i64 (t : Int) ∧ t ≤ j ∧ Hid (Lw w wr o X s) ∧ Hid (Bv s 4096 n (2 * j) V DD ⟨#[107]⟩ (updW W (u : Int) false) EE (200 + (t : Int)) (2 * j + 1 + t)) ∧ Hid (OwnK wr o (7, 1) 1 (.slice b j c) j (icn vs))) (fun i _ => j - (intOf i).toNat)
    case atStart => exact ⟨0, on4, sA, rfl, by omega, Ln4, HB0, On4⟩
    case round =>
      clear Ln4 On4 HB0
      obtain ⟨t, o, s, rfl, ht, LR, HBV, HO⟩ := hrel
      by_cases htj : t < j
      · have hti : (t : Int) < (j : Int) := by omega
        have hlen : vs.length = j := by have := HO.out.1; unfold icn at this; rw [List.length_map] at this; omega
        obtain ⟨v, hv⟩ : ∃ v, vs[t]? = some v := ⟨_, List.getElem?_eq_getElem (by omega)⟩
        obtain ⟨hv1, hv2, hv3⟩ := HW.out v (List.mem_of_getElem? hv)
        obtain ⟨gL, cL, eL, _, _, _, _, hL6, _⟩ := HO.out.there (by omega)
        injection eL with eL1 eL2 eL3
        subst eL1 eL3
        have c0 := hL6 t (.int .i64 (v : Int)) (by unfold icn; rw [List.getElem?_map, hv]; rfl)
        obtain ⟨sA, tA, BA⟩ := HBV.out.vget (rid := 200 + (t : Int)) (ver := (v : Int)) (by omega) (by omega) (by omega) (by omega)
        have HVT := hid hv
        obtain ⟨tv, htv⟩ : ∃ t, t = its v := ⟨_, rfl⟩
        have hz := its_size v (by omega)
        rw [← htv] at hz
        have HQ := hid (fun w => itoa_q v (by omega) w)
        rw [← htv] at HQ
        have hs1 : ¬ (9223372036854775807 < (⟨#[118]⟩ : ByteArray).size + tv.size) := by have e : (⟨#[118]⟩ : ByteArray).size = 1 := rfl; omega
        have HB2 : Hid (Bv sA 4096 n (2 * j) V DD ⟨#[107]⟩ (updW W (u : Int) false) EE (200 + ((t + 1 : Nat) : Int)) (2 * j + 1 + (t + 1))) := hid (BA.mono (by omega) (by omega))
        clear hL6 eL2 hv hlen BA
        by_cases hvu : v = u
        · subst hvu
          have e3 : updW W (v : Int) false (v : Int) = false := if_pos rfl
          rw [e3] at tA
          clear htv
          have TA := hid tA
          clear tA e3
          go_wp2_with fail
          clear c0
          refine (askn_any 2 (200 + (t : Int)) ⟨#[107]⟩ ⟨#[]⟩ (v : Int) rfl _).mono ?_
          rintro e yn1 ⟨rfl, bb⟩
          have Ln1 := hid (LR.out.below bb)
          have On1 := hid (HO.out.below bb)
          clear bb LR HO
          go_upto_region 27 with fail
          obtain ⟨on2, hon2⟩ : ∃ oz, oz = nwl o yn1.heap.size := ⟨_, rfl⟩
          obtain ⟨Bn2, hBn2⟩ : ∃ Bz, Bz = yn1.heap.size := ⟨_, rfl⟩
          obtain ⟨yn2, hyn2⟩ : ∃ Vz, Vz = yn1.alloc (.cells #[.int .i64 2, .int .i64 1, .int .i64 3, .int .i64 (200 + (t : Int)), .int .i64 0, .int .i64 1, .string ⟨#[107]⟩, .int .i64 ((v : Int)), .string ⟨#[]⟩] 28) := ⟨_, rfl⟩
          have qn2 := Ln1.out.box (⟨2, 1, 3, 200 + (t : Int), 0, 1, ⟨#[107]⟩, (v : Int), ⟨#[]⟩⟩ : F)
          have hgen2 : w.heap.size ≤ Bn2 := by rw [hBn2]; exact Ln1.out.ge
          rw [show (⟨2, 1, 3, 200 + (t : Int), 0, 1, ⟨#[107]⟩, (v : Int), ⟨#[]⟩⟩ : F).cs.toArray = #[.int .i64 2, .int .i64 1, .int .i64 3, .int .i64 (200 + (t : Int)), .int .i64 0, .int .i64 1, .string ⟨#[107]⟩, .int .i64 ((v : Int)), .string ⟨#[]⟩] from rfl, ← hyn2, ← hon2, ← hBn2] at qn2
          rw [← hyn2, ← hBn2]
          have gn2 : Fr (fun _ => False) o on2 yn1 yn2 := by rw [hon2]; exact nwl_fr _ o (by rw [hyn2]; exact bel_alloc _ _)
          have Ln2 := hid qn2.1
          have Kn2 := hid qn2.2.1
          have On2 := hid (On1.out.fr gn2 id)
          clear qn2 gn2 hon2 hyn2 hBn2 Ln1 On1
          have x5 := Kn2.out.k.q 5 _ rfl
          have z5 := Kn2.out.z 5
          go_upto_region 28 with fail
          have ly := Ln2.out.set Kn2.out.k.lb hgen2 5 (.int .i64 2)
          have ky := Kn2.out.set5 2
          have oy := On2.out.fr (Fr.set (T := (· = (8, 1))) (o := on2) (w := yn2) (a := ⟨Bn2, 5, none⟩) Kn2.out.k.lb (.int .i64 2)) (fun e => by cases e)
          obtain ⟨yn3, hyn3⟩ : ∃ Vz, Vz = yn2.setCell ⟨Bn2, 5, none⟩ (.int .i64 2) := ⟨_, rfl⟩
          rw [← hyn3] at ly ky oy ⊢
          have Ln3 := hid ly
          have On3 := hid oy
          have b0 := ky.k.q 0 _ rfl
          have b1 := ky.k.q 1 _ rfl
          have b2 := ky.k.q 2 _ rfl
          have b3 := ky.k.q 3 _ rfl
          have b4 := ky.k.q 4 _ rfl
          have b5 := ky.k.q 5 _ rfl
          have b6 := ky.k.q 6 _ rfl
          have b7 := ky.k.q 7 _ rfl
          have b8 := ky.k.q 8 _ rfl
          clear ly ky oy hyn3 x5 z5 Ln2 On2 Kn2
          have TK : Hid (Calls Tryz.prog 5 #[.pointer (some ⟨X, 0, none⟩), .agg #[.int .i64 2, .int .i64 1, .int .i64 3, .int .i64 (200 + (t : Int)), .int .i64 0, .int .i64 2, .string ⟨#[107]⟩, .int .i64 ((v : Int)), .string ⟨#[]⟩]] yn3 fun e w' => e = .returned (.tuple #[(.agg #[.int .i64 6, .int .i64 1, .int .i64 3, .int .i64 (200 + (t : Int)), .int .i64 0, .int .i64 2, .string ⟨#[107]⟩, .int .i64 0, .string ⟨#[]⟩]), .bool true]) ∧ ∃ o', Lw w w' o' X sA ∧ Fr TP on2 o' yn3 w') := hid (lw_take2 Ln3.out (by have := HBV.out.dl; omega) (⟨2, 1, 3, 200 + (t : Int), 0, 2, ⟨#[107]⟩, (v : Int), ⟨#[]⟩⟩ : F) (r := some (⟨6, 1, 3, 200 + (t : Int), 0, 2, ⟨#[107]⟩, 0, ⟨#[]⟩⟩ : F)) TA.out rfl rfl)
          go_wp2_with fail
          refine TK.out.mono ?_
          rintro e yn4 ⟨rfl, on4, ln4, gn4⟩
          have Ln4 := hid ln4
          have On4 := hid (On3.out.fr gn4 (nTP7' _))
          clear TK ln4 gn4 Ln3 On3 b0 b1 b2 b3 b4 b5 b6 b7 b8
          go_upto_region 29 with fail
          obtain ⟨on5, hon5⟩ : ∃ oz, oz = nwl on4 yn4.heap.size := ⟨_, rfl⟩
          obtain ⟨Bn5, hBn5⟩ : ∃ Bz, Bz = yn4.heap.size := ⟨_, rfl⟩
          obtain ⟨yn5, hyn5⟩ : ∃ Vz, Vz = yn4.alloc (.cells #[.int .i64 6, .int .i64 1, .int .i64 3, .int .i64 (200 + (t : Int)), .int .i64 0, .int .i64 2, .string ⟨#[107]⟩, .int .i64 0, .string ⟨#[]⟩] 28) := ⟨_, rfl⟩
          have qn5 := Ln4.out.box (⟨6, 1, 3, 200 + (t : Int), 0, 2, ⟨#[107]⟩, 0, ⟨#[]⟩⟩ : F)
          have hgen5 : w.heap.size ≤ Bn5 := by rw [hBn5]; exact Ln4.out.ge
          rw [show (⟨6, 1, 3, 200 + (t : Int), 0, 2, ⟨#[107]⟩, 0, ⟨#[]⟩⟩ : F).cs.toArray = #[.int .i64 6, .int .i64 1, .int .i64 3, .int .i64 (200 + (t : Int)), .int .i64 0, .int .i64 2, .string ⟨#[107]⟩, .int .i64 0, .string ⟨#[]⟩] from rfl, ← hyn5, ← hon5, ← hBn5] at qn5
          rw [← hyn5, ← hBn5]
          have gn5 : Fr (fun _ => False) on4 on5 yn4 yn5 := by rw [hon5]; exact nwl_fr _ on4 (by rw [hyn5]; exact bel_alloc _ _)
          have Ln5 := hid qn5.1
          have Kn5 := hid qn5.2.1
          have On5 := hid (On4.out.fr gn5 id)
          clear qn5 gn5 hon5 hyn5 hBn5 Ln4 On4
          obtain ⟨gL', cL', eL, _, _, _, _, hL6, _⟩ := On5.out.there (by omega)
          injection eL with eL1 eL2 eL3
          injection eL1 with eL1
          injection eL1 with eL1
          subst eL1 eL3
          have c0 := hL6 t (.int .i64 (v : Int)) (by unfold icn; rw [List.getElem?_map, HVT.out]; rfl)
          have b7 := Kn5.out.k.q 7 _ rfl
          have b8 := Kn5.out.k.q 8 _ rfl
          clear hL6 eL2 TA HBV
          have f1 : ((0 : Int) == (v : Int)) = false := by simp; omega
          have f2 : ((v : Int) != (v : Int)) = false := by simp
          have f3 : ((v : Int) == (v : Int)) = true := by simp
          have s5 : decide ((j : Int) ≤ (t : Int)) = false := by simp; omega
          go_big_quiet (exact Calls.quiet_of_same (HQ.out _))
          go_wp2_with fail
          exact ⟨⟨t + 1, on5, sA, by go_num, by omega, hid (Ln5.out.below (below_drewN (Below.refl _ _) _)), HB2, hid (On5.out.below (below_drewN (Below.refl _ _) _))⟩, by simp [intOf]; omega⟩
        · have e3 : updW W (u : Int) false (v : Int) = true := (if_neg (by omega)).trans hv3
          rw [e3, show EE (v : Int) = (⟨#[118]⟩ : ByteArray) ++ tv by rw [htv]; rfl] at tA
          clear htv
          have TA := hid tA
          clear tA e3
          go_wp2_with fail
          clear c0
          refine (askn_any 2 (200 + (t : Int)) ⟨#[107]⟩ ⟨#[]⟩ (v : Int) rfl _).mono ?_
          rintro e yn1 ⟨rfl, bb⟩
          have Ln1 := hid (LR.out.below bb)
          have On1 := hid (HO.out.below bb)
          clear bb LR HO
          go_upto_region 27 with fail
          obtain ⟨on2, hon2⟩ : ∃ oz, oz = nwl o yn1.heap.size := ⟨_, rfl⟩
          obtain ⟨Bn2, hBn2⟩ : ∃ Bz, Bz = yn1.heap.size := ⟨_, rfl⟩
          obtain ⟨yn2, hyn2⟩ : ∃ Vz, Vz = yn1.alloc (.cells #[.int .i64 2, .int .i64 1, .int .i64 3, .int .i64 (200 + (t : Int)), .int .i64 0, .int .i64 1, .string ⟨#[107]⟩, .int .i64 ((v : Int)), .string ⟨#[]⟩] 28) := ⟨_, rfl⟩
          have qn2 := Ln1.out.box (⟨2, 1, 3, 200 + (t : Int), 0, 1, ⟨#[107]⟩, (v : Int), ⟨#[]⟩⟩ : F)
          have hgen2 : w.heap.size ≤ Bn2 := by rw [hBn2]; exact Ln1.out.ge
          rw [show (⟨2, 1, 3, 200 + (t : Int), 0, 1, ⟨#[107]⟩, (v : Int), ⟨#[]⟩⟩ : F).cs.toArray = #[.int .i64 2, .int .i64 1, .int .i64 3, .int .i64 (200 + (t : Int)), .int .i64 0, .int .i64 1, .string ⟨#[107]⟩, .int .i64 ((v : Int)), .string ⟨#[]⟩] from rfl, ← hyn2, ← hon2, ← hBn2] at qn2
          rw [← hyn2, ← hBn2]
          have gn2 : Fr (fun _ => False) o on2 yn1 yn2 := by rw [hon2]; exact nwl_fr _ o (by rw [hyn2]; exact bel_alloc _ _)
          have Ln2 := hid qn2.1
          have Kn2 := hid qn2.2.1
          have On2 := hid (On1.out.fr gn2 id)
          clear qn2 gn2 hon2 hyn2 hBn2 Ln1 On1
          have x5 := Kn2.out.k.q 5 _ rfl
          have z5 := Kn2.out.z 5
          go_upto_region 28 with fail
          have ly := Ln2.out.set Kn2.out.k.lb hgen2 5 (.int .i64 2)
          have ky := Kn2.out.set5 2
          have oy := On2.out.fr (Fr.set (T := (· = (8, 1))) (o := on2) (w := yn2) (a := ⟨Bn2, 5, none⟩) Kn2.out.k.lb (.int .i64 2)) (fun e => by cases e)
          obtain ⟨yn3, hyn3⟩ : ∃ Vz, Vz = yn2.setCell ⟨Bn2, 5, none⟩ (.int .i64 2) := ⟨_, rfl⟩
          rw [← hyn3] at ly ky oy ⊢
          have Ln3 := hid ly
          have On3 := hid oy
          have b0 := ky.k.q 0 _ rfl
          have b1 := ky.k.q 1 _ rfl
          have b2 := ky.k.q 2 _ rfl
          have b3 := ky.k.q 3 _ rfl
          have b4 := ky.k.q 4 _ rfl
          have b5 := ky.k.q 5 _ rfl
          have b6 := ky.k.q 6 _ rfl
          have b7 := ky.k.q 7 _ rfl
          have b8 := ky.k.q 8 _ rfl
          clear ly ky oy hyn3 x5 z5 Ln2 On2 Kn2
          have TK : Hid (Calls Tryz.prog 5 #[.pointer (some ⟨X, 0, none⟩), .agg #[.int .i64 2, .int .i64 1, .int .i64 3, .int .i64 (200 + (t : Int)), .int .i64 0, .int .i64 2, .string ⟨#[107]⟩, .int .i64 ((v : Int)), .string ⟨#[]⟩]] yn3 fun e w' => e = .returned (.tuple #[(.agg #[.int .i64 6, .int .i64 1, .int .i64 3, .int .i64 (200 + (t : Int)), .int .i64 0, .int .i64 2, .string ⟨#[107]⟩, .int .i64 ((v : Int)), .string ((⟨#[118]⟩ : ByteArray) ++ tv)]), .bool true]) ∧ ∃ o', Lw w w' o' X sA ∧ Fr TP on2 o' yn3 w') := hid (lw_take2 Ln3.out (by have := HBV.out.dl; omega) (⟨2, 1, 3, 200 + (t : Int), 0, 2, ⟨#[107]⟩, (v : Int), ⟨#[]⟩⟩ : F) (r := some (⟨6, 1, 3, 200 + (t : Int), 0, 2, ⟨#[107]⟩, (v : Int), (⟨#[118]⟩ : ByteArray) ++ tv⟩ : F)) TA.out rfl rfl)
          go_wp2_with fail
          refine TK.out.mono ?_
          rintro e yn4 ⟨rfl, on4, ln4, gn4⟩
          have Ln4 := hid ln4
          have On4 := hid (On3.out.fr gn4 (nTP7' _))
          clear TK ln4 gn4 Ln3 On3 b0 b1 b2 b3 b4 b5 b6 b7 b8
          go_upto_region 29 with fail
          obtain ⟨on5, hon5⟩ : ∃ oz, oz = nwl on4 yn4.heap.size := ⟨_, rfl⟩
          obtain ⟨Bn5, hBn5⟩ : ∃ Bz, Bz = yn4.heap.size := ⟨_, rfl⟩
          obtain ⟨yn5, hyn5⟩ : ∃ Vz, Vz = yn4.alloc (.cells #[.int .i64 6, .int .i64 1, .int .i64 3, .int .i64 (200 + (t : Int)), .int .i64 0, .int .i64 2, .string ⟨#[107]⟩, .int .i64 ((v : Int)), .string ((⟨#[118]⟩ : ByteArray) ++ tv)] 28) := ⟨_, rfl⟩
          have qn5 := Ln4.out.box (⟨6, 1, 3, 200 + (t : Int), 0, 2, ⟨#[107]⟩, (v : Int), (⟨#[118]⟩ : ByteArray) ++ tv⟩ : F)
          have hgen5 : w.heap.size ≤ Bn5 := by rw [hBn5]; exact Ln4.out.ge
          rw [show (⟨6, 1, 3, 200 + (t : Int), 0, 2, ⟨#[107]⟩, (v : Int), (⟨#[118]⟩ : ByteArray) ++ tv⟩ : F).cs.toArray = #[.int .i64 6, .int .i64 1, .int .i64 3, .int .i64 (200 + (t : Int)), .int .i64 0, .int .i64 2, .string ⟨#[107]⟩, .int .i64 ((v : Int)), .string ((⟨#[118]⟩ : ByteArray) ++ tv)] from rfl, ← hyn5, ← hon5, ← hBn5] at qn5
          rw [← hyn5, ← hBn5]
          have gn5 : Fr (fun _ => False) on4 on5 yn4 yn5 := by rw [hon5]; exact nwl_fr _ on4 (by rw [hyn5]; exact bel_alloc _ _)
          have Ln5 := hid qn5.1
          have Kn5 := hid qn5.2.1
          have On5 := hid (On4.out.fr gn5 id)
          clear qn5 gn5 hon5 hyn5 hBn5 Ln4 On4
          obtain ⟨gL', cL', eL, _, _, _, _, hL6, _⟩ := On5.out.there (by omega)
          injection eL with eL1 eL2 eL3
          injection eL1 with eL1
          injection eL1 with eL1
          subst eL1 eL3
          have c0 := hL6 t (.int .i64 (v : Int)) (by unfold icn; rw [List.getElem?_map, HVT.out]; rfl)
          have b7 := Kn5.out.k.q 7 _ rfl
          have b8 := Kn5.out.k.q 8 _ rfl
          clear hL6 eL2 TA HBV
          have f1 : ((v : Int) == (v : Int)) = true := by simp
          have f2 : ((v : Int) != (u : Int)) = true := by simp; omega
          have f3 : ((v : Int) == (u : Int)) = false := by simp; omega
          have f4 : (((⟨#[118]⟩ : ByteArray) ++ tv).toList == ((⟨#[118]⟩ : ByteArray) ++ tv).toList) = true := beq_self_eq_true _
          have s5 : decide ((j : Int) ≤ (t : Int)) = false := by simp; omega
          go_big_quiet (exact Calls.quiet_of_same (HQ.out _))
          go_wp2_with fail
          exact ⟨⟨t + 1, on5, sA, by go_num, by omega, hid (Ln5.out.below (below_drewN (Below.refl _ _) _)), HB2, hid (On5.out.below (below_drewN (Below.refl _ _) _))⟩, by simp [intOf]; omega⟩
      · have htj2 : decide ((t : Int) < (j : Int)) = false := by simp; omega
        obtain ⟨tg, htg⟩ : ∃ t, t = its gr := ⟨_, rfl⟩
        have hz := its_size gr (by omega)
        rw [← htg] at hz
        have HQ := hid (fun w => itoa_q gr (by omega) w)
        rw [← htg] at HQ
        obtain ⟨sA, tA⟩ := HBV.out.rget (rid := 300) (by omega) (by omega) (by omega)
        rw [HG.out] at tA
        obtain ⟨D, hD⟩ : ∃ D, (if (gr : Int) = 0 then (⟨#[]⟩ : ByteArray) else DD ⟨#[107]⟩ (gr : Int)) = D := ⟨_, rfl⟩
        rw [hD] at tA
        have TA := hid tA
        clear tA
        go_wp2_with fail
        refine (askn_any 2 300 ⟨#[107]⟩ ⟨#[]⟩ 0 rfl _).mono ?_
        rintro e yn1 ⟨rfl, bb⟩
        have Ln1 := hid (LR.out.below bb)
        have On1 := hid (HO.out.below bb)
        clear bb LR HO
        have TK : Hid (Calls Tryz.prog 5 #[.pointer (some ⟨X, 0, none⟩), .agg #[.int .i64 2, .int .i64 1, .int .i64 3, .int .i64 300, .int .i64 0, .int .i64 1, .string ⟨#[107]⟩, .int .i64 0, .string ⟨#[]⟩]] yn1 fun e w' => e = .returned (.tuple #[(.agg #[.int .i64 6, .int .i64 1, .int .i64 3, .int .i64 300, .int .i64 0, .int .i64 1, .string ⟨#[107]⟩, .int .i64 ((gr : Int)), .string D]), .bool true]) ∧ ∃ o', Lw w w' o' X sA ∧ Fr TP o o' yn1 w') := hid (lw_take2 Ln1.out (by have := HBV.out.dl; omega) (⟨2, 1, 3, 300, 0, 1, ⟨#[107]⟩, 0, ⟨#[]⟩⟩ : F) (r := some (⟨6, 1, 3, 300, 0, 1, ⟨#[107]⟩, (gr : Int), D⟩ : F)) TA.out rfl rfl)
        go_wp2_with fail
        refine TK.out.mono ?_
        rintro e yn2 ⟨rfl, on2, ln2, gn2⟩
        have Ln2 := hid ln2
        have On2 := hid (On1.out.fr gn2 (nTP7' _))
        clear TK ln2 gn2 Ln1 On1 TA
        go_upto_region 32 with fail
        obtain ⟨on3, hon3⟩ : ∃ oz, oz = nwl on2 yn2.heap.size := ⟨_, rfl⟩
        obtain ⟨Bn3, hBn3⟩ : ∃ Bz, Bz = yn2.heap.size := ⟨_, rfl⟩
        obtain ⟨yn3, hyn3⟩ : ∃ Vz, Vz = yn2.alloc (.cells #[.int .i64 6, .int .i64 1, .int .i64 3, .int .i64 300, .int .i64 0, .int .i64 1, .string ⟨#[107]⟩, .int .i64 ((gr : Int)), .string D] 28) := ⟨_, rfl⟩
        have qn3 := Ln2.out.box (⟨6, 1, 3, 300, 0, 1, ⟨#[107]⟩, (gr : Int), D⟩ : F)
        have hgen3 : w.heap.size ≤ Bn3 := by rw [hBn3]; exact Ln2.out.ge
        rw [show (⟨6, 1, 3, 300, 0, 1, ⟨#[107]⟩, (gr : Int), D⟩ : F).cs.toArray = #[.int .i64 6, .int .i64 1, .int .i64 3, .int .i64 300, .int .i64 0, .int .i64 1, .string ⟨#[107]⟩, .int .i64 ((gr : Int)), .string D] from rfl, ← hyn3, ← hon3, ← hBn3] at qn3
        rw [← hyn3, ← hBn3]
        have gn3 : Fr (fun _ => False) on2 on3 yn2 yn3 := by rw [hon3]; exact nwl_fr _ on2 (by rw [hyn3]; exact bel_alloc _ _)
        have Ln3 := hid qn3.1
        have Kn3 := hid qn3.2.1
        have On3 := hid (On2.out.fr gn3 id)
        clear qn3 gn3 hon3 hyn3 hBn3 Ln2 On2
        obtain ⟨Y, eY⟩ : ∃ Y : World, Y = { yn3 with drawn := yn3.drawn + 1 } := ⟨_, rfl⟩
        have YB : Hid (Below yn3.heap.size yn3 Y) := hid (by rw [eY]; exact below_drewN (Below.refl _ _) 1)
        have k7 : ∀ s : Up Y, s.w.cell? ⟨Bn3, 7, none⟩ = some (.int .i64 (gr : Int)) := fun s => (Kn3.out.below (YB.out.trans (s.h.mono YB.out.size))).k.q 7 _ rfl
        have k8 : ∀ s : Up Y, s.w.cell? ⟨Bn3, 8, none⟩ = some (.string D) := fun s => (Kn3.out.below (YB.out.trans (s.h.mono YB.out.size))).k.q 8 _ rfl
        have D1 : Hid (∀ s : Up Y, Calls Tryz.prog 8 #[.int .i64 (gr : Int)] s.w fun e w' => e = .returned (.string tg) ∧ ∃ s' : Up Y, w' = s'.w) := hid (fun s => (HQ.out s.w).mono fun _ w' h => ⟨h.1, s, h.2⟩)
        have D2 : Hid (∀ s : Up Y, Calls Tryz.prog 9 #[] s.w fun e w' => e = .returned (.bool true) ∧ ∃ s' : Up Y, w' = s'.w) := hid (fun s => (runs_any s.w).mono fun _ w' h => ⟨h.1, ⟨w', s.h.trans (h.2.mono s.h.size)⟩, rfl⟩)
        have LF := hid Ln3.out.fin
        clear Ln3 On3 Kn3 HBV
        have f1 : ((gr : Int) == (gr : Int)) = true := by simp
        have hs1 : ¬ (9223372036854775807 < (⟨#[114]⟩ : ByteArray).size + tg.size) := by have e : (⟨#[114]⟩ : ByteArray).size = 1 := rfl; omega
        by_cases g0 : gr = 0
        · subst g0
          clear htg
          have f2 : (((0 : Nat) : Int) == 0) = true := rfl
          go_wp2_with fail
          refine region_up (by kernel_rfl) (by kernel_rfl) Y eY ?_
          clear eY
          have ne : Nonempty (Up Y) := ⟨⟨Y, Below.refl _ _⟩⟩
          repeat (go_big_quiet_step (first | exact D1.out _ | exact D2.out _))
          refine wpQuiet_nil ?_
          rintro w13 ⟨s13, rfl⟩
          have fB : Hid (Below w.heap.size w s13.w) := hid (LF.out.trans ((YB.out.trans (s13.h.mono YB.out.size)).mono LF.out.size))
          go_wp2_with fail
          go_ret
          exact ⟨rfl, fB.out⟩
        · have f2 : ((gr : Int) == 0) = false := by simp; omega
          have hD2 : D = (⟨#[114]⟩ : ByteArray) ++ tg := by rw [← hD, if_neg (by omega), htg]; rfl
          subst hD2
          have f4 : (((⟨#[114]⟩ : ByteArray) ++ tg).toList == ((⟨#[114]⟩ : ByteArray) ++ tg).toList) = true := beq_self_eq_true _
          clear hD htg
          go_wp2_with fail
          refine region_up (by kernel_rfl) (by kernel_rfl) Y eY ?_
          clear eY
          have ne : Nonempty (Up Y) := ⟨⟨Y, Below.refl _ _⟩⟩
          repeat (go_big_quiet_step (first | exact D1.out _ | exact D2.out _))
          refine wpQuiet_nil ?_
          rintro w13 ⟨s13, rfl⟩
          have fB : Hid (Below w.heap.size w s13.w) := hid (LF.out.trans ((YB.out.trans (s13.h.mono YB.out.size)).mono LF.out.size))
          go_wp2_with fail
          go_ret
          exact ⟨rfl, fB.out⟩
end Go.Proofs.YtfinaichajbnkaaGreatDoor
