/-
  ALLOC of a store: who goes, where the text stands.
-/
import Derived.Test.YtfinaichajbnkaaGreatDoorPin
namespace Go.Proofs.YtfinaichajbnkaaGreatDoor
open Go.RowKit

theorem underS : Tryz.prog.underlying 99 = some (.slice 9) := by kernel_rfl
theorem infoS : (Tryz.prog.info? 9).map (fun i => (i.zero, i.size, i.bytes)) = some (some (.string ⟨#[]⟩), 1, 16) := by kernel_rfl
/-- Texts as cells. -/
def strc (l : List ByteArray) : List Value := l.map .string
theorem strc_append (l m : List ByteArray) : strc (l ++ m) = strc l ++ strc m := by simp [strc]
theorem strc_length (l : List ByteArray) : (strc l).length = l.length := by simp [strc]
theorem strc_at (l : List ByteArray) {j : Nat} {k : ByteArray} (h : l[j]? = some k) : (strc l)[j]? = some (.string k) := by simp [strc, h]
/-- All new blocks get a mark. -/
def mix (o : Nat → Nat × Nat) (N : Nat) (t : Nat × Nat) : Nat → Nat × Nat := fun b => if b < N then o b else t
/-- A list in memory that is new behind w. -/
theorem OwnK.fresh {w w' : World} {o1 : Nat → Nat × Nat} {t s : Nat × Nat} {k : Nat} {v : Value} {n : Nat} {cs : List Value} (h : OwnK w' o1 t k v n cs) (f : Fr (· = t) (fun _ => s) o1 w w') (hs : s ≠ t) (o : Nat → Nat × Nat) :
    OwnK w' (mix o w.heap.size t) t k v n cs ∧ Fr (fun _ => False) o (mix o w.heap.size t) w w' := by
  refine ⟨⟨h.1, h.2.1, ?_⟩, ⟨f.os, f.tape, f.output, f.size, fun b hb => if_pos hb, fun b hb _ => f.block b hb hs⟩⟩
  rcases h.2.2 with h | ⟨g, cap, h1, h2, h3⟩
  · exact .inl h
  · refine .inr ⟨g, cap, h1, if_neg (fun hb => hs ?_), h3⟩
    rw [← h2]; exact (f.lab g hb).symm
/-- append of one text to no list. -/
theorem app_first (w : World) (o : Nat → Nat × Nat) (t : Nat × Nat) (ht : (0, 0) ≠ t) (k : ByteArray) :
    ∃ v' w', (Builtin.append_ #[99, 99] 99 #[.slice none 0 0, .slice (some ⟨w.heap.size, 0, none⟩) 1 1]).run Tryz.prog (w.alloc (.cells #[.string k] 9)) = .ok v' w' ∧ OwnK w' (mix o w.heap.size t) t 1 v' 1 (strc [k]) ∧ Fr (fun _ => False) o (mix o w.heap.size t) w w' := by
  obtain ⟨v', w', o', hr, h2, h3⟩ := app_one 99 9 (.string ⟨#[]⟩) 16 underS infoS (by kernel_rfl) (OwnK.nil w (fun _ => (0, 0)) t 1) [.string k] rfl (fun x hx => by simp at hx; rw [hx]; rfl) (by omega) (by omega)
  obtain ⟨q1, q2⟩ := h2.fresh h3 ht o
  exact ⟨v', w', hr, q1, q2⟩
/-- A store whose slab is another one. -/
structure IsA (w : World) (o : Nat → Nat × Nat) (X : Nat) (z : Sp) (s : St) (h : Gh) : Prop where
  mem : MemS w o X h.S h.C h.G h.N h.cap h.g h.sv
  spr : OwnK w o (1, 2) 1 h.sv h.sp.length (frc h.sp)
  slab : IsSlab w o 2 h.S s
  chn : IsChain w o 3 h.C h.a
  lk : Links h.N h.g h.nw h.od
  it : ∀ x ∈ h.L, CellsOf h.g x.1 x.2
  rg : Rings z.s.n h.nw h.od h.L
  pl : Plc z.s.n h.N h.L h.sp
  mp : MapOf h.a h.L
  ll : h.L.map (·.2) = z.l
  ok : OkSp z
theorem IsG.toA {w w' : World} {o o' : Nat → Nat × Nat} {X : Nat} {z : Sp} {h : Gh} (I : IsG w o X z h) {s : St} (f : Fr (fun t => t.1 = 2) o o' w w') (hs : IsSlab w' o' 2 h.S s) : IsA w' o' X z s h :=
  ⟨I.mem.fr f (by decide) (by decide), I.spr.fr f (by decide), hs, I.chn.fr f (fun _ e => by cases e), I.lk, I.it, I.rg, I.pl, I.mp, I.ll, I.ok⟩
theorem IsA.fr {T : Nat × Nat → Prop} {w w' : World} {o o' : Nat → Nat × Nat} {X : Nat} {z : Sp} {s : St} {h : Gh} (I : IsA w o X z s h) (f : Fr T o o' w w') (hT : ∀ t, TS t → ¬ T t) : IsA w' o' X z s h :=
  ⟨I.mem.fr f (hT _ (TS.mk1 _)) (hT _ (TS.mk1 _)), I.spr.fr f (hT _ (TS.mk1 _)), I.slab.fr f (fun _ => hT _ (TS.mk2 _)), I.chn.fr f (fun _ => hT _ (TS.mk3 _)), I.lk, I.it, I.rg, I.pl, I.mp, I.ll, I.ok⟩
theorem IsA.toG {w : World} {o : Nat → Nat × Nat} {X : Nat} {z : Sp} {h : Gh} (I : IsA w o X z z.s h) : IsG w o X z h := ⟨I.mem, I.spr, I.slab, I.chn, I.lk, I.it, I.rg, I.pl, I.mp, I.ll, I.ok⟩
theorem vicP_vic {w : World} {o : Nat → Nat × Nat} {X : Nat} {z : Sp} {h : Gh} (I : IsG w o X z h) (c : Nat) : z.vic c = (vicP h.L c).map (·.2) := by
  unfold Sp.vic vicP ofc
  rw [← I.ll, List.filter_map, List.getLast?_map, List.filter_filter]
  congr 3
  funext x
  simp [It.may, Bool.and_comm]
theorem vicP_mem {L : List PI} {c : Nat} {x : PI} (h : vicP L c = some x) : x ∈ L := by
  unfold vicP at h
  exact (mem_ofc.1 (List.mem_filter.1 (List.mem_of_getLast? h)).1).1
def lenV : Value → Nat
  | .slice _ n _ => n
  | _ => 0
/-- What alloc leaves: full, or the text stands in the slab. -/
def RoomP (w : World) (o : Nat → Nat × Nat) (X : Nat) (z : Sp) (c : Nat) (text : ByteArray) (e : Ending) (w' : World) : Prop :=
  (∃ o', (z.s.alloc text).1.2.2 = 6 ∧ z.vic c = none ∧ e = .returned (.tuple #[.agg #[.int .i64 0, .int .i64 0], .slice none 0 0, .int .i64 6]) ∧ IsSt w' o' X z ∧ Fr TS o o' w w') ∨
  (∃ o' k h', (z.s.alloc text).1 = (c, k, 0) ∧ e = .returned (.tuple #[.agg #[.int .i64 ((c : Nat) : Int), .int .i64 ((k : Nat) : Int)], .slice none 0 0, .int .i64 0]) ∧ IsA w' o' X z (z.s.alloc text).2 h' ∧ Fr TS o o' w w') ∨
  (∃ o' k h' v V, (z.s.alloc text).1.2.2 = 6 ∧ z.vic c = some v ∧ ((z.rm v).s.alloc text).1 = (c, k, 0) ∧ e = .returned (.tuple #[.agg #[.int .i64 ((c : Nat) : Int), .int .i64 ((k : Nat) : Int)], V, .int .i64 0]) ∧ OwnK w' o' (7, 0) 1 V 1 (strc [v.key]) ∧ IsA w' o' X (z.rm v) ((z.rm v).s.alloc text).2 h' ∧ Fr TS o o' w w')
/-- How far alloc is: none went, or one. -/
def Stg (wr : World) (o1 : Nat → Nat × Nat) (z z1 : Sp) (c : Nat) (text : ByteArray) (V : Value) : Prop :=
  (V = .slice none 0 0 ∧ z1 = z) ∨ ∃ v, lenV V = 1 ∧ z1 = z.rm v ∧ (z.s.alloc text).1.2.2 = 6 ∧ z.vic c = some v ∧ OwnK wr o1 (7, 0) 1 V 1 (strc [v.key])
set_option maxRecDepth 100000 in
set_option maxHeartbeats 1000000 in
theorem salloc_any (X : Nat) (z : Sp) (c : Nat) (K : Int) (hK : K = (c : Int)) (text : ByteArray) (ht : text.size ≤ 281474976710656) (hc : clsOf z.s text.size = some c) (w : World) (o : Nat → Nat × Nat) (I : IsSt w o X z) :
    Calls Tryz.prog 67 #[.pointer (some ⟨X, 0, none⟩), .int .i64 K, .string text] w fun e w' => RoomP w o X z c text e w' := by
  subst hK
  obtain ⟨R, hR⟩ : ∃ R, R = w.heap.size := ⟨_, rfl⟩
  have HR : Hid (R = w.heap.size) := hR
  obtain ⟨w0, hw0⟩ : ∃ w0, w0 = w.alloc (.cells #[.int .i64 0, .int .i64 0] 56) := ⟨_, rfl⟩
  have F0 : Hid (Fr TS o (lab o R (0, 0)) w w0) := by rw [hw0, hR]; exact Fr.new _ o w _ _
  have I0 : Hid (IsSt w0 (lab o R (0, 0)) X z) := I.fr (T := fun _ => False) (by rw [hw0, hR]; exact Fr.new _ o w _ _) (fun _ _ x => x)
  have r0 : Hid (w0.cell? ⟨R, 0, none⟩ = some (.int .i64 0)) := by show _ = _; rw [hw0, hR, World.cell?_alloc_new]; rfl
  have r1 : Hid (w0.cell? ⟨R, 1, none⟩ = some (.int .i64 0)) := by show _ = _; rw [hw0, hR, World.cell?_alloc_new]; rfl
  have rz : Hid (∀ j, w0.frozen? ⟨R, j, none⟩ = false) := fun j => by rw [hw0, hR]; exact World.frozen?_alloc_new _ _ _ _
  have oR : Hid (lab o R (0, 0) R = (0, 0)) := lab_same _ _ _
  have HC : Hid (clsOf z.s text.size = some c) := hc
  have HOK : Hid (OkSp z) := I.ok
  have hc11 : c < 11 := by have := (clsOf_some hc).1; have := I.ok.ok.n2; omega
  clear I hc
  go_enter Tryz.func67, Tryz.ntmps67
  go_wp2_with fail
  rw [← hw0, ← hR]
  clear hw0 hR
  go_loopw [9] (fun V wr => ∃ (o1 : Nat → Nat × Nat) (z1 : Sp) (va : Option Addr) (vn vc : Nat), V = .slice va vn vc ∧ Hid (Stg wr o1 z z1 c text (.slice va vn vc)) ∧ Hid (IsSt wr o1 X z1) ∧ Hid (wr.cell? ⟨R, 0, none⟩ = some (.int .i64 0)) ∧ Hid (wr.cell? ⟨R, 1, none⟩ = some (.int .i64 0)) ∧ Hid (∀ j, wr.frozen? ⟨R, j, none⟩ = false) ∧ Hid (o1 R = (0, 0)) ∧ Hid (Fr TS o o1 w wr)) (fun V _ => 1 - lenV V)
  case atStart => exact ⟨lab o R (0, 0), z, none, 0, 0, rfl, .inl ⟨rfl, rfl⟩, I0, r0, r1, rz, oR, F0⟩
  case round =>
    clear I0 r0 r1 rz oR F0
    obtain ⟨o1, z1, va, vn, vc, rfl, HST, I1, R0, R1, RZ, OR, F1⟩ := hrel
    obtain ⟨h1, G1⟩ := I1.out
    have c0 := G1.mem.c0
    have HG1 : Hid (IsG wr o1 X z1 h1) := G1
    clear G1 I1
    have hcl1 : clsOf z1.s text.size = some c ∧ ((Value.slice va vn vc = .slice none 0 0 ∧ z1 = z) ∨ ¬ (z1.s.fr c = [] ∧ z1.s.left = 0)) := by
      rcases HST.out with ⟨hv, rfl⟩ | ⟨v, _, rfl, _, hv, _⟩
      · exact ⟨HC.out, .inl ⟨hv, rfl⟩⟩
      · obtain ⟨q1, q2, q3⟩ := vic_some hv
        subst q2
        obtain ⟨q4, q5⟩ := Sp.rm_room HOK.out q1 HC.out
        exact ⟨q4, .inr q5⟩
    rcases St.alloc_ways HG1.out.ok.ok hcl1.1 with ⟨hf1, hl1, hA⟩ | ⟨hnf, k, s', hA, tk, _⟩
    · obtain ⟨hv0, hz1⟩ : Value.slice va vn vc = .slice none 0 0 ∧ z1 = z := by
        rcases hcl1.2 with h | h
        · exact h
        · exact absurd ⟨hf1, hl1⟩ h
      subst hz1
      injection hv0 with e1 e2 e3
      subst e1 e2 e3
      have HA : Hid (z1.s.alloc text = ((0, 0, 6), z1.s)) := hA
      have hcn : Hid (c < z1.s.n) := (clsOf_some hcl1.1).1
      clear hA hf1 hl1 hcl1
      go_wp2_with fail
      refine (alloc_any 2 h1.S (by decide) z1.s text ht _ o1 HG1.out.slab).mono ?_
      rintro e w2 ⟨rfl, o2, S2, F2⟩
      rw [HA.out] at S2
      have B3 : Below w2.heap.size w2 (w2.alloc (.cells #[.int .i64 0, .int .i64 0] 56)) := (Below.refl _ _).alloc (Nat.le_refl _) _
      have G2 : IsG w2 o2 X z1 h1 := (HG1.out.toA F2 S2).toG
      have nR : ¬ ((o1 R).1 = 2) := by rw [OR.out]; decide
      have hRl := World.block_lt_of_cell? _ _ R0.out
      have g0 := F2.cell R0.out nR
      have hRl2 := World.block_lt_of_cell? _ _ g0
      replace g0 := cell_up B3 g0
      have g1 := cell_up B3 (F2.cell R1.out nR)
      have gz : ∀ j, (w2.alloc (.cells #[.int .i64 0, .int .i64 0] 56)).frozen? ⟨R, j, none⟩ = false := fun j => (B3.frozen (p := ⟨R, j, none⟩) hRl2).trans ((F2.frozen (off := j) hRl nR).trans (RZ.out j))
      have HF2 : Hid (Fr TS o o2 w (w2.alloc (.cells #[.int .i64 0, .int .i64 0] 56))) := (F1.out.trans (F2.mono (fun t e => ⟨by omega, by omega⟩))).trans (Fr.ofBelow _ o2 B3)
      have OR2 : Hid (o2 R = (0, 0)) := (F2.lab R hRl).trans OR.out
      have HG3 : Hid (IsG (w2.alloc (.cells #[.int .i64 0, .int .i64 0] 56)) o2 X z1 h1) := G2.below B3
      have HGZ : Hid (∀ j, (w2.alloc (.cells #[.int .i64 0, .int .i64 0] 56)).frozen? ⟨R, j, none⟩ = false) := gz
      have gz0 := gz 0
      have gz1 := gz 1
      have HG0 : Hid ((w2.alloc (.cells #[.int .i64 0, .int .i64 0] 56)).cell? ⟨R, 0, none⟩ = some (.int .i64 0) ∧ (w2.alloc (.cells #[.int .i64 0, .int .i64 0] 56)).cell? ⟨R, 1, none⟩ = some (.int .i64 0)) := ⟨g0, g1⟩
      rw [HA.out]
      unfold ansV
      clear S2 F2 nR hRl HG1 hRl2 c0 B3 G2 gz OR R0 R1 RZ F1
      go_wp2_with fail
      refine (oldest_any X z1 h1 c _ rfl hcn.out _ o2 HG3.out).mono ?_
      rintro e w3 ⟨rfl, rfl⟩
      cases hvp : vicP h1.L c with
      | none =>
        have HV : Hid (z1.vic c = none) := by show _ = _; rw [vicP_vic HG3.out c, hvp]; rfl
        clear hvp
        unfold vicN
        go_wp2_with fail
        refine bodyPost_ret (v := .tuple #[.agg #[.int .i64 0, .int .i64 0], .slice none 0 0, .int .i64 6]) (by simp [results, Tryz.results67, go_sem, (two_cells g0 g1 (.int .i64 0) (.int .i64 0)).1, (two_cells g0 g1 (.int .i64 0) (.int .i64 0)).2]) rfl (.inl ⟨o2, by rw [HA.out], HV.out, rfl, ⟨h1, HG3.out.fr ((Fr.set (T := fun t => t = (0, 0)) (a := ⟨R, 0, none⟩) OR2.out _).trans (Fr.set (a := ⟨R, 1, none⟩) OR2.out _)) (fun t ht e => by rw [e] at ht; exact absurd ht.1 (by decide))⟩, ?_⟩)
        exact (HF2.out.setNew (a := ⟨R, 0, none⟩) (by rw [← HR.out]; exact Nat.le_refl _) _).setNew (a := ⟨R, 1, none⟩) (by rw [← HR.out]; exact Nat.le_refl _) _
      | some x =>
        have HV : Hid (z1.vic c = some x.2) := by show _ = _; rw [vicP_vic HG3.out c, hvp]; rfl
        have HXL : Hid (x ∈ h1.L) := vicP_mem hvp
        have hb := HG3.out.pl.bdL HXL.out
        have n1 := HG3.out.mem.n1
        have hp1 : ((x.1 : Nat) : Int) < (h1.N : Int) := by omega
        have hne : (((x.1 : Nat) : Int) == -1) = false := beq_eq_false_iff_ne.2 (by omega)
        have c2 := HG3.out.mem.c2
        have d0 := (HG3.out.mem.at_ (q := x.1 * 8) (by omega)).1
        rw [(HG3.out.it x HXL.out).1] at d0
        clear hvp g0 g1 gz0 gz1
        obtain ⟨w3, hw3⟩ : ∃ w3, w3 = w2.alloc (.cells #[.int .i64 0, .int .i64 0] 56) := ⟨_, rfl⟩
        rw [← hw3] at HF2 HG3 HGZ HG0 c2 d0 ⊢
        obtain ⟨v4, w4, hrun, O4, F4⟩ := app_first w3 o2 (7, 0) (by decide) x.2.key
        obtain ⟨a4, b4, rfl, _⟩ := O4.form
        have HO4 : Hid (OwnK w4 (mix o2 w3.heap.size (7, 0)) (7, 0) 1 (.slice a4 1 b4) 1 (strc [x.2.key])) := O4
        have HF4 : Hid (Fr (fun _ => False) o2 (mix o2 w3.heap.size (7, 0)) w3 w4) := F4
        clear O4 F4 hw3
        rw [show vicN (some x) = ((x.1 : Nat) : Int) from rfl]
        go_wp2_with (at_builtin; refine wpList_append_run rfl (.tmp 34) (.tmp 43) 99 99 rfl _ _ _ rfl rfl hrun ?_)
        have G4 : IsG w4 (mix o2 w3.heap.size (7, 0)) X z1 h1 := HG3.out.fr HF4.out (fun _ _ e => e)
        refine (remove_any X z1 h1 x _ rfl HXL.out _ _ G4).mono ?_
        rintro e w5 ⟨rfl, o5, I5, F5⟩
        have hRw3 := World.block_lt_of_cell? _ _ HG0.out.1
        have hRw4 : R < w4.heap.size := Nat.lt_of_lt_of_le hRw3 HF4.out.size
        have OR4 : mix o2 w3.heap.size (7, 0) R = (0, 0) := (HF4.out.lab R hRw3).trans OR2.out
        have nT : ¬ TS (mix o2 w3.heap.size (7, 0) R) := by rw [OR4]; exact fun h => absurd h.1 (by decide)
        have HEND : Hid (Stg w5 o5 z1 (z1.rm x.2) c text (.slice a4 1 b4) ∧ IsSt w5 o5 X (z1.rm x.2) ∧ w5.cell? ⟨R, 0, none⟩ = some (.int .i64 0) ∧ w5.cell? ⟨R, 1, none⟩ = some (.int .i64 0) ∧ (∀ j, w5.frozen? ⟨R, j, none⟩ = false) ∧ o5 R = (0, 0) ∧ Fr TS o o5 w w5) := by
          refine ⟨.inr ⟨x.2, rfl, rfl, by rw [HA.out], HV.out, HO4.out.fr F5 (fun h => absurd h.2 (by decide))⟩, I5, F5.cell (HF4.out.cell HG0.out.1 (fun x => x)) nT, F5.cell (HF4.out.cell HG0.out.2 (fun x => x)) nT, fun j => ((F5.frozen (off := j) hRw4 nT).trans (HF4.out.frozen (off := j) hRw3 (fun x => x))).trans (HGZ.out j), (F5.lab R hRw4).trans OR4, (HF2.out.trans (HF4.out.mono (fun _ h => h.elim))).trans F5⟩
        clear G4 I5 F5 nT OR4 hRw3 hRw4
        go_wp2_with fail
        obtain ⟨q1, q2, q3, q4, q5, q6, q7⟩ := HEND.out
        exact ⟨⟨o5, z1.rm x.2, a4, 1, b4, rfl, q1, q2, q3, q4, q5, q6, q7⟩, by simp [lenV]⟩
    · have HA : Hid (z1.s.alloc text = ((c, k, 0), s')) := hA
      clear hA hcl1 hnf tk
      go_wp2_with fail
      refine (alloc_any 2 h1.S (by decide) z1.s text ht _ o1 HG1.out.slab).mono ?_
      rintro e w2 ⟨rfl, o2, S2, F2⟩
      have hR2 : Fr (fun t => t.1 = 2) o1 o2 wr w2 := F2
      rw [HA.out] at S2
      have A2 : Hid (IsA w2 o2 X z1 s' h1) := HG1.out.toA F2 S2
      have nR : ¬ ((o1 R).1 = 2) := by rw [OR.out]; decide
      have g0 := F2.cell R0.out nR
      have g1 := F2.cell R1.out nR
      have hRl := World.block_lt_of_cell? _ _ R0.out
      have gz0 := (F2.frozen (off := 0) hRl nR).trans (RZ.out 0)
      have gz1 := (F2.frozen (off := 1) hRl nR).trans (RZ.out 1)
      have hRl2 := World.block_lt_of_cell? _ _ g0
      have hRne : R ≠ w2.heap.size := by simp at hRl2; omega
      have HF2 : Hid (Fr TS o o2 w w2) := F1.out.trans (F2.mono (fun t e => ⟨by omega, by omega⟩))
      have OR2 : Hid (o2 R = (0, 0)) := (F2.lab R hRl).trans OR.out
      have HW2 : Hid (∀ t, ¬ t.1 = 2 → ∀ k v n cs, OwnK wr o1 t k v n cs → OwnK w2 o2 t k v n cs) := fun t ht k v n cs h => h.fr F2 ht
      have HRL : Hid (R < w2.heap.size) := hRl2
      rw [HA.out]
      unfold ansV
      have B3 : Below w2.heap.size w2 (w2.alloc (.cells #[.int .i64 ((c : Nat) : Int), .int .i64 ((k : Nat) : Int)] 56)) := (Below.refl _ _).alloc (Nat.le_refl _) _
      replace g0 := cell_up B3 g0
      replace g1 := cell_up B3 g1
      replace gz0 := (B3.frozen (p := ⟨R, 0, none⟩) hRl2).trans gz0
      replace gz1 := (B3.frozen (p := ⟨R, 1, none⟩) hRl2).trans gz1
      have HB3 : Hid (Below w2.heap.size w2 (w2.alloc (.cells #[.int .i64 ((c : Nat) : Int), .int .i64 ((k : Nat) : Int)] 56))) := B3
      clear S2 hR2 F2 nR hRl HG1 hRl2 c0 B3
      go_wp2_with fail
      refine bodyPost_ret (v := .tuple #[.agg #[.int .i64 ((c : Nat) : Int), .int .i64 ((k : Nat) : Int)], .slice va vn vc, .int .i64 0]) (by simp [results, Tryz.results67, go_sem, (two_cells g0 g1 (.int .i64 ((c : Nat) : Int)) (.int .i64 ((k : Nat) : Int))).1, (two_cells g0 g1 (.int .i64 ((c : Nat) : Int)) (.int .i64 ((k : Nat) : Int))).2]) rfl ?_
      have FR : Fr (fun t => t = (0, 0)) o2 o2 w2 (((w2.alloc (.cells #[.int .i64 ((c : Nat) : Int), .int .i64 ((k : Nat) : Int)] 56)).setCell ⟨R, 0, none⟩ (.int .i64 ((c : Nat) : Int))).setCell ⟨R, 1, none⟩ (.int .i64 ((k : Nat) : Int))) := ((Fr.ofBelow _ o2 HB3.out).trans (Fr.set (a := ⟨R, 0, none⟩) OR2.out _)).trans (Fr.set (a := ⟨R, 1, none⟩) OR2.out _)
      have AF := A2.out.fr FR (fun t ht e => by rw [e] at ht; exact absurd ht.1 (by decide))
      have FF : Fr TS o o2 w (((w2.alloc (.cells #[.int .i64 ((c : Nat) : Int), .int .i64 ((k : Nat) : Int)] 56)).setCell ⟨R, 0, none⟩ (.int .i64 ((c : Nat) : Int))).setCell ⟨R, 1, none⟩ (.int .i64 ((k : Nat) : Int))) := ((HF2.out.trans (Fr.ofBelow _ o2 HB3.out)).setNew (a := ⟨R, 0, none⟩) (by rw [← HR.out]; exact Nat.le_refl _) _).setNew (a := ⟨R, 1, none⟩) (by rw [← HR.out]; exact Nat.le_refl _) _
      rcases HST.out with ⟨hv, rfl⟩ | ⟨v, hl1, rfl, h6, hv, hO⟩
      · exact .inr (.inl ⟨o2, k, h1, by rw [HA.out], by rw [hv], by rw [HA.out]; exact AF, FF⟩)
      · exact .inr (.inr ⟨o2, k, h1, v, _, h6, hv, by rw [HA.out], rfl, (HW2.out (7, 0) (by decide) _ _ _ _ hO).fr FR (by decide), by rw [HA.out]; exact AF, FF⟩)
end Go.Proofs.YtfinaichajbnkaaGreatDoor
