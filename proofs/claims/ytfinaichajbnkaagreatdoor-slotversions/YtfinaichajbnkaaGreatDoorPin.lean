/-
  PIN, REMOVE, DROP of a store.
-/
import Derived.Test.YtfinaichajbnkaaGreatDoorPeek
import Derived.Deep.CutRange
import Derived.Deep.CutBlock
import Derived.WalkMore
namespace Go.Proofs.YtfinaichajbnkaaGreatDoor
open Go.RowKit

/-- An entry's cells, told anew. -/
def setE (g : Nat → Value) (p : Nat) (f : Nat → Value) : Nat → Value := fun q => if q / 8 = p then f (q % 8) else g q
theorem setE_in (g : Nat → Value) (p : Nat) (f : Nat → Value) {j : Nat} (h : j < 8) : setE g p f (p * 8 + j) = f j := by
  unfold setE; rw [if_pos (by omega)]; congr 1; omega
theorem setE_out (g : Nat → Value) {p q : Nat} (f : Nat → Value) {j : Nat} (h : j < 8) (e : q ≠ p) : setE g p f (q * 8 + j) = g (q * 8 + j) := by
  unfold setE; rw [if_neg (by omega)]
theorem setE_upd (g : Nat → Value) (p : Nat) (f : Nat → Value) : setE g p f = upd (upd (upd (upd (upd (upd (upd (upd g (p * 8) (f 0)) (p * 8 + 1) (f 1)) (p * 8 + 2) (f 2)) (p * 8 + 3) (f 3)) (p * 8 + 4) (f 4)) (p * 8 + 5) (f 5)) (p * 8 + 6) (f 6)) (p * 8 + 7) (f 7) := by
  funext q
  unfold setE
  by_cases e : q / 8 = p
  · rw [if_pos e]
    obtain ⟨j, hj, rfl⟩ : ∃ j, j < 8 ∧ q = p * 8 + j := ⟨q % 8, by omega, by omega⟩
    rw [show (p * 8 + j) % 8 = j by omega]
    obtain rfl | rfl | rfl | rfl | rfl | rfl | rfl | rfl : j = 0 ∨ j = 1 ∨ j = 2 ∨ j = 3 ∨ j = 4 ∨ j = 5 ∨ j = 6 ∨ j = 7 := by omega
    all_goals simp [upd]
  · rw [if_neg e]
    simp only [upd]
    repeat rw [if_neg (by omega)]
/-- The zero entry. -/
def zeroE : Nat → Value
  | 0 => .string ⟨#[]⟩
  | 3 => .bool false
  | _ => .int .i64 0
theorem Links.zero {N : Nat} {g : Nat → Value} {nw od : Nat → Nat → Nat} (h : Links N g nw od) (h0 : 0 < N) (p : Nat) : Links N (setE g p zeroE) (fun r => upd (nw r) p 0) (fun r => upd (od r) p 0) := by
  refine ⟨fun q r hq hr => ?_, fun q r hq hr => ?_, fun q r hq hr => ?_, fun q r hq hr => ?_⟩
  · by_cases e : q = p
    · subst e
      rw [upd_same, Nat.add_assoc, setE_in _ _ _ (by omega)]
      obtain rfl | rfl : r = 0 ∨ r = 1 := by omega
      all_goals rfl
    · rw [upd_other _ _ _ e, Nat.add_assoc, setE_out _ _ (by omega) e, ← Nat.add_assoc]; exact h.rn q r hq hr
  · by_cases e : q = p
    · subst e
      rw [upd_same, Nat.add_assoc, setE_in _ _ _ (by omega)]
      obtain rfl | rfl : r = 0 ∨ r = 1 := by omega
      all_goals rfl
    · rw [upd_other _ _ _ e, Nat.add_assoc, setE_out _ _ (by omega) e, ← Nat.add_assoc]; exact h.ro q r hq hr
  · by_cases e : q = p
    · subst e; rw [upd_same]; exact h0
    · rw [upd_other _ _ _ e]; exact h.bn q r hq hr
  · by_cases e : q = p
    · subst e; rw [upd_same]; exact h0
    · rw [upd_other _ _ _ e]; exact h.bo q r hq hr
theorem CellsOf.out {g : Nat → Value} {q : Nat} {i : It} (h : CellsOf g q i) {p : Nat} (f : Nat → Value) (e : q ≠ p) : CellsOf (setE g p f) q i := by
  have h0 := setE_out g (p := p) (q := q) f (j := 0) (by omega) e
  rw [Nat.add_zero] at h0
  exact ⟨h0.trans h.1, (setE_out g f (by omega) e).trans h.2.1, (setE_out g f (by omega) e).trans h.2.2.1, (setE_out g f (by omega) e).trans h.2.2.2⟩
theorem Rings.far {n : Nat} {nw od nw' od' : Nat → Nat → Nat} {M : List PI} (h : Rings n nw od M) {p : Nat} (hp : n + 1 ≤ p) (hm : p ∉ M.map (·.1)) (h1 : ∀ r q, q ≠ p → nw' r q = nw r q) (h2 : ∀ r q, q ≠ p → od' r q = od r q) : Rings n nw' od' M := by
  refine ⟨h.r0.stay (fun q hq => h2 0 q (fun e => ?_)) (fun q hq => h1 0 q (fun e => ?_)), fun c hc => (h.r1 c hc).stay (fun q hq => h2 1 q (fun e => ?_)) (fun q hq => h1 1 q (fun e => ?_))⟩
  all_goals
    subst e
    rcases List.mem_cons.1 hq with h3 | h3
    · omega
  · exact hm h3
  · exact hm h3
  · exact hm ((sub_ofc c M).subset h3)
  · exact hm ((sub_ofc c M).subset h3)
theorem MapOf.drop {a : A} {pre post : List PI} {x : PI} (h : MapOf a (pre ++ x :: post)) (hn : ((pre ++ x :: post).map fun y => y.2.key).Nodup) : MapOf (a.drop x.2.key) (pre ++ post) := by
  have hF : a.F x.2.key = some ((x.1 : Nat) : Int) := (h.ff _ _).2 ⟨x, by simp, rfl, rfl⟩
  have hne : ∀ y ∈ pre ++ post, y.2.key ≠ x.2.key := by
    rw [List.map_append, List.map_cons] at hn
    have h1 := List.nodup_append.1 hn
    have h2 := List.nodup_cons.1 h1.2.1
    intro y hy e
    rcases List.mem_append.1 hy with hy | hy
    · exact h1.2.2 _ (List.mem_map_of_mem (f := fun y : PI => y.2.key) hy) _ List.mem_cons_self e
    · exact h2.1 (by rw [← e]; exact List.mem_map_of_mem (f := fun y : PI => y.2.key) hy)
  refine ⟨fun k v => ?_, ?_⟩
  · rw [A.drop_F]
    by_cases e : k = x.2.key
    · subst e
      rw [setF_same]
      exact ⟨fun h => (by cases h), fun ⟨y, hy, hk, _⟩ => absurd hk (hne y hy)⟩
    · rw [setF_other _ _ _ e, h.ff]
      refine ⟨fun ⟨y, hy, hk, hv⟩ => ⟨y, ?_, hk, hv⟩, fun ⟨y, hy, hk, hv⟩ => ⟨y, ?_, hk, hv⟩⟩
      · simp only [List.mem_append, List.mem_cons] at hy ⊢
        rcases hy with hy | rfl | hy
        · exact .inl hy
        · exact absurd hk.symm e
        · exact .inr hy
      · simp only [List.mem_append, List.mem_cons] at hy ⊢
        rcases hy with hy | hy
        · exact .inl hy
        · exact .inr (.inr hy)
  · rw [A.drop_keys, hF]
    simp only [Option.isSome_some, if_true]
    rw [h.ks, List.length_append, List.length_append, List.length_cons]; omega
theorem Plc.drop {n N : Nat} {pre post : List PI} {x : PI} {sp : List Nat} (h : Plc n N (pre ++ x :: post) sp) : Plc n N (pre ++ post) (sp ++ [x.1]) := by
  have pm : ((pre ++ post).map (·.1) ++ (sp ++ [x.1])).Perm ((pre ++ x :: post).map (·.1) ++ sp) := by
    rw [List.map_append, List.map_append, List.map_cons, ← List.append_assoc]
    refine (List.perm_append_singleton _ _).trans ?_
    rw [← List.cons_append]
    exact List.Perm.append_right _ List.perm_middle.symm
  refine ⟨pm.nodup_iff.2 h.nd, fun p hp => h.bd p (pm.mem_iff.1 hp), ?_⟩
  rw [h.nn, List.length_append, List.length_append, List.length_append, List.length_cons]
  simp; omega
/-- The spare places' list told anew. -/
theorem MemS.set3 {w : World} {o : Nat → Nat × Nat} {X S C G N cap : Nat} {g : Nat → Value} {sv : Value} (h : MemS w o X S C G N cap g sv) (v : Value) : MemS (w.setCell ⟨X, 3, none⟩ v) o X S C G N cap g v := by
  have hc : ∀ j, j ≠ 3 → (w.setCell ⟨X, 3, none⟩ v).cell? ⟨X, j, none⟩ = w.cell? ⟨X, j, none⟩ := fun j hj => World.cell?_setCell_other _ _ _ _ (fun e => hj (by injection e with _ e; exact e.symm))
  exact ⟨h.oX, (hc 0 (by decide)).trans h.c0, (hc 1 (by decide)).trans h.c1, (hc 2 (by decide)).trans h.c2, World.cell?_setCell_same _ _ _ h.c3, fun j => by rw [World.frozen?_setCell]; exact h.fz j, h.en.fr (Fr.set (T := fun t => t = (1, 0)) (a := ⟨X, 3, none⟩) h.oX v) (by decide), h.n0, h.n1⟩
/-- What remove leaves. -/
def RmP (w : World) (o : Nat → Nat × Nat) (X : Nat) (z : Sp) (w' : World) : Prop := ∃ o', IsSt w' o' X z ∧ Fr TS o o' w w'
set_option maxHeartbeats 1000000 in
set_option maxRecDepth 100000 in
theorem remove_any (X : Nat) (z : Sp) (h : Gh) (x : PI) (P : Int) (hP : P = ((x.1 : Nat) : Int)) (hx : x ∈ h.L) (w : World) (o : Nat → Nat × Nat) (I : IsG w o X z h) :
    Calls Tryz.prog 75 #[.pointer (some ⟨X, 0, none⟩), .int .i64 P] w fun e w' => e = .returned (.tuple #[]) ∧ RmP w o X (z.rm x.2) w' := by
  obtain ⟨p, i⟩ := x
  subst hP
  obtain ⟨pre, post, hL⟩ := List.append_of_mem hx
  have hb := I.pl.bdL hx
  obtain ⟨hz, hc⟩ := I.cl hx
  have HI : Hid (IsG w o X z h) := I
  have HX : Hid ((p, i) ∈ h.L ∧ h.L = pre ++ (p, i) :: post ∧ i ∈ z.l ∧ i.c < z.s.n) := ⟨hx, hL, hz, hc⟩
  have n1 := I.mem.n1
  simp only at hb
  have hp : p < h.N := hb.2
  have hp1 : (p : Int) < (h.N : Int) := by omega
  clear I hx hL hz hc
  go_enter Tryz.func75, Tryz.ntmps75
  go_wp2_with fail
  refine (leave_any (nw := h.nw) (od := h.od) p _ rfl hp _ o HI.out.mem HI.out.lk).mono ?_
  rintro e w3 ⟨rfl, g3, M3, K3, P3, F3⟩
  have HK3 : Hid (Links h.N g3 (lvn h.nw h.od p 2) (lvo h.nw h.od p 2) ∧ Keep h.g g3) := ⟨K3, P3⟩
  have HM3 : Hid (MemS w3 o X h.S h.C h.G h.N h.cap g3 h.sv) := M3
  have HF3 : Hid (Fr (fun t => t = (1, 1)) o o w w3) := F3
  obtain ⟨k0, k1, k2, k3⟩ := (HI.out.it _ HX.out.1).keep P3
  have c0 := M3.c0
  have c2 := M3.c2
  have e1 := (M3.at_ (q := p * 8 + 1) (by omega)).1
  have e2 := (M3.at_ (q := p * 8 + 2) (by omega)).1
  simp only at k0 k1 k2 k3
  rw [k1] at e1
  rw [k2] at e2
  have HK0 : Hid (g3 (p * 8) = .string i.key) := k0
  have HS3 : Hid (IsSlab w3 o 2 h.S z.s) := HI.out.slab.fr F3 (fun _ e => by injection e with e; cases e)
  have nX : Hid (o X = (1, 0)) := M3.oX
  have nG : Hid (o h.G = (1, 1)) := M3.oG.1
  clear M3 K3 P3 F3 k0 k1 k2 k3
  go_wp2_with fail
  go_region_held3 (fun w' => w'.cell? ⟨X, 0, none⟩ = some (.pointer (some ⟨h.S, 0, none⟩)) ∧ w'.cell? ⟨X, 2, none⟩ = some (.slice (some ⟨h.G, 0, none⟩) h.N h.cap) ∧ w'.cell? ⟨h.G, p * 8 + 1, none⟩ = some (.int .i64 ((i.c : Nat) : Int)) ∧ w'.cell? ⟨h.G, p * 8 + 2, none⟩ = some (.int .i64 ((i.k : Nat) : Int))) (first | exact ⟨c0, c2, e1, e2⟩ | exact D3)
    ((go_at_call 91; refine (free_any 2 h.S (by decide) z.s i.c i.k w3.drew o (HS3.out.fr (Fr.drew1 (fun _ => False) o w3) (fun _ x => x))).mono ?_; rintro e w4 ⟨rfl, o4, S4, F4⟩; have D3 : w4.cell? ⟨X, 0, none⟩ = some (.pointer (some ⟨h.S, 0, none⟩)) ∧ w4.cell? ⟨X, 2, none⟩ = some (.slice (some ⟨h.G, 0, none⟩) h.N h.cap) ∧ w4.cell? ⟨h.G, p * 8 + 1, none⟩ = some (.int .i64 ((i.c : Nat) : Int)) ∧ w4.cell? ⟨h.G, p * 8 + 2, none⟩ = some (.int .i64 ((i.k : Nat) : Int)) := ⟨F4.cell c0 (by rw [nX.out]; decide), F4.cell c2 (by rw [nX.out]; decide), F4.cell e1 (by rw [nG.out]; decide), F4.cell e2 (by rw [nG.out]; decide)⟩))
  have F34 : Fr (fun t => t.1 = 2) o o4 w3 w4 := (Fr.drew1 _ o w3).trans F4
  have M4 : MemS w4 o4 X h.S h.C h.G h.N h.cap g3 h.sv := HM3.out.fr F34 (by decide) (by decide)
  have HC4 : Hid (IsChain w4 o4 3 h.C h.a) := (HI.out.chn.fr HF3.out (fun _ e => by injection e with e; cases e)).fr F34 (fun _ e => by cases e)
  have HR4 : Hid (OwnK w4 o4 (1, 2) 1 h.sv h.sp.length (frc h.sp)) := (HI.out.spr.fr HF3.out (fun e => by injection e with _ e; cases e)).fr F34 (by decide)
  have HF4 : Hid (Fr TS o o4 w w4) := (HF3.out.mono (fun t e => by rw [e]; exact TS.mk1 1)).trans (F34.mono (fun t e => ⟨by omega, by omega⟩))
  have HS4 : Hid (IsSlab w4 o4 2 h.S (z.s.free i.c i.k)) := S4
  have HM4 : Hid (MemS w4 o4 X h.S h.C h.G h.N h.cap g3 h.sv) := M4
  have b1 := M4.c1
  have b2 := M4.c2
  have b3 := (M4.at_ (q := p * 8) (by omega)).1
  rw [HK0.out] at b3
  have nX4 : Hid (o4 X = (1, 0)) := M4.oX
  have nG4 : Hid (o4 h.G = (1, 1)) := M4.oG.1
  have hkz : i.key.size ≤ 140737488355328 := by have := HI.out.ok.fit i HX.out.2.2.1; rw [ba_size] at this; omega
  have hks : h.a.keys = ((h.L.length : Nat) : Int) := HI.out.mp.ks
  have hfw : h.L.length ≤ 720896 := by have := HI.out.ok.few; rw [← HI.out.ll, List.length_map] at this; exact this
  clear F34 M4 S4 F4 D3 HM3 HS3 c0 c2 e1 e2 nX nG HF3
  go_wp2_with fail
  go_region_held3 (fun w' => w'.cell? ⟨X, 1, none⟩ = some (.pointer (some ⟨h.C, 0, none⟩)) ∧ w'.cell? ⟨X, 2, none⟩ = some (.slice (some ⟨h.G, 0, none⟩) h.N h.cap) ∧ w'.cell? ⟨h.G, p * 8, none⟩ = some (.string i.key)) (first | exact ⟨b1, b2, b3⟩ | exact D5)
    ((go_at_call 92; refine (drop_any 3 h.C h.a i.key hkz (by omega) (by omega) w4.drew o4 (HC4.out.fr (Fr.drew1 (fun _ => False) o4 w4) (fun _ x => x))).mono ?_; rintro e w5 ⟨rfl, o5, C5, F5⟩; have D5 : w5.cell? ⟨X, 1, none⟩ = some (.pointer (some ⟨h.C, 0, none⟩)) ∧ w5.cell? ⟨X, 2, none⟩ = some (.slice (some ⟨h.G, 0, none⟩) h.N h.cap) ∧ w5.cell? ⟨h.G, p * 8, none⟩ = some (.string i.key) := ⟨F5.cell b1 (by rw [nX4.out]; decide), F5.cell b2 (by rw [nX4.out]; decide), F5.cell b3 (by rw [nG4.out]; decide)⟩))
  have F45 : Fr (fun t => t.1 = 3) o4 o5 w4 w5 := (Fr.drew1 _ o4 w4).trans F5
  have M5 : MemS w5 o5 X h.S h.C h.G h.N h.cap g3 h.sv := HM4.out.fr F45 (by decide) (by decide)
  have HS5 : Hid (IsSlab w5 o5 2 h.S (z.s.free i.c i.k)) := HS4.out.fr F45 (fun _ e => by cases e)
  have HC5 : Hid (IsChain w5 o5 3 h.C (h.a.drop i.key)) := C5
  have HR5 : Hid (OwnK w5 o5 (1, 2) 1 h.sv h.sp.length (frc h.sp)) := HR4.out.fr F45 (by decide)
  have HF5 : Hid (Fr TS o o5 w w5) := HF4.out.trans (F45.mono (fun t e => ⟨by omega, by omega⟩))
  have b2 := M5.c2
  have oG5 := M5.oG.1
  clear F45 C5 F5 D5 HM4 HS4 HC4 HR4 HF4 b1 b3 nX4 nG4 hks
  obtain ⟨d0, y0⟩ := M5.at_ (q := p * 8) (by omega)
  have N1 := M5.set (p * 8) (.string ⟨#[]⟩) rfl (by omega)
  obtain ⟨v0, hv0⟩ : ∃ v, v = g3 (p * 8) := ⟨_, rfl⟩
  rw [← hv0] at d0
  obtain ⟨d1, y1⟩ := N1.at_ (q := p * 8 + 1) (by omega)
  have N2 := N1.set (p * 8 + 1) (.int .i64 0) rfl (by omega)
  obtain ⟨v1, hv1⟩ : ∃ v, v = (upd (g3) (p * 8) (.string ⟨#[]⟩)) (p * 8 + 1) := ⟨_, rfl⟩
  rw [← hv1] at d1
  obtain ⟨d2, y2⟩ := N2.at_ (q := p * 8 + 2) (by omega)
  have N3 := N2.set (p * 8 + 2) (.int .i64 0) rfl (by omega)
  obtain ⟨v2, hv2⟩ : ∃ v, v = (upd (upd (g3) (p * 8) (.string ⟨#[]⟩)) (p * 8 + 1) (.int .i64 0)) (p * 8 + 2) := ⟨_, rfl⟩
  rw [← hv2] at d2
  obtain ⟨d3, y3⟩ := N3.at_ (q := p * 8 + 3) (by omega)
  have N4 := N3.set (p * 8 + 3) (.bool false) rfl (by omega)
  obtain ⟨v3, hv3⟩ : ∃ v, v = (upd (upd (upd (g3) (p * 8) (.string ⟨#[]⟩)) (p * 8 + 1) (.int .i64 0)) (p * 8 + 2) (.int .i64 0)) (p * 8 + 3) := ⟨_, rfl⟩
  rw [← hv3] at d3
  obtain ⟨d4, y4⟩ := N4.at_ (q := p * 8 + 4) (by omega)
  have N5 := N4.set (p * 8 + 4) (.int .i64 0) rfl (by omega)
  obtain ⟨v4, hv4⟩ : ∃ v, v = (upd (upd (upd (upd (g3) (p * 8) (.string ⟨#[]⟩)) (p * 8 + 1) (.int .i64 0)) (p * 8 + 2) (.int .i64 0)) (p * 8 + 3) (.bool false)) (p * 8 + 4) := ⟨_, rfl⟩
  rw [← hv4] at d4
  obtain ⟨d5, y5⟩ := N5.at_ (q := p * 8 + 5) (by omega)
  have N6 := N5.set (p * 8 + 5) (.int .i64 0) rfl (by omega)
  obtain ⟨v5, hv5⟩ : ∃ v, v = (upd (upd (upd (upd (upd (g3) (p * 8) (.string ⟨#[]⟩)) (p * 8 + 1) (.int .i64 0)) (p * 8 + 2) (.int .i64 0)) (p * 8 + 3) (.bool false)) (p * 8 + 4) (.int .i64 0)) (p * 8 + 5) := ⟨_, rfl⟩
  rw [← hv5] at d5
  obtain ⟨d6, y6⟩ := N6.at_ (q := p * 8 + 6) (by omega)
  have N7 := N6.set (p * 8 + 6) (.int .i64 0) rfl (by omega)
  obtain ⟨v6, hv6⟩ : ∃ v, v = (upd (upd (upd (upd (upd (upd (g3) (p * 8) (.string ⟨#[]⟩)) (p * 8 + 1) (.int .i64 0)) (p * 8 + 2) (.int .i64 0)) (p * 8 + 3) (.bool false)) (p * 8 + 4) (.int .i64 0)) (p * 8 + 5) (.int .i64 0)) (p * 8 + 6) := ⟨_, rfl⟩
  rw [← hv6] at d6
  obtain ⟨d7, y7⟩ := N7.at_ (q := p * 8 + 7) (by omega)
  have N8 := N7.set (p * 8 + 7) (.int .i64 0) rfl (by omega)
  obtain ⟨v7, hv7⟩ : ∃ v, v = (upd (upd (upd (upd (upd (upd (upd (g3) (p * 8) (.string ⟨#[]⟩)) (p * 8 + 1) (.int .i64 0)) (p * 8 + 2) (.int .i64 0)) (p * 8 + 3) (.bool false)) (p * 8 + 4) (.int .i64 0)) (p * 8 + 5) (.int .i64 0)) (p * 8 + 6) (.int .i64 0)) (p * 8 + 7) := ⟨_, rfl⟩
  rw [← hv7] at d7
  have eG : setE g3 p zeroE = upd (upd (upd (upd (upd (upd (upd (upd (g3) (p * 8) (.string ⟨#[]⟩)) (p * 8 + 1) (.int .i64 0)) (p * 8 + 2) (.int .i64 0)) (p * 8 + 3) (.bool false)) (p * 8 + 4) (.int .i64 0)) (p * 8 + 5) (.int .i64 0)) (p * 8 + 6) (.int .i64 0)) (p * 8 + 7) (.int .i64 0) := setE_upd g3 p zeroE
  have FZ : Fr (fun t => t = (1, 1)) o5 o5 w5 ((((((((w5.setCell ⟨h.G, p * 8, none⟩ (.string ⟨#[]⟩)).setCell ⟨h.G, p * 8 + 1, none⟩ (.int .i64 0)).setCell ⟨h.G, p * 8 + 2, none⟩ (.int .i64 0)).setCell ⟨h.G, p * 8 + 3, none⟩ (.bool false)).setCell ⟨h.G, p * 8 + 4, none⟩ (.int .i64 0)).setCell ⟨h.G, p * 8 + 5, none⟩ (.int .i64 0)).setCell ⟨h.G, p * 8 + 6, none⟩ (.int .i64 0)).setCell ⟨h.G, p * 8 + 7, none⟩ (.int .i64 0)) := ((((((((Fr.refl (fun t => t = (1, 1)) o5 w5).trans (Fr.set (a := ⟨h.G, p * 8, none⟩) oG5 _)).trans (Fr.set (a := ⟨h.G, p * 8 + 1, none⟩) oG5 _)).trans (Fr.set (a := ⟨h.G, p * 8 + 2, none⟩) oG5 _)).trans (Fr.set (a := ⟨h.G, p * 8 + 3, none⟩) oG5 _)).trans (Fr.set (a := ⟨h.G, p * 8 + 4, none⟩) oG5 _)).trans (Fr.set (a := ⟨h.G, p * 8 + 5, none⟩) oG5 _)).trans (Fr.set (a := ⟨h.G, p * 8 + 6, none⟩) oG5 _)).trans (Fr.set (a := ⟨h.G, p * 8 + 7, none⟩) oG5 _)
  obtain ⟨W, hW⟩ : ∃ W, W = ((((((((w5.setCell ⟨h.G, p * 8, none⟩ (.string ⟨#[]⟩)).setCell ⟨h.G, p * 8 + 1, none⟩ (.int .i64 0)).setCell ⟨h.G, p * 8 + 2, none⟩ (.int .i64 0)).setCell ⟨h.G, p * 8 + 3, none⟩ (.bool false)).setCell ⟨h.G, p * 8 + 4, none⟩ (.int .i64 0)).setCell ⟨h.G, p * 8 + 5, none⟩ (.int .i64 0)).setCell ⟨h.G, p * 8 + 6, none⟩ (.int .i64 0)).setCell ⟨h.G, p * 8 + 7, none⟩ (.int .i64 0)) := ⟨_, rfl⟩
  rw [← eG, ← hW] at N8
  rw [← hW] at FZ
  have HN8 : Hid (MemS W o5 X h.S h.C h.G h.N h.cap (setE g3 p zeroE) h.sv) := N8
  have HFZ : Hid (Fr (fun t => t = (1, 1)) o5 o5 w5 W) := FZ
  have HWE : Hid (W = ((((((((w5.setCell ⟨h.G, p * 8, none⟩ (.string ⟨#[]⟩)).setCell ⟨h.G, p * 8 + 1, none⟩ (.int .i64 0)).setCell ⟨h.G, p * 8 + 2, none⟩ (.int .i64 0)).setCell ⟨h.G, p * 8 + 3, none⟩ (.bool false)).setCell ⟨h.G, p * 8 + 4, none⟩ (.int .i64 0)).setCell ⟨h.G, p * 8 + 5, none⟩ (.int .i64 0)).setCell ⟨h.G, p * 8 + 6, none⟩ (.int .i64 0)).setCell ⟨h.G, p * 8 + 7, none⟩ (.int .i64 0))) := hW
  clear N8 hv0 hv1 hv2 hv3 hv4 hv5 hv6 hv7 N1 N2 N3 N4 N5 N6 N7 eG FZ M5 hW oG5
  go_upto_region 4 with fail
  rw [← HWE.out]
  clear d0 y0 d1 y1 d2 y2 d3 y3 d4 y4 d5 y5 d6 y6 d7 y7 HWE b2
  obtain ⟨sa, sc, hsv, hsl⟩ := HR5.out.form
  have OW : OwnK W o5 (1, 2) 1 (.slice sa h.sp.length sc) h.sp.length (frc h.sp) := by rw [← hsv]; exact HR5.out.fr HFZ.out (by decide)
  have hsn : h.sp.length ≤ 1000000 := by have := HI.out.pl.nn; omega
  obtain ⟨v9, w9, o9, hrun, O9, F9⟩ := app_one 22 3 (.int .i64 0) 8 under22 info3 (by kernel_rfl) OW [.int .i64 ((p : Nat) : Int)] rfl (fun x hx => by simp at hx; rw [hx]; rfl) (by omega) (by omega)
  obtain ⟨a9, b9, rfl, _⟩ := O9.form
  have s3 := HN8.out.c3
  rw [hsv] at s3
  have sz3 := HN8.out.fz 3
  have nX5 : ¬ (o5 X = (1, 2)) := by rw [HN8.out.oX]; decide
  have t3 := F9.cell s3 nX5
  have tz3 := (F9.frozen (off := 3) HN8.out.lt nX5).trans sz3
  have HF9 : Hid (Fr (fun t => t = (1, 2)) o5 o9 W w9) := F9
  have HO9 : Hid (OwnK w9 o9 (1, 2) 1 (.slice a9 (h.sp.length + 1) b9) (h.sp.length + 1) (frc (h.sp ++ [p]))) := by show OwnK _ _ _ _ _ _ _; rw [frc_append]; exact O9
  have hsnn : Hid (h.sp.length ≤ 1000000) := hsn
  clear F9 O9 OW hsv nX5 HR5
  go_wp2_with (at_builtin; refine wpList_append_run rfl (.tmp 44) (.tmp 46) 22 22 rfl _ _ _ rfl rfl hrun ?_)
  have oX9 : o9 X = (1, 0) := (HF9.out.lab X HN8.out.lt).trans HN8.out.oX
  have FS : Fr (fun t => t = (1, 0)) o9 o9 w9 (w9.setCell ⟨X, 3, none⟩ (.slice a9 (h.sp.length + 1) b9)) := Fr.set (a := ⟨X, 3, none⟩) oX9 _
  have F59 : Fr (fun t => t.1 = 1) o5 o9 w5 (w9.setCell ⟨X, 3, none⟩ (.slice a9 (h.sp.length + 1) b9)) := ((HFZ.out.mono (fun t e => by rw [e])).trans (HF9.out.mono (fun t e => by rw [e]))).trans (FS.mono (fun t e => by rw [e]))
  have M9 : MemS w9 o9 X h.S h.C h.G h.N h.cap (setE g3 p zeroE) h.sv := HN8.out.fr HF9.out (by decide) (by decide)
  have hpl := HI.out.pl
  have hmp := HI.out.mp
  have hrg := HI.out.rg
  have hit := HI.out.it
  have hll := HI.out.ll
  have hbut := HI.out.ndL HX.out.2.1
  have ndk := HI.out.ok.ndk
  rw [← hll, List.map_map] at ndk
  rw [HX.out.2.1] at hpl hmp hrg hit ndk
  have nd := hpl.ndL
  have bd : ∀ y ∈ pre ++ (p, i) :: post, z.s.n + 1 ≤ y.1 := fun y hy => (hpl.bdL hy).1
  have hnp : p ∉ (pre ++ post).map (·.1) := by
    rw [List.map_append, List.map_cons] at nd
    have q1 := List.nodup_append.1 nd
    have q2 := List.nodup_cons.1 q1.2.1
    rw [List.map_append]
    intro hm
    rcases List.mem_append.1 hm with hm | hm
    · exact q1.2.2 p hm p List.mem_cons_self rfl
    · exact q2.1 hm
  have hn9 : (z.s.free i.c i.k).n = z.s.n := (z.s.free_same _ _).1
  refine bodyPost_end (v := .tuple #[]) (by simp [results, Tryz.results75, go_sem]) rfl ⟨rfl, o9, ⟨{ h with g := setE g3 p zeroE, sv := .slice a9 (h.sp.length + 1) b9, sp := h.sp ++ [p], a := h.a.drop i.key, nw := fun r => upd (lvn h.nw h.od p 2 r) p 0, od := fun r => upd (lvo h.nw h.od p 2 r) p 0, L := pre ++ post }, ?_⟩, HF5.out.trans (F59.mono (fun t e => ⟨by omega, by omega⟩))⟩
  refine ⟨M9.set3 _, ?_, HS5.out.fr F59 (fun _ e => by cases e), HC5.out.fr F59 (fun _ e => by cases e), HK3.out.1.zero HN8.out.n0 p, fun y hy => ?_, ?_, ?_, hmp.drop ndk, hbut.symm, HI.out.ok.rm HX.out.2.2.1⟩
  · show OwnK _ _ _ _ _ (h.sp ++ [p]).length _
    rw [List.length_append]
    exact HO9.out.fr FS (by decide)
  · have hy' : y ∈ pre ++ (p, i) :: post := by
      simp only [List.mem_append, List.mem_cons] at hy ⊢
      rcases hy with hy | hy
      · exact .inl hy
      · exact .inr (.inr hy)
    exact ((hit y hy').keep HK3.out.2).out zeroE (fun e => hnp (by rw [← e]; exact List.mem_map_of_mem hy))
  · show Rings (z.s.free i.c i.k).n _ _ _
    rw [hn9]
    exact (hrg.leave nd bd HX.out.2.2.2).far hb.1 hnp (fun r q e => upd_other _ _ _ e) (fun r q e => upd_other _ _ _ e)
  · show Plc (z.s.free i.c i.k).n _ _ _
    rw [hn9]
    exact hpl.drop
set_option maxHeartbeats 1000000 in
set_option maxRecDepth 100000 in
theorem sdrop_any (X : Nat) (z : Sp) (key : ByteArray) (hk : key.size ≤ 140737488355328) (w : World) (o : Nat → Nat × Nat) (I : IsSt w o X z) :
    Calls Tryz.prog 53 #[.pointer (some ⟨X, 0, none⟩), .string key] w fun e w' => e = .returned (.bool (fnd z.l key).isSome) ∧ RmP w o X (z.drop key) w' := by
  obtain ⟨h, I⟩ := I
  have c1 := I.mem.c1
  have HI : Hid (IsG w o X z h) := I
  clear I
  go_enter Tryz.func53, Tryz.ntmps53
  go_wp2_with fail
  refine (get_any 3 h.C h.a key hk _ o HI.out.chn).mono ?_
  rintro e w2 ⟨rfl, B2⟩
  have I2 : Hid (IsG w2 o X z h) := HI.out.below B2
  have HB : Hid (Fr TS o o w w2) := Fr.ofBelow _ o B2
  clear B2
  cases hf : fnd z.l key with
  | none =>
    have HT : Hid (z.drop key = z) := by show _ = _; unfold Sp.drop; rw [hf]
    rw [HI.out.place.2 hf]
    have HN : Hid (fnd z.l key = none) := hf
    clear hf
    go_wp2_with fail
    go_ret
    exact ⟨by rw [HN.out]; rfl, o, by rw [HT.out]; exact ⟨h, I2.out⟩, HB.out⟩
  | some i =>
    obtain ⟨x, hx, hxi, hF⟩ := HI.out.place.1 i hf
    have HT : Hid (z.drop key = z.rm x.2) := by show _ = _; unfold Sp.drop; rw [hf, hxi]
    rw [hF]
    have HX : Hid (x ∈ h.L) := hx
    have HN : Hid (fnd z.l key = some i) := hf
    clear hf hx hxi hF
    go_wp2_with fail
    refine (remove_any X z h x _ rfl HX.out _ o I2.out).mono ?_
    rintro e w3 ⟨rfl, o3, I3, F3⟩
    have I3' : Hid (RmP w o X (z.drop key) w3) := ⟨o3, by rw [HT.out]; exact I3, HB.out.trans F3⟩
    clear I3 F3
    go_wp2_with fail
    go_ret
    exact ⟨by rw [HN.out]; rfl, I3'.out⟩
end Go.Proofs.YtfinaichajbnkaaGreatDoor


namespace Go.Proofs.YtfinaichajbnkaaGreatDoor
open Go.RowKit

def pinL (L : List PI) (key : ByteArray) (b : Bool) : List PI := L.map fun x => (x.1, x.2.pinned key b)
theorem pinL_pl (L : List PI) (key : ByteArray) (b : Bool) : (pinL L key b).map (·.1) = L.map (·.1) := by unfold pinL; rw [List.map_map]; rfl
theorem pinL_it (L : List PI) (key : ByteArray) (b : Bool) : (pinL L key b).map (·.2) = (L.map (·.2)).map fun i => i.pinned key b := by unfold pinL; rw [List.map_map, List.map_map]; rfl
theorem pinL_ofc (L : List PI) (key : ByteArray) (b : Bool) (c : Nat) : ofc c (pinL L key b) = pinL (ofc c L) key b := by
  unfold ofc pinL
  rw [List.filter_map]
  congr 1
  apply List.filter_congr
  intro x _
  simp [It.pinned_c]
theorem Rings.pin {n : Nat} {nw od : Nat → Nat → Nat} {L : List PI} (h : Rings n nw od L) (key : ByteArray) (b : Bool) : Rings n nw od (pinL L key b) :=
  ⟨by rw [pinL_pl]; exact h.r0, fun c hc => by rw [pinL_ofc, pinL_pl]; exact h.r1 c hc⟩
theorem pin_none {l : List It} {key : ByteArray} (b : Bool) (h : ∀ i ∈ l, i.key ≠ key) : (l.map fun i => i.pinned key b) = l := by
  refine (List.map_congr_left (g := id) fun i hi => ?_).trans (List.map_id l)
  unfold It.pinned; rw [if_neg (h i hi)]; rfl
/-- The place of the one that goes, or none. -/
def vicP (L : List PI) (c : Nat) : Option PI := ((ofc c L).filter fun x => !x.2.pin).getLast?
def vicN : Option PI → Int
  | none => -1
  | some x => ((x.1 : Nat) : Int)
/-- How many are behind a place in a row of places. -/
def upto (l : List Nat) (n : Nat) : Nat := if n ∈ l then l.idxOf n + 1 else 0
theorem idxOf_mid : ∀ {pre post : List Nat} {a : Nat}, a ∉ pre → (pre ++ a :: post).idxOf a = pre.length
  | [], _, a, _ => by simp
  | b :: pre, post, a, h => by
    have hb : b ≠ a := fun e => h (by simp [e])
    rw [List.cons_append, List.idxOf_cons, beq_eq_false_iff_ne.2 hb, idxOf_mid (fun hm => h (List.mem_cons_of_mem _ hm)), List.length_cons]; rfl
set_option maxHeartbeats 1000000 in
set_option maxRecDepth 100000 in
theorem oldest_any (X : Nat) (z : Sp) (h : Gh) (c : Nat) (K : Int) (hK : K = (c : Int)) (hc : c < z.s.n) (w : World) (o : Nat → Nat × Nat) (I : IsG w o X z h) :
    Calls Tryz.prog 85 #[.pointer (some ⟨X, 0, none⟩), .int .i64 K] w fun e w' => e = .returned (.int .i64 (vicN (vicP h.L c))) ∧ w = w' := by
  subst hK
  have HI : Hid (IsG w o X z h) := I
  have hn2 := I.ok.ok.n2
  have n1 := I.mem.n1
  have nn := I.pl.nn
  clear I
  have hring := HI.out.rg.r1 c hc
  obtain ⟨l, hl⟩ : ∃ l, l = ofc c h.L := ⟨_, rfl⟩
  have HL : Hid (l = ofc c h.L) := hl
  have HRG : Hid (Ring (h.nw 1) (h.od 1) (c + 1) (l.map (·.1))) := by rw [hl]; exact hring
  have HBD : Hid (∀ x ∈ l, z.s.n + 1 ≤ x.1 ∧ x.1 < h.N) := fun x hx => HI.out.pl.bdL (mem_ofc.1 (by rw [← hl]; exact hx)).1
  have HND : Hid ((l.map (·.1)).Nodup) := by rw [hl]; exact HI.out.pl.ndL.sublist (sub_ofc _ _)
  have HIT : Hid (∀ x ∈ l, CellsOf h.g x.1 x.2) := fun x hx => HI.out.it x (mem_ofc.1 (by rw [← hl]; exact hx)).1
  have HV : Hid (vicP h.L c = (l.filter fun x => !x.2.pin).getLast?) := by rw [hl]; rfl
  clear hl hring
  obtain ⟨E, hE⟩ : ∃ E : Int, E = (c : Int) + 1 := ⟨_, rfl⟩
  go_enter Tryz.func85, Tryz.ntmps85
  go_wp2_with fail
  go_step3
  go_wp2_with fail
  refine (endOf_any (c : Int) (by omega) (by omega) _).mono ?_
  rintro e w2 ⟨rfl, rfl⟩
  rw [← hE]
  have HEE : Hid (E = (c : Int) + 1) := hE
  clear hE
  go_wp2_with fail
  go_step3
  go_wp2_with fail
  refine (newer_any (nw := h.nw) (od := h.od) 1 (c + 1) 1 E rfl HEE.out (by omega) (by omega) _ o HI.out.mem HI.out.lk).mono ?_
  rintro e w2 ⟨rfl, rfl⟩
  have hlast : h.nw 1 (c + 1) = (l.map (·.1)).getLastD (c + 1) := HRG.out.last
  have HLA : Hid (h.nw 1 (c + 1) = (l.map (·.1)).getLastD (c + 1)) := hlast
  clear hlast
  go_wp2_with fail
  go_loopw [5, 7] (fun f y wr => ∃ (pre post : List PI) (q : Nat), f = .int .i64 (-1) ∧ y = .int .i64 (q : Int) ∧ Hid (l = pre ++ post) ∧ Hid (∀ x ∈ post, x.2.pin = true) ∧ Hid (q = (pre.map (·.1)).getLastD (c + 1)) ∧ w = wr) (fun _ y _ => upto (l.map (·.1)) (intOf y).toNat)
  case atStart => exact ⟨l, [], _, rfl, rfl, by show l = l ++ []; simp, (fun x hx => by cases hx), HLA, rfl⟩
  case round =>
    clear HLA
    obtain ⟨pre, post, q, rfl, rfl, HLP, HPP, HQ, rfl⟩ := hrel
    rcases List.eq_nil_or_concat pre with rfl | ⟨pre', x, rfl⟩
    · have hq : q = c + 1 := HQ.out
      have hqe : ((q : Int) != E) = false := by have := HEE.out; simp; omega
      have HQE : Hid (q = c + 1) := hq
      clear hq
      have HE : Hid (vicP h.L c = none) := by
        show _ = _
        rw [HV.out, HLP.out, List.nil_append, List.filter_eq_nil_iff.2 (fun x hx => by rw [HPP.out x hx]; simp)]; rfl
      go_wp2_with fail
      simp only [Exit.noGoto_ret]
      go_ret
      exact ⟨by rw [HE.out]; rfl, rfl⟩
    · simp only [List.concat_eq_append] at HLP HQ
      have hlx : l = pre' ++ x :: post := by rw [HLP.out, List.append_assoc]; rfl
      have HLX : Hid (l = pre' ++ x :: post) := hlx
      have hxl : x ∈ l := by rw [hlx]; simp
      have hqx : q = x.1 := by rw [HQ.out]; simp
      have hbd := HBD.out x hxl
      have hqe : ((q : Int) != E) = true := by have := HEE.out; simp; omega
      have c2 := HI.out.mem.c2
      have d3 := (HI.out.mem.at_ (q := q * 8 + 3) (by omega)).1
      have hq1 : (q : Int) < (h.N : Int) := by omega
      have hqN : q < h.N := by omega
      have hcl := (HIT.out x hxl).2.2.2
      rw [← hqx] at hcl
      rw [hcl] at d3
      have HQX : Hid (q = x.1) := hqx
      have hmem : Hid (upto (l.map (·.1)) q = pre'.length + 1) := by
        show _ = _
        have nd := HND.out
        rw [hlx, List.map_append, List.map_cons] at nd
        have q1 := List.nodup_append.1 nd
        unfold upto
        rw [hlx, List.map_append, List.map_cons, hqx, if_pos (by simp), idxOf_mid (fun hm => q1.2.2 _ hm _ List.mem_cons_self rfl), List.length_map]
      clear hlx hcl hqx hbd
      by_cases hpin : x.2.pin = true
      · rw [hpin] at d3
        have hprev : Hid (h.nw 1 q = (pre'.map (·.1)).getLastD (c + 1)) := by
          have r := HRG.out
          rw [HLX.out, List.map_append, List.map_cons] at r
          rw [HQX.out]; exact r.prev
        go_wp2_with fail
        refine (newer_any (nw := h.nw) (od := h.od) 1 q 1 _ rfl rfl (by omega) hqN _ o HI.out.mem HI.out.lk).mono ?_
        rintro e w2 ⟨rfl, rfl⟩
        obtain ⟨q', hq'⟩ : ∃ q', q' = h.nw 1 q := ⟨_, rfl⟩
        have HQ' : Hid (q' = (pre'.map (·.1)).getLastD (c + 1)) := by rw [hq']; exact hprev.out
        rw [← hq']
        clear hq'
        go_wp2_with fail
        refine ⟨⟨pre', x :: post, q', rfl, rfl, HLX, fun y hy => ?_, HQ', trivial⟩, ?_⟩
        · rcases List.mem_cons.1 hy with rfl | hy
          · exact hpin
          · exact HPP.out y hy
        · show upto (l.map (·.1)) (intOf (.int .i64 (q' : Int))).toNat < upto (l.map (·.1)) (intOf (.int .i64 (q : Int))).toNat
          simp only [intOf, Int.toNat_natCast]
          rw [hmem.out]
          rcases List.eq_nil_or_concat pre' with rfl | ⟨p2, x2, rfl⟩
          · have : q' = c + 1 := HQ'.out
            unfold upto
            rw [if_neg (fun hm => ?_)]
            · omega
            · obtain ⟨y, hy, ey⟩ := List.mem_map.1 hm
              have := HBD.out y hy
              omega
          · simp only [List.concat_eq_append] at HLX HQ' ⊢
            have hq2 : q' = x2.1 := by rw [HQ'.out]; simp
            have nd := HND.out
            have e3 : l.map (·.1) = p2.map (·.1) ++ x2.1 :: (x :: post).map (·.1) := by rw [HLX.out]; simp
            rw [e3] at nd ⊢
            have q1 := List.nodup_append.1 nd
            unfold upto
            rw [hq2, if_pos (by simp), idxOf_mid (fun hm => q1.2.2 _ hm _ List.mem_cons_self rfl), List.length_map]
            simp
      · have hpf : x.2.pin = false := by simpa using hpin
        rw [hpf] at d3
        have HE : Hid (vicP h.L c = some x) := by
          show _ = _
          rw [HV.out, HLX.out, List.filter_append, List.filter_cons_of_pos (by rw [hpf]; rfl), show (post.filter fun x => !x.2.pin) = [] from List.filter_eq_nil_iff.2 (fun y hy => by rw [HPP.out y hy]; simp)]
          simp
        clear hpf hpin
        go_wp2_with fail
        simp only [Exit.noGoto_ret]
        go_ret
        exact ⟨by rw [HE.out, HQX.out]; rfl, rfl⟩
end Go.Proofs.YtfinaichajbnkaaGreatDoor
