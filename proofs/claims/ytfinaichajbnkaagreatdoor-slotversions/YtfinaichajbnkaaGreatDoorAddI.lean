/-
  ADD of a store.
-/
import Derived.Test.YtfinaichajbnkaaGreatDoorRoom
import Derived.Deep.RegionLaw
namespace Go.Proofs.YtfinaichajbnkaaGreatDoor
open Go.RowKit

/-- A new entry's cells. -/
def entE (i : It) : Nat → Value
  | 0 => .string i.key
  | 1 => .int .i64 ((i.c : Nat) : Int)
  | 2 => .int .i64 ((i.k : Nat) : Int)
  | 3 => .bool i.pin
  | _ => .int .i64 0
theorem CellsOf.new (g : Nat → Value) (p : Nat) (i : It) : CellsOf (setE g p (entE i)) p i := by
  have h0 := setE_in g p (entE i) (j := 0) (by omega)
  rw [Nat.add_zero] at h0
  exact ⟨h0, setE_in g p (entE i) (by omega), setE_in g p (entE i) (by omega), setE_in g p (entE i) (by omega)⟩
theorem Links.put {N N' : Nat} {g : Nat → Value} {nw od : Nat → Nat → Nat} (h : Links N g nw od) (p : Nat) (i : It) (hN : N ≤ N') (hp : ∀ q, q < N' → q ≠ p → q < N) : Links N' (setE g p (entE i)) (fun r => upd (nw r) p 0) (fun r => upd (od r) p 0) := by
  refine ⟨fun q r hq hr => ?_, fun q r hq hr => ?_, fun q r hq hr => ?_, fun q r hq hr => ?_⟩
  · by_cases e : q = p
    · subst e
      rw [upd_same, Nat.add_assoc, setE_in _ _ _ (by omega)]
      obtain rfl | rfl : r = 0 ∨ r = 1 := by omega
      all_goals rfl
    · rw [upd_other _ _ _ e, Nat.add_assoc, setE_out _ _ (by omega) e, ← Nat.add_assoc]; exact h.rn q r (hp q hq e) hr
  · by_cases e : q = p
    · subst e
      rw [upd_same, Nat.add_assoc, setE_in _ _ _ (by omega)]
      obtain rfl | rfl : r = 0 ∨ r = 1 := by omega
      all_goals rfl
    · rw [upd_other _ _ _ e, Nat.add_assoc, setE_out _ _ (by omega) e, ← Nat.add_assoc]; exact h.ro q r (hp q hq e) hr
  · by_cases e : q = p
    · subst e; rw [upd_same]; omega
    · rw [upd_other _ _ _ e]; have := h.bn q r (hp q hq e) hr; omega
  · by_cases e : q = p
    · subst e; rw [upd_same]; omega
    · rw [upd_other _ _ _ e]; have := h.bo q r (hp q hq e) hr; omega
theorem tabg_more (g : Nat → Value) (N : Nat) (i : It) : tabg (setE g N (entE i)) ((N + 1) * 8) = tabg g (N * 8) ++ [.string i.key, .int .i64 ((i.c : Nat) : Int), .int .i64 ((i.k : Nat) : Int), .bool i.pin, .int .i64 0, .int .i64 0, .int .i64 0, .int .i64 0] := by
  apply List.ext_getElem?
  intro q
  by_cases h1 : q < N * 8
  · rw [tabg_at _ (by omega), List.getElem?_append_left (by rw [tabg_length]; exact h1), tabg_at _ h1]
    unfold setE; rw [if_neg (by omega)]
  · by_cases h2 : q < (N + 1) * 8
    · rw [tabg_at _ h2, List.getElem?_append_right (by rw [tabg_length]; omega), tabg_length]
      obtain ⟨j, hj, rfl⟩ : ∃ j, j < 8 ∧ q = N * 8 + j := ⟨q - N * 8, by omega, by omega⟩
      rw [setE_in _ _ _ hj, show N * 8 + j - N * 8 = j by omega]
      obtain rfl | rfl | rfl | rfl | rfl | rfl | rfl | rfl : j = 0 ∨ j = 1 ∨ j = 2 ∨ j = 3 ∨ j = 4 ∨ j = 5 ∨ j = 6 ∨ j = 7 := by omega
      all_goals rfl
    · rw [List.getElem?_eq_none (by rw [tabg_length]; omega), List.getElem?_eq_none (by rw [List.length_append, tabg_length]; simp; omega)]
theorem under52 : Tryz.prog.underlying 52 = some (.slice 61) := by kernel_rfl
theorem info61 : (Tryz.prog.info? 61).map (fun i => (i.zero, i.size, i.bytes)) = some (some (.agg #[.string ⟨#[]⟩, .int .i64 0, .int .i64 0, .bool false, .int .i64 0, .int .i64 0, .int .i64 0, .int .i64 0]), 8, 72) := by kernel_rfl
theorem MapOf.put {a : A} {L : List PI} (h : MapOf a L) (x : PI) (hn : ∀ y ∈ L, y.2.key ≠ x.2.key) : MapOf (a.put x.2.key ((x.1 : Nat) : Int)) (x :: L) := by
  have hF : a.F x.2.key = none := by
    cases e : a.F x.2.key with
    | none => rfl
    | some v => obtain ⟨y, hy, hk, _⟩ := (h.ff _ _).1 e; exact absurd hk (hn y hy)
  refine ⟨fun k v => ?_, ?_⟩
  · rw [A.put_F]
    by_cases e : k = x.2.key
    · subst e
      rw [setF_same]
      refine ⟨fun h => ⟨x, List.mem_cons_self, rfl, by injection h with h; exact h.symm⟩, fun ⟨y, hy, hk, hv⟩ => ?_⟩
      rcases List.mem_cons.1 hy with rfl | hy
      · rw [hv]
      · exact absurd hk (hn y hy)
    · rw [setF_other _ _ _ e, h.ff]
      refine ⟨fun ⟨y, hy, hk, hv⟩ => ⟨y, List.mem_cons_of_mem _ hy, hk, hv⟩, fun ⟨y, hy, hk, hv⟩ => ⟨y, ?_, hk, hv⟩⟩
      rcases List.mem_cons.1 hy with rfl | hy
      · exact absurd hk.symm e
      · exact hy
  · rw [A.put_keys, hF]
    simp only [Option.isSome_none, Bool.false_eq_true, if_false]
    rw [h.ks, List.length_cons]; omega
/-- Half way: the entry stands at its place. -/
structure Half (w : World) (o : Nat → Nat × Nat) (X : Nat) (z : Sp) (s : St) (h : Gh) (i : It) (B : Nat) (W : World) (oW : Nat → Nat × Nat) (q G N cap : Nat) (sv : Value) (sp : List Nat) : Prop where
  mem : MemS W oW X h.S h.C G N cap (setE h.g q (entE i)) sv
  spr : OwnK W oW (1, 2) 1 sv sp.length (frc sp)
  slab : IsSlab W oW 2 h.S s
  chn : IsChain W oW 3 h.C h.a
  lk : Links N (setE h.g q (entE i)) (fun r => upd (h.nw r) q 0) (fun r => upd (h.od r) q 0)
  pl : Plc z.s.n N ((q, i) :: h.L) sp
  fr : Fr TS o oW w W
  bc : W.cell? ⟨B, 0, none⟩ = some (.string i.key)
  ob : oW B = (0, 0)
/-- And whole. -/
theorem Half.whole {w : World} {o : Nat → Nat × Nat} {X : Nat} {z : Sp} {s : St} {h : Gh} {i : It} {B : Nat} {W : World} {oW : Nat → Nat × Nat} {q G N cap : Nat} {sv : Value} {sp : List Nat} (H : Half w o X z s h i B W oW q G N cap sv sp)
    (hit : ∀ x ∈ h.L, CellsOf h.g x.1 x.2) (hrg : Rings z.s.n h.nw h.od h.L) (hmp : MapOf h.a h.L) (hll : h.L.map (·.2) = z.l) (hc : i.c < z.s.n) (hsn : s.n = z.s.n) (hn : ∀ j ∈ z.l, j.key ≠ i.key) (hok : OkSp ⟨s, i :: z.l⟩)
    {w1 w2 : World} {o1 : Nat → Nat × Nat} (C1 : IsChain w1 o1 3 h.C (h.a.put i.key ((q : Nat) : Int))) (F1 : Fr (fun t => t.1 = 3) oW o1 W w1)
    (P2 : LeadP w1 o1 X h.S h.C G N cap (setE h.g q (entE i)) sv (fun r => upd (h.nw r) q 0) (fun r => upd (h.od r) q 0) i.c q w2) : RmP w o X ⟨s, i :: z.l⟩ w2 := by
  obtain ⟨g2, M2, K2, P2, F2⟩ := P2
  have nd := H.pl.ndL
  have nd' := List.nodup_cons.1 (by rw [List.map_cons] at nd; exact nd)
  have hb := H.pl.bdL (x := (q, i)) List.mem_cons_self
  refine ⟨o1, ⟨⟨h.S, h.C, G, N, cap, g2, sv, sp, h.a.put i.key ((q : Nat) : Int), ldn (fun r => upd (h.nw r) q 0) (fun r => upd (h.od r) q 0) i.c q 2, ldo (fun r => upd (h.nw r) q 0) (fun r => upd (h.od r) q 0) i.c q 2, (q, i) :: h.L⟩, ?_⟩, (H.fr.trans (F1.mono (fun t e => ⟨by omega, by omega⟩))).trans (F2.mono (fun t e => by rw [e]; exact TS.mk1 1))⟩
  refine ⟨M2, (H.spr.fr F1 (by decide)).fr F2 (by decide), (H.slab.fr F1 (fun _ e => by cases e)).fr F2 (fun _ e => by cases e), C1.fr F2 (fun _ e => by cases e), K2, fun x hx => ?_, ?_, by show Plc s.n _ _ _; rw [hsn]; exact H.pl, hmp.put (q, i) (fun y hy => hn y.2 (by rw [← hll]; exact List.mem_map_of_mem hy)), by show i :: h.L.map (·.2) = i :: z.l; rw [hll], hok⟩
  · rcases List.mem_cons.1 hx with rfl | hx
    · exact (CellsOf.new h.g q i).keep P2
    · exact ((hit x hx).out (entE i) (fun e => nd'.1 (by show q ∈ _; rw [← e]; exact List.mem_map_of_mem hx))).keep P2
  · show Rings s.n _ _ _
    rw [hsn]
    exact (hrg.far (p := q) hb.1 nd'.1 (fun r p e => upd_other _ _ _ e) (fun r p e => upd_other _ _ _ e)).lead (x := (q, i)) nd (fun y hy => (H.pl.bdL hy).1) hc
set_option maxRecDepth 100000 in
set_option maxHeartbeats 2000000 in
theorem sadd_any (X : Nat) (z : Sp) (s : St) (h : Gh) (i : It) (hs : Took z.s s i.c i.k (i.key ++ i.d)) (hsz : (i.key ++ i.d).size ≤ 65536) (hn : ∀ j ∈ z.l, j.key ≠ i.key) (hok : OkSp ⟨s, i :: z.l⟩) (w : World) (o : Nat → Nat × Nat) (I : IsA w o X z s h) :
    Calls Tryz.prog 68 #[.pointer (some ⟨X, 0, none⟩), .agg #[.string i.key, .int .i64 ((i.c : Nat) : Int), .int .i64 ((i.k : Nat) : Int), .bool i.pin, .int .i64 0, .int .i64 0, .int .i64 0, .int .i64 0]] w fun e w' => e = .returned (.tuple #[]) ∧ RmP w o X ⟨s, i :: z.l⟩ w' := by
  obtain ⟨B, hB⟩ : ∃ B, B = w.heap.size := ⟨_, rfl⟩
  obtain ⟨w0, hw0⟩ : ∃ w0, w0 = w.alloc (.cells #[.string i.key, .int .i64 ((i.c : Nat) : Int), .int .i64 ((i.k : Nat) : Int), .bool i.pin, .int .i64 0, .int .i64 0, .int .i64 0, .int .i64 0] 61) := ⟨_, rfl⟩
  have F0 : Hid (Fr TS o (lab o B (0, 0)) w w0) := by rw [hw0, hB]; exact Fr.new _ o w _ _
  have I0 : Hid (IsA w0 (lab o B (0, 0)) X z s h) := I.fr (T := fun _ => False) (by rw [hw0, hB]; exact Fr.new _ o w _ _) (fun _ _ x => x)
  obtain ⟨o0, ho0⟩ : ∃ o0, o0 = lab o B (0, 0) := ⟨_, rfl⟩
  have oB : Hid (o0 B = (0, 0)) := by rw [ho0]; exact lab_same _ _ _
  rw [← ho0] at F0 I0
  have q0 : w0.cell? ⟨B, 0, none⟩ = some (.string i.key) := by rw [hw0, hB, World.cell?_alloc_new]; rfl
  have q1 : w0.cell? ⟨B, 1, none⟩ = some (.int .i64 ((i.c : Nat) : Int)) := by rw [hw0, hB, World.cell?_alloc_new]; rfl
  have q2 : w0.cell? ⟨B, 2, none⟩ = some (.int .i64 ((i.k : Nat) : Int)) := by rw [hw0, hB, World.cell?_alloc_new]; rfl
  have q3 : w0.cell? ⟨B, 3, none⟩ = some (.bool i.pin) := by rw [hw0, hB, World.cell?_alloc_new]; rfl
  have q4 : w0.cell? ⟨B, 4, none⟩ = some (.int .i64 0) := by rw [hw0, hB, World.cell?_alloc_new]; rfl
  have q5 : w0.cell? ⟨B, 5, none⟩ = some (.int .i64 0) := by rw [hw0, hB, World.cell?_alloc_new]; rfl
  have q6 : w0.cell? ⟨B, 6, none⟩ = some (.int .i64 0) := by rw [hw0, hB, World.cell?_alloc_new]; rfl
  have q7 : w0.cell? ⟨B, 7, none⟩ = some (.int .i64 0) := by rw [hw0, hB, World.cell?_alloc_new]; rfl
  have c2 := I0.out.mem.c2
  have c3 := I0.out.mem.c3
  have z3 := I0.out.mem.fz 3
  obtain ⟨sa, sc, hsv, hsl⟩ := I0.out.spr.form
  rw [hsv] at c3
  have n1 := I0.out.mem.n1
  have nn := I0.out.pl.nn
  have hL : h.L.length ≤ 720896 := by have := I0.out.ok.few; rw [← I0.out.ll, List.length_map] at this; exact this
  have hn2 := I0.out.ok.ok.n2
  have HSV : Hid (h.sv = .slice sa h.sp.length sc) := hsv
  have HFN : Hid (Took z.s s i.c i.k (i.key ++ i.d) ∧ (∀ j ∈ z.l, j.key ≠ i.key) ∧ OkSp ⟨s, i :: z.l⟩) := ⟨hs, hn, hok⟩
  have HNN : Hid (h.N = z.s.n + 1 + (h.L.length + h.sp.length)) := nn
  clear I hs hn hok hsv ho0 nn
  by_cases hsp : h.sp = []
  · rw [hsp] at c3
    go_enter Tryz.func68, Tryz.ntmps68
    go_upto_region 1 with fail
    rw [← hw0, ← hB]
    have HB : Hid (B = w.heap.size) := hB
    clear hw0 hB
    go_upto_region 7 with fail
    have hN7 : h.N ≤ 720908 := by have := HNN.out; rw [hsp] at this; simp at this; omega
    have OE := I0.out.mem.en.fr (Fr.drew1 (fun _ => False) o0 w0) (fun x => x)
    obtain ⟨v3, w3, o3, hrun, O3, F3⟩ := app_one 52 61 (.agg #[.string ⟨#[]⟩, .int .i64 0, .int .i64 0, .bool false, .int .i64 0, .int .i64 0, .int .i64 0, .int .i64 0]) 72 under52 info61 (by kernel_rfl) OE [.string i.key, .int .i64 ((i.c : Nat) : Int), .int .i64 ((i.k : Nat) : Int), .bool i.pin, .int .i64 0, .int .i64 0, .int .i64 0, .int .i64 0] rfl (fun x hx => by simp at hx; rcases hx with rfl | rfl | rfl | rfl | rfl <;> rfl) (by omega) (by omega)
    obtain ⟨g3, b3, e3, _⟩ := O3.there (by omega)
    subst e3
    have F3' : Fr (fun t => t = (1, 1)) o0 o3 w0 w3 := (Fr.drew1 _ o0 w0).trans F3
    have nX0 : ¬ (o0 X = (1, 1)) := by rw [I0.out.mem.oX]; decide
    have t2 := F3'.cell c2 nX0
    have tz2 := (F3'.frozen (off := 2) I0.out.mem.lt nX0).trans (I0.out.mem.fz 2)
    have VN : Below w0.heap.size w0 (w0.alloc (.cells #[.string i.key, .int .i64 ((i.c : Nat) : Int), .int .i64 ((i.k : Nat) : Int), .bool i.pin, .int .i64 0, .int .i64 0, .int .i64 0, .int .i64 0] 61)) := (Below.refl _ _).alloc (Nat.le_refl _) _
    have AD2 := cell_up VN c2
    have hks : h.a.keys = ((h.L.length : Nat) : Int) := I0.out.mp.ks
    have hkz : i.key.size ≤ 140737488355328 := by rw [ba_size] at hsz; omega
    obtain ⟨W, hW⟩ : ∃ W, W = w3.setCell ⟨X, 2, none⟩ (.slice (some ⟨g3, 0, none⟩) (h.N + 1) b3) := ⟨_, rfl⟩
    obtain ⟨oW, hoW⟩ : ∃ oW, oW = o3 := ⟨_, rfl⟩
    obtain ⟨q, hq⟩ : ∃ q, q = h.N := ⟨_, rfl⟩
    obtain ⟨GG, hGG⟩ : ∃ x, x = g3 := ⟨_, rfl⟩
    obtain ⟨NN, hNN⟩ : ∃ x, x = h.N + 1 := ⟨_, rfl⟩
    obtain ⟨cc, hcc⟩ : ∃ x, x = b3 := ⟨_, rfl⟩
    obtain ⟨vv, hvv⟩ : ∃ x, x = h.sv := ⟨_, rfl⟩
    have HH : Hid (Half w o X z s h i B W oW q GG NN cc vv h.sp) := by
      rw [hoW, hq, hGG, hNN, hcc, hvv]
      have oX3 : o3 X = (1, 0) := (F3'.lab X I0.out.mem.lt).trans I0.out.mem.oX
      have FS : Fr (fun t => t = (1, 0)) o3 o3 w3 W := by rw [hW]; exact Fr.set (a := ⟨X, 2, none⟩) oX3 _
      have FW : Fr (fun t => t.1 = 1) o0 o3 w0 W := (F3'.mono (fun t e => by rw [e])).trans (FS.mono (fun t e => by rw [e]))
      have hcX : ∀ j, j ≠ 2 → W.cell? ⟨X, j, none⟩ = w3.cell? ⟨X, j, none⟩ := fun j hj => by rw [hW]; exact World.cell?_setCell_other _ _ _ _ (fun e => hj (by injection e with _ e; exact e.symm))
      have pnd := I0.out.pl.nd
      have pbd := I0.out.pl.bd
      refine ⟨⟨oX3, (hcX 0 (by decide)).trans (F3'.cell I0.out.mem.c0 nX0), (hcX 1 (by decide)).trans (F3'.cell I0.out.mem.c1 nX0), by rw [hW]; exact World.cell?_setCell_same _ _ _ t2, (hcX 3 (by decide)).trans (F3'.cell I0.out.mem.c3 nX0), fun j => by rw [hW, World.frozen?_setCell]; exact (F3'.frozen (off := j) I0.out.mem.lt nX0).trans (I0.out.mem.fz j), ?_, by omega, by omega⟩, (I0.out.spr.fr F3' (by decide)).fr FS (by decide), I0.out.slab.fr FW (fun _ e => by cases e), I0.out.chn.fr FW (fun _ e => by cases e), I0.out.lk.put h.N i (by omega) (fun q hq e => by omega), ⟨?_, ?_, ?_⟩, F0.out.trans (FW.mono (fun t e => ⟨by omega, by omega⟩)), FW.cell q0 (by rw [oB.out]; decide), (FW.lab B (World.block_lt_of_cell? _ _ q0)).trans oB.out⟩
      · rw [tabg_more]; exact O3.fr FS (by decide)
      · rw [List.map_cons, List.cons_append]
        exact List.nodup_cons.2 ⟨fun hm => by have := pbd _ hm; simp only at this; omega, pnd⟩
      · intro p hp
        rw [List.map_cons, List.cons_append] at hp
        rcases List.mem_cons.1 hp with h1 | h1
        · have := HNN.out; simp only at h1; omega
        · have := pbd p h1; omega
      · have := HNN.out; rw [List.length_cons]; omega
    rw [show h.N = q from hq.symm] at *
    clear OE VN F3 F3' O3 hoW hGG hNN hcc hvv
    go_region_law (refine step_app rfl (.tmp 46) (.tmp 48) 52 52 rfl _ _ _ rfl rfl hrun ?_)
    all_goals
      rw [← hW]
      clear hW
      have b1 := HH.out.mem.c1
      have b0 := HH.out.bc
      have n1' := HH.out.mem.n1
      have hqb := HH.out.pl.bdL (x := (q, i)) List.mem_cons_self
      simp only at hqb
      go_wp2_with fail
      go_region_held3 (fun w' => w'.cell? ⟨X, 1, none⟩ = some (.pointer (some ⟨h.C, 0, none⟩)) ∧ w'.cell? ⟨B, 0, none⟩ = some (.string i.key)) (first | exact ⟨b1, b0⟩ | exact D5)
        ((go_at_call 86; refine (put_any 3 h.C h.a i.key ((q : Nat) : Int) hkz (by omega) (by omega) W.drew oW (HH.out.chn.fr (Fr.drew1 (fun _ => False) oW W) (fun _ x => x))).mono ?_; rintro e w5 ⟨rfl, o5, C5, F5⟩; have D5 : w5.cell? ⟨X, 1, none⟩ = some (.pointer (some ⟨h.C, 0, none⟩)) ∧ w5.cell? ⟨B, 0, none⟩ = some (.string i.key) := ⟨F5.cell b1 (by rw [show oW X = (1, 0) from HH.out.mem.oX]; decide), F5.cell b0 (by rw [show oW B = (0, 0) from HH.out.ob]; decide)⟩))
      have F5' : Fr (fun t => t.1 = 3) oW o5 W w5 := (Fr.drew1 _ oW W).trans F5
      have HC5 : Hid (IsChain w5 o5 3 h.C (h.a.put i.key ((q : Nat) : Int)) ∧ Fr (fun t => t.1 = 3) oW o5 W w5) := ⟨C5, F5'⟩
      have HM5 : Hid (MemS w5 o5 X h.S h.C GG NN cc (setE h.g q (entE i)) vv) := HH.out.mem.fr F5' (by decide) (by decide)
      clear F5 F5' C5 D5 b1 b0
      go_wp2_with fail
      refine (lead_any (nw := fun r => upd (h.nw r) q 0) (od := fun r => upd (h.od r) q 0) i.c q _ rfl hqb.2 (by have := HFN.out.1.hc; have := hqb; omega) (CellsOf.new h.g q i).2.1 _ o5 HM5.out HH.out.lk).mono ?_
      rintro e w6 ⟨rfl, P6⟩
      have HE : Hid (RmP w o X ⟨s, i :: z.l⟩ w6) := HH.out.whole I0.out.it I0.out.rg I0.out.mp I0.out.ll HFN.out.1.hc HFN.out.1.n HFN.out.2.1 HFN.out.2.2 HC5.out.1 HC5.out.2 P6
      clear P6 HM5 HC5
      go_wp2_with fail
      exact bodyPost_end (v := .tuple #[]) (by simp [results, Tryz.results68, go_sem]) rfl ⟨rfl, HE.out⟩
  · obtain ⟨sp', q, hspq⟩ : ∃ sp' q, h.sp = sp' ++ [q] := by
      rcases List.eq_nil_or_concat h.sp with h1 | ⟨a, b, h1⟩
      · exact absurd h1 hsp
      · exact ⟨a, b, by rw [h1, List.concat_eq_append]⟩
    have SP := I0.out.spr
    have hlen : h.sp.length = sp'.length + 1 := by rw [hspq]; simp
    have hpl := I0.out.pl
    have hq2 := hpl.bd q (by rw [hspq]; simp)
    have hqN : q < h.N := hq2.2
    have hq1 : (q : Int) < (h.N : Int) := by omega
    rw [HSV.out, hlen] at SP
    rw [hlen] at c3
    obtain ⟨gs, scap, e1, og, gl, h4, h5, h6, h7⟩ := SP.there (by omega)
    injection e1 with e1 e2 e3
    subst e1 e3
    have dq : w0.cell? ⟨gs, sp'.length, none⟩ = some (.int .i64 ((q : Nat) : Int)) := h6 _ _ (by rw [hspq, frc_append, List.getElem?_append_right (by rw [frc_length]; omega), frc_length]; simp [frc])
    have SP' := SP.cut sp'.length (by omega)
    rw [hspq, frc_append, List.take_append_of_le_length (by rw [frc_length]; omega), List.take_of_length_le (by rw [frc_length]; omega)] at SP'
    obtain ⟨m, hm⟩ : ∃ m, m = sp'.length := ⟨_, rfl⟩
    have hmn : m ≤ 1000000 := by have := HNN.out; omega
    rw [← hm] at dq c3 SP' h4
    have hm1 : (m : Int) < ((m : Int) + 1) := by omega
    obtain ⟨w1, hw1⟩ : ∃ w1, w1 = w0.setCell ⟨X, 3, none⟩ (.slice (some ⟨gs, 0, none⟩) m sc) := ⟨_, rfl⟩
    have M1 : MemS w1 o0 X h.S h.C h.G h.N h.cap h.g (.slice (some ⟨gs, 0, none⟩) m sc) := by rw [hw1]; exact I0.out.mem.set3 _
    have F1 : Fr (fun t => t = (1, 0)) o0 o0 w0 w1 := by rw [hw1]; exact Fr.set (a := ⟨X, 3, none⟩) I0.out.mem.oX _
    have oG1 := M1.oG.1
    have nB : ¬ (o0 B = (1, 0)) := by rw [oB.out]; decide
    have c2' := M1.c2
    have p0 := F1.cell q0 nB
    have p1 := F1.cell q1 nB
    have p2 := F1.cell q2 nB
    have p3 := F1.cell q3 nB
    have p4 := F1.cell q4 nB
    have p5 := F1.cell q5 nB
    have p6 := F1.cell q6 nB
    have p7 := F1.cell q7 nB
    have HSPL : Hid (m = sp'.length) := hm
    clear SP h6 h7 h5 og gl hm
    obtain ⟨d0, y0⟩ := M1.at_ (q := q * 8) (by omega)
    have N1 := M1.set (q * 8) (.string i.key) rfl (by omega)
    obtain ⟨v0, hv0⟩ : ∃ v, v = (h.g) (q * 8) := ⟨_, rfl⟩
    rw [← hv0] at d0
    obtain ⟨d1, y1⟩ := N1.at_ (q := q * 8 + 1) (by omega)
    have N2 := N1.set (q * 8 + 1) (.int .i64 ((i.c : Nat) : Int)) rfl (by omega)
    obtain ⟨v1, hv1⟩ : ∃ v, v = (upd (h.g) (q * 8) (.string i.key)) (q * 8 + 1) := ⟨_, rfl⟩
    rw [← hv1] at d1
    obtain ⟨d2, y2⟩ := N2.at_ (q := q * 8 + 2) (by omega)
    have N3 := N2.set (q * 8 + 2) (.int .i64 ((i.k : Nat) : Int)) rfl (by omega)
    obtain ⟨v2, hv2⟩ : ∃ v, v = (upd (upd (h.g) (q * 8) (.string i.key)) (q * 8 + 1) (.int .i64 ((i.c : Nat) : Int))) (q * 8 + 2) := ⟨_, rfl⟩
    rw [← hv2] at d2
    obtain ⟨d3, y3⟩ := N3.at_ (q := q * 8 + 3) (by omega)
    have N4 := N3.set (q * 8 + 3) (.bool i.pin) rfl (by omega)
    obtain ⟨v3, hv3⟩ : ∃ v, v = (upd (upd (upd (h.g) (q * 8) (.string i.key)) (q * 8 + 1) (.int .i64 ((i.c : Nat) : Int))) (q * 8 + 2) (.int .i64 ((i.k : Nat) : Int))) (q * 8 + 3) := ⟨_, rfl⟩
    rw [← hv3] at d3
    obtain ⟨d4, y4⟩ := N4.at_ (q := q * 8 + 4) (by omega)
    have N5 := N4.set (q * 8 + 4) (.int .i64 0) rfl (by omega)
    obtain ⟨v4, hv4⟩ : ∃ v, v = (upd (upd (upd (upd (h.g) (q * 8) (.string i.key)) (q * 8 + 1) (.int .i64 ((i.c : Nat) : Int))) (q * 8 + 2) (.int .i64 ((i.k : Nat) : Int))) (q * 8 + 3) (.bool i.pin)) (q * 8 + 4) := ⟨_, rfl⟩
    rw [← hv4] at d4
    obtain ⟨d5, y5⟩ := N5.at_ (q := q * 8 + 5) (by omega)
    have N6 := N5.set (q * 8 + 5) (.int .i64 0) rfl (by omega)
    obtain ⟨v5, hv5⟩ : ∃ v, v = (upd (upd (upd (upd (upd (h.g) (q * 8) (.string i.key)) (q * 8 + 1) (.int .i64 ((i.c : Nat) : Int))) (q * 8 + 2) (.int .i64 ((i.k : Nat) : Int))) (q * 8 + 3) (.bool i.pin)) (q * 8 + 4) (.int .i64 0)) (q * 8 + 5) := ⟨_, rfl⟩
    rw [← hv5] at d5
    obtain ⟨d6, y6⟩ := N6.at_ (q := q * 8 + 6) (by omega)
    have N7 := N6.set (q * 8 + 6) (.int .i64 0) rfl (by omega)
    obtain ⟨v6, hv6⟩ : ∃ v, v = (upd (upd (upd (upd (upd (upd (h.g) (q * 8) (.string i.key)) (q * 8 + 1) (.int .i64 ((i.c : Nat) : Int))) (q * 8 + 2) (.int .i64 ((i.k : Nat) : Int))) (q * 8 + 3) (.bool i.pin)) (q * 8 + 4) (.int .i64 0)) (q * 8 + 5) (.int .i64 0)) (q * 8 + 6) := ⟨_, rfl⟩
    rw [← hv6] at d6
    obtain ⟨d7, y7⟩ := N7.at_ (q := q * 8 + 7) (by omega)
    have N8 := N7.set (q * 8 + 7) (.int .i64 0) rfl (by omega)
    obtain ⟨v7, hv7⟩ : ∃ v, v = (upd (upd (upd (upd (upd (upd (upd (h.g) (q * 8) (.string i.key)) (q * 8 + 1) (.int .i64 ((i.c : Nat) : Int))) (q * 8 + 2) (.int .i64 ((i.k : Nat) : Int))) (q * 8 + 3) (.bool i.pin)) (q * 8 + 4) (.int .i64 0)) (q * 8 + 5) (.int .i64 0)) (q * 8 + 6) (.int .i64 0)) (q * 8 + 7) := ⟨_, rfl⟩
    rw [← hv7] at d7
    have eG : setE h.g q (entE i) = upd (upd (upd (upd (upd (upd (upd (upd (h.g) (q * 8) (.string i.key)) (q * 8 + 1) (.int .i64 ((i.c : Nat) : Int))) (q * 8 + 2) (.int .i64 ((i.k : Nat) : Int))) (q * 8 + 3) (.bool i.pin)) (q * 8 + 4) (.int .i64 0)) (q * 8 + 5) (.int .i64 0)) (q * 8 + 6) (.int .i64 0)) (q * 8 + 7) (.int .i64 0) := setE_upd h.g q (entE i)
    have FZ : Fr (fun t => t = (1, 1)) o0 o0 w1 ((((((((w1.setCell ⟨h.G, q * 8, none⟩ (.string i.key)).setCell ⟨h.G, q * 8 + 1, none⟩ (.int .i64 ((i.c : Nat) : Int))).setCell ⟨h.G, q * 8 + 2, none⟩ (.int .i64 ((i.k : Nat) : Int))).setCell ⟨h.G, q * 8 + 3, none⟩ (.bool i.pin)).setCell ⟨h.G, q * 8 + 4, none⟩ (.int .i64 0)).setCell ⟨h.G, q * 8 + 5, none⟩ (.int .i64 0)).setCell ⟨h.G, q * 8 + 6, none⟩ (.int .i64 0)).setCell ⟨h.G, q * 8 + 7, none⟩ (.int .i64 0)) := ((((((((Fr.refl (fun t => t = (1, 1)) o0 w1).trans (Fr.set (a := ⟨h.G, q * 8, none⟩) oG1 _)).trans (Fr.set (a := ⟨h.G, q * 8 + 1, none⟩) oG1 _)).trans (Fr.set (a := ⟨h.G, q * 8 + 2, none⟩) oG1 _)).trans (Fr.set (a := ⟨h.G, q * 8 + 3, none⟩) oG1 _)).trans (Fr.set (a := ⟨h.G, q * 8 + 4, none⟩) oG1 _)).trans (Fr.set (a := ⟨h.G, q * 8 + 5, none⟩) oG1 _)).trans (Fr.set (a := ⟨h.G, q * 8 + 6, none⟩) oG1 _)).trans (Fr.set (a := ⟨h.G, q * 8 + 7, none⟩) oG1 _)
    obtain ⟨U0, hU0⟩ : ∃ U0, U0 = ((((((((w1.setCell ⟨h.G, q * 8, none⟩ (.string i.key)).setCell ⟨h.G, q * 8 + 1, none⟩ (.int .i64 ((i.c : Nat) : Int))).setCell ⟨h.G, q * 8 + 2, none⟩ (.int .i64 ((i.k : Nat) : Int))).setCell ⟨h.G, q * 8 + 3, none⟩ (.bool i.pin)).setCell ⟨h.G, q * 8 + 4, none⟩ (.int .i64 0)).setCell ⟨h.G, q * 8 + 5, none⟩ (.int .i64 0)).setCell ⟨h.G, q * 8 + 6, none⟩ (.int .i64 0)).setCell ⟨h.G, q * 8 + 7, none⟩ (.int .i64 0)) := ⟨_, rfl⟩
    rw [← eG, ← hU0] at N8
    rw [← hU0] at FZ
    have nB1 : ¬ (o0 B = (1, 1)) := by rw [oB.out]; decide
    have KP : ((((((((w1.setCell ⟨h.G, q * 8, none⟩ (.string i.key)).setCell ⟨h.G, q * 8 + 1, none⟩ (.int .i64 ((i.c : Nat) : Int))).setCell ⟨h.G, q * 8 + 2, none⟩ (.int .i64 ((i.k : Nat) : Int))).setCell ⟨h.G, q * 8 + 3, none⟩ (.bool i.pin)).setCell ⟨h.G, q * 8 + 4, none⟩ (.int .i64 0)).setCell ⟨h.G, q * 8 + 5, none⟩ (.int .i64 0)).setCell ⟨h.G, q * 8 + 6, none⟩ (.int .i64 0)).setCell ⟨h.G, q * 8 + 7, none⟩ (.int .i64 0)).cell? ⟨X, 2, none⟩ = some (.slice (some ⟨h.G, 0, none⟩) h.N h.cap) ∧ ((((((((w1.setCell ⟨h.G, q * 8, none⟩ (.string i.key)).setCell ⟨h.G, q * 8 + 1, none⟩ (.int .i64 ((i.c : Nat) : Int))).setCell ⟨h.G, q * 8 + 2, none⟩ (.int .i64 ((i.k : Nat) : Int))).setCell ⟨h.G, q * 8 + 3, none⟩ (.bool i.pin)).setCell ⟨h.G, q * 8 + 4, none⟩ (.int .i64 0)).setCell ⟨h.G, q * 8 + 5, none⟩ (.int .i64 0)).setCell ⟨h.G, q * 8 + 6, none⟩ (.int .i64 0)).setCell ⟨h.G, q * 8 + 7, none⟩ (.int .i64 0)).cell? ⟨B, 0, none⟩ = some (.string i.key) ∧ ((((((((w1.setCell ⟨h.G, q * 8, none⟩ (.string i.key)).setCell ⟨h.G, q * 8 + 1, none⟩ (.int .i64 ((i.c : Nat) : Int))).setCell ⟨h.G, q * 8 + 2, none⟩ (.int .i64 ((i.k : Nat) : Int))).setCell ⟨h.G, q * 8 + 3, none⟩ (.bool i.pin)).setCell ⟨h.G, q * 8 + 4, none⟩ (.int .i64 0)).setCell ⟨h.G, q * 8 + 5, none⟩ (.int .i64 0)).setCell ⟨h.G, q * 8 + 6, none⟩ (.int .i64 0)).setCell ⟨h.G, q * 8 + 7, none⟩ (.int .i64 0)).cell? ⟨B, 1, none⟩ = some (.int .i64 ((i.c : Nat) : Int)) ∧ ((((((((w1.setCell ⟨h.G, q * 8, none⟩ (.string i.key)).setCell ⟨h.G, q * 8 + 1, none⟩ (.int .i64 ((i.c : Nat) : Int))).setCell ⟨h.G, q * 8 + 2, none⟩ (.int .i64 ((i.k : Nat) : Int))).setCell ⟨h.G, q * 8 + 3, none⟩ (.bool i.pin)).setCell ⟨h.G, q * 8 + 4, none⟩ (.int .i64 0)).setCell ⟨h.G, q * 8 + 5, none⟩ (.int .i64 0)).setCell ⟨h.G, q * 8 + 6, none⟩ (.int .i64 0)).setCell ⟨h.G, q * 8 + 7, none⟩ (.int .i64 0)).cell? ⟨B, 2, none⟩ = some (.int .i64 ((i.k : Nat) : Int)) ∧ ((((((((w1.setCell ⟨h.G, q * 8, none⟩ (.string i.key)).setCell ⟨h.G, q * 8 + 1, none⟩ (.int .i64 ((i.c : Nat) : Int))).setCell ⟨h.G, q * 8 + 2, none⟩ (.int .i64 ((i.k : Nat) : Int))).setCell ⟨h.G, q * 8 + 3, none⟩ (.bool i.pin)).setCell ⟨h.G, q * 8 + 4, none⟩ (.int .i64 0)).setCell ⟨h.G, q * 8 + 5, none⟩ (.int .i64 0)).setCell ⟨h.G, q * 8 + 6, none⟩ (.int .i64 0)).setCell ⟨h.G, q * 8 + 7, none⟩ (.int .i64 0)).cell? ⟨B, 3, none⟩ = some (.bool i.pin) ∧ ((((((((w1.setCell ⟨h.G, q * 8, none⟩ (.string i.key)).setCell ⟨h.G, q * 8 + 1, none⟩ (.int .i64 ((i.c : Nat) : Int))).setCell ⟨h.G, q * 8 + 2, none⟩ (.int .i64 ((i.k : Nat) : Int))).setCell ⟨h.G, q * 8 + 3, none⟩ (.bool i.pin)).setCell ⟨h.G, q * 8 + 4, none⟩ (.int .i64 0)).setCell ⟨h.G, q * 8 + 5, none⟩ (.int .i64 0)).setCell ⟨h.G, q * 8 + 6, none⟩ (.int .i64 0)).setCell ⟨h.G, q * 8 + 7, none⟩ (.int .i64 0)).cell? ⟨B, 4, none⟩ = some (.int .i64 0) ∧ ((((((((w1.setCell ⟨h.G, q * 8, none⟩ (.string i.key)).setCell ⟨h.G, q * 8 + 1, none⟩ (.int .i64 ((i.c : Nat) : Int))).setCell ⟨h.G, q * 8 + 2, none⟩ (.int .i64 ((i.k : Nat) : Int))).setCell ⟨h.G, q * 8 + 3, none⟩ (.bool i.pin)).setCell ⟨h.G, q * 8 + 4, none⟩ (.int .i64 0)).setCell ⟨h.G, q * 8 + 5, none⟩ (.int .i64 0)).setCell ⟨h.G, q * 8 + 6, none⟩ (.int .i64 0)).setCell ⟨h.G, q * 8 + 7, none⟩ (.int .i64 0)).cell? ⟨B, 5, none⟩ = some (.int .i64 0) ∧ ((((((((w1.setCell ⟨h.G, q * 8, none⟩ (.string i.key)).setCell ⟨h.G, q * 8 + 1, none⟩ (.int .i64 ((i.c : Nat) : Int))).setCell ⟨h.G, q * 8 + 2, none⟩ (.int .i64 ((i.k : Nat) : Int))).setCell ⟨h.G, q * 8 + 3, none⟩ (.bool i.pin)).setCell ⟨h.G, q * 8 + 4, none⟩ (.int .i64 0)).setCell ⟨h.G, q * 8 + 5, none⟩ (.int .i64 0)).setCell ⟨h.G, q * 8 + 6, none⟩ (.int .i64 0)).setCell ⟨h.G, q * 8 + 7, none⟩ (.int .i64 0)).cell? ⟨B, 6, none⟩ = some (.int .i64 0) ∧ ((((((((w1.setCell ⟨h.G, q * 8, none⟩ (.string i.key)).setCell ⟨h.G, q * 8 + 1, none⟩ (.int .i64 ((i.c : Nat) : Int))).setCell ⟨h.G, q * 8 + 2, none⟩ (.int .i64 ((i.k : Nat) : Int))).setCell ⟨h.G, q * 8 + 3, none⟩ (.bool i.pin)).setCell ⟨h.G, q * 8 + 4, none⟩ (.int .i64 0)).setCell ⟨h.G, q * 8 + 5, none⟩ (.int .i64 0)).setCell ⟨h.G, q * 8 + 6, none⟩ (.int .i64 0)).setCell ⟨h.G, q * 8 + 7, none⟩ (.int .i64 0)).cell? ⟨B, 7, none⟩ = some (.int .i64 0) := by
      rw [← hU0]; exact ⟨N8.c2, FZ.cell p0 nB1, FZ.cell p1 nB1, FZ.cell p2 nB1, FZ.cell p3 nB1, FZ.cell p4 nB1, FZ.cell p5 nB1, FZ.cell p6 nB1, FZ.cell p7 nB1⟩
    have HN8 : Hid (MemS U0 o0 X h.S h.C h.G h.N h.cap (setE h.g q (entE i)) (.slice (some ⟨gs, 0, none⟩) m sc)) := N8
    have HFZ : Hid (Fr (fun t => t = (1, 1)) o0 o0 w1 U0) := FZ
    have HF1 : Hid (Fr (fun t => t = (1, 0)) o0 o0 w0 w1) := F1
    have HSP : Hid (OwnK w0 o0 (1, 2) 1 (.slice (some ⟨gs, 0, none⟩) m sc) m (frc sp')) := SP'
    have HWE : Hid (U0 = ((((((((w1.setCell ⟨h.G, q * 8, none⟩ (.string i.key)).setCell ⟨h.G, q * 8 + 1, none⟩ (.int .i64 ((i.c : Nat) : Int))).setCell ⟨h.G, q * 8 + 2, none⟩ (.int .i64 ((i.k : Nat) : Int))).setCell ⟨h.G, q * 8 + 3, none⟩ (.bool i.pin)).setCell ⟨h.G, q * 8 + 4, none⟩ (.int .i64 0)).setCell ⟨h.G, q * 8 + 5, none⟩ (.int .i64 0)).setCell ⟨h.G, q * 8 + 6, none⟩ (.int .i64 0)).setCell ⟨h.G, q * 8 + 7, none⟩ (.int .i64 0))) := hU0
    have HPQ : Hid (h.sp = sp' ++ [q]) := hspq
    clear N8 hv0 hv1 hv2 hv3 hv4 hv5 hv6 hv7 N1 N2 N3 N4 N5 N6 N7 eG FZ M1 hU0 oG1 F1 SP' hspq hpl hsp nB nB1 hlen
    go_enter Tryz.func68, Tryz.ntmps68
    go_upto_region 1 with fail
    rw [← hw0, ← hB]
    have HB : Hid (B = w.heap.size) := hB
    clear hw0 hB
    go_upto_region 6 with fail
    rw [← hw1]
    clear hw1
    clear KP
    have hks : h.a.keys = ((h.L.length : Nat) : Int) := I0.out.mp.ks
    have hkz : i.key.size ≤ 140737488355328 := by rw [ba_size] at hsz; omega
    obtain ⟨W, hW⟩ : ∃ W, W = U0.drew := ⟨_, rfl⟩
    obtain ⟨oW, hoW⟩ : ∃ oW, oW = o0 := ⟨_, rfl⟩
    obtain ⟨GG, hGG⟩ : ∃ x, x = h.G := ⟨_, rfl⟩
    obtain ⟨NN, hNN⟩ : ∃ x, x = h.N := ⟨_, rfl⟩
    obtain ⟨cc, hcc⟩ : ∃ x, x = h.cap := ⟨_, rfl⟩
    obtain ⟨vv, hvv⟩ : ∃ x, x = Value.slice (some ⟨gs, 0, none⟩) m sc := ⟨_, rfl⟩
    have HH : Hid (Half w o X z s h i B W oW q GG NN cc vv sp') := by
      rw [hoW, hGG, hNN, hcc, hvv]
      have FD : Fr (fun _ => False) o0 o0 U0 W := by rw [hW]; exact Fr.drew1 _ o0 U0
      have FW : Fr (fun t => t.1 = 1) o0 o0 w0 W := ((HF1.out.mono (fun t e => by rw [e])).trans (HFZ.out.mono (fun t e => by rw [e]))).trans (FD.mono (fun _ e => e.elim))
      have pnd := I0.out.pl.nd
      have pbd := I0.out.pl.bd
      rw [HPQ.out] at pnd pbd
      have pm : (((q, i) :: h.L).map (·.1) ++ sp').Perm (h.L.map (·.1) ++ (sp' ++ [q])) := by
        rw [List.map_cons, ← List.append_assoc]; exact (List.perm_append_singleton _ _).symm
      refine ⟨HN8.out.fr FD (fun x => x) (fun x => x), ?_, I0.out.slab.fr FW (fun _ e => by cases e), I0.out.chn.fr FW (fun _ e => by cases e), I0.out.lk.put q i (Nat.le_refl _) (fun p hp _ => hp), ⟨pm.nodup_iff.2 pnd, fun p hp => pbd p (pm.mem_iff.1 hp), ?_⟩, F0.out.trans (FW.mono (fun t e => ⟨by omega, by omega⟩)), FW.cell q0 (by rw [oB.out]; decide), (FW.lab B (World.block_lt_of_cell? _ _ q0)).trans oB.out⟩
      · rw [← HSPL.out]
        exact ((HSP.out.fr HF1.out (by decide)).fr HFZ.out (by decide)).fr FD (fun x => x)
      · have := HNN.out
        rw [HPQ.out] at this
        rw [List.length_cons]
        simp at this
        omega
    clear hoW hGG hcc hvv hNN
    go_region_law (fail)
    all_goals
      rw [← HWE.out, ← hW]
      clear hW
      have b1 := HH.out.mem.c1
      have b0 := HH.out.bc
      have n1' := HH.out.mem.n1
      have hqb := HH.out.pl.bdL (x := (q, i)) List.mem_cons_self
      simp only at hqb
      go_wp2_with fail
      go_region_held3 (fun w' => w'.cell? ⟨X, 1, none⟩ = some (.pointer (some ⟨h.C, 0, none⟩)) ∧ w'.cell? ⟨B, 0, none⟩ = some (.string i.key)) (first | exact ⟨b1, b0⟩ | exact D5)
        ((go_at_call 86; refine (put_any 3 h.C h.a i.key ((q : Nat) : Int) hkz (by omega) (by omega) W.drew oW (HH.out.chn.fr (Fr.drew1 (fun _ => False) oW W) (fun _ x => x))).mono ?_; rintro e w5 ⟨rfl, o5, C5, F5⟩; have D5 : w5.cell? ⟨X, 1, none⟩ = some (.pointer (some ⟨h.C, 0, none⟩)) ∧ w5.cell? ⟨B, 0, none⟩ = some (.string i.key) := ⟨F5.cell b1 (by rw [show oW X = (1, 0) from HH.out.mem.oX]; decide), F5.cell b0 (by rw [show oW B = (0, 0) from HH.out.ob]; decide)⟩))
      have F5' : Fr (fun t => t.1 = 3) oW o5 W w5 := (Fr.drew1 _ oW W).trans F5
      have HC5 : Hid (IsChain w5 o5 3 h.C (h.a.put i.key ((q : Nat) : Int)) ∧ Fr (fun t => t.1 = 3) oW o5 W w5) := ⟨C5, F5'⟩
      have HM5 : Hid (MemS w5 o5 X h.S h.C GG NN cc (setE h.g q (entE i)) vv) := HH.out.mem.fr F5' (by decide) (by decide)
      clear F5 F5' C5 D5 b1 b0
      go_wp2_with fail
      refine (lead_any (nw := fun r => upd (h.nw r) q 0) (od := fun r => upd (h.od r) q 0) i.c q _ rfl hqb.2 (by have := HFN.out.1.hc; have := hqb; omega) (CellsOf.new h.g q i).2.1 _ o5 HM5.out HH.out.lk).mono ?_
      rintro e w6 ⟨rfl, P6⟩
      have HE : Hid (RmP w o X ⟨s, i :: z.l⟩ w6) := HH.out.whole I0.out.it I0.out.rg I0.out.mp I0.out.ll HFN.out.1.hc HFN.out.1.n HFN.out.2.1 HFN.out.2.2 HC5.out.1 HC5.out.2 P6
      clear P6 HM5 HC5
      go_wp2_with fail
      exact bodyPost_end (v := .tuple #[]) (by simp [results, Tryz.results68, go_sem]) rfl ⟨rfl, HE.out⟩
end Go.Proofs.YtfinaichajbnkaaGreatDoor
