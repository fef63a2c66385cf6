/-
  THE REFERENCE's Forget.
-/
import Derived.Test.YtpkmfckifnomeaaDoorRMd
import Derived.Deep.RegionHeld3
namespace Go.Proofs.YtpkmfckifnomeaaDoor
open Go.RowKit
set_option maxHeartbeats 400000 in
set_option maxRecDepth 1000000 in
theorem rforget_any (x : Nat) {o : Nat → Nat × Nat} {b : Nat} {l : List En} (hs : Srt l) (hl : l.length ≤ 2000000) (k : ByteArray) (w : World) (h : IsR w o x b l) :
    Calls Tryd.prog 15 #[.pointer (some ⟨b, 0, none⟩), .string k] w fun e w' => e = .returned (.bool (look (L k) l).isSome) ∧ ∃ o', IsR w' o' x b (del (L k) l) ∧ Fr (·.1 = x) o o' w w' := by
  obtain ⟨n, hn⟩ : ∃ n, n = l.length := ⟨_, rfl⟩
  have HM := Lib.hid (And.intro h hs)
  obtain ⟨a, c, hc, hO⟩ := h.li
  rw [← hn] at hc hl
  have HN := Lib.hid hn
  have HO := Lib.hid hO
  obtain ⟨m, hm⟩ : ∃ m, m = fst_ (L k) l := ⟨_, rfl⟩
  have hmn : m ≤ n := by rw [hm, hn]; exact fst_le _ _
  have HF := Lib.hid hm
  clear hO h hn hm hs
  go_enter Tryd.func15, Tryd.ntmps15
  go_wp2_with fail
  go_loopw [5] (fun i wr => ∃ j : Nat, j ≤ m ∧ i = .int .i64 (j : Int) ∧ w = wr) (fun i _ => m - (intOf i).toNat)
  case atStart => exact ⟨0, by omega, rfl, rfl⟩
  case round =>
    obtain ⟨j, hj, rfl, rfl⟩ := hrel
    by_cases hjn : j < n
    · have hi1 : (j : Int) < (n : Int) := by omega
      obtain ⟨e, he⟩ : ∃ e, l[j]? = some e := ⟨_, List.getElem?_eq_getElem (by rw [← HN.out]; exact hjn)⟩
      obtain ⟨g, rfl, ce⟩ := IsR.at_ HO.out he
      have c0 := ce 0 _ rfl
      rw [Nat.add_zero] at c0
      by_cases hjm : j < m
      · have hne : (e.key.toList == k.toList) = false := by rw [ByteArray.toList_eq, ByteArray.toList_eq]; exact fst_lt (L k) l j e he (by rw [← HF.out]; exact hjm)
        clear he ce
        go_wp2_with fail
        exact ⟨⟨j + 1, by omega, by go_num, trivial⟩, by simp [intOf]; omega⟩
      · have hjm2 : j = m := by omega
        subst hjm2
        have hne : (e.key.toList == k.toList) = true := by rw [ByteArray.toList_eq, ByteArray.toList_eq]; exact fst_at (L k) l e (by rw [← HF.out]; exact he)
        have hx : ((j : Int) == (n : Int)) = false := by rw [beq_eq_false_iff_ne]; omega
        clear he ce
        have hR : (look (L k) l).isSome = true := by rw [fst_look, ← HF.out, ← HN.out]; simp; omega
        have hD : del (L k) l = l.take j ++ l.drop (j + 1) := by rw [HF.out]; exact fst_del HM.out.2 _ (by rw [← HF.out, ← HN.out]; exact hjn)
        have hO := HO.out
        rw [← HN.out] at hO
        have OD : OwnK w.drew o (x, 1) 5 (.slice (some ⟨g, 0, none⟩) n c) n (ecs l) := hO.fr (Fr.drew1 (fun _ => False) o w) id
        obtain ⟨a6, q6, w6, run1, B6, _, hrest⟩ := erase_own (i := j) (x, 1) 39 49 (.agg e0.cs.toArray) 56 under39 info49 rfl OD (by omega) (by omega) (by omega)
        obtain ⟨a7, q7, w7, o7, run2, O7, F7⟩ := hrest hjn
        rw [ecs_take, ecs_drop, ← ecs_app, ← hD] at O7
        have FW : ∀ U, Fr U o o7 w w7 := fun U => (Fr.drew1 _ o w).trans (F7 U)
        have hlen : n - 1 = (del (L k) l).length := by rw [hD, List.length_append, List.length_take, List.length_drop, ← HN.out]; omega
        obtain ⟨I8, F8⟩ := HM.out.1.set (FW _) hlen O7
        have t1 := new_up (.cells #[] 49) hc
        have t2 : w6.cell? ⟨b, 0, none⟩ = some (.slice (some ⟨g, 0, none⟩) n c) := cell_up (w := w.drew) B6 hc
        have t3 := (FW (fun _ => False)).cell hc id
        have t4 := ((FW (fun _ => False)).frozen (off := 0) HM.out.1.lt id).trans HM.out.1.fz
        have HI : Hid (IsR (w7.setCell ⟨b, 0, none⟩ (.slice a7 (n - 1) q7)) o7 x b (del (L k) l)) := I8
        have HF8 : Hid (Fr (·.1 = x) o o7 w (w7.setCell ⟨b, 0, none⟩ (.slice a7 (n - 1) q7))) := F8
        have HR := Lib.hid hR
        have sl1 := slice_hiT 39 49 5 elem39 elem39' size49' g n c j (by have := OD.form; obtain ⟨a', c', e', hc'⟩ := this; injection e' with _ _ e'; omega)
        have sl2 : ∀ w, (Instr.sliceAt 39 (.slice (some ⟨g, 0, none⟩) n c) (some (.int .i64 ((j : Int) + 1))) none none).run Tryd.prog w = .ok (.slice (some (cutA g (j + 1) c 5)) (n - (j + 1)) (c - (j + 1))) w := slice_loT 39 49 5 elem39 elem39' size49' g n c (j + 1) (by omega)
        have hwk : IntKind.i64.wrap ((j : Int) + 1) = (j : Int) + 1 := by rw [IntKind.wrap_i64]; omega
        rw [World.size_drew] at run1
        clear OD hO B6 hrest O7 FW I8 F8 F7 HM HO HF HN hR hD hlen
        go_wp2_with fail
        go_region_law (first | (refine step_app4 run1 (.tmp 35) (.tmp 41) (by rfl) (by rfl) (by rfl) (by rfl) (by rfl) (by rfl) ?_) | (refine step_app4 run2 (.tmp 42) (.tmp 49) (by with_reducible rfl) (by rfl) (by rfl) (by rfl) (by rfl) (by rfl) ?_))
        all_goals
          go_wp2_with fail
          go_ret
          rw [HR.out]
          exact ⟨rfl, o7, HI.out, HF8.out⟩
    · have hi1 : decide ((j : Int) < (n : Int)) = false := decide_eq_false (by omega)
      have hx : ((j : Int) == (n : Int)) = true := by rw [beq_iff_eq]; omega
      have hR : (look (L k) l).isSome = false := by rw [fst_look, ← HF.out, ← HN.out]; simp; omega
      have hD : del (L k) l = l := fst_none (by rw [← HF.out, ← HN.out]; omega)
      have HI : Hid (IsR w o x b l) := HM.out.1
      clear HM HO
      go_wp2_with fail
      go_ret
      rw [hR, hD]
      exact ⟨rfl, o, HI.out, Fr.refl _ _ _⟩
end Go.Proofs.YtpkmfckifnomeaaDoor


namespace Go.Proofs.YtpkmfckifnomeaaDoor
open Go.RowKit
theorem bl_bb : ∀ a b : B, Op.bytesLess a b = bytesBefore a b
  | [], [] => rfl
  | [], _ :: _ => rfl
  | _ :: _, [] => rfl
  | x :: a, y :: b => by rw [Op.bytesLess, bytesBefore, bl_bb a b]
/-- Whether the entry at the key's place is the key's, and lives. -/
def ath (l : List En) (k : ByteArray) (now : Int) : Bool := (l[pos (L k) l]?).any fun e => L e.key == L k && lv e.dl now
set_option maxHeartbeats 400000 in
set_option maxRecDepth 1000000 in
theorem rat_any (x : Nat) {o : Nat → Nat × Nat} {b : Nat} {l : List En} (hl : l.length ≤ 2000000) (k : ByteArray) (now : Int) (w : World) (h : IsR w o x b l) :
    Calls Tryd.prog 28 #[.pointer (some ⟨b, 0, none⟩), .string k, .int .i64 now] w fun e w' => e = .returned (.tuple #[.int .i64 (pos (L k) l : Nat), .bool (ath l k now)]) ∧ w = w' := by
  obtain ⟨n, hn⟩ : ∃ n, n = l.length := ⟨_, rfl⟩
  obtain ⟨a, c, hc, hO⟩ := h.li
  rw [← hn] at hc hl
  have HN := Lib.hid hn
  have HO := Lib.hid hO
  obtain ⟨m, hm⟩ : ∃ m, m = pos (L k) l := ⟨_, rfl⟩
  have hmn : m ≤ n := by rw [hm, hn]; exact pos_le _ _
  obtain ⟨R, hR⟩ : ∃ R, R = ath l k now := ⟨_, rfl⟩
  rw [← hm, ← hR]
  have hR2 := hR
  unfold ath at hR2
  rw [← hm] at hR2
  have HR := Lib.hid hR2
  have HF := Lib.hid hm
  clear hO h hn hm hR hR2
  go_enter Tryd.func28, Tryd.ntmps28
  go_wp2_with fail
  go_loopw [8] (fun i wr => ∃ j : Nat, j ≤ m ∧ i = .int .i64 (j : Int) ∧ w = wr) (fun i _ => m - (intOf i).toNat)
  case atStart => exact ⟨0, by omega, rfl, rfl⟩
  case round =>
    obtain ⟨j, hj, rfl, rfl⟩ := hrel
    by_cases hjn : j < n
    · have hi1 : (j : Int) < (n : Int) := by omega
      obtain ⟨e, he⟩ : ∃ e, l[j]? = some e := ⟨_, List.getElem?_eq_getElem (by rw [← HN.out]; exact hjn)⟩
      obtain ⟨g, rfl, ce⟩ := IsR.at_ HO.out he
      have c0 := ce 0 _ rfl
      rw [Nat.add_zero] at c0
      by_cases hjm : j < m
      · have hne : Op.bytesLess e.key.toList k.toList = true := by rw [bl_bb, ByteArray.toList_eq, ByteArray.toList_eq]; exact pos_lt (L k) l j e he (by rw [← HF.out]; exact hjm)
        clear he ce
        go_wp2_with fail
        exact ⟨⟨j + 1, by omega, by go_num, trivial⟩, by simp [intOf]; omega⟩
      · have hjm2 : j = m := by omega
        subst hjm2
        have hne : Op.bytesLess e.key.toList k.toList = false := by rw [bl_bb, ByteArray.toList_eq, ByteArray.toList_eq]; exact pos_at (L k) l e (by rw [← HF.out]; exact he)
        have c2 := ce 2 _ rfl
        have hR3 : R = (L e.key == L k && lv e.dl now) := by rw [HR.out, he]; rfl
        by_cases hk : L e.key = L k
        · have hek : (e.key.toList == k.toList) = true := by rw [ByteArray.toList_eq, ByteArray.toList_eq]; exact beq_iff_eq.2 hk
          have hlv : lv e.dl now = R := by rw [hR3, beq_iff_eq.2 hk]; rfl
          have LV := Lib.hid (rlive_c e.dl now R hlv w)
          clear he ce hR3 hk hlv
          go_wp2_with fail
          refine LV.out.mono ?_
          rintro e1 w1 ⟨rfl, rfl⟩
          go_wp2_with fail
          refine bodyPost_ret (v := .tuple #[.int .i64 (j : Int), .bool R]) (by simp [results, Tryd.results28]) rfl ?_
          exact ⟨rfl, rfl⟩
        · have hek : (e.key.toList == k.toList) = false := by rw [ByteArray.toList_eq, ByteArray.toList_eq]; exact beq_eq_false_iff_ne.2 hk
          have hf : R = false := by rw [hR3, beq_eq_false_iff_ne.2 hk]; rfl
          clear he ce hR3 hk
          subst hf
          go_wp2_with fail
          refine bodyPost_ret (v := .tuple #[.int .i64 (j : Int), .bool false]) (by simp [results, Tryd.results28]) rfl ?_
          exact ⟨rfl, rfl⟩
    · have hi1 : decide ((j : Int) < (n : Int)) = false := decide_eq_false (by omega)
      have hf : R = false := by rw [HR.out, List.getElem?_eq_none (by rw [← HN.out]; omega)]; rfl
      have hjm : j = m := by omega
      clear HR
      subst hf hjm
      go_wp2_with fail
      refine bodyPost_ret (v := .tuple #[.int .i64 (j : Int), .bool false]) (by simp [results, Tryd.results28]) rfl ?_
      exact ⟨rfl, rfl⟩
end Go.Proofs.YtpkmfckifnomeaaDoor


namespace Go.Proofs.YtpkmfckifnomeaaDoor
open Go.RowKit
/-- Appending to a list of the call's own, in a world that has come from W. -/
theorem ins_app {W V : World} {q p : Nat → Nat × Nat} (F : Fr (fun t => t = (7, 7)) q p W V) {v x : Value} {n m : Nat} {cs news : List Value} (hv : OwnK V p (7, 7) 5 v n cs) (hs : Src Tryd.prog 5 39 x m news V) (hb : n + m ≤ 2000000) :
    ∃ a c V' p', (Builtin.append_ #[39, 39] 39 #[v, x]).run Tryd.prog V = .ok (.slice a (n + m) c) V' ∧ OwnK V' p' (7, 7) 5 (.slice a (n + m) c) (n + m) (cs ++ news) ∧ Fr (fun t => t = (7, 7)) q p' W V' ∧ Fr (fun t => t = (7, 7)) p p' V V' := by
  obtain ⟨v', w', o', hr, h1, h2⟩ := app_own 39 39 49 (.agg e0.cs.toArray) 56 under39 info49 rfl hv hs (by omega) (by omega)
  obtain ⟨a, c, rfl, _⟩ := h1.form
  exact ⟨a, c, w', o', hr, h1, F.trans h2, h2⟩
/-- The three appends of one order: their runs; what comes of them. -/
def Ins (W V : World) (o : Nat → Nat × Nat) (t : Nat × Nat) (v lo hi : Value) (i n : Nat) (cs : List Value) (st : World → World) (el : World → Nat) : Prop :=
  ∃ a1 c1 w1 a2 c2 w2 a3 c3 w3 o3, (Builtin.append_ #[39, 39] 39 #[v, lo]).run Tryd.prog V = .ok (.slice a1 i c1) w1 ∧ (Builtin.append_ #[39, 39] 39 #[.slice a1 i c1, .slice (some ⟨el w1, 0, none⟩) 1 1]).run Tryd.prog (st w1) = .ok (.slice a2 (i + 1) c2) w2 ∧
    (Builtin.append_ #[39, 39] 39 #[.slice a2 (i + 1) c2, hi]).run Tryd.prog w2 = .ok (.slice a3 (n + 1) c3) w3 ∧ Below W.heap.size W w1 ∧ Below W.heap.size W w2 ∧ Below W.heap.size W w3 ∧ OwnK w3 o3 t 5 (.slice a3 (n + 1) c3) (n + 1) cs ∧ ∀ U, Fr U o o3 W w3
theorem ins_fin {W V : World} {q p : Nat → Nat × Nat} (o : Nat → Nat × Nat) (t : Nat × Nat) (qn : ∀ b, q b ≠ (7, 7)) (F : Fr (fun t => t = (7, 7)) q p W V) {v ev hi : Value} {i n : Nat} {csl csh el : List Value} (hi1 : i ≤ n) (hn : n ≤ 1000000) (hv : OwnK V p (7, 7) 5 v i csl) (he : OwnK V p (8, 8) 5 ev 1 el)
    (hh : ∀ p V, Fr (fun t => t = (7, 7)) q p W V → Src Tryd.prog 5 39 hi (n - i) csh V) :
    ∃ a2 c2 w2 a3 c3 w3 o3, (Builtin.append_ #[39, 39] 39 #[v, ev]).run Tryd.prog V = .ok (.slice a2 (i + 1) c2) w2 ∧ (Builtin.append_ #[39, 39] 39 #[.slice a2 (i + 1) c2, hi]).run Tryd.prog w2 = .ok (.slice a3 (n + 1) c3) w3 ∧
      Below W.heap.size W w2 ∧ Below W.heap.size W w3 ∧ OwnK w3 o3 t 5 (.slice a3 (n + 1) c3) (n + 1) (csl ++ el ++ csh) ∧ ∀ U, Fr U o o3 W w3 := by
  have bl : ∀ {p V}, Fr (fun t => t = (7, 7)) q p W V → Below W.heap.size W V := fun f => f.below (Nat.le_refl _) (fun b _ => qn b)
  obtain ⟨a2, c2, w2, p2, r2, O2, F2, _⟩ := ins_app F hv (he.src under39) (by omega)
  obtain ⟨a3, c3, w3, p3, r3, O3, F3, _⟩ := ins_app F2 O2 (hh _ _ F2) (by omega)
  rw [show i + 1 + (n - i) = n + 1 by omega] at r3 O3
  obtain ⟨o3, hO, hF⟩ := own_fresh (o := o) (t := t) O3 (fun b hb => by rw [F3.lab b hb]; exact qn b) (bl F3)
  exact ⟨a2, c2, w2, a3, c3, w3, o3, r2, r3, bl F2, bl F3, hO, hF⟩
theorem ins_all {W : World} (o : Nat → Nat × Nat) (t : Nat × Nat) {q : Nat → Nat × Nat} (qn : ∀ b, q b ≠ (7, 7)) {lo hi : Value} {i n : Nat} {csl csh : List Value} (el : List Value) (hel : el.length = 5) (hel1 : ∀ u ∈ el, u.oneCell' = true) (hi1 : i ≤ n) (hn : n ≤ 1000000)
    (hl : ∀ p V, Fr (fun t => t = (7, 7)) q p W V → Src Tryd.prog 5 39 lo i csl V) (hh : ∀ p V, Fr (fun t => t = (7, 7)) q p W V → Src Tryd.prog 5 39 hi (n - i) csh V) :
    Ins W ((W.alloc (.cells #[] 49)).alloc (.cells el.toArray 49)) o t (.slice (some ⟨W.heap.size, 0, none⟩) 0 0) lo hi i n (csl ++ el ++ csh) (fun w => w) (fun _ => W.heap.size + 1) ∧
    Ins W (W.alloc (.cells #[] 49)) o t (.slice (some ⟨W.heap.size, 0, none⟩) 0 0) lo hi i n (csl ++ el ++ csh) (fun w => w.alloc (.cells el.toArray 49)) (fun w => w.heap.size) ∧
    Ins W ((W.alloc (.cells el.toArray 49)).alloc (.cells #[] 49)) o t (.slice (some ⟨W.heap.size + 1, 0, none⟩) 0 0) lo hi i n (csl ++ el ++ csh) (fun w => w) (fun _ => W.heap.size) := by
  have bl : ∀ {p V}, Fr (fun t => t = (7, 7)) q p W V → Below W.heap.size W V := fun f => f.below (Nat.le_refl _) (fun b _ => qn b)
  have eN : ∀ (p : Nat → Nat × Nat) (V : World), OwnK (V.alloc (.cells #[] 49)) (lab p V.heap.size (7, 7)) (7, 7) 5 (.slice (some ⟨V.heap.size, 0, none⟩) 0 0) 0 [] := fun p V => by
    have := own_new (w := V) (o := p) (t := (7, 7)) (k := 5) (n := 0) (cap := 0) (e := 49) [] #[] (by simp) (fun _ h => by cases h) (Nat.le_refl _) (by unfold maxLen; omega) (by simp)
    simpa using this
  have eE : ∀ (p : Nat → Nat × Nat) (V : World), OwnK (V.alloc (.cells el.toArray 49)) (lab p V.heap.size (8, 8)) (8, 8) 5 (.slice (some ⟨V.heap.size, 0, none⟩) 1 1) 1 el := fun p V => by
    have := own_new (w := V) (o := p) (t := (8, 8)) (k := 5) (n := 1) (cap := 1) (e := 49) el #[] (by simp [hel]) hel1 (Nat.le_refl _) (by unfold maxLen; omega) (by simp)
    simpa using this
  have nn : ∀ (p : Nat → Nat × Nat) (V : World) (ob : Obj) (m : Nat × Nat), Fr (fun t => t = (7, 7)) p (lab p V.heap.size m) V (V.alloc ob) := fun p V ob m => Fr.new _ p V ob m
  refine ⟨?_, ?_, ?_⟩
  · have f1 := nn q W (.cells #[] 49) (7, 7)
    have f2 := nn (lab q W.heap.size (7, 7)) (W.alloc (.cells #[] 49)) (.cells el.toArray 49) (8, 8)
    have h1 := (eN q W).fr (T := fun t => t = (8, 8)) (Fr.new _ _ _ (.cells el.toArray 49) (8, 8)) (fun e => by cases e)
    obtain ⟨a1, c1, w1, p1, r1, O1, F1, G1⟩ := ins_app (f1.trans f2) h1 (hl _ _ (f1.trans f2)) (by omega)
    have h2 := (eE (lab q W.heap.size (7, 7)) (W.alloc (.cells #[] 49))).fr G1 (fun e => by cases e)
    rw [Nat.zero_add] at r1 O1
    rw [List.nil_append] at O1
    rw [World.size_alloc] at h2
    obtain ⟨a2, c2, w2, a3, c3, w3, o3, r2, r3, B2, B3, hO, hF⟩ := ins_fin o t qn F1 hi1 hn O1 h2 hh
    exact ⟨a1, c1, w1, a2, c2, w2, a3, c3, w3, o3, r1, r2, r3, bl F1, B2, B3, hO, hF⟩
  · have f1 := nn q W (.cells #[] 49) (7, 7)
    obtain ⟨a1, c1, w1, p1, r1, O1, F1, G1⟩ := ins_app f1 (eN q W) (hl _ _ f1) (by omega)
    rw [Nat.zero_add] at r1 O1
    rw [List.nil_append] at O1
    have f2 := F1.trans (nn p1 w1 (.cells el.toArray 49) (8, 8))
    have h1 := O1.fr (T := fun t => t = (8, 8)) (Fr.new _ _ _ (.cells el.toArray 49) (8, 8)) (fun e => by cases e)
    obtain ⟨a2, c2, w2, a3, c3, w3, o3, r2, r3, B2, B3, hO, hF⟩ := ins_fin o t qn f2 hi1 hn h1 (eE p1 w1) hh
    exact ⟨a1, c1, w1, a2, c2, w2, a3, c3, w3, o3, r1, r2, r3, bl F1, B2, B3, hO, hF⟩
  · have f1 := nn q W (.cells el.toArray 49) (8, 8)
    have f2 := nn (lab q W.heap.size (8, 8)) (W.alloc (.cells el.toArray 49)) (.cells #[] 49) (7, 7)
    have h0 := eN (lab q W.heap.size (8, 8)) (W.alloc (.cells el.toArray 49))
    obtain ⟨a1, c1, w1, p1, r1, O1, F1, G1⟩ := ins_app (f1.trans f2) h0 (hl _ _ (f1.trans f2)) (by omega)
    have h2 := ((eE q W).fr f2 (fun e => by cases e)).fr G1 (fun e => by cases e)
    rw [Nat.zero_add] at r1 O1
    rw [List.nil_append] at O1
    rw [World.size_alloc] at r1
    obtain ⟨a2, c2, w2, a3, c3, w3, o3, r2, r3, B2, B3, hO, hF⟩ := ins_fin o t qn F1 hi1 hn O1 h2 hh
    exact ⟨a1, c1, w1, a2, c2, w2, a3, c3, w3, o3, r1, r2, r3, bl F1, B2, B3, hO, hF⟩
/-- A list of the owner's, cut at a place: the two parts, as what is appended. -/
theorem ins_parts {W : World} {o : Nat → Nat × Nat} {t : Nat × Nat} {n g cap i : Nat} {cs : List Value} (h : OwnK W o t 5 (.slice (some ⟨g, 0, none⟩) n cap) n cs) (hi : i ≤ n) :
    ∃ q : Nat → Nat × Nat, (∀ b, q b ≠ (7, 7)) ∧ (∀ p V, Fr (fun t => t = (7, 7)) q p W V → Src Tryd.prog 5 39 (.slice (some ⟨g, 0, none⟩) i cap) i (cs.take (i * 5)) V) ∧ ∀ p V, Fr (fun t => t = (7, 7)) q p W V → Src Tryd.prog 5 39 (.slice (some (cutA g i cap 5)) (n - i) (cap - i)) (n - i) (cs.drop (i * 5)) V := by
  obtain ⟨q, hq⟩ : ∃ q : (Nat → Nat × Nat), q = lab (fun _ => (5, 5)) g (6, 6) := ⟨_, rfl⟩
  have qg : q g = (6, 6) := by rw [hq]; exact lab_same _ _ _
  have qn : ∀ b, q b ≠ (7, 7) := fun b e => by
    rw [hq] at e
    by_cases hbg : b = g
    · subst hbg; rw [lab_same] at e; cases e
    · rw [lab_other _ _ _ hbg] at e; cases e
  have h0 := h.mark (o' := q) qg
  exact ⟨q, qn, fun p V f => ((h0.fr f (fun e => by cases e)).cut i hi).src under39, fun p V f => src_drop under39 (h0.fr f (fun e => by cases e)) i hi⟩
end Go.Proofs.YtpkmfckifnomeaaDoor


namespace Go.Proofs.YtpkmfckifnomeaaDoor
open Go.RowKit
section
variable {P : Program} {ops : Array Oper} {Q : Exit → Act → World → Prop} {md : Region.Mode} {S : World → Prop} {z : Nat}
/-- Any order from here on; S behind each operation but z. -/
def AnyZ (P : Program) (md : Region.Mode) (ops : Array Oper) (Q : Exit → Act → World → Prop) (S : World → Prop) (z : Nat) : Nat → Array Bool → Act → World → Prop
  | 0, listed, a, w => Region.ready md ops listed = [] ∧ Q .normal a w
  | n + 1, listed, a, w => (Region.ready md ops listed = [] → Q .normal a w) ∧
    ∀ i ∈ Region.ready md ops listed, wpOp P ops Q i (fun a' w' => (i ≠ z → S w') ∧ AnyZ P md ops Q S z n (listed.setIfInBounds i true) a' w') a w
theorem AnyZ.any : ∀ (n : Nat) (listed : Array Bool) (a : Act) (w : World), AnyZ P md ops Q S z n listed a w → wpAny P md ops Q n listed a w
  | 0, _, _, _, h => h
  | n + 1, _, _, _, h => ⟨h.1, fun i hi => wpOp_mono (fun a' w' h' => AnyZ.any n _ a' w' h'.2) (h.2 i hi)⟩
/-- The number z waits for i. -/
def Waits (md : Region.Mode) (ops : Array Oper) (z i : Nat) : Bool := (ops[z]?).any fun o => o.after.any fun e => Region.binds md e && e.on == i
theorem Waits.spec {i : Nat} (h : Waits md ops z i = true) : ∃ o, ops[z]? = some o ∧ ∃ e ∈ o.after, Region.binds md e = true ∧ e.on = i := by
  unfold Waits at h
  cases ho : ops[z]? with
  | none => rw [ho] at h; cases h
  | some o =>
    rw [ho] at h
    obtain ⟨e, he, hb⟩ := Array.any_eq_true'.1 h
    rw [Bool.and_eq_true, beq_iff_eq] at hb
    exact ⟨o, rfl, e, he, hb⟩
theorem unlisted {listed : Array Bool} {i : Nat} (h0 : listed.getD i true = false) (h1 : listed.getD i false = true) : False := by
  rcases Nat.lt_or_ge i listed.size with h' | h'
  · simp [h'] at h0 h1; rw [h0] at h1; cases h1
  · simp [Array.getElem?_eq_none h'] at h1
theorem AnyZ.first {i : Nat} {oi : Oper} {v : Value} (hi : ops[i]? = some oi) (hsel : ∀ (j : Nat) (o : Oper) cs b, ops[j]? = some o → o.op ≠ .select cs b)
    (hQ : ∀ c a w, Q (.panic c) (a.put oi.dst v) w → Q (.panic c) a w) (hz : Waits md ops z i = true) :
    ∀ (n : Nat) (listed : Array Bool) (a : Act) (w : World),
      (∀ j oj, ops[j]? = some oj → j ≠ i → listed.getD j true = false → (∀ e ∈ oj.after, Region.binds md e = true → e.on ≠ i) → oi.apart ops oj = true) →
      i ∈ Region.ready md ops listed → YieldsIf P ops S oi v a → S w →
      AnyZ P md ops Q S z n (listed.setIfInBounds i true) (a.put oi.dst v) w → AnyZ P md ops Q S z (n + 1) listed a w := by
  intro n
  induction n with
  | zero =>
    intro listed a w _ hr hy hS H
    refine ⟨fun h => (by rw [h] at hr; cases hr), fun j hj => ?_⟩
    by_cases e : j = i
    · subst e; exact hy.wpOp hi hS ⟨fun _ => hS, H⟩
    · have h1 := ready_mono hj e
      rw [H.1] at h1; cases h1
  | succ n ih =>
    intro listed a w hfree hr hy hS H
    refine ⟨fun h => (by rw [h] at hr; cases hr), fun j hj => ?_⟩
    by_cases e : j = i
    · subst e; exact hy.wpOp hi hS ⟨fun _ => hS, H⟩
    obtain ⟨hjun, oj, hoj, hall⟩ := mem_ready.1 hj
    have hun := (mem_ready.1 hr).1
    have hjz : j ≠ z := fun ejz => by
      obtain ⟨o, h1, e2, h2, h3, h4⟩ := Waits.spec hz
      rw [← ejz, hoj] at h1
      injection h1 with h1; subst h1
      have := hall e2 h2 h3
      rw [h4] at this
      exact unlisted hun this
    have hnot : ∀ e ∈ oj.after, Region.binds md e = true → e.on ≠ i := fun e he hb h4 => by
      have := hall e he hb
      rw [h4] at this
      exact unlisted hun this
    have h2 := wpOp_putIf hoj (hfree j oj hoj e hjun hnot) (fun cs b => hsel i oi cs b hi) (fun cs b => hsel j oj cs b hoj) hQ hy (H.2 j (ready_mono hj e))
    refine wpOp_mono (fun a' w' h3 => ⟨h3.2.1, ih (listed.setIfInBounds j true) a' w' (fun k ok hk hki hku hno => ?_) (ready_mono hr (Ne.symm e)) h3.1 (h3.2.1 hjz) ?_⟩) h2
    · refine hfree k ok hk hki ?_ hno
      by_cases hjk : j = k
      · subst hjk; exact hjun
      · rw [getD_set_ne true hjk] at hku; exact hku
    · rw [Array.setIfInBounds_comm _ _ e]
      exact h3.2.2
theorem AnyZ.take {i : Nat} {oi : Oper} {v : Value} {n : Nat} {listed : Array Bool} {a : Act} {w : World} (hi : ops[i]? = some oi)
    (hs : Region.noSelect ops = true) (hf : Region.free md ops listed i = true) (hr : (Region.ready md ops listed).contains i = true) (hz : Waits md ops z i = true)
    (hQ : ∀ c a w, Q (.panic c) (a.put oi.dst v) w → Q (.panic c) a w) (hy : YieldsIf P ops S oi v a) (hS : S w)
    (h : AnyZ P md ops Q S z n (listed.setIfInBounds i true) (a.put oi.dst v) w) : AnyZ P md ops Q S z (n + 1) listed a w :=
  AnyZ.first hi (Region.noSelect_spec hs) hQ hz n listed a w (Region.free_spec hi hf) (by simpa using hr) hy hS h
theorem AnyZ.one {i : Nat} {o : Oper} {n : Nat} {listed : Array Bool} {a : Act} {w : World} (hr : Region.ready md ops listed = [i]) (ho : ops[i]? = some o)
    (h : ∀ K' : Act → World → Prop, (∀ a w, (i ≠ z → S w) → AnyZ P md ops Q S z n (listed.setIfInBounds i true) a w → K' a w) → if Region.wanted o (yielded ops a.tmps) = true then Oper.wp P o a w K' Q else K' (a.put o.dst undef) w) :
    AnyZ P md ops Q S z (n + 1) listed a w :=
  ⟨fun h0 => (by rw [hr] at h0; cases h0), fun j hj => by
    rw [hr, List.mem_singleton] at hj
    subst hj
    exact wpOp_step ho (fun K' hK => h K' (fun a w h1 h2 => hK a w ⟨h1, h2⟩))⟩
theorem AnyZ.two {i j : Nat} {o p : Oper} {n : Nat} {listed : Array Bool} {a : Act} {w : World} (hr : Region.ready md ops listed = [i, j]) (ho : ops[i]? = some o) (hp : ops[j]? = some p)
    (h : ∀ K' : Act → World → Prop, (∀ a w, (i ≠ z → S w) → AnyZ P md ops Q S z n (listed.setIfInBounds i true) a w → K' a w) → if Region.wanted o (yielded ops a.tmps) = true then Oper.wp P o a w K' Q else K' (a.put o.dst undef) w)
    (k : ∀ K' : Act → World → Prop, (∀ a w, (j ≠ z → S w) → AnyZ P md ops Q S z n (listed.setIfInBounds j true) a w → K' a w) → if Region.wanted p (yielded ops a.tmps) = true then Oper.wp P p a w K' Q else K' (a.put p.dst undef) w) :
    AnyZ P md ops Q S z (n + 1) listed a w :=
  ⟨fun h0 => (by rw [hr] at h0; cases h0), fun m hm => by
    rw [hr, List.mem_cons, List.mem_singleton] at hm
    rcases hm with rfl | rfl
    · exact wpOp_step ho (fun K' hK => h K' (fun a w h1 h2 => hK a w ⟨h1, h2⟩))
    · exact wpOp_step hp (fun K' hK => k K' (fun a w h1 h2 => hK a w ⟨h1, h2⟩))⟩
theorem AnyZ.done {listed : Array Bool} {a : Act} {w : World} (hr : Region.ready md ops listed = []) (h : Q .normal a w) : ∀ n, AnyZ P md ops Q S z n listed a w
  | 0 => ⟨hr, h⟩
  | _ + 1 => ⟨fun _ => h, by rw [hr]; simp⟩
theorem AnyZ.region {id : Nat} {a : Act} {w W : World} (hm : P.follows .mixedOrders = true) (hW : W = w.drew)
    (h : AnyZ P .any ops Q S z ops.size (Array.replicate ops.size false) a W) : (Code.region id ops true).wp P Q a w := by
  subst hW
  exact wp_region_any hm (AnyZ.any _ _ _ _ h)
end
end Go.Proofs.YtpkmfckifnomeaaDoor


namespace Go.Proofs.YtpkmfckifnomeaaDoor
open Go.RowKit
/-- A list cut at a place: the two slices that are taken, and what they are to append. -/
theorem cut_any {W : World} {o : Nat → Nat × Nat} {t : Nat × Nat} {a : Option Addr} {n c i : Nat} {cs : List Value} (h : OwnK W o t 5 (.slice a n c) n cs) (hi : i ≤ n) :
    ∃ (lo hh : Value) (q : Nat → Nat × Nat), (∀ b, q b ≠ (7, 7)) ∧ (∀ p V, Fr (fun t => t = (7, 7)) q p W V → Src Tryd.prog 5 39 lo i (cs.take (i * 5)) V) ∧ (∀ p V, Fr (fun t => t = (7, 7)) q p W V → Src Tryd.prog 5 39 hh (n - i) (cs.drop (i * 5)) V) ∧
      (∀ w, (Instr.sliceAt 39 (.slice a n c) none (some (.int .i64 (i : Int))) none).run Tryd.prog w = .ok lo w) ∧ ∀ w, (Instr.sliceAt 39 (.slice a n c) (some (.int .i64 (i : Int))) none none).run Tryd.prog w = .ok hh w := by
  have hh := h
  obtain ⟨hl, h1, h2⟩ := h
  rcases h2 with ⟨e, e2⟩ | ⟨g, cap, e, h3, h4, h5, h6, h7⟩
  · injection e with e1 e3 e4
    subst e1 e3 e4
    have hi0 : i = 0 := by omega
    subst hi0
    have hc : cs = [] := List.eq_nil_of_length_eq_zero (by omega)
    subst hc
    have qn : ∀ b : Nat, (fun _ => ((5, 5) : Nat × Nat)) b ≠ (7, 7) := fun b => by show ((5, 5) : Nat × Nat) ≠ (7, 7); decide
    refine ⟨.slice none 0 0, .slice none 0 0, fun _ => (5, 5), qn, fun p V _ => Src.ofNil V under39 0, fun p V _ => Src.ofNil V under39 0, fun w => ?_, fun w => ?_⟩
    · rw [run_sliceAt_slice _ _ _ _ _ _ elem39]
      go_simp
    · rw [run_sliceAt_slice _ _ _ _ _ _ elem39]
      go_simp
  · injection e with e1 e3 e4
    subst e1 e4
    obtain ⟨q, qn, s1, s2⟩ := ins_parts hh hi
    exact ⟨_, _, q, qn, s1, s2, slice_hiT 39 49 5 elem39 elem39' size49' g n c i (by omega), slice_loT 39 49 5 elem39 elem39' size49' g n c i hi⟩
set_option maxHeartbeats 1000000 in
set_option maxRecDepth 1000000 in
theorem rset_any (x : Nat) (hx : x ≠ 0) {o : Nat → Nat × Nat} {b : Nat} {l : List En} (hs : Srt l) (hl : l.length ≤ 900000) (e : En) (w : World) (h : IsR w o x b l) :
    Calls Tryd.prog 29 #[.pointer (some ⟨b, 0, none⟩), .agg e.cs.toArray] w fun e1 w' => e1 = .returned (.tuple #[]) ∧ ∃ o', IsR w' o' x b (put e l) ∧ Fr (·.1 = x) o o' w w' := by
  obtain ⟨B, hB⟩ : ∃ B, B = w.heap.size := ⟨_, rfl⟩
  obtain ⟨o1, ho1⟩ : ∃ o1, o1 = lab o B (0, 1) := ⟨_, rfl⟩
  obtain ⟨w0, hw0⟩ : ∃ w0, w0 = w.alloc (.cells e.cs.toArray 49) := ⟨_, rfl⟩
  have F0 : ∀ T, Fr T o o1 w w0 := fun T => by rw [hw0, ho1, hB]; exact Fr.new _ o w _ _
  have oB : o1 B = (0, 1) := by rw [ho1]; exact lab_same _ _ _
  have cB : ∀ j u, e.cs[j]? = some u → w0.cell? ⟨B, j, none⟩ = some u := fun j u hu => by rw [hw0, hB, World.cell?_alloc_new, List.getElem?_toArray]; exact hu
  have I0 := h.fr (F0 (fun _ => False)) id id
  have k0 : w0.cell? ⟨B, 0, none⟩ = some (.string e.key) := cB 0 _ rfl
  have FC := Lib.hid (rforget_any x hs (by omega) e.key w0 I0)
  have HG := Lib.hid (And.intro F0 (And.intro oB cB))
  have hdl : (del (L e.key) l).length ≤ 900000 := Nat.le_trans (List.length_filter_le _ _) hl
  clear h F0 oB cB I0 ho1 hs hl
  obtain ⟨key, fl, dl, val, cas⟩ := e
  simp only [En.cs] at hw0 k0 FC ⊢
  go_enter Tryd.func29, Tryd.ntmps29
  rw [hw0] at FC k0
  rw [hB] at k0
  go_wp2_with fail
  refine FC.out.mono ?_
  rintro e1 w1 ⟨rfl, o2, I1, F1⟩
  clear FC k0
  obtain ⟨F0, oB, cB⟩ := HG.out
  rw [← hw0] at F1
  have fB : ∀ j u, (En.mk key fl dl val cas).cs[j]? = some u → w1.cell? ⟨w.heap.size, j, none⟩ = some u := fun j u hu => by rw [← hB]; exact F1.cell (cB j u hu) (by rw [oB]; exact fun e => hx e.symm)
  obtain ⟨a, c, hc, hO⟩ := I1.li
  obtain ⟨n, hn⟩ : ∃ n, n = (del (L key) l).length := ⟨_, rfl⟩
  obtain ⟨i, hi⟩ : ∃ i, i = pos (L key) (del (L key) l) := ⟨_, rfl⟩
  have hin : i ≤ n := by rw [hi, hn]; exact pos_le _ _
  have c0 := fB 0 _ rfl
  have c1 := fB 1 _ rfl
  have c2 := fB 2 _ rfl
  have c3 := fB 3 _ rfl
  have c4 := fB 4 _ rfl
  have AC := rat_any x (by omega) key 0 w1 I1
  rw [← hi] at AC
  rw [← hn] at hc hO hdl
  have HA := Lib.hid AC
  have HP : put ⟨key, fl, dl, val, cas⟩ l = (del (L key) l).take i ++ (En.mk key fl dl val cas) :: (del (L key) l).drop i := by
    rw [hi]
    exact ins_pos ⟨key, fl, dl, val, cas⟩ (del (L key) l) (fun y hy => by have := (List.mem_filter.1 hy).2; simpa using this)
  have HL : n + 1 = (put ⟨key, fl, dl, val, cas⟩ l).length := by rw [HP, List.length_append, List.length_cons, List.length_take, List.length_drop, ← hn]; omega
  have HE : ecs (put ⟨key, fl, dl, val, cas⟩ l) = (ecs (del (L key) l)).take (i * 5) ++ (En.mk key fl dl val cas).cs ++ (ecs (del (L key) l)).drop (i * 5) := by
    rw [HP, ecs_app, ecs_take, ecs_drop, List.append_assoc]; rfl
  have FI := (F0 (·.1 = x)).trans F1
  -- the world of the region
  obtain ⟨W, hW⟩ : ∃ W, W = w1.drew := ⟨_, rfl⟩
  have FW : ∀ T, Fr T o2 o2 w1 W := fun T => by rw [hW]; exact Fr.drew1 T o2 w1
  have hOW := hO.fr (FW (fun _ => False)) id
  obtain ⟨lo, hh, q, qn, s1, s2, sl1, sl2⟩ := cut_any hOW hin
  obtain ⟨⟨a1, b1, w2, a2, b2, w3, a3, b3, w4, o4, rA1, rA2, rA3, BA1, BA2, BA3, OA, FA⟩, ⟨a5, b5, w6, a6, b6, w7, a7, b7, w8, o8, rB1, rB2, rB3, BB1, BB2, BB3, OB, FB⟩, ⟨a9, b9, v6, a10, b10, v7, a11, b11, v8, u8, rC1, rC2, rC3, BC1, BC2, BC3, OC, FC⟩⟩ :=
    ins_all o2 (x, 1) qn (En.mk key fl dl val cas).cs rfl (En.one _) hin (by omega) s1 s2
  have ZA := IsR.set I1 ((FW _).trans (FA _)) HL (by rw [HE]; exact OA)
  have ZB := IsR.set I1 ((FW _).trans (FB _)) HL (by rw [HE]; exact OB)
  have ZC := IsR.set I1 ((FW _).trans (FC _)) HL (by rw [HE]; exact OC)
  have YA := Lib.hid (And.intro ZA.1 (FI.trans ZA.2))
  have YB := Lib.hid (And.intro ZB.1 (FI.trans ZB.2))
  have YC := Lib.hid (And.intro ZC.1 (FI.trans ZC.2))
  have hbl := I1.lt
  have fz := I1.fz
  have KS : ∀ V : World, Below W.heap.size W V → (V.cell? ⟨b, 0, none⟩ = some (.slice a n c) ∧ V.cell? ⟨w.heap.size, 0, none⟩ = some (.string key) ∧ V.cell? ⟨w.heap.size, 1, none⟩ = some (.int .i64 fl) ∧ V.cell? ⟨w.heap.size, 2, none⟩ = some (.int .i64 dl) ∧ V.cell? ⟨w.heap.size, 3, none⟩ = some (.string val) ∧ V.cell? ⟨w.heap.size, 4, none⟩ = some (.int .i64 cas)) ∧ V.frozen? ⟨b, 0, none⟩ = false := fun V hV => by
    have hV' : Below w1.heap.size w1 V := Below.trans ((FW (fun _ => False)).below (Nat.le_refl _) (fun _ _ => id)) (hV.mono (FW (fun _ => False)).size)
    exact ⟨⟨cell_up hV' hc, cell_up hV' c0, cell_up hV' c1, cell_up hV' c2, cell_up hV' c3, cell_up hV' c4⟩, ((Fr.ofBelow (fun _ => False) o0 hV').frozen (off := 0) hbl id).trans fz⟩
  have DA := (KS _ BA3).1.1
  have DB := (KS _ BB3).1.1
  have DC := (KS _ BC3).1.1
  have zA := (KS _ BA3).2
  have zB := (KS _ BB3).2
  have zC := (KS _ BC3).2
  have KS' := Lib.hid (fun V h => (KS V h).1)
  have hA := Lib.hid (And.intro BA1 (And.intro BA2 BA3))
  have hB2 := Lib.hid (And.intro BB1 (And.intro BB2 BB3))
  have hC := Lib.hid (And.intro BC1 (And.intro BC2 BC3))
  have HW := Lib.hid hW
  simp only [En.cs] at rA1 rA2 rB2 rC1 rC2
  clear HP HL HE KS ZA ZB ZC I1 FI FA FB FC OA OB OC BA1 BA2 BA3 BB1 BB2 BB3 BC1 BC2 BC3 s1 s2 qn hOW FW hbl hn hi HG hw0 hW hO AC F0 oB cB F1 fB fz hB
  go_wp2_with fail
  refine HA.out.mono ?_
  rintro e1 w9 ⟨rfl, rfl⟩
  clear HA
  go_wp2_with fail
  have A1 : Below W.heap.size W (W.alloc (.cells #[] 49)) := (Below.refl _ _).alloc (Nat.le_refl _) _
  have A2 : Below W.heap.size W (W.alloc (.cells #[Value.string key, .int .i64 fl, .int .i64 dl, .string val, .int .i64 cas] 49)) := (Below.refl _ _).alloc (Nat.le_refl _) _
  have A3 : Below W.heap.size W ((W.alloc (.cells #[] 49)).alloc (.cells #[Value.string key, .int .i64 fl, .int .i64 dl, .string val, .int .i64 cas] 49)) := A1.alloc (by simp) _
  have A4 : Below W.heap.size W ((W.alloc (.cells #[Value.string key, .int .i64 fl, .int .i64 dl, .string val, .int .i64 cas] 49)).alloc (.cells #[] 49)) := A2.alloc (by simp) _
  refine AnyZ.region (S := fun V => V.cell? ⟨b, 0, none⟩ = some (.slice a n c) ∧ V.cell? ⟨w.heap.size, 0, none⟩ = some (.string key) ∧ V.cell? ⟨w.heap.size, 1, none⟩ = some (.int .i64 fl) ∧ V.cell? ⟨w.heap.size, 2, none⟩ = some (.int .i64 dl) ∧ V.cell? ⟨w.heap.size, 3, none⟩ = some (.string val) ∧ V.cell? ⟨w.heap.size, 4, none⟩ = some (.int .i64 cas)) (z := 21) (by kernel_rfl) HW.out ?_
  have hS0 := KS'.out W (Below.refl _ _)
  refine AnyZ.take (i := 0) (v := (.pointer (some ⟨b, 0, none⟩))) rfl (by kernel_rfl) (by kernel_rfl) (by kernel_rfl) (by kernel_rfl) (fun _ _ _ h => h) (Or.inl ⟨by kernel_rfl, by intro V hV; obtain ⟨d0, d1, d2, d3, d4, d5⟩ := hV; go_simp⟩) hS0 ?_
  refine AnyZ.take (i := 2) (v := (.pointer (some ⟨b, 0, none⟩))) rfl (by kernel_rfl) (by kernel_rfl) (by kernel_rfl) (by kernel_rfl) (fun _ _ _ h => h) (Or.inl ⟨by kernel_rfl, by intro V hV; obtain ⟨d0, d1, d2, d3, d4, d5⟩ := hV; go_simp⟩) hS0 ?_
  refine AnyZ.take (i := 3) (v := (.pointer (some ⟨b, 0, none⟩))) rfl (by kernel_rfl) (by kernel_rfl) (by kernel_rfl) (by kernel_rfl) (fun _ _ _ h => h) (Or.inl ⟨by kernel_rfl, by intro V hV; obtain ⟨d0, d1, d2, d3, d4, d5⟩ := hV; go_simp⟩) hS0 ?_
  refine AnyZ.take (i := 4) (v := (.pointer (some ⟨b, 0, none⟩))) rfl (by kernel_rfl) (by kernel_rfl) (by kernel_rfl) (by kernel_rfl) (fun _ _ _ h => h) (Or.inl ⟨by kernel_rfl, by intro V hV; obtain ⟨d0, d1, d2, d3, d4, d5⟩ := hV; go_simp⟩) hS0 ?_
  refine AnyZ.take (i := 5) (v := (.slice a n c)) rfl (by kernel_rfl) (by kernel_rfl) (by kernel_rfl) (by kernel_rfl) (fun _ _ _ h => h) (Or.inl ⟨by kernel_rfl, by intro V hV; obtain ⟨d0, d1, d2, d3, d4, d5⟩ := hV; go_simp⟩) hS0 ?_
  refine AnyZ.take (i := 6) (v := (.int .i64 (i : Int))) rfl (by kernel_rfl) (by kernel_rfl) (by kernel_rfl) (by kernel_rfl) (fun _ _ _ h => h) (Or.inl ⟨by kernel_rfl, by intro V hV; obtain ⟨d0, d1, d2, d3, d4, d5⟩ := hV; go_simp⟩) hS0 ?_
  refine AnyZ.take (i := 7) (v := lo) rfl (by kernel_rfl) (by kernel_rfl) (by kernel_rfl) (by kernel_rfl) (fun _ _ _ h => h) (Or.inl ⟨by kernel_rfl, by intro V hV; obtain ⟨d0, d1, d2, d3, d4, d5⟩ := hV; go_simp⟩) hS0 ?_
  refine AnyZ.take (i := 9) (v := (.agg #[Value.string key, .int .i64 fl, .int .i64 dl, .string val, .int .i64 cas])) rfl (by kernel_rfl) (by kernel_rfl) (by kernel_rfl) (by kernel_rfl) (fun _ _ _ h => h) (Or.inl ⟨by kernel_rfl, by intro V hV; obtain ⟨d0, d1, d2, d3, d4, d5⟩ := hV; go_simp⟩) hS0 ?_
  refine AnyZ.take (i := 12) (v := (.pointer (some ⟨b, 0, none⟩))) rfl (by kernel_rfl) (by kernel_rfl) (by kernel_rfl) (by kernel_rfl) (fun _ _ _ h => h) (Or.inl ⟨by kernel_rfl, by intro V hV; obtain ⟨d0, d1, d2, d3, d4, d5⟩ := hV; go_simp⟩) hS0 ?_
  refine AnyZ.take (i := 13) (v := (.pointer (some ⟨b, 0, none⟩))) rfl (by kernel_rfl) (by kernel_rfl) (by kernel_rfl) (by kernel_rfl) (fun _ _ _ h => h) (Or.inl ⟨by kernel_rfl, by intro V hV; obtain ⟨d0, d1, d2, d3, d4, d5⟩ := hV; go_simp⟩) hS0 ?_
  refine AnyZ.take (i := 14) (v := (.pointer (some ⟨b, 0, none⟩))) rfl (by kernel_rfl) (by kernel_rfl) (by kernel_rfl) (by kernel_rfl) (fun _ _ _ h => h) (Or.inl ⟨by kernel_rfl, by intro V hV; obtain ⟨d0, d1, d2, d3, d4, d5⟩ := hV; go_simp⟩) hS0 ?_
  refine AnyZ.take (i := 15) (v := (.slice a n c)) rfl (by kernel_rfl) (by kernel_rfl) (by kernel_rfl) (by kernel_rfl) (fun _ _ _ h => h) (Or.inl ⟨by kernel_rfl, by intro V hV; obtain ⟨d0, d1, d2, d3, d4, d5⟩ := hV; go_simp⟩) hS0 ?_
  refine AnyZ.take (i := 16) (v := (.int .i64 (i : Int))) rfl (by kernel_rfl) (by kernel_rfl) (by kernel_rfl) (by kernel_rfl) (fun _ _ _ h => h) (Or.inl ⟨by kernel_rfl, by intro V hV; obtain ⟨d0, d1, d2, d3, d4, d5⟩ := hV; go_simp⟩) hS0 ?_
  refine AnyZ.take (i := 17) (v := hh) rfl (by kernel_rfl) (by kernel_rfl) (by kernel_rfl) (by kernel_rfl) (fun _ _ _ h => h) (Or.inl ⟨by kernel_rfl, by intro V hV; obtain ⟨d0, d1, d2, d3, d4, d5⟩ := hV; go_simp⟩) hS0 ?_
  refine AnyZ.two (i := 1) (j := 10) (by kernel_rfl) rfl rfl (fun K hK => ?_) (fun K hK => ?_)
  ·
    go_simp
    refine hK _ _ (fun _ => KS'.out _ (A1)) ?_
    refine AnyZ.two (i := 8) (j := 10) (by kernel_rfl) rfl rfl (fun K hK => ?_) (fun K hK => ?_)
    ·
      refine step_app4 rB1 (.tmp 18) (.tmp 24) (by with_reducible rfl) (by rfl) (by rfl) (by rfl) (by rfl) (by rfl) ?_
      refine hK _ _ (fun _ => KS'.out _ (hB2.out.1)) ?_
      refine AnyZ.one (i := 10) (by kernel_rfl) rfl (fun K hK => ?_)
      go_simp
      refine hK _ _ (fun _ => KS'.out _ (hB2.out.1.alloc hB2.out.1.size _)) ?_
      refine AnyZ.one (i := 11) (by kernel_rfl) rfl (fun K hK => ?_)
      refine step_app4 rB2 (.tmp 25) (.tmp 27) (by with_reducible rfl) (by rfl) (by rfl) (by rfl) (by rfl) (by rfl) ?_
      refine hK _ _ (fun _ => KS'.out _ (hB2.out.2.1)) ?_
      refine AnyZ.one (i := 18) (by kernel_rfl) rfl (fun K hK => ?_)
      refine step_app4 rB3 (.tmp 28) (.tmp 34) (by with_reducible rfl) (by rfl) (by rfl) (by rfl) (by rfl) (by rfl) ?_
      refine hK _ _ (fun _ => KS'.out _ (hB2.out.2.2)) ?_
      refine AnyZ.one (i := 19) (by kernel_rfl) rfl (fun K hK => ?_)
      go_simp
      refine hK _ _ (fun _ => KS'.out _ (hB2.out.2.2)) ?_
      refine AnyZ.one (i := 20) (by kernel_rfl) rfl (fun K hK => ?_)
      go_simp
      refine hK _ _ (fun _ => KS'.out _ (hB2.out.2.2)) ?_
      refine AnyZ.one (i := 21) (by kernel_rfl) rfl (fun K hK => ?_)
      go_simp
      refine hK _ _ (fun h => (h rfl).elim) ?_
      refine AnyZ.done (by kernel_rfl) ?_ _
      go_wp2_with fail
      exact ⟨rfl, .tuple #[], by simp [results, Tryd.results29], rfl, _, YB.out⟩
    ·
      go_simp
      refine hK _ _ (fun _ => KS'.out _ (A3)) ?_
      refine AnyZ.one (i := 8) (by kernel_rfl) rfl (fun K hK => ?_)
      refine step_app4 rA1 (.tmp 18) (.tmp 24) (by with_reducible rfl) (by rfl) (by rfl) (by rfl) (by rfl) (by rfl) ?_
      refine hK _ _ (fun _ => KS'.out _ (hA.out.1)) ?_
      refine AnyZ.one (i := 11) (by kernel_rfl) rfl (fun K hK => ?_)
      refine step_app4 rA2 (.tmp 25) (.tmp 27) (by with_reducible rfl) (by rfl) (by rfl) (by rfl) (by rfl) (by rfl) ?_
      refine hK _ _ (fun _ => KS'.out _ (hA.out.2.1)) ?_
      refine AnyZ.one (i := 18) (by kernel_rfl) rfl (fun K hK => ?_)
      refine step_app4 rA3 (.tmp 28) (.tmp 34) (by with_reducible rfl) (by rfl) (by rfl) (by rfl) (by rfl) (by rfl) ?_
      refine hK _ _ (fun _ => KS'.out _ (hA.out.2.2)) ?_
      refine AnyZ.one (i := 19) (by kernel_rfl) rfl (fun K hK => ?_)
      go_simp
      refine hK _ _ (fun _ => KS'.out _ (hA.out.2.2)) ?_
      refine AnyZ.one (i := 20) (by kernel_rfl) rfl (fun K hK => ?_)
      go_simp
      refine hK _ _ (fun _ => KS'.out _ (hA.out.2.2)) ?_
      refine AnyZ.one (i := 21) (by kernel_rfl) rfl (fun K hK => ?_)
      go_simp
      refine hK _ _ (fun h => (h rfl).elim) ?_
      refine AnyZ.done (by kernel_rfl) ?_ _
      go_wp2_with fail
      exact ⟨rfl, .tuple #[], by simp [results, Tryd.results29], rfl, _, YA.out⟩
  ·
    go_simp
    refine hK _ _ (fun _ => KS'.out _ (A2)) ?_
    refine AnyZ.one (i := 1) (by kernel_rfl) rfl (fun K hK => ?_)
    go_simp
    refine hK _ _ (fun _ => KS'.out _ (A4)) ?_
    refine AnyZ.one (i := 8) (by kernel_rfl) rfl (fun K hK => ?_)
    refine step_app4 rC1 (.tmp 18) (.tmp 24) (by with_reducible rfl) (by rfl) (by rfl) (by rfl) (by rfl) (by rfl) ?_
    refine hK _ _ (fun _ => KS'.out _ (hC.out.1)) ?_
    refine AnyZ.one (i := 11) (by kernel_rfl) rfl (fun K hK => ?_)
    refine step_app4 rC2 (.tmp 25) (.tmp 27) (by with_reducible rfl) (by rfl) (by rfl) (by rfl) (by rfl) (by rfl) ?_
    refine hK _ _ (fun _ => KS'.out _ (hC.out.2.1)) ?_
    refine AnyZ.one (i := 18) (by kernel_rfl) rfl (fun K hK => ?_)
    refine step_app4 rC3 (.tmp 28) (.tmp 34) (by with_reducible rfl) (by rfl) (by rfl) (by rfl) (by rfl) (by rfl) ?_
    refine hK _ _ (fun _ => KS'.out _ (hC.out.2.2)) ?_
    refine AnyZ.one (i := 19) (by kernel_rfl) rfl (fun K hK => ?_)
    go_simp
    refine hK _ _ (fun _ => KS'.out _ (hC.out.2.2)) ?_
    refine AnyZ.one (i := 20) (by kernel_rfl) rfl (fun K hK => ?_)
    go_simp
    refine hK _ _ (fun _ => KS'.out _ (hC.out.2.2)) ?_
    refine AnyZ.one (i := 21) (by kernel_rfl) rfl (fun K hK => ?_)
    go_simp
    refine hK _ _ (fun h => (h rfl).elim) ?_
    refine AnyZ.done (by kernel_rfl) ?_ _
    go_wp2_with fail
    exact ⟨rfl, .tuple #[], by simp [results, Tryd.results29], rfl, _, YC.out⟩
end Go.Proofs.YtpkmfckifnomeaaDoor
