/-
  THE REFERENCE's Apply: a flush; not one key.
-/
import Derived.Test.YtpkmfckifnomeaaDoorRSe
import Derived.Test.YtpkmfckifnomeaaDoorAa
import Derived.Test.YtpkmfckifnomeaaDoorRN9
namespace Go.Proofs.YtpkmfckifnomeaaDoor
open Go.RowKit
set_option maxRecDepth 100000 in
set_option maxHeartbeats 2000000 in
theorem rapply_none (P : Nat) (now ver : Int) (a : Option Addr) (kl kc : Nat) (fl exp by_ cas : Int) (dd : Nat) (qu : Bool) (da : ByteArray) (vb : Int) (h1 : (vb == 1) = false) (h2 : (vb == 2) = false) (h13 : (vb == 13) = false) (hkl : kl ≠ 1) (w : World) :
    Calls Tryd.prog 17 #[.pointer (some ⟨P, 0, none⟩), .agg #[Value.int .i64 vb, .slice a kl kc, .int .i64 fl, .int .i64 exp, .int .i64 by_, .int .i64 cas, .int .u64 (dd : Int), .bool qu, .string da], .int .i64 now, .int .i64 ver] w fun e w' => e = .returned (.agg (ab 0).cs.toArray) ∧ Below w.heap.size w w' := by
  have g1 : ((kl : Int) == 1) = false := by simp; omega
  have g2 : ((kl : Int) != 1) = true := by simp; omega
  have g3 : ¬ ((kl : Int) = 1) := by omega
  have HB := Lib.hid (bx_below w #[Value.int .i64 vb, .slice a kl kc, .int .i64 fl, .int .i64 exp, .int .i64 by_, .int .i64 cas, .int .u64 (dd : Int), .bool qu, .string da])
  go_enter Tryd.func17, Tryd.ntmps17
  go_wp2_with fail
  refine bodyPost_ret (v := .agg #[.int .i64 0, .slice none 0 0, .bool false, .int .u64 0, .string ⟨#[]⟩, .int .i64 0, .int .i64 0, .int .i64 0, .int .i64 0]) (by simp [results, Tryd.results17]; go_simp) rfl ?_
  exact ⟨rfl, HB.out⟩
theorem rflush_fin {w : World} {o : Nat → Nat × Nat} {x P : Nat} {l : List En} (R : Array Value) (h : IsR w o x P l) :
    ((Bx w R).setCell ⟨P, 0, none⟩ (.slice none 0 0)).there (w.heap.size + 1) 0 (ab 9).cs.length ∧
    (((Bx w R).setCell ⟨P, 0, none⟩ (.slice none 0 0)).setCells (w.heap.size + 1) 0 (ab 9).cs).rangeAt (w.heap.size + 1) 0 (ab 9).cs ∧
    IsR (((Bx w R).setCell ⟨P, 0, none⟩ (.slice none 0 0)).setCells (w.heap.size + 1) 0 (ab 9).cs) o x P [] ∧ Fr (·.1 = x) o o w (((Bx w R).setCell ⟨P, 0, none⟩ (.slice none 0 0)).setCells (w.heap.size + 1) 0 (ab 9).cs) := by
  have bb := bx_below w R
  have hlt := h.lt
  have t1 : ((Bx w R).setCell ⟨P, 0, none⟩ (.slice none 0 0)).there (w.heap.size + 1) 0 (ab 9).cs.length := there_setCell (bx_there w R) _ _
  have i0 := h.below bb
  obtain ⟨i1, f1⟩ := i0.set (l' := []) (n := 0) (a := none) (c := 0) (Fr.refl _ _ _) rfl (OwnK.nil _ _ _ _)
  have f2 : Fr (·.1 = x) o o w ((Bx w R).setCell ⟨P, 0, none⟩ (.slice none 0 0)) := (Fr.ofBelow _ o bb).trans f1
  have f3 := f2.setsNew (show w.heap.size ≤ w.heap.size + 1 by omega) (ab 9).cs 0
  refine ⟨t1, World.rangeAt_setCells_same _ _ _ _ t1, ?_, f3⟩
  refine ⟨i1.ob, ?_, none, 0, ?_, OwnK.nil _ _ _ _⟩
  · have e := heap_setCells_other (show P ≠ w.heap.size + 1 by omega) (ab 9).cs 0 ((Bx w R).setCell ⟨P, 0, none⟩ (.slice none 0 0))
    rw [World.frozen?_of_block (a := ⟨P, 0, none⟩) e]; exact i1.fz
  · have e := heap_setCells_other (show P ≠ w.heap.size + 1 by omega) (ab 9).cs 0 ((Bx w R).setCell ⟨P, 0, none⟩ (.slice none 0 0))
    rw [World.cell?_of_block (a := ⟨P, 0, none⟩) e]
    exact World.cell?_setCell_same _ _ _ (i0.li.choose_spec.choose_spec.1)
set_option maxRecDepth 100000 in
set_option maxHeartbeats 2000000 in
theorem rapply_flush (x : Nat) {o : Nat → Nat × Nat} {P : Nat} {l : List En} (now ver : Int) (a : Option Addr) (kl kc : Nat) (fl exp by_ cas : Int) (dd : Nat) (qu : Bool) (da : ByteArray) (w : World) (h : IsR w o x P l) :
    Calls Tryd.prog 17 #[.pointer (some ⟨P, 0, none⟩), .agg #[Value.int .i64 13, .slice a kl kc, .int .i64 fl, .int .i64 exp, .int .i64 by_, .int .i64 cas, .int .u64 (dd : Int), .bool qu, .string da], .int .i64 now, .int .i64 ver] w fun e w' => e = .returned (.agg (ab 9).cs.toArray) ∧ IsR w' o x P [] ∧ Fr (·.1 = x) o o w w' := by
  obtain ⟨F1, F2, F3⟩ := rflush_fin #[Value.int .i64 13, .slice a kl kc, .int .i64 fl, .int .i64 exp, .int .i64 by_, .int .i64 cas, .int .u64 (dd : Int), .bool qu, .string da] h
  have HT := Lib.hid F1
  have HR := Lib.hid F2
  have HF := Lib.hid F3
  have hI := h.below (bx_below w #[Value.int .i64 13, .slice a kl kc, .int .i64 fl, .int .i64 exp, .int .i64 by_, .int .i64 cas, .int .u64 (dd : Int), .bool qu, .string da])
  obtain ⟨a0, c0, hc, -⟩ := hI.li
  have cc : ((w.alloc (.cells #[Value.int .i64 13, .slice a kl kc, .int .i64 fl, .int .i64 exp, .int .i64 by_, .int .i64 cas, .int .u64 (dd : Int), .bool qu, .string da] 27)).alloc (.cells #[.int .i64 0, .slice none 0 0, .bool false, .int .u64 0, .string ⟨#[]⟩, .int .i64 0, .int .i64 0, .int .i64 0, .int .i64 0] 32)).cell? ⟨P, 0, none⟩ = some (.slice a0 l.length c0) := hc
  have fz : ((w.alloc (.cells #[Value.int .i64 13, .slice a kl kc, .int .i64 fl, .int .i64 exp, .int .i64 by_, .int .i64 cas, .int .u64 (dd : Int), .bool qu, .string da] 27)).alloc (.cells #[.int .i64 0, .slice none 0 0, .bool false, .int .u64 0, .string ⟨#[]⟩, .int .i64 0, .int .i64 0, .int .i64 0, .int .i64 0] 32)).frozen? ⟨P, 0, none⟩ = false := hI.fz
  obtain ⟨A, hA⟩ : ∃ A, A = (ab 9).cs := ⟨_, rfl⟩
  rw [← hA] at HT HR HF ⊢
  have HA := Lib.hid hA
  have HLA : Hid (A.length = 9) := Lib.hid (by rw [hA]; rfl)
  have HOA : Hid (∀ u ∈ A, u.oneCell' = true) := Lib.hid (by rw [hA]; exact Ab.one _)
  clear F1 F2 F3 h hA hI hc
  go_enter Tryd.func17, Tryd.ntmps17
  go_wp2_with ((with_reducible show wpList _ _ _ (Oper.mk none (Op.store 32 (.tmp 8) _) _ _ _ _ :: _) _ _); refine wpList_store_mid (by rfl) 32 (.tmp 8) (.tmp 76) (by rfl) (w.heap.size + 1) 0 A.toArray (by rfl) (by rw [HA.out]; rfl) HT.out (by rw [List.size_toArray, HLA.out]; kernel_rfl) (all_oneCell_toArray HOA.out) ?_; rw [show A.toArray.toList = A from rfl])
  refine bodyPost_ret (v := .agg A.toArray) (by simp [results, Tryd.results17]; exact load32 HR.out HLA.out) rfl ?_
  exact ⟨rfl, HF.out⟩
end Go.Proofs.YtpkmfckifnomeaaDoor


namespace Go.Proofs.YtpkmfckifnomeaaDoor
open Go.RowKit
/-- What at tells is what living tells. -/
theorem liv_ath {l : List En} (hs : Srt l) (k : ByteArray) (now : Int) : (liv l k now).2 = ath l k now ∧ (ath l k now = true → l[pos (L k) l]? = some (liv l k now).1) ∧ (ath l k now = false → (liv l k now).1 = ⟨k, 0, 0, ⟨#[]⟩, 0⟩) := by
  unfold liv got ath
  rw [pos_look hs (L k)]
  cases hg : l[pos (L k) l]? with
  | none => simp [Option.filter]
  | some e =>
    cases hk : (L e.key == L k) with
    | false => simp [Option.filter, hk]
    | true =>
      cases hv : lv e.dl now <;> simp [Option.filter, hk, hv]
theorem liv_key {l : List En} (k : ByteArray) (now : Int) : L (liv l k now).1.key = L k := by
  unfold liv got
  cases hl : look (L k) l with
  | none => rfl
  | some e =>
    have := List.find?_some hl
    cases hv : lv e.dl now with
    | true => simpa [hv] using this
    | false => simp [hv]
theorem liv_val {l : List En} (h : Ok l) (k : ByteArray) (now : Int) : (liv l k now).1.val.size ≤ 140737488355328 := by
  unfold liv got
  cases hl : look (L k) l with
  | none => exact Nat.zero_le _
  | some e =>
    have := (h e (List.mem_of_find?_eq_some hl)).2
    cases hv : lv e.dl now with
    | true => simpa [hv] using this
    | false => simp only [Option.isSome_some, Option.getD_some, Bool.true_and, hv]; exact Nat.zero_le _
theorem fr_sets8 {T : Nat × Nat → Prop} {o : Nat → Nat × Nat} {g : Nat} (h : T (o g)) : ∀ (vs : List Value) (off : Nat) (w : World), Fr T o o w (w.setCells g off vs)
  | [], _, _ => Fr.refl _ _ _
  | v :: vs, off, w => (Fr.set (a := ⟨g, off, none⟩) h v).trans (fr_sets8 h vs (off + 1) (w.setCell ⟨g, off, none⟩ v))
/-- Blocks that are new are no one's. -/
def nw (o : Nat → Nat × Nat) (n : Nat) : Nat → Nat × Nat := fun b => if b < n then o b else (8, 1)
theorem nw_new {o : Nat → Nat × Nat} {n b : Nat} (h : n ≤ b) : nw o n b = (8, 1) := by unfold nw; rw [if_neg (by omega)]
theorem nw_fr (T : Nat × Nat → Prop) (o : Nat → Nat × Nat) {w V : World} (h : Below w.heap.size w V) : Fr T o (nw o w.heap.size) w V :=
  ⟨h.os, h.tape, h.output, h.size, fun b hb => by unfold nw; rw [if_pos hb], fun b hb _ => h.block b hb⟩
/-- What is kept of Apply's own variables. -/
structure Kp (o : Nat → Nat × Nat) (n0 B4 : Nat) (key : ByteArray) (A : List Value) (W : World) : Prop where
  m0 : o n0 = (8, 1)
  m1 : o (n0 + 1) = (8, 1)
  m2 : o (n0 + 1 + 1) = (8, 1)
  m4 : o B4 = (8, 1)
  lt : n0 + 1 + 1 < W.heap.size
  l4 : B4 < W.heap.size
  t1 : W.there (n0 + 1) 0 9
  k2 : W.cell? ⟨n0 + 1 + 1, 0, none⟩ = some (.string key)
  a4 : ∀ j v, A[j]? = some v → W.cell? ⟨B4, j, none⟩ = some v
theorem Kp.fr {o o' : Nat → Nat × Nat} {n0 B4 : Nat} {key : ByteArray} {A : List Value} {W W' : World} {x : Nat} (hx : x < 8) (h : Kp o n0 B4 key A W) (f : Fr (·.1 = x) o o' W W') : Kp o' n0 B4 key A W' := by
  have ne : ∀ b, o b = (8, 1) → ¬ ((o b).1 = x) := fun b e => by rw [e]; show ¬ (8 = x); omega
  have hl := h.lt
  refine ⟨(f.lab _ (by omega)).trans h.m0, (f.lab _ (by omega)).trans h.m1, (f.lab _ (by omega)).trans h.m2, (f.lab _ h.l4).trans h.m4, Nat.lt_of_lt_of_le h.lt f.size, Nat.lt_of_lt_of_le h.l4 f.size, fun j hj => ?_, f.cell h.k2 (ne _ h.m2), fun j v e => f.cell (h.a4 j v e) (ne _ h.m4)⟩
  have e := f.block (n0 + 1) (by omega) (ne _ h.m1)
  rw [World.cell?_of_block (a := ⟨n0 + 1, 0 + j, none⟩) e, World.frozen?_of_block (a := ⟨n0 + 1, 0 + j, none⟩) e]
  exact h.t1 j hj
theorem Kp.fin {w W : World} {o o' : Nat → Nat × Nat} {B4 P : Nat} {key : ByteArray} {A : List Value} {x : Nat} {l : List En} (hx : x < 8) (h : Kp o' w.heap.size B4 key A W) (hA : A.length = 9) (hI : IsR W o' x P l) (f : Fr (·.1 = x) o o' w W) :
    W.there (w.heap.size + 1) 0 A.length ∧ (W.setCells (w.heap.size + 1) 0 A).rangeAt (w.heap.size + 1) 0 A ∧ IsR (W.setCells (w.heap.size + 1) 0 A) o' x P l ∧ Fr (·.1 = x) o o' w (W.setCells (w.heap.size + 1) 0 A) := by
  have t : W.there (w.heap.size + 1) 0 A.length := by rw [hA]; exact h.t1
  have f1 : Fr (· = (8, 1)) o' o' W (W.setCells (w.heap.size + 1) 0 A) := fr_sets8 (T := fun t => t = (8, 1)) h.m1 A 0 W
  refine ⟨t, World.rangeAt_setCells_same _ _ _ _ t, hI.fr f1 ?_ ?_, f.setsNew (by omega) _ _⟩
  · intro e; injection e with e _; omega
  · intro e; injection e with e _; omega
theorem ins_len8 (e : En) : ∀ l : List En, (ins e l).length = l.length + 1
  | [] => rfl
  | y :: r => by
    unfold ins
    split
    · rfl
    · rw [List.length_cons, ins_len8 e r, List.length_cons]
theorem put_len8 (e : En) (l : List En) : (put e l).length ≤ l.length + 1 := by
  unfold put
  rw [ins_len8]
  exact Nat.succ_le_succ (List.length_filter_le _ _)
theorem Kp.start {w w2 : World} (o : Nat → Nat × Nat) {key : ByteArray} (hb : Below w.heap.size w w2) (hs : w.heap.size + 1 + 1 < w2.heap.size) (t1 : w2.there (w.heap.size + 1) 0 9) (k2 : w2.cell? ⟨w.heap.size + 1 + 1, 0, none⟩ = some (.string key)) (A : List Value) (Y : Array Value) :
    Kp (nw o w.heap.size) w.heap.size w2.heap.size key A ((w2.alloc (.cells A.toArray 32)).alloc (.cells Y 49)) ∧ Below w.heap.size w ((w2.alloc (.cells A.toArray 32)).alloc (.cells Y 49)) := by
  have b1 := below_alloc w2 (.cells A.toArray 32)
  have b2 := below_alloc (w2.alloc (.cells A.toArray 32)) (.cells Y 49)
  have b3 : Below w2.heap.size w2 ((w2.alloc (.cells A.toArray 32)).alloc (.cells Y 49)) := b1.trans (b2.mono b1.size)
  refine ⟨⟨nw_new (by omega), nw_new (by omega), nw_new (by omega), nw_new (by omega), by simp; omega, by simp; omega, there_below t1 b3, cell_b k2 b3, fun j v e => ?_⟩, hb.trans (b3.mono (by omega))⟩
  exact cell_b (by rw [World.cell?_alloc_new, List.getElem?_toArray]; exact e) b2
set_option maxRecDepth 100000 in
set_option maxHeartbeats 2000000 in
theorem rapply_one (x : Nat) (hx : x < 8) (hx0 : x ≠ 0) {o : Nat → Nat × Nat} {P : Nat} {l : List En} (hs : Srt l) (hz : l.length ≤ 900000) (r : Rq) (now ver : Int) (p off kc : Nat) (k : ByteArray) (h1 : (r.verb == 1) = false) (h2 : (r.verb == 2) = false) (h13 : (r.verb == 13) = false) (hok : Ok l) (hk : k.size ≤ 140737488355328) (hd : r.data.size ≤ 140737488355328) (w : World) (h : IsR w o x P l) (hK : w.cell? ⟨p, off, none⟩ = some (.string k)) :
    Calls Tryd.prog 17 #[.pointer (some ⟨P, 0, none⟩), .agg (r.cs (.slice (some ⟨p, off, none⟩) 1 kc)).toArray, .int .i64 now, .int .i64 ver] w fun e w' => ∃ o', e = .returned (.agg (q1 r k now ver l).1.cs.toArray) ∧ IsR w' o' x P (stp r k now ver l) ∧ Fr (·.1 = x) o o' w w' := by
  obtain ⟨R, hR⟩ : ∃ R, R = r.cs (.slice (some ⟨p, off, none⟩) 1 kc) := ⟨_, rfl⟩
  have bb := bx_below w R.toArray
  have i0 := h.below bb
  have cK := cell_b hK bb
  have AC := rat_any x (by omega) k now _ i0
  obtain ⟨lv1, lv2, lv3⟩ := liv_ath hs k now
  obtain ⟨th, hth⟩ : ∃ th, th = ath l k now := ⟨_, rfl⟩
  obtain ⟨e, he⟩ : ∃ e, e = (liv l k now).1 := ⟨_, rfl⟩
  rw [← hth] at AC lv1 lv2 lv3
  rw [← he] at lv2 lv3
  obtain ⟨i, hi⟩ : ∃ i, i = pos (L k) l := ⟨_, rfl⟩
  rw [← hi] at AC lv2
  obtain ⟨a, c, hc, hO⟩ := i0.li
  obtain ⟨n, hn⟩ : ∃ n, n = l.length := ⟨_, rfl⟩
  rw [← hn] at hc
  have c0 := bx_cell w R.toArray (j := 0) (v := .int .i64 r.verb) (by rw [hR]; rfl)
  have c1 := bx_cell w R.toArray (j := 1) (v := .slice (some ⟨p, off, none⟩) 1 kc) (by rw [hR]; rfl)
  have HA := Lib.hid AC
  have HN := Lib.hid hn
  have HO := Lib.hid hO
  have H2 := Lib.hid lv2
  have H3 := Lib.hid lv3
  have HX := Lib.hid (And.intro h (And.intro hth (And.intro he (And.intro hi lv1))))
  clear AC hn hO lv2 lv3 h hth he hi i0 bb lv1
  rw [hR] at HA hc c0 c1 cK
  obtain ⟨hP, hth, he, hi, hl2⟩ := HX.out
  have hek : L e.key = L k := by rw [he]; exact liv_key k now
  have hev : e.val.size ≤ 140737488355328 := by rw [he]; exact liv_val hok k now
  have hq : q1 r k now ver l = nxt r e th now ver := by unfold q1; rw [hl2, ← he]
  have hst : stp r k now ver l = (if (nxt r e th now ver).2.2.2 then del (L e.key) (if (nxt r e th now ver).2.2.1 then put (nxt r e th now ver).2.1 l else l) else (if (nxt r e th now ver).2.2.1 then put (nxt r e th now ver).2.1 l else l)) := by
    unfold stp; rw [hq, hek]
  obtain ⟨q, hqq⟩ : ∃ q, q = nxt r e th now ver := ⟨_, rfl⟩
  have hxk : q.2.2.1 = true → q.2.1.key = e.key := fun hk1 => by rw [hqq] at hk1 ⊢; exact (nxt_ok r e th now ver hev hd hk1).1
  rw [← hqq] at hst hq
  have NX := fun W => rnext_any r e th now ver (some ⟨p, off, none⟩) 1 kc hev hd W
  rw [← hqq] at NX
  rw [hq, hst]
  obtain ⟨⟨kd, num, txt⟩, X, kp, dr⟩ := q
  simp only at hxk
  dsimp only
  have HNX := Lib.hid NX
  have HXK := Lib.hid (And.intro hxk (And.intro hs (And.intro hz hP)))
  clear NX hst hq hqq hxk hek hev hl2 hth he hi HX hok hd hs hz hP
  obtain ⟨ek, ef, ed, ev, ec⟩ := e
  simp only [En.cs, Rq.cs] at HNX
  show Calls Tryd.prog 17 #[.pointer (some ⟨P, 0, none⟩), .agg #[Value.int .i64 r.verb, .slice (some ⟨p, off, none⟩) 1 kc, .int .i64 r.fl, .int .i64 r.exp, .int .i64 r.bytes, .int .i64 r.cas, .int .u64 (r.delta : Int), .bool r.quiet, .string r.data], .int .i64 now, .int .i64 ver] w _
  unfold Bx at HA hc c0 c1 cK
  simp only [Rq.cs] at HA hc c0 c1 cK
  have HHR := Lib.hid hR
  clear hR
  go_enter Tryd.func17, Tryd.ntmps17
  go_wp2_with fail
  refine HA.out.mono ?_
  rintro e1 w1 ⟨rfl, rfl⟩
  clear HA
  cases th with
  | false =>
    have e3 := H3.out rfl
    injection e3 with z1 z2 z3 z4 z5
    subst z1 z2 z3 z4 z5
    go_wp2_with fail
    have HTV := Lib.hid (there_below (bx_there w #[Value.int .i64 r.verb, .slice (some ⟨p, off, none⟩) 1 kc, .int .i64 r.fl, .int .i64 r.exp, .int .i64 r.bytes, .int .i64 r.cas, .int .u64 (r.delta : Int), .bool r.quiet, .string r.data]) (below_alloc _ (.cells #[Value.string ek, .int .i64 0, .int .i64 0, .string ⟨#[]⟩, .int .i64 0] 49)))
    have HBV := Lib.hid ((bx_below w #[Value.int .i64 r.verb, .slice (some ⟨p, off, none⟩) 1 kc, .int .i64 r.fl, .int .i64 r.exp, .int .i64 r.bytes, .int .i64 r.cas, .int .u64 (r.delta : Int), .bool r.quiet, .string r.data]).trans ((below_alloc _ (.cells #[Value.string ek, .int .i64 0, .int .i64 0, .string ⟨#[]⟩, .int .i64 0] 49)).mono (bx_below w _).size))
    have HSV : Hid (w.heap.size + 1 + 1 < ((Bx w #[Value.int .i64 r.verb, .slice (some ⟨p, off, none⟩) 1 kc, .int .i64 r.fl, .int .i64 r.exp, .int .i64 r.bytes, .int .i64 r.cas, .int .u64 (r.delta : Int), .bool r.quiet, .string r.data]).alloc (.cells #[Value.string ek, .int .i64 0, .int .i64 0, .string ⟨#[]⟩, .int .i64 0] 49)).heap.size) := Lib.hid (by unfold Bx; simp)
    have HKV : Hid (((Bx w #[Value.int .i64 r.verb, .slice (some ⟨p, off, none⟩) 1 kc, .int .i64 r.fl, .int .i64 r.exp, .int .i64 r.bytes, .int .i64 r.cas, .int .u64 (r.delta : Int), .bool r.quiet, .string r.data]).alloc (.cells #[Value.string ek, .int .i64 0, .int .i64 0, .string ⟨#[]⟩, .int .i64 0] 49)).cell? ⟨w.heap.size + 1 + 1, 0, none⟩ = some (.string ek)) := Lib.hid (by
      have e : (Bx w #[Value.int .i64 r.verb, .slice (some ⟨p, off, none⟩) 1 kc, .int .i64 r.fl, .int .i64 r.exp, .int .i64 r.bytes, .int .i64 r.cas, .int .u64 (r.delta : Int), .bool r.quiet, .string r.data]).heap.size = w.heap.size + 1 + 1 := by unfold Bx; simp
      rw [← e, World.cell?_alloc_new]; rfl)
    refine (HNX.out _).mono ?_
    rintro e1 w2 ⟨⟨yk, yf, yd, yv, yc⟩, rfl, hy, hB2⟩
    obtain ⟨hxk, hs, hz, hP⟩ := HXK.out
    have hBw : Below w.heap.size w w2 := HBV.out.trans (hB2.mono HBV.out.size)
    have hsz : w.heap.size + 1 + 1 < w2.heap.size := Nat.lt_of_lt_of_le HSV.out hB2.size
    obtain ⟨K3, B3⟩ := Kp.start o hBw hsz (there_below HTV.out hB2) (cell_b HKV.out hB2) [Value.int .i64 kd, .slice none 0 0, .bool false, .int .u64 num, .string txt, .int .i64 0, .int .i64 0, .int .i64 0, .int .i64 0] #[Value.string yk, .int .i64 yf, .int .i64 yd, .string yv, .int .i64 yc]
    obtain ⟨A, hA⟩ : ∃ A : List Value, A = [Value.int .i64 kd, .slice none 0 0, .bool false, .int .u64 num, .string txt, .int .i64 0, .int .i64 0, .int .i64 0, .int .i64 0] := ⟨_, rfl⟩
    have K3' : ∀ B, B = [Value.int .i64 kd, .slice none 0 0, .bool false, .int .u64 num, .string txt, .int .i64 0, .int .i64 0, .int .i64 0, .int .i64 0] → Kp _ _ _ ek B _ := fun B e => by rw [e]; exact K3
    replace K3 := K3' A hA
    clear K3'
    have HLA : Hid (A.length = 9) := Lib.hid (by rw [hA]; rfl)
    have HOA : Hid (∀ u ∈ A, u.oneCell' = true) := Lib.hid (by rw [hA]; exact acs_one kd none 0 0 false num txt)
    have HA := Lib.hid hA
    clear hA
    have I3 : IsR _ _ x P l := hP.fr (nw_fr (fun _ => False) o B3) id id
    have F3 := nw_fr (·.1 = x) o B3
    clear HBV HSV HTV HKV hBw hsz B3 hB2
    simp only [Ab.cs, acs, En.cs]
    cases kp with
    | false =>
      cases dr with
      | false =>
        obtain ⟨T1, T2, T3⟩ := Kp.fin hx K3 HLA.out I3 F3
        have HT := Lib.hid T1
        have HR := Lib.hid T2
        have HZ := Lib.hid T3
        have a0 := K3.a4 0 _ (by rw [HA.out]; rfl)
        have a1 := K3.a4 1 _ (by rw [HA.out]; rfl)
        have a2 := K3.a4 2 _ (by rw [HA.out]; rfl)
        have a3 := K3.a4 3 _ (by rw [HA.out]; rfl)
        have a4 := K3.a4 4 _ (by rw [HA.out]; rfl)
        have a5 := K3.a4 5 _ (by rw [HA.out]; rfl)
        have a6 := K3.a4 6 _ (by rw [HA.out]; rfl)
        have a7 := K3.a4 7 _ (by rw [HA.out]; rfl)
        have a8 := K3.a4 8 _ (by rw [HA.out]; rfl)
        clear T1 T2 T3
        go_wp2_with ((with_reducible show wpList _ _ _ (Oper.mk none (Op.store 32 (.tmp 8) _) _ _ _ _ :: _) _ _); refine wpList_store_mid (by rfl) 32 (.tmp 8) (.tmp 125) (by rfl) (w.heap.size + 1) 0 A.toArray (by rfl) (by rw [HA.out]; rfl) HT.out (by rw [List.size_toArray, HLA.out]; kernel_rfl) (all_oneCell_toArray HOA.out) ?_; rw [show A.toArray.toList = A from rfl])
        refine bodyPost_ret (v := .agg A.toArray) (by simp [results, Tryd.results17]; exact load32 HR.out HLA.out) rfl ?_
        have HE := HA.out
        refine ⟨?_, nw o w.heap.size, HZ.out.1, HZ.out.2⟩
        rw [HE]; rfl
      | true =>
        have FC := rforget_any x hs (by omega) ek _ I3
        have HFC := Lib.hid FC
        have HK3 := Lib.hid K3
        have HF3 := Lib.hid F3
        have k2 := K3.k2
        clear FC K3 I3 F3
        go_wp2_with fail
        refine HFC.out.mono ?_
        rintro e1 w3 ⟨rfl, o3, I4, F4⟩
        have K4 := HK3.out.fr hx F4
        have F5 := HF3.out.trans F4
        clear HFC HK3 HF3 F4 k2
        obtain ⟨T1, T2, T3⟩ := Kp.fin hx K4 HLA.out I4 F5
        have HT := Lib.hid T1
        have HR := Lib.hid T2
        have HZ := Lib.hid T3
        have a0 := K4.a4 0 _ (by rw [HA.out]; rfl)
        have a1 := K4.a4 1 _ (by rw [HA.out]; rfl)
        have a2 := K4.a4 2 _ (by rw [HA.out]; rfl)
        have a3 := K4.a4 3 _ (by rw [HA.out]; rfl)
        have a4 := K4.a4 4 _ (by rw [HA.out]; rfl)
        have a5 := K4.a4 5 _ (by rw [HA.out]; rfl)
        have a6 := K4.a4 6 _ (by rw [HA.out]; rfl)
        have a7 := K4.a4 7 _ (by rw [HA.out]; rfl)
        have a8 := K4.a4 8 _ (by rw [HA.out]; rfl)
        clear T1 T2 T3
        go_wp2_with ((with_reducible show wpList _ _ _ (Oper.mk none (Op.store 32 (.tmp 8) _) _ _ _ _ :: _) _ _); refine wpList_store_mid (by rfl) 32 (.tmp 8) (.tmp 125) (by rfl) (w.heap.size + 1) 0 A.toArray (by rfl) (by rw [HA.out]; rfl) HT.out (by rw [List.size_toArray, HLA.out]; kernel_rfl) (all_oneCell_toArray HOA.out) ?_; rw [show A.toArray.toList = A from rfl])
        refine bodyPost_ret (v := .agg A.toArray) (by simp [results, Tryd.results17]; exact load32 HR.out HLA.out) rfl ?_
        have HE := HA.out
        refine ⟨?_, o3, HZ.out.1, HZ.out.2⟩
        rw [HE]; rfl
    | true =>
      have hyX := hy rfl
      simp only at hyX
      have SC := rset_any x hx0 hs hz X _ I3
      rw [← hyX] at SC
      have HSC := Lib.hid SC
      have HK3 := Lib.hid K3
      have HF3 := Lib.hid F3
      have HX := Lib.hid hyX
      clear SC K3 I3 F3 hyX hy
      cases dr with
      | false =>
        go_wp2_with fail
        refine HSC.out.mono ?_
        rintro e1 w3 ⟨rfl, o3, I4, F4⟩
        have K4 := HK3.out.fr hx F4
        have F5 := HF3.out.trans F4
        rw [HX.out] at I4
        clear HSC HK3 HF3 F4
        obtain ⟨T1, T2, T3⟩ := Kp.fin hx K4 HLA.out I4 F5
        have HT := Lib.hid T1
        have HR := Lib.hid T2
        have HZ := Lib.hid T3
        have a0 := K4.a4 0 _ (by rw [HA.out]; rfl)
        have a1 := K4.a4 1 _ (by rw [HA.out]; rfl)
        have a2 := K4.a4 2 _ (by rw [HA.out]; rfl)
        have a3 := K4.a4 3 _ (by rw [HA.out]; rfl)
        have a4 := K4.a4 4 _ (by rw [HA.out]; rfl)
        have a5 := K4.a4 5 _ (by rw [HA.out]; rfl)
        have a6 := K4.a4 6 _ (by rw [HA.out]; rfl)
        have a7 := K4.a4 7 _ (by rw [HA.out]; rfl)
        have a8 := K4.a4 8 _ (by rw [HA.out]; rfl)
        clear T1 T2 T3
        go_wp2_with ((with_reducible show wpList _ _ _ (Oper.mk none (Op.store 32 (.tmp 8) _) _ _ _ _ :: _) _ _); refine wpList_store_mid (by rfl) 32 (.tmp 8) (.tmp 125) (by rfl) (w.heap.size + 1) 0 A.toArray (by rfl) (by rw [HA.out]; rfl) HT.out (by rw [List.size_toArray, HLA.out]; kernel_rfl) (all_oneCell_toArray HOA.out) ?_; rw [show A.toArray.toList = A from rfl])
        refine bodyPost_ret (v := .agg A.toArray) (by simp [results, Tryd.results17]; exact load32 HR.out HLA.out) rfl ?_
        have HE := HA.out
        refine ⟨?_, o3, HZ.out.1, HZ.out.2⟩
        rw [HE]; rfl
      | true =>
        go_wp2_with fail
        refine HSC.out.mono ?_
        rintro e1 w3 ⟨rfl, o3, I4, F4⟩
        have K4 := HK3.out.fr hx F4
        have F5 := HF3.out.trans F4
        rw [HX.out] at I4
        have hp4 : (put X l).length ≤ 1000000 := Nat.le_trans (put_len8 X l) (by omega)
        have FC := rforget_any x (hs.put X) (by omega) ek _ I4
        have HFC := Lib.hid FC
        have HK4 := Lib.hid K4
        have HF5 := Lib.hid F5
        have k2 := K4.k2
        clear HSC HK3 HF3 F4 FC K4 F5 I4 hp4
        go_wp2_with fail
        refine HFC.out.mono ?_
        rintro e1 w4 ⟨rfl, o4, I5, F6⟩
        have K5 := HK4.out.fr hx F6
        have F7 := HF5.out.trans F6
        clear HFC HK4 HF5 F6 k2
        obtain ⟨T1, T2, T3⟩ := Kp.fin hx K5 HLA.out I5 F7
        have HT := Lib.hid T1
        have HR := Lib.hid T2
        have HZ := Lib.hid T3
        have a0 := K5.a4 0 _ (by rw [HA.out]; rfl)
        have a1 := K5.a4 1 _ (by rw [HA.out]; rfl)
        have a2 := K5.a4 2 _ (by rw [HA.out]; rfl)
        have a3 := K5.a4 3 _ (by rw [HA.out]; rfl)
        have a4 := K5.a4 4 _ (by rw [HA.out]; rfl)
        have a5 := K5.a4 5 _ (by rw [HA.out]; rfl)
        have a6 := K5.a4 6 _ (by rw [HA.out]; rfl)
        have a7 := K5.a4 7 _ (by rw [HA.out]; rfl)
        have a8 := K5.a4 8 _ (by rw [HA.out]; rfl)
        clear T1 T2 T3
        go_wp2_with ((with_reducible show wpList _ _ _ (Oper.mk none (Op.store 32 (.tmp 8) _) _ _ _ _ :: _) _ _); refine wpList_store_mid (by rfl) 32 (.tmp 8) (.tmp 125) (by rfl) (w.heap.size + 1) 0 A.toArray (by rfl) (by rw [HA.out]; rfl) HT.out (by rw [List.size_toArray, HLA.out]; kernel_rfl) (all_oneCell_toArray HOA.out) ?_; rw [show A.toArray.toList = A from rfl])
        refine bodyPost_ret (v := .agg A.toArray) (by simp [results, Tryd.results17]; exact load32 HR.out HLA.out) rfl ?_
        have HE := HA.out
        refine ⟨?_, o4, HZ.out.1, HZ.out.2⟩
        rw [HE]; rfl
  | true =>
    have he2 := H2.out rfl
    have hO2 := HO.out
    rw [HHR.out] at hO2
    simp only [Rq.cs] at hO2
    obtain ⟨g, rfl, ce⟩ := IsR.at_ hO2 he2
    clear hO2
    have hin : i < n := by have := (List.getElem?_eq_some_iff.1 he2).1; rw [HN.out]; exact this
    have hin1 : (i : Int) < (n : Int) := by omega
    have bV := below_alloc (Bx w #[Value.int .i64 r.verb, .slice (some ⟨p, off, none⟩) 1 kc, .int .i64 r.fl, .int .i64 r.exp, .int .i64 r.bytes, .int .i64 r.cas, .int .u64 (r.delta : Int), .bool r.quiet, .string r.data]) (.cells #[Value.string k, .int .i64 0, .int .i64 0, .string ⟨#[]⟩, .int .i64 0] 49)
    have d0 := cell_b (ce 0 _ rfl) bV
    have d1 := cell_b (ce 1 _ rfl) bV
    have d2 := cell_b (ce 2 _ rfl) bV
    have d3 := cell_b (ce 3 _ rfl) bV
    have d4 := cell_b (ce 4 _ rfl) bV
    have hcV := cell_b hc bV
    clear ce he2
    unfold Bx at d0 d1 d2 d3 d4 hcV
    rw [Nat.add_zero] at d0
    go_wp2_with fail
    clear d0 d1 d2 d3 d4 hcV bV hin hin1 hc c0 c1 cK
    have HTV := Lib.hid (there_below (bx_there w #[Value.int .i64 r.verb, .slice (some ⟨p, off, none⟩) 1 kc, .int .i64 r.fl, .int .i64 r.exp, .int .i64 r.bytes, .int .i64 r.cas, .int .u64 (r.delta : Int), .bool r.quiet, .string r.data]) (below_alloc _ (.cells #[Value.string ek, .int .i64 ef, .int .i64 ed, .string ev, .int .i64 ec] 49)))
    have HBV := Lib.hid ((bx_below w #[Value.int .i64 r.verb, .slice (some ⟨p, off, none⟩) 1 kc, .int .i64 r.fl, .int .i64 r.exp, .int .i64 r.bytes, .int .i64 r.cas, .int .u64 (r.delta : Int), .bool r.quiet, .string r.data]).trans ((below_alloc _ (.cells #[Value.string ek, .int .i64 ef, .int .i64 ed, .string ev, .int .i64 ec] 49)).mono (bx_below w _).size))
    have HSV : Hid (w.heap.size + 1 + 1 < ((Bx w #[Value.int .i64 r.verb, .slice (some ⟨p, off, none⟩) 1 kc, .int .i64 r.fl, .int .i64 r.exp, .int .i64 r.bytes, .int .i64 r.cas, .int .u64 (r.delta : Int), .bool r.quiet, .string r.data]).alloc (.cells #[Value.string ek, .int .i64 ef, .int .i64 ed, .string ev, .int .i64 ec] 49)).heap.size) := Lib.hid (by unfold Bx; simp)
    have HKV : Hid (((Bx w #[Value.int .i64 r.verb, .slice (some ⟨p, off, none⟩) 1 kc, .int .i64 r.fl, .int .i64 r.exp, .int .i64 r.bytes, .int .i64 r.cas, .int .u64 (r.delta : Int), .bool r.quiet, .string r.data]).alloc (.cells #[Value.string ek, .int .i64 ef, .int .i64 ed, .string ev, .int .i64 ec] 49)).cell? ⟨w.heap.size + 1 + 1, 0, none⟩ = some (.string ek)) := Lib.hid (by
      have e : (Bx w #[Value.int .i64 r.verb, .slice (some ⟨p, off, none⟩) 1 kc, .int .i64 r.fl, .int .i64 r.exp, .int .i64 r.bytes, .int .i64 r.cas, .int .u64 (r.delta : Int), .bool r.quiet, .string r.data]).heap.size = w.heap.size + 1 + 1 := by unfold Bx; simp
      rw [← e, World.cell?_alloc_new]; rfl)
    refine (HNX.out _).mono ?_
    rintro e1 w2 ⟨⟨yk, yf, yd, yv, yc⟩, rfl, hy, hB2⟩
    obtain ⟨hxk, hs, hz, hP⟩ := HXK.out
    have hBw : Below w.heap.size w w2 := HBV.out.trans (hB2.mono HBV.out.size)
    have hsz : w.heap.size + 1 + 1 < w2.heap.size := Nat.lt_of_lt_of_le HSV.out hB2.size
    obtain ⟨K3, B3⟩ := Kp.start o hBw hsz (there_below HTV.out hB2) (cell_b HKV.out hB2) [Value.int .i64 kd, .slice none 0 0, .bool false, .int .u64 num, .string txt, .int .i64 0, .int .i64 0, .int .i64 0, .int .i64 0] #[Value.string yk, .int .i64 yf, .int .i64 yd, .string yv, .int .i64 yc]
    obtain ⟨A, hA⟩ : ∃ A : List Value, A = [Value.int .i64 kd, .slice none 0 0, .bool false, .int .u64 num, .string txt, .int .i64 0, .int .i64 0, .int .i64 0, .int .i64 0] := ⟨_, rfl⟩
    have K3' : ∀ B, B = [Value.int .i64 kd, .slice none 0 0, .bool false, .int .u64 num, .string txt, .int .i64 0, .int .i64 0, .int .i64 0, .int .i64 0] → Kp _ _ _ ek B _ := fun B e => by rw [e]; exact K3
    replace K3 := K3' A hA
    clear K3'
    have HLA : Hid (A.length = 9) := Lib.hid (by rw [hA]; rfl)
    have HOA : Hid (∀ u ∈ A, u.oneCell' = true) := Lib.hid (by rw [hA]; exact acs_one kd none 0 0 false num txt)
    have HA := Lib.hid hA
    clear hA
    have I3 : IsR _ _ x P l := hP.fr (nw_fr (fun _ => False) o B3) id id
    have F3 := nw_fr (·.1 = x) o B3
    clear HBV HSV HTV HKV hBw hsz B3 hB2
    simp only [Ab.cs, acs, En.cs]
    cases kp with
    | false =>
      cases dr with
      | false =>
        obtain ⟨T1, T2, T3⟩ := Kp.fin hx K3 HLA.out I3 F3
        have HT := Lib.hid T1
        have HR := Lib.hid T2
        have HZ := Lib.hid T3
        have a0 := K3.a4 0 _ (by rw [HA.out]; rfl)
        have a1 := K3.a4 1 _ (by rw [HA.out]; rfl)
        have a2 := K3.a4 2 _ (by rw [HA.out]; rfl)
        have a3 := K3.a4 3 _ (by rw [HA.out]; rfl)
        have a4 := K3.a4 4 _ (by rw [HA.out]; rfl)
        have a5 := K3.a4 5 _ (by rw [HA.out]; rfl)
        have a6 := K3.a4 6 _ (by rw [HA.out]; rfl)
        have a7 := K3.a4 7 _ (by rw [HA.out]; rfl)
        have a8 := K3.a4 8 _ (by rw [HA.out]; rfl)
        clear T1 T2 T3
        go_wp2_with ((with_reducible show wpList _ _ _ (Oper.mk none (Op.store 32 (.tmp 8) _) _ _ _ _ :: _) _ _); refine wpList_store_mid (by rfl) 32 (.tmp 8) (.tmp 125) (by rfl) (w.heap.size + 1) 0 A.toArray (by rfl) (by rw [HA.out]; rfl) HT.out (by rw [List.size_toArray, HLA.out]; kernel_rfl) (all_oneCell_toArray HOA.out) ?_; rw [show A.toArray.toList = A from rfl])
        refine bodyPost_ret (v := .agg A.toArray) (by simp [results, Tryd.results17]; exact load32 HR.out HLA.out) rfl ?_
        have HE := HA.out
        refine ⟨?_, nw o w.heap.size, HZ.out.1, HZ.out.2⟩
        rw [HE]; rfl
      | true =>
        have FC := rforget_any x hs (by omega) ek _ I3
        have HFC := Lib.hid FC
        have HK3 := Lib.hid K3
        have HF3 := Lib.hid F3
        have k2 := K3.k2
        clear FC K3 I3 F3
        go_wp2_with fail
        refine HFC.out.mono ?_
        rintro e1 w3 ⟨rfl, o3, I4, F4⟩
        have K4 := HK3.out.fr hx F4
        have F5 := HF3.out.trans F4
        clear HFC HK3 HF3 F4 k2
        obtain ⟨T1, T2, T3⟩ := Kp.fin hx K4 HLA.out I4 F5
        have HT := Lib.hid T1
        have HR := Lib.hid T2
        have HZ := Lib.hid T3
        have a0 := K4.a4 0 _ (by rw [HA.out]; rfl)
        have a1 := K4.a4 1 _ (by rw [HA.out]; rfl)
        have a2 := K4.a4 2 _ (by rw [HA.out]; rfl)
        have a3 := K4.a4 3 _ (by rw [HA.out]; rfl)
        have a4 := K4.a4 4 _ (by rw [HA.out]; rfl)
        have a5 := K4.a4 5 _ (by rw [HA.out]; rfl)
        have a6 := K4.a4 6 _ (by rw [HA.out]; rfl)
        have a7 := K4.a4 7 _ (by rw [HA.out]; rfl)
        have a8 := K4.a4 8 _ (by rw [HA.out]; rfl)
        clear T1 T2 T3
        go_wp2_with ((with_reducible show wpList _ _ _ (Oper.mk none (Op.store 32 (.tmp 8) _) _ _ _ _ :: _) _ _); refine wpList_store_mid (by rfl) 32 (.tmp 8) (.tmp 125) (by rfl) (w.heap.size + 1) 0 A.toArray (by rfl) (by rw [HA.out]; rfl) HT.out (by rw [List.size_toArray, HLA.out]; kernel_rfl) (all_oneCell_toArray HOA.out) ?_; rw [show A.toArray.toList = A from rfl])
        refine bodyPost_ret (v := .agg A.toArray) (by simp [results, Tryd.results17]; exact load32 HR.out HLA.out) rfl ?_
        have HE := HA.out
        refine ⟨?_, o3, HZ.out.1, HZ.out.2⟩
        rw [HE]; rfl
    | true =>
      have hyX := hy rfl
      simp only at hyX
      have SC := rset_any x hx0 hs hz X _ I3
      rw [← hyX] at SC
      have HSC := Lib.hid SC
      have HK3 := Lib.hid K3
      have HF3 := Lib.hid F3
      have HX := Lib.hid hyX
      clear SC K3 I3 F3 hyX hy
      cases dr with
      | false =>
        go_wp2_with fail
        refine HSC.out.mono ?_
        rintro e1 w3 ⟨rfl, o3, I4, F4⟩
        have K4 := HK3.out.fr hx F4
        have F5 := HF3.out.trans F4
        rw [HX.out] at I4
        clear HSC HK3 HF3 F4
        obtain ⟨T1, T2, T3⟩ := Kp.fin hx K4 HLA.out I4 F5
        have HT := Lib.hid T1
        have HR := Lib.hid T2
        have HZ := Lib.hid T3
        have a0 := K4.a4 0 _ (by rw [HA.out]; rfl)
        have a1 := K4.a4 1 _ (by rw [HA.out]; rfl)
        have a2 := K4.a4 2 _ (by rw [HA.out]; rfl)
        have a3 := K4.a4 3 _ (by rw [HA.out]; rfl)
        have a4 := K4.a4 4 _ (by rw [HA.out]; rfl)
        have a5 := K4.a4 5 _ (by rw [HA.out]; rfl)
        have a6 := K4.a4 6 _ (by rw [HA.out]; rfl)
        have a7 := K4.a4 7 _ (by rw [HA.out]; rfl)
        have a8 := K4.a4 8 _ (by rw [HA.out]; rfl)
        clear T1 T2 T3
        go_wp2_with ((with_reducible show wpList _ _ _ (Oper.mk none (Op.store 32 (.tmp 8) _) _ _ _ _ :: _) _ _); refine wpList_store_mid (by rfl) 32 (.tmp 8) (.tmp 125) (by rfl) (w.heap.size + 1) 0 A.toArray (by rfl) (by rw [HA.out]; rfl) HT.out (by rw [List.size_toArray, HLA.out]; kernel_rfl) (all_oneCell_toArray HOA.out) ?_; rw [show A.toArray.toList = A from rfl])
        refine bodyPost_ret (v := .agg A.toArray) (by simp [results, Tryd.results17]; exact load32 HR.out HLA.out) rfl ?_
        have HE := HA.out
        refine ⟨?_, o3, HZ.out.1, HZ.out.2⟩
        rw [HE]; rfl
      | true =>
        go_wp2_with fail
        refine HSC.out.mono ?_
        rintro e1 w3 ⟨rfl, o3, I4, F4⟩
        have K4 := HK3.out.fr hx F4
        have F5 := HF3.out.trans F4
        rw [HX.out] at I4
        have hp4 : (put X l).length ≤ 1000000 := Nat.le_trans (put_len8 X l) (by omega)
        have FC := rforget_any x (hs.put X) (by omega) ek _ I4
        have HFC := Lib.hid FC
        have HK4 := Lib.hid K4
        have HF5 := Lib.hid F5
        have k2 := K4.k2
        clear HSC HK3 HF3 F4 FC K4 F5 I4 hp4
        go_wp2_with fail
        refine HFC.out.mono ?_
        rintro e1 w4 ⟨rfl, o4, I5, F6⟩
        have K5 := HK4.out.fr hx F6
        have F7 := HF5.out.trans F6
        clear HFC HK4 HF5 F6 k2
        obtain ⟨T1, T2, T3⟩ := Kp.fin hx K5 HLA.out I5 F7
        have HT := Lib.hid T1
        have HR := Lib.hid T2
        have HZ := Lib.hid T3
        have a0 := K5.a4 0 _ (by rw [HA.out]; rfl)
        have a1 := K5.a4 1 _ (by rw [HA.out]; rfl)
        have a2 := K5.a4 2 _ (by rw [HA.out]; rfl)
        have a3 := K5.a4 3 _ (by rw [HA.out]; rfl)
        have a4 := K5.a4 4 _ (by rw [HA.out]; rfl)
        have a5 := K5.a4 5 _ (by rw [HA.out]; rfl)
        have a6 := K5.a4 6 _ (by rw [HA.out]; rfl)
        have a7 := K5.a4 7 _ (by rw [HA.out]; rfl)
        have a8 := K5.a4 8 _ (by rw [HA.out]; rfl)
        clear T1 T2 T3
        go_wp2_with ((with_reducible show wpList _ _ _ (Oper.mk none (Op.store 32 (.tmp 8) _) _ _ _ _ :: _) _ _); refine wpList_store_mid (by rfl) 32 (.tmp 8) (.tmp 125) (by rfl) (w.heap.size + 1) 0 A.toArray (by rfl) (by rw [HA.out]; rfl) HT.out (by rw [List.size_toArray, HLA.out]; kernel_rfl) (all_oneCell_toArray HOA.out) ?_; rw [show A.toArray.toList = A from rfl])
        refine bodyPost_ret (v := .agg A.toArray) (by simp [results, Tryd.results17]; exact load32 HR.out HLA.out) rfl ?_
        have HE := HA.out
        refine ⟨?_, o4, HZ.out.1, HZ.out.2⟩
        rw [HE]; rfl
end Go.Proofs.YtpkmfckifnomeaaDoor


namespace Go.Proofs.YtpkmfckifnomeaaDoor
open Go.RowKit
/-- What turns on the way. -/
def TG (t q : Nat × Nat) : Prop := q = t ∨ q = (8, 2)
structure Gt (w0 : World) (o : Nat → Nat × Nat) (t : Nat × Nat) (l : List En) (now : Int) (ks : List ByteArray) (nA : Nat) (g : Bool) (j : Nat) (wr : World) (a : Option Addr) (n c : Nat) (o1 : Nat → Nat × Nat) : Prop where
  own : OwnK wr o1 t 4 (.slice a n c) n (fcs (fnd l now (ks.take j)))
  len : n = (fnd l now (ks.take j)).length
  fr : Fr (TG t) o o1 w0 wr
  mA : o1 nA = (8, 2)
  c1 : wr.cell? ⟨nA, 1, none⟩ = some (.slice a n c)
  z1 : wr.frozen? ⟨nA, 1, none⟩ = false
  cr : ∀ i v, i ≠ 1 → (acs 1 (.slice none 0 0) g 0 ⟨#[]⟩)[i]? = some v → wr.cell? ⟨nA, i, none⟩ = some v
theorem Gt.below {w0 wr w1 : World} {o o1 : Nat → Nat × Nat} {t : Nat × Nat} {l : List En} {now : Int} {ks : List ByteArray} {nA : Nat} {g : Bool} {j : Nat} {a : Option Addr} {n c : Nat} (h : Gt w0 o t l now ks nA g j wr a n c o1) (b : Below wr.heap.size wr w1) : Gt w0 o t l now ks nA g j w1 a n c o1 := by
  have f : Fr (TG t) o1 o1 wr w1 := Fr.ofBelow _ _ b
  have f0 : Fr (fun _ => False) o1 o1 wr w1 := Fr.ofBelow _ _ b
  exact ⟨h.own.below b, h.len, h.fr.trans f, h.mA, f0.cell h.c1 id, (f0.frozen (World.block_lt_of_cell? _ _ h.c1) id).trans h.z1, fun i v hi e => f0.cell (h.cr i v hi e) id⟩
theorem Gt.skip {w0 wr : World} {o o1 : Nat → Nat × Nat} {t : Nat × Nat} {l : List En} {now : Int} {ks : List ByteArray} {nA : Nat} {g : Bool} {j : Nat} {a : Option Addr} {n c : Nat} (h : Gt w0 o t l now ks nA g j wr a n c o1) {k : ByteArray} (hk : ks[j]? = some k) (hl : (liv l k now).2 = false) : Gt w0 o t l now ks nA g (j + 1) wr a n c o1 := by
  have e : fnd l now (ks.take (j + 1)) = fnd l now (ks.take j) := by
    rw [List.take_add_one, hk]
    show fnd l now (ks.take j ++ [k]) = _
    rw [fnd_app, hl]; simp
  exact ⟨by rw [e]; exact h.own, by rw [e]; exact h.len, h.fr, h.mA, h.c1, h.z1, h.cr⟩
set_option maxRecDepth 100000 in
theorem Gt.step {w0 wr : World} {o o1 : Nat → Nat × Nat} {t : Nat × Nat} {l : List En} {now : Int} {ks : List ByteArray} {nA : Nat} {g : Bool} {j : Nat} {a : Option Addr} {n c : Nat} (h : Gt w0 o t l now ks nA g j wr a n c o1) (ht : t ≠ (8, 2)) (hz : ks.length ≤ 1000000) {k : ByteArray} (hk : ks[j]? = some k) {e : En} (hl : liv l k now = (e, true)) :
    ∃ a' c' w' o', (Builtin.append_ #[29, 29] 29 #[.slice a n c, .slice (some ⟨wr.heap.size, 0, none⟩) 1 1]).run Tryd.prog (wr.alloc (.cells #[.string e.key, .int .i64 e.fl, .string e.val, .int .i64 e.cas] 35)) = .ok (.slice a' (n + 1) c') w' ∧
      w'.cell? ⟨nA, 1, none⟩ = some (.slice a n c) ∧ w'.frozen? ⟨nA, 1, none⟩ = false ∧ Gt w0 o t l now ks nA g (j + 1) (w'.setCell ⟨nA, 1, none⟩ (.slice a' (n + 1) c')) a' (n + 1) c' o' ∧ Fr (TG t) o1 o' wr (w'.setCell ⟨nA, 1, none⟩ (.slice a' (n + 1) c')) := by
  have e1 : fnd l now (ks.take (j + 1)) = fnd l now (ks.take j) ++ [e] := by
    rw [List.take_add_one, hk]
    show fnd l now (ks.take j ++ [k]) = _
    rw [fnd_app, hl]; rfl
  have hn : n ≤ 1000000 := by
    have := fnd_len l now (ks.take j)
    rw [← h.len] at this
    have := List.length_take_le j ks
    have := List.length_take_le' j ks
    omega
  obtain ⟨v', w', o', hr, h1, h2⟩ := app_one 29 35 _ 48 under29 info35 rfl h.own (fc1 e) rfl (fc1_one e) (by omega) (by omega)
  obtain ⟨a', c9, rfl, _⟩ := h1.form
  have hlt := World.block_lt_of_cell? _ _ h.c1
  have nt : ¬ (o1 nA = t) := by rw [h.mA]; exact fun e => ht e.symm
  have m' : o' nA = (8, 2) := (h2.lab nA hlt).trans h.mA
  have c' := h2.cell h.c1 nt
  have f3 : Fr (· = (8, 2)) o' o' w' (w'.setCell ⟨nA, 1, none⟩ (.slice a' (n + 1) c9)) := Fr.set (a := ⟨nA, 1, none⟩) m' _
  refine ⟨a', c9, w', o', hr, c', (h2.frozen hlt nt).trans h.z1, ⟨?_, by rw [e1, List.length_append, ← h.len]; rfl, (h.fr.trans (h2.mono (fun _ e => .inl e))).trans (f3.mono (fun _ e => .inr e)), m', World.cell?_setCell_same _ _ _ c', ?_, fun i v hi e => ?_⟩, (h2.mono (fun _ e => .inl e)).trans (f3.mono (fun _ e => .inr e))⟩
  · rw [e1, fcs_app]; exact h1.fr f3 ht
  · rw [World.frozen?_setCell]; exact (h2.frozen hlt nt).trans h.z1
  · rw [World.cell?_setCell_other _ _ _ _ (fun e2 => hi (by injection e2 with _ e2; exact e2.symm))]
    exact h2.cell (h.cr i v hi e) nt
end Go.Proofs.YtpkmfckifnomeaaDoor


namespace Go.Proofs.YtpkmfckifnomeaaDoor
open Go.RowKit
/-- Labels on the way: old blocks as they are (those of (8, 2) put by), new ones (8, 1), the answer's (8, 2). -/
def bl (o : Nat → Nat × Nat) (n nA : Nat) : Nat → Nat × Nat := fun b => if b = nA then (8, 2) else if b < n then (if o b = (8, 2) then (8, 9) else o b) else (8, 1)
theorem bl_nA (o : Nat → Nat × Nat) (n nA : Nat) : bl o n nA nA = (8, 2) := by unfold bl; rw [if_pos rfl]
theorem bl_new {o : Nat → Nat × Nat} {n nA b : Nat} (h1 : n ≤ b) (h2 : b ≠ nA) : bl o n nA b = (8, 1) := by unfold bl; rw [if_neg h2, if_neg (by omega)]
theorem bl_old {o : Nat → Nat × Nat} {n nA b : Nat} (h1 : b < n) (h2 : n ≤ nA) {t : Nat × Nat} (ht : t.1 < 8) : bl o n nA b = t ↔ o b = t := by
  unfold bl
  rw [if_neg (by omega), if_pos h1]
  by_cases e : o b = (8, 2)
  · rw [if_pos e]
    constructor
    · intro h; rw [← h] at ht; exact absurd ht (by decide)
    · intro h; rw [← h, e] at ht; exact absurd ht (by decide)
  · rw [if_neg e]
theorem bl_two {o : Nat → Nat × Nat} {n nA b : Nat} (h1 : b < n) (h2 : n ≤ nA) : bl o n nA b ≠ (8, 2) := by
  unfold bl
  rw [if_neg (by omega), if_pos h1]
  by_cases e : o b = (8, 2)
  · rw [if_pos e]; decide
  · rw [if_neg e]; exact e
theorem OwnK.relab {w : World} {o o' : Nat → Nat × Nat} {t : Nat × Nat} {k n : Nat} {v : Value} {cs : List Value} (h : OwnK w o t k v n cs) (hl : ∀ b, b < w.heap.size → o b = t → o' b = t) : OwnK w o' t k v n cs := by
  refine ⟨h.1, h.2.1, ?_⟩
  rcases h.2.2 with h | ⟨g, cap, h1, h2, h3, h4⟩
  · exact .inl h
  · exact .inr ⟨g, cap, h1, hl g h3 h2, h3, h4⟩
theorem IsR.relab {w : World} {o o' : Nat → Nat × Nat} {x b : Nat} {l : List En} (h : IsR w o x b l) (hl : ∀ b, b < w.heap.size → (o b).1 = x → o' b = o b) : IsR w o' x b l := by
  obtain ⟨a, c, h1, h2⟩ := h.li
  exact ⟨(hl b h.lt (by rw [h.ob])).trans h.ob, h.fz, a, c, h1, h2.relab (fun b hb e => (hl b hb (by rw [e])).trans e)⟩
/-- The answer's box as it begins. -/
def A0 (g : Bool) : List Value := acs 1 (.slice none 0 0) g 0 ⟨#[]⟩
def WA (w : World) (R : Array Value) (g : Bool) : World := (Bx w R).alloc (.cells (A0 g).toArray 32)
theorem wa_below (w : World) (R : Array Value) (g : Bool) : Below w.heap.size w (WA w R g) := (bx_below w R).trans ((below_alloc _ _).mono (bx_below w R).size)
theorem bx_size (w : World) (R : Array Value) : (Bx w R).heap.size = w.heap.size + 1 + 1 := by unfold Bx; simp
theorem wa_size (w : World) (R : Array Value) (g : Bool) : (WA w R g).heap.size = w.heap.size + 1 + 1 + 1 := by unfold WA; rw [World.size_alloc, bx_size]
/-- All that is known on the way. -/
structure Gw (w : World) (R : Array Value) (o : Nat → Nat × Nat) (t : Nat × Nat) (x P : Nat) (l : List En) (now : Int) (ks : List ByteArray) (g : Bool) (j : Nat) (wr : World) (a : Option Addr) (n c : Nat) (o1 : Nat → Nat × Nat) : Prop where
  gt : Gt (WA w R g) (bl o w.heap.size (w.heap.size + 1 + 1)) t l now ks (w.heap.size + 1 + 1) g j wr a n c o1
  ir : IsR wr o1 x P l
theorem Gw.start {w : World} {o : Nat → Nat × Nat} {x P : Nat} {l : List En} (hx : x < 8) (h : IsR w o x P l) (t : Nat × Nat) (R : Array Value) (now : Int) (ks : List ByteArray) (g : Bool) :
    Gw w R o t x P l now ks g 0 (WA w R g) none 0 0 (bl o w.heap.size (w.heap.size + 1 + 1)) := by
  have e : ∀ i v, (A0 g)[i]? = some v → (WA w R g).cell? ⟨w.heap.size + 1 + 1, i, none⟩ = some v := fun i v h => by
    unfold WA
    rw [← bx_size w R, World.cell?_alloc_new, List.getElem?_toArray]; exact h
  refine ⟨⟨OwnK.nil _ _ _ _, rfl, Fr.refl _ _ _, bl_nA _ _ _, e 1 _ rfl, ?_, fun i v _ h => e i v h⟩, ?_⟩
  · unfold WA; rw [← bx_size w R]; exact World.frozen?_alloc_new _ _ _ _
  · have h1 : IsR w (bl o w.heap.size (w.heap.size + 1 + 1)) x P l := h.relab (fun b hb e => by
      unfold bl
      rw [if_neg (by omega), if_pos hb, if_neg (fun e2 => by rw [e2] at e; simp at e; omega)])
    exact h1.below (wa_below w R g)
/-- What is elder than the call, and isn't of t, is as it was. -/
theorem Gw.old {w wr : World} {R : Array Value} {o o1 : Nat → Nat × Nat} {t : Nat × Nat} {x P : Nat} {l : List En} {now : Int} {ks : List ByteArray} {g : Bool} {j n c : Nat} {a : Option Addr} (h : Gw w R o t x P l now ks g j wr a n c o1) (ht : t.1 < 8) {b : Nat} (hb : b < w.heap.size) (ho : o b ≠ t) : wr.heap[b]? = w.heap[b]? := by
  have h1 := wa_below w R g
  refine (h.gt.fr.block b (by have := h1.size; omega) ?_).trans (h1.block b hb)
  rintro (e | e)
  · exact ho ((bl_old hb (by omega) ht).1 e)
  · exact bl_two hb (by omega) e
/-- The call's own boxes. -/
theorem Gw.box {w wr : World} {R : Array Value} {o o1 : Nat → Nat × Nat} {t : Nat × Nat} {x P : Nat} {l : List En} {now : Int} {ks : List ByteArray} {g : Bool} {j n c : Nat} {a : Option Addr} (h : Gw w R o t x P l now ks g j wr a n c o1) (ht : t.1 < 8) {b : Nat} (hb : w.heap.size ≤ b) (hb2 : b < w.heap.size + 1 + 1) : wr.heap[b]? = (Bx w R).heap[b]? := by
  refine (h.gt.fr.block b (by rw [wa_size]; omega) ?_).trans (Below.heap_alloc _ _ _ (by rw [bx_size]; exact hb2))
  rw [bl_new hb (by omega)]
  rintro (e | e)
  · rw [← e] at ht; exact absurd ht (by decide)
  · cases e
theorem Gw.req {w wr : World} {R : Array Value} {o o1 : Nat → Nat × Nat} {t : Nat × Nat} {x P : Nat} {l : List En} {now : Int} {ks : List ByteArray} {g : Bool} {j n c : Nat} {a : Option Addr} (h : Gw w R o t x P l now ks g j wr a n c o1) (ht : t.1 < 8) {i : Nat} {v : Value} (e : R[i]? = some v) : wr.cell? ⟨w.heap.size, i, none⟩ = some v :=
  (World.cell?_of_block (a := ⟨w.heap.size, i, none⟩) (h.box ht (b := w.heap.size) (Nat.le_refl _) (by omega))).trans (bx_cell w R e)
theorem Gw.res {w wr : World} {R : Array Value} {o o1 : Nat → Nat × Nat} {t : Nat × Nat} {x P : Nat} {l : List En} {now : Int} {ks : List ByteArray} {g : Bool} {j n c : Nat} {a : Option Addr} (h : Gw w R o t x P l now ks g j wr a n c o1) (ht : t.1 < 8) : wr.there (w.heap.size + 1) 0 9 := fun j hj => by
  have e := h.box ht (b := w.heap.size + 1) (by omega) (by omega)
  rw [World.cell?_of_block (a := ⟨w.heap.size + 1, 0 + j, none⟩) e, World.frozen?_of_block (a := ⟨w.heap.size + 1, 0 + j, none⟩) e]
  exact bx_there w R j hj
theorem Gw.skip {w wr : World} {R : Array Value} {o o1 : Nat → Nat × Nat} {t : Nat × Nat} {x P : Nat} {l : List En} {now : Int} {ks : List ByteArray} {g : Bool} {j n c : Nat} {a : Option Addr} (h : Gw w R o t x P l now ks g j wr a n c o1) {k : ByteArray} (hk : ks[j]? = some k) (hl : (liv l k now).2 = false) : Gw w R o t x P l now ks g (j + 1) wr a n c o1 := ⟨h.gt.skip hk hl, h.ir⟩
/-- One more told. -/
theorem Gw.step {w wr : World} {R : Array Value} {o o1 : Nat → Nat × Nat} {t : Nat × Nat} {x P : Nat} {l : List En} {now : Int} {ks : List ByteArray} {g : Bool} {j n c : Nat} {a : Option Addr} (h : Gw w R o t x P l now ks g j wr a n c o1) (hx : x < 8) (ht : t.1 < 8) (h0 : t ≠ (x, 0)) (h1 : t ≠ (x, 1)) (hz : ks.length ≤ 1000000) {k : ByteArray} (hk : ks[j]? = some k) {e : En} (hl : liv l k now = (e, true)) :
    (wr.alloc (.cells e.cs.toArray 49)).cell? ⟨w.heap.size + 1 + 1, 1, none⟩ = some (.slice a n c) ∧
    ∃ a' c' w' o', (Builtin.append_ #[29, 29] 29 #[.slice a n c, .slice (some ⟨wr.heap.size + 1, 0, none⟩) 1 1]).run Tryd.prog ((wr.alloc (.cells e.cs.toArray 49)).alloc (.cells #[.string e.key, .int .i64 e.fl, .string e.val, .int .i64 e.cas] 35)) = .ok (.slice a' (n + 1) c') w' ∧
      w'.cell? ⟨w.heap.size + 1 + 1, 1, none⟩ = some (.slice a n c) ∧ w'.frozen? ⟨w.heap.size + 1 + 1, 1, none⟩ = false ∧ Gw w R o t x P l now ks g (j + 1) (w'.setCell ⟨w.heap.size + 1 + 1, 1, none⟩ (.slice a' (n + 1) c')) a' (n + 1) c' o' := by
  have b := below_alloc wr (.cells e.cs.toArray 49)
  have g1 := h.gt.below b
  have t82 : t ≠ (8, 2) := fun e => by rw [e] at ht; exact absurd ht (by decide)
  obtain ⟨a', c', w', o', hr, e1, e2, g2, f2⟩ := g1.step t82 hz hk hl
  rw [World.size_alloc] at hr
  refine ⟨g1.c1, a', c', w', o', hr, e1, e2, g2, (h.ir.below b).fr f2 ?_ ?_⟩
  · rintro (e | e)
    · exact h0 e.symm
    · injection e with e _; omega
  · rintro (e | e)
    · exact h1 e.symm
    · injection e with e _; omega
/-- What is known in the end. -/
theorem Gw.fin {w wr : World} {R : Array Value} {o o1 : Nat → Nat × Nat} {t : Nat × Nat} {x P : Nat} {l : List En} {now : Int} {ks : List ByteArray} {g : Bool} {j n c : Nat} {a : Option Addr} (h : Gw w R o t x P l now ks g j wr a n c o1) (hx : x < 8) (ht : t.1 < 8) (hj : ks.length ≤ j) :
    (∀ i v, (acs 1 (.slice a n c) g 0 ⟨#[]⟩)[i]? = some v → wr.cell? ⟨w.heap.size + 1 + 1, i, none⟩ = some v) ∧ wr.there (w.heap.size + 1) 0 (acs 1 (.slice a n c) g 0 ⟨#[]⟩).length ∧
    (wr.setCells (w.heap.size + 1) 0 (acs 1 (.slice a n c) g 0 ⟨#[]⟩)).rangeAt (w.heap.size + 1) 0 (acs 1 (.slice a n c) g 0 ⟨#[]⟩) ∧
    ∃ o', OwnK (wr.setCells (w.heap.size + 1) 0 (acs 1 (.slice a n c) g 0 ⟨#[]⟩)) o' t 4 (.slice a n c) n (fcs (fnd l now ks)) ∧ n = (fnd l now ks).length ∧ IsR (wr.setCells (w.heap.size + 1) 0 (acs 1 (.slice a n c) g 0 ⟨#[]⟩)) o' x P l ∧ Fr (· = t) o o' w (wr.setCells (w.heap.size + 1) 0 (acs 1 (.slice a n c) g 0 ⟨#[]⟩)) := by
  have tr := h.res ht
  have ek : ks.take j = ks := List.take_of_length_le hj
  have ho := h.gt.own
  have hl := h.gt.len
  rw [ek] at ho hl
  have hw := wa_below w R g
  have hsz : w.heap.size ≤ wr.heap.size := Nat.le_trans hw.size h.gt.fr.size
  have hbl : ∀ b, b < w.heap.size → o1 b = bl o w.heap.size (w.heap.size + 1 + 1) b := fun b hb => h.gt.fr.lab b (by have := hw.size; omega)
  have hf1 : Fr (· = (8, 1)) o1 o1 wr (wr.setCells (w.heap.size + 1) 0 (acs 1 (.slice a n c) g 0 ⟨#[]⟩)) := fr_sets8 (T := fun t => t = (8, 1)) ((h.gt.fr.lab _ (by rw [wa_size]; omega)).trans (bl_new (by omega) (by omega))) _ _ _
  have t81 : t ≠ (8, 1) := fun e => by rw [e] at ht; exact absurd ht (by decide)
  refine ⟨fun i v e => ?_, tr, World.rangeAt_setCells_same _ _ _ _ tr, fun b => if b < w.heap.size then o b else o1 b, ?_, hl, ?_, ?_⟩
  · by_cases hi : i = 1
    · subst hi
      injection e with e
      rw [← e]; exact h.gt.c1
    · refine h.gt.cr i v hi ?_
      rw [← e]
      unfold acs
      rcases i with _ | _ | i
      · rfl
      · exact absurd rfl hi
      · rfl
  · refine (ho.fr hf1 t81).relab (fun b _ e => ?_)
    by_cases hb : b < w.heap.size
    · rw [if_pos hb]
      rw [hbl b hb] at e
      exact (bl_old hb (by omega) ht).1 e
    · rw [if_neg hb]; exact e
  · refine (h.ir.fr hf1 ?_ ?_).relab (fun b _ e => ?_)
    · intro e; injection e with e _; omega
    · intro e; injection e with e _; omega
    · by_cases hb : b < w.heap.size
      · rw [if_pos hb]
        obtain ⟨q, hq⟩ : ∃ q, o1 b = q := ⟨_, rfl⟩
        rw [hq] at e ⊢
        rw [hbl b hb] at hq
        exact (bl_old hb (by omega) (by rw [e]; exact hx)).1 hq
      · rw [if_neg hb]
  · have f0 : Fr (· = t) o (fun b => if b < w.heap.size then o b else o1 b) w wr := ⟨h.gt.fr.os.trans hw.os, h.gt.fr.tape.trans hw.tape, h.gt.fr.output.trans hw.output, hsz, fun b hb => if_pos hb, fun b hb ho => h.old ht hb ho⟩
    exact f0.setsNew (by omega) _ _
end Go.Proofs.YtpkmfckifnomeaaDoor
