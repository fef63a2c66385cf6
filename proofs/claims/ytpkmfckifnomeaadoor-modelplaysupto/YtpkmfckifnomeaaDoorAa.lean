/-
  ANY ASK: what Apply does, plainly; Forget; light; what stays.
-/
import Derived.Test.YtpkmfckifnomeaaDoorRunP
import Derived.Test.YtpkmfckifnomeaaDoorOp2
import Derived.Test.YtpkmfckifnomeaaDoorSm
namespace Go.Proofs.YtpkmfckifnomeaaDoor
open Go.RowKit

open Go.Lib (TabIs pow10Tab)
/-- What Apply tells but for values. -/
def anA (r : Rq) (ks : List ByteArray) (now ver : Int) (l : List En) : Ab :=
  if r.verb = 1 ∨ r.verb = 2 then ab 1 else if r.verb = 13 then ab 9 else match ks with
    | [k] => (q1 r k now ver l).1
    | _ => ab 0
def anV (r : Rq) (ks : List ByteArray) (now : Int) (l : List En) : List En := if r.verb = 1 ∨ r.verb = 2 then fnd l now ks else []
/-- The entries behind Apply. -/
def apk (r : Rq) (ks : List ByteArray) (now ver : Int) (l : List En) : List En :=
  if r.verb = 1 ∨ r.verb = 2 then l else if r.verb = 13 then [] else match ks with
    | [k] => stp r k now ver l
    | _ => l
theorem ls_ap (q : Nat) (r : Rq) (now ver : Int) (a : Option Addr) (kc : Nat) (ks : List ByteArray) {w0 : World} {o : Nat → Nat × Nat} {P n : Nat} {l : List En} {vs : List (Nat × Nat × List Value)} {os : List (Nat × Value × Nat × List Value)} (w : World) (h : Ls w o P n l vs os) (hz : Zz w0 w o) (hn : n < 1000000) (hkl : ks.length ≤ 1000000) (hkz : ∀ k ∈ ks, k.size ≤ 140737488355328) (hd : r.data.size ≤ 140737488355328) (hK : Ks w0 a ks) (hlt : ks ≠ [] → ∀ p off, a = some ⟨p, off, none⟩ → p < w0.heap.size) (hq : ∀ i v k cs, (i, v, k, cs) ∈ os → i ≠ q) :
    Calls Tryd.prog 11 #[.pointer (some ⟨P, 0, none⟩), .agg (r.cs (.slice a ks.length kc)).toArray, .int .i64 now, .int .i64 ver] w fun e w' => ∃ a' m c o', e = .returned (.agg (acs (anA r ks now ver l).kind (.slice a' m c) (r.verb == 2) (anA r ks now ver l).num (anA r ks now ver l).text).toArray) ∧ m = (anV r ks now l).length ∧ Ls w' o' P (n + 1) (apk r ks now ver l) vs ((q, .slice a' m c, m, fcs (anV r ks now l)) :: os) ∧ Zz w0 w' o' := by
  obtain ⟨b, hb⟩ := h.m
  have hKw : Ks w a ks := by
    rcases hK with hK | ⟨p, off, h1, h2⟩
    · exact .inl hK
    · exact .inr ⟨p, off, h1, fun i k hk => (hz.b.cell (p := ⟨p, off + i, none⟩) (World.block_lt_of_cell? _ _ (h2 i k hk))).trans (h2 i k hk)⟩
  have hoff : ks ≠ [] → Off o a (· = (7, q)) := fun hne p off e e' => by
    rw [hz.z p (hlt hne p off e)] at e'; cases e'
  have hlw : ks ≠ [] → ∀ p off, a = some ⟨p, off, none⟩ → p < w.heap.size := fun hne p off e => Nat.lt_of_lt_of_le (hlt hne p off e) hz.b.size
  by_cases v1 : r.verb = 1 ∨ r.verb = 2
  · have post : ∀ e w', (∃ a' m c o', e = Ending.returned (.agg (acs 1 (.slice a' m c) (r.verb == 2) 0 ⟨#[]⟩).toArray) ∧ OwnK w' o' (7, q) 4 (.slice a' m c) m (fcs (fnd l now ks)) ∧ m = (fnd l now ks).length ∧ IsM w' o' 1 P b n l ∧ Fr (· = (7, q)) o o' w w') → ∃ a' m c o', e = .returned (.agg (acs (anA r ks now ver l).kind (.slice a' m c) (r.verb == 2) (anA r ks now ver l).num (anA r ks now ver l).text).toArray) ∧ m = (anV r ks now l).length ∧ Ls w' o' P (n + 1) (apk r ks now ver l) vs ((q, .slice a' m c, m, fcs (anV r ks now l)) :: os) ∧ Zz w0 w' o' := by
      rintro e w' ⟨a', m, c, o', rfl, hO, hm, i1, f1⟩
      obtain ⟨i2, z2⟩ := h.turn hz f1 ⟨b, i1⟩ h.ok (fun _ _ _ _ e => by cases e) (fun i v k cs hm e => hq i v k cs hm (by cases e; rfl)) (fun e => by cases e)
      have e1 : anA r ks now ver l = ab 1 := if_pos v1
      have e2 : anV r ks now l = fnd l now ks := if_pos v1
      have e3 : apk r ks now ver l = l := if_pos v1
      rw [e1, e2, e3]
      have i3 := i2.sub (Nat.le_succ n) (fun x hx => hx) (fun x hx => hx)
      refine ⟨a', m, c, o', rfl, hm, ⟨i3.m, i3.v, fun i v k cs hm => ?_, i3.ok, i3.tab⟩, z2⟩
      rcases List.mem_cons.1 hm with e | hm
      · cases e; exact hO
      · exact i3.s i v k cs hm
    show Calls Tryd.prog 11 #[.pointer (some ⟨P, 0, none⟩), .agg #[.int .i64 r.verb, .slice a ks.length kc, .int .i64 r.fl, .int .i64 r.exp, .int .i64 r.bytes, .int .i64 r.cas, .int .u64 (r.delta : Int), .bool r.quiet, .string r.data], .int .i64 now, .int .i64 ver] w _
    rcases v1 with v1 | v1
    · rw [v1] at post ⊢
      exact (apply_get 1 (7, q) now ver a kc ks r.fl r.exp r.bytes r.cas r.delta r.quiet r.data hkl hkz (fun e => by cases e) (fun e => by cases e) (fun e => by cases e) (fun e => by cases e) w hb hKw hoff hlw).mono post
    · rw [v1] at post ⊢
      exact (apply_gets 1 (7, q) now ver a kc ks r.fl r.exp r.bytes r.cas r.delta r.quiet r.data hkl hkz (fun e => by cases e) (fun e => by cases e) (fun e => by cases e) (fun e => by cases e) w hb hKw hoff hlw).mono post
  have n1 : r.verb ≠ 1 := fun e => v1 (.inl e)
  have n2 : r.verb ≠ 2 := fun e => v1 (.inr e)
  have g2 : (r.verb == 2) = false := by simp [n2]
  have e2 : anV r ks now l = [] := if_neg v1
  have nil : ∀ (w' : World) (o' : Nat → Nat × Nat) (l' : List En), Ls w' o' P (n + 1) l' vs os → Ls w' o' P (n + 1) l' vs ((q, .slice none 0 0, 0, fcs []) :: os) := fun w' o' l' i3 => ⟨i3.m, i3.v, fun i v k cs hm => by
    rcases List.mem_cons.1 hm with e | hm
    · cases e; exact OwnK.nil _ _ _ _
    · exact i3.s i v k cs hm, i3.ok, i3.tab⟩
  by_cases v13 : r.verb = 13
  · have e1 : anA r ks now ver l = ab 9 := by unfold anA; rw [if_neg v1, if_pos v13]
    have e3 : apk r ks now ver l = [] := by unfold apk; rw [if_neg v1, if_pos v13]
    rw [e1, e2, e3, g2]
    show Calls Tryd.prog 11 #[.pointer (some ⟨P, 0, none⟩), .agg #[.int .i64 r.verb, .slice a ks.length kc, .int .i64 r.fl, .int .i64 r.exp, .int .i64 r.bytes, .int .i64 r.cas, .int .u64 (r.delta : Int), .bool r.quiet, .string r.data], .int .i64 now, .int .i64 ver] w _
    rw [v13]
    refine (apply_flush 1 now ver a ks.length kc r.fl r.exp r.bytes r.cas r.delta r.quiet r.data w hb).mono ?_
    rintro e w' ⟨b', o', rfl, i1, f1⟩
    obtain ⟨i2, z2⟩ := h.turn hz f1 ⟨b', i1⟩ Ok.nil (fun _ _ _ _ e => by have : 8 = 1 := e; omega) (fun _ _ _ _ _ e => by have : 7 = 1 := e; omega) (fun e => by have : 0 = 1 := e; omega)
    exact ⟨none, 0, 0, o', rfl, rfl, nil _ _ _ (i2.sub (Nat.zero_le _) (fun x hx => hx) (fun x hx => hx)), z2⟩
  have g1 : (r.verb == 1) = false := by simp [n1]
  have g13 : (r.verb == 13) = false := by simp [v13]
  by_cases hone : ks.length = 1
  · obtain ⟨k, rfl⟩ := List.length_eq_one_iff.1 hone
    have e1 : anA r [k] now ver l = (q1 r k now ver l).1 := by unfold anA; rw [if_neg v1, if_neg v13]
    have e3 : apk r [k] now ver l = stp r k now ver l := by unfold apk; rw [if_neg v1, if_neg v13]
    rw [e1, e2, e3, g2]
    rcases hKw with hKw | ⟨p, off, rfl, h2⟩
    · cases hKw
    have c := h2 0 k rfl
    refine (apply_one 1 r now ver p off kc k g1 g2 g13 hn h.ok (hkz k (by simp)) hd w hb c (by omega) h.tab).mono ?_
    rintro e w' ⟨o', rfl, i1, f1⟩
    obtain ⟨i2, z2⟩ := h.turn hz f1 ⟨b, i1⟩ (stp_ok h.ok (hkz k (by simp)) hd) (fun _ _ _ _ e => by have : 8 = 1 := e; omega) (fun _ _ _ _ _ e => by have : 7 = 1 := e; omega) (fun e => by have : 0 = 1 := e; omega)
    exact ⟨none, 0, 0, o', rfl, rfl, nil _ _ _ i2, z2⟩
  · have e1 : anA r ks now ver l = ab 0 := by
      unfold anA; rw [if_neg v1, if_neg v13]
      match ks, hone with
      | [], _ => rfl
      | [_], h => exact absurd rfl h
      | _ :: _ :: _, _ => rfl
    have e3 : apk r ks now ver l = l := by
      unfold apk; rw [if_neg v1, if_neg v13]
      match ks, hone with
      | [], _ => rfl
      | [_], h => exact absurd rfl h
      | _ :: _ :: _, _ => rfl
    rw [e1, e2, e3, g2]
    refine (apply_none P now ver a ks.length kc r.fl r.exp r.bytes r.cas r.delta r.quiet r.data r.verb g1 g2 g13 hone w).mono ?_
    rintro e w' ⟨rfl, hb'⟩
    exact ⟨none, 0, 0, o, rfl, rfl, nil _ _ _ ((h.below hb').sub (Nat.le_succ n) (fun x hx => hx) (fun x hx => hx)), hz.below hb'⟩
theorem ls_forget (k : ByteArray) (hk : k.size ≤ 140737488355328) {w0 : World} {o : Nat → Nat × Nat} {P n : Nat} {l : List En} {vs : List (Nat × Nat × List Value)} {os : List (Nat × Value × Nat × List Value)} (w : World) (h : Ls w o P n l vs os) (hz : Zz w0 w o) :
    Calls Tryd.prog 14 #[.pointer (some ⟨P, 0, none⟩), .string k] w fun e w' => e = .returned (.bool (look (L k) l).isSome) ∧ Ls w' o P n (del (L k) l) vs os ∧ Zz w0 w' o := by
  obtain ⟨b, hb⟩ := h.m
  refine (forget_any 1 k hk w hb).mono ?_
  rintro e w' ⟨rfl, i1, f1⟩
  obtain ⟨i2, z2⟩ := h.turn hz f1 ⟨b, i1⟩ (h.ok.del _) (fun _ _ _ _ e => by have : 8 = 1 := e; omega) (fun _ _ _ _ _ e => by have : 7 = 1 := e; omega) (fun e => by have : 0 = 1 := e; omega)
  exact ⟨rfl, i2, z2⟩
/- What is done to other keys leaves a key's entry. -/
theorem look_del_ne {k k' : B} (h : k ≠ k') (l : List En) : look k (del k' l) = look k l := by
  unfold look del
  induction l with
  | nil => rfl
  | cons e l ih =>
    rw [List.filter_cons]
    cases h1 : (L e.key == k') with
    | true =>
      have : (L e.key == k) = false := by
        have e1 := eq_of_beq h1
        rw [e1]; simp only [beq_eq_false_iff_ne]; exact fun x => h x.symm
      simp only [Bool.not_true, Bool.false_eq_true, if_false]
      rw [ih, List.find?_cons, this]
    | false =>
      simp only [Bool.not_false, if_true]
      rw [List.find?_cons, List.find?_cons, ih]
theorem look_del (k : B) (l : List En) : look k (del k l) = none := by
  unfold look del
  rw [List.find?_eq_none]
  intro e he
  have := (List.mem_filter.1 he).2
  simpa using this
theorem look_ins_ne {k : B} {e : En} (h : L e.key ≠ k) : ∀ l : List En, look k (ins e l) = look k l
  | [] => by
    have : (L e.key == k) = false := by simp only [beq_eq_false_iff_ne]; exact h
    unfold look ins; rw [List.find?_cons, this]
  | y :: r => by
    have h1 : (L e.key == k) = false := by simp only [beq_eq_false_iff_ne]; exact h
    have ih := look_ins_ne h r
    unfold look at ih ⊢
    rw [ins]
    split
    · rw [List.find?_cons, h1]
    · rw [List.find?_cons, List.find?_cons, ih]
theorem look_put_ne {k : B} {e : En} (h : L e.key ≠ k) (l : List En) : look k (put e l) = look k l := by
  unfold put
  rw [look_ins_ne h, look_del_ne (fun x => h x.symm)]
theorem stp_look {r : Rq} {k' : ByteArray} {k : B} {now ver : Int} {l : List En} (h : L k' ≠ k) (hok : Ok l) (hd : r.data.size ≤ 140737488355328) : look k (stp r k' now ver l) = look k l := by
  have h0 := liv_ok hok k' now
  have h1 : look k (if (q1 r k' now ver l).2.2.1 then put (q1 r k' now ver l).2.1 l else l) = look k l := by
    split
    · rename_i hk
      have := nxt_ok r (liv l k' now).1 (liv l k' now).2 now ver h0.2 hd hk
      refine look_put_ne ?_ l
      rw [show (q1 r k' now ver l).2.1.key = k' from this.1.trans h0.1]
      exact h
    · rfl
  unfold stp
  simp only
  split
  · rw [look_del_ne (fun x => h x.symm), h1]
  · exact h1
theorem apk_look {r : Rq} {ks : List ByteArray} {k : B} {now ver : Int} {l : List En} (h13 : r.verb ≠ 13) (h : ∀ k' r', ks = k' :: r' → L k' ≠ k) (hok : Ok l) (hd : r.data.size ≤ 140737488355328) : look k (apk r ks now ver l) = look k l := by
  by_cases v1 : r.verb = 1 ∨ r.verb = 2
  · unfold apk; rw [if_pos v1]
  unfold apk; rw [if_neg v1, if_neg h13]
  match ks, h with
  | [], _ => rfl
  | [k'], h => exact stp_look (h k' [] rfl) hok hd
  | _ :: _ :: _, _ => rfl
theorem fnd_one {l : List En} {k : ByteArray} {now : Int} {u : En} (h : look (L k) l = some u) (hv : lv u.dl now = true) : fnd l now [k] = [u] := by
  have g : got l (L k) = u := by unfold got; rw [h]; rfl
  have e : liv l k now = (u, true) := by unfold liv; rw [h, g, hv]; rfl
  unfold fnd
  simp [e]
theorem fnd_gone {l : List En} {k : ByteArray} {now : Int} {u : En} (h : look (L k) l = some u) (hv : lv u.dl now = false) : fnd l now [k] = [] := by
  have g : got l (L k) = u := by unfold got; rw [h]; rfl
  have e : (liv l k now).2 = false := by unfold liv; rw [h, g, hv]; rfl
  unfold fnd
  simp [e]
theorem fnd_none {l : List En} {k : ByteArray} {now : Int} (h : look (L k) l = none) : fnd l now [k] = [] := by
  have e : (liv l k now).2 = false := by unfold liv; rw [h]; rfl
  unfold fnd
  simp [e]
theorem ksum_at {ks : List ByteArray} {k : ByteArray} (h : k ∈ ks) : k.size + 1 ≤ ksum ks := by
  induction ks with
  | nil => cases h
  | cons x r ih =>
    have e : ksum (x :: r) = (x.size + 1) + ksum r := by simp [ksum]
    rw [e]
    rcases List.mem_cons.1 h with rfl | h
    · omega
    · have := ih h; omega
theorem ksum_len (ks : List ByteArray) : ks.length ≤ ksum ks := by
  induction ks with
  | nil => simp [ksum]
  | cons x r ih =>
    have e : ksum (x :: r) = (x.size + 1) + ksum r := by simp [ksum]
    rw [e, List.length_cons]; omega
theorem ksum_app (a b : List ByteArray) : ksum (a ++ b) = ksum a + ksum b := by simp [ksum]
theorem ksum_take (ks : List ByteArray) {j : Nat} {k : ByteArray} (h : ks[j]? = some k) : ksum (ks.take (j + 1)) = ksum (ks.take j) + (k.size + 1) := by
  rw [List.take_add_one, h, ksum_app]
  simp [ksum]
theorem ksum_le (ks : List ByteArray) (j : Nat) : ksum (ks.take j) ≤ ksum ks := by
  have h : ksum ks = ksum (ks.take j) + ksum (ks.drop j) := by rw [← ksum_app, List.take_append_drop]
  omega
set_option maxRecDepth 100000 in
set_option maxHeartbeats 1000000 in
/-- light: is it not too large? -/
theorem light_any (k : Ak) (htot : ksum k.ks + k.r.data.size + k.key.size ≤ 1048576) (w : World) (hK : Ks w k.a k.ks) :
    Calls Tryd.prog 12 #[.agg k.cs.toArray] w fun e w' => e = .returned (.bool (decide (ksum k.ks + k.r.data.size + k.key.size < 1000))) ∧ Below w.heap.size w w' := by
  obtain ⟨K, hKc⟩ : ∃ K, K = k.cs := ⟨_, rfl⟩
  have c1 : (w.alloc (.cells K.toArray 43)).cell? ⟨w.heap.size, 1, none⟩ = some (.string k.key) := by rw [World.cell?_alloc_new, List.getElem?_toArray, hKc]; rfl
  have c3 : (w.alloc (.cells K.toArray 43)).cell? ⟨w.heap.size, 3, none⟩ = some (.slice k.a k.ks.length k.cap) := by rw [World.cell?_alloc_new, List.getElem?_toArray, hKc]; rfl
  have c10 : (w.alloc (.cells K.toArray 43)).cell? ⟨w.heap.size, 10, none⟩ = some (.string k.r.data) := by rw [World.cell?_alloc_new, List.getElem?_toArray, hKc]; rfl
  have HB : Hid (Below w.heap.size w (w.alloc (.cells K.toArray 43))) := Lib.hid (below_alloc _ _)
  have HK := Lib.hid (hK.below HB.out)
  rw [← hKc]
  clear hKc hK
  obtain ⟨ks, hks⟩ : ∃ ks, k.ks = ks := ⟨_, rfl⟩
  obtain ⟨a, ha⟩ : ∃ a, k.a = a := ⟨_, rfl⟩
  obtain ⟨kl, hkl⟩ : ∃ kl, ks.length = kl := ⟨_, rfl⟩
  rw [hks, ha] at HK
  rw [hks, ha, hkl] at c3
  rw [hks] at htot ⊢
  clear hks ha
  obtain ⟨W, hW⟩ : ∃ W, W = w.alloc (.cells K.toArray 43) := ⟨_, rfl⟩
  have HW := Lib.hid hW
  have z1 : k.r.data.size ≤ 1048576 := by omega
  have z2 : k.key.size ≤ 1048576 := by omega
  have HT := Lib.hid htot
  have HL := Lib.hid hkl
  have klz : kl ≤ 1048576 := by have := ksum_len ks; omega
  clear htot hkl hW
  go_enter Tryd.func12, Tryd.ntmps12
  go_wp2_with fail
  rw [← HW.out] at c1 c3 c10 HB HK ⊢
  go_loopw [3, 4] (fun nv i wr => ∃ j m : Nat, j ≤ kl ∧ i = .int .i64 (j : Int) ∧ nv = .int .i64 (m : Int) ∧ m ≤ 1048576 ∧ Hid (m = ksum (ks.take j) + k.r.data.size + k.key.size) ∧ wr = W) (fun _ i _ => kl - (intOf i).toNat)
  case atStart => exact ⟨0, k.r.data.size + k.key.size, by omega, rfl, by simp, by have := HT.out; omega, Lib.hid (by simp [ksum]), rfl⟩
  case round =>
    obtain ⟨j, m, hj, rfl, rfl, hm, HM, rfl⟩ := hrel
    by_cases hlt : j < kl
    · have hi1 : (j : Int) < (kl : Int) := by omega
      obtain ⟨x, hx⟩ : ∃ x, ks[j]? = some x := ⟨_, List.getElem?_eq_getElem (by rw [HL.out]; exact hlt)⟩
      have hs := ksum_take ks hx
      have hle := ksum_le ks (j + 1)
      have xz : x.size ≤ 1048576 := by have := HT.out; omega
      have HM2 : Hid (m + x.size + 1 = ksum (ks.take (j + 1)) + k.r.data.size + k.key.size) := Lib.hid (by have := HM.out; omega)
      have mz : m + x.size + 1 ≤ 1048576 := by have := HT.out; have := HM2.out; omega
      rcases HK.out with h0 | ⟨p, off, rfl, h2⟩
      · rw [h0] at hx; cases hx
      have cx := h2 j x hx
      clear h2 hs hle hx
      go_wp2_with fail
      exact ⟨⟨j + 1, m + x.size + 1, by omega, by go_num, by go_num, mz, HM2, trivial⟩, by simp [intOf]; omega⟩
    · have hi1 : decide ((j : Int) < (kl : Int)) = false := decide_eq_false (by omega)
      have ej : j = kl := by omega
      have HF : Hid (m = ksum ks + k.r.data.size + k.key.size) := Lib.hid (by have := HM.out; rw [ej, List.take_of_length_le (by rw [HL.out]; exact Nat.le_refl _)] at this; exact this)
      have he : Hid (decide ((m : Int) < 1000) = decide (ksum ks + k.r.data.size + k.key.size < 1000)) := Lib.hid (by rw [← HF.out]; congr 1; simp; omega)
      clear ej
      go_wp2_with fail
      go_ret
      exact ⟨ret_bool he.out, HB.out⟩
end Go.Proofs.YtpkmfckifnomeaaDoor
