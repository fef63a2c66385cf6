/-
  APPLY of the program and of the reference in one form; what the law ModelPlays keeps.
-/
import Derived.Test.YtpkmfckifnomeaaDoorRAh
import Derived.Test.YtpkmfckifnomeaaDoorRAi
import Derived.Test.YtpkmfckifnomeaaDoorSrt
namespace Go.Proofs.YtpkmfckifnomeaaDoor
open Go.RowKit

open Go.Lib (TabIs pow10Tab)
/-- What an Apply turns. -/
def TA (q x : Nat) (t : Nat × Nat) : Prop := t = (7, q) ∨ t.1 = x
theorem IsM.mono {w : World} {o : Nat → Nat × Nat} {x P b n m : Nat} {l : List En} (h : IsM w o x P b n l) (hn : n ≤ m) : IsM w o x P b m l := ⟨h.cell, h.fz, h.mP, h.mb, h.mp.mono hn, h.lt⟩
theorem anA_none {r : Rq} {ks : List ByteArray} {now ver : Int} {l : List En} (v1 : ¬ (r.verb = 1 ∨ r.verb = 2)) (v13 : ¬ r.verb = 13) (hone : ks.length ≠ 1) : anA r ks now ver l = ab 0 ∧ apk r ks now ver l = l := by
  unfold anA apk; rw [if_neg v1, if_neg v13, if_neg v1, if_neg v13]
  match ks, hone with
  | [], _ => exact ⟨rfl, rfl⟩
  | [_], h => exact absurd rfl h
  | _ :: _ :: _, _ => exact ⟨rfl, rfl⟩
theorem pap_any (q : Nat) (r : Rq) (now ver : Int) (a : Option Addr) (kc : Nat) (ks : List ByteArray) {o : Nat → Nat × Nat} {P n : Nat} {l : List En} (w : World) (h : ∃ b, IsM w o 1 P b n l) (hok : Ok l) (htab : TabIs Tryd.prog w "internal/strconv.uint64pow10" .u64 pow10Tab) (hn : n < 1000000) (hkl : ks.length ≤ 1000000) (hkz : ∀ k ∈ ks, k.size ≤ 140737488355328) (hd : r.data.size ≤ 140737488355328) (hK : Ks w a ks) (hoff : ks ≠ [] → ∀ p off, a = some ⟨p, off, none⟩ → p < w.heap.size ∧ o p = (0, 0)) :
    Calls Tryd.prog 11 #[.pointer (some ⟨P, 0, none⟩), .agg (r.cs (.slice a ks.length kc)).toArray, .int .i64 now, .int .i64 ver] w fun e w' => ∃ a' m c o', e = .returned (.agg (acs (anA r ks now ver l).kind (.slice a' m c) (r.verb == 2) (anA r ks now ver l).num (anA r ks now ver l).text).toArray) ∧ m = (anV r ks now l).length ∧ OwnK w' o' (7, q) 4 (.slice a' m c) m (fcs (anV r ks now l)) ∧ (∃ b, IsM w' o' 1 P b (n + 1) (apk r ks now ver l)) ∧ Fr (TA q 1) o o' w w' := by
  obtain ⟨b, hb⟩ := h
  have hof : ks ≠ [] → Off o a (· = (7, q)) := fun hne p off e e' => by
    rw [(hoff hne p off e).2] at e'; cases e'
  have hlw : ks ≠ [] → ∀ p off, a = some ⟨p, off, none⟩ → p < w.heap.size := fun hne p off e => (hoff hne p off e).1
  by_cases v1 : r.verb = 1 ∨ r.verb = 2
  · have post : ∀ e w', (∃ a' m c o', e = Ending.returned (.agg (acs 1 (.slice a' m c) (r.verb == 2) 0 ⟨#[]⟩).toArray) ∧ OwnK w' o' (7, q) 4 (.slice a' m c) m (fcs (fnd l now ks)) ∧ m = (fnd l now ks).length ∧ IsM w' o' 1 P b n l ∧ Fr (· = (7, q)) o o' w w') → ∃ a' m c o', e = .returned (.agg (acs (anA r ks now ver l).kind (.slice a' m c) (r.verb == 2) (anA r ks now ver l).num (anA r ks now ver l).text).toArray) ∧ m = (anV r ks now l).length ∧ OwnK w' o' (7, q) 4 (.slice a' m c) m (fcs (anV r ks now l)) ∧ (∃ b, IsM w' o' 1 P b (n + 1) (apk r ks now ver l)) ∧ Fr (TA q 1) o o' w w' := by
      rintro e w' ⟨a', m, c, o', rfl, hO, hm, i1, f1⟩
      have e1 : anA r ks now ver l = ab 1 := if_pos v1
      have e2 : anV r ks now l = fnd l now ks := if_pos v1
      have e3 : apk r ks now ver l = l := if_pos v1
      rw [e1, e2, e3]
      exact ⟨a', m, c, o', rfl, hm, hO, ⟨b, i1.mono (Nat.le_succ n)⟩, f1.mono (fun _ e => .inl e)⟩
    show Calls Tryd.prog 11 #[.pointer (some ⟨P, 0, none⟩), .agg #[.int .i64 r.verb, .slice a ks.length kc, .int .i64 r.fl, .int .i64 r.exp, .int .i64 r.bytes, .int .i64 r.cas, .int .u64 (r.delta : Int), .bool r.quiet, .string r.data], .int .i64 now, .int .i64 ver] w _
    rcases v1 with v1 | v1
    · rw [v1] at post ⊢
      exact (apply_get 1 (7, q) now ver a kc ks r.fl r.exp r.bytes r.cas r.delta r.quiet r.data hkl hkz (fun e => by cases e) (fun e => by cases e) (fun e => by cases e) (fun e => by cases e) w hb hK hof hlw).mono post
    · rw [v1] at post ⊢
      exact (apply_gets 1 (7, q) now ver a kc ks r.fl r.exp r.bytes r.cas r.delta r.quiet r.data hkl hkz (fun e => by cases e) (fun e => by cases e) (fun e => by cases e) (fun e => by cases e) w hb hK hof hlw).mono post
  have n1 : r.verb ≠ 1 := fun e => v1 (.inl e)
  have n2 : r.verb ≠ 2 := fun e => v1 (.inr e)
  have g2 : (r.verb == 2) = false := by simp [n2]
  have e2 : anV r ks now l = [] := if_neg v1
  by_cases v13 : r.verb = 13
  · have e1 : anA r ks now ver l = ab 9 := by unfold anA; rw [if_neg v1, if_pos v13]
    have e3 : apk r ks now ver l = [] := by unfold apk; rw [if_neg v1, if_pos v13]
    rw [e1, e2, e3, g2]
    show Calls Tryd.prog 11 #[.pointer (some ⟨P, 0, none⟩), .agg #[.int .i64 r.verb, .slice a ks.length kc, .int .i64 r.fl, .int .i64 r.exp, .int .i64 r.bytes, .int .i64 r.cas, .int .u64 (r.delta : Int), .bool r.quiet, .string r.data], .int .i64 now, .int .i64 ver] w _
    rw [v13]
    refine (apply_flush 1 now ver a ks.length kc r.fl r.exp r.bytes r.cas r.delta r.quiet r.data w hb).mono ?_
    rintro e w' ⟨b', o', rfl, i1, f1⟩
    exact ⟨none, 0, 0, o', rfl, rfl, OwnK.nil _ _ _ _, ⟨b', i1.mono (Nat.zero_le _)⟩, f1.mono (fun _ e => .inr e)⟩
  have g1 : (r.verb == 1) = false := by simp [n1]
  have g13 : (r.verb == 13) = false := by simp [v13]
  by_cases hone : ks.length = 1
  · obtain ⟨k, rfl⟩ := List.length_eq_one_iff.1 hone
    have e1 : anA r [k] now ver l = (q1 r k now ver l).1 := by unfold anA; rw [if_neg v1, if_neg v13]
    have e3 : apk r [k] now ver l = stp r k now ver l := by unfold apk; rw [if_neg v1, if_neg v13]
    rw [e1, e2, e3, g2]
    rcases hK with hK | ⟨p, off, rfl, h2⟩
    · cases hK
    have c := h2 0 k rfl
    refine (apply_one 1 r now ver p off kc k g1 g2 g13 hn hok (hkz k (by simp)) hd w hb c (by omega) htab).mono ?_
    rintro e w' ⟨o', rfl, i1, f1⟩
    exact ⟨none, 0, 0, o', rfl, rfl, OwnK.nil _ _ _ _, ⟨b, i1⟩, f1.mono (fun _ e => .inr e)⟩
  · obtain ⟨e1, e3⟩ := anA_none (now := now) (ver := ver) (l := l) v1 v13 hone
    rw [e1, e2, e3, g2]
    refine (apply_none P now ver a ks.length kc r.fl r.exp r.bytes r.cas r.delta r.quiet r.data r.verb g1 g2 g13 hone w).mono ?_
    rintro e w' ⟨rfl, hb'⟩
    exact ⟨none, 0, 0, o, rfl, rfl, OwnK.nil _ _ _ _, ⟨b, (hb.below hb').mono (Nat.le_succ n)⟩, Fr.ofBelow _ o hb'⟩
theorem rap_any (q : Nat) (r : Rq) (now ver : Int) (a : Option Addr) (kc : Nat) (ks : List ByteArray) {o : Nat → Nat × Nat} {P : Nat} {l : List En} (hs : Srt l) (hz : l.length ≤ 900000) (w : World) (h : IsR w o 3 P l) (hok : Ok l) (hkl : ks.length ≤ 1000000) (hkz : ∀ k ∈ ks, k.size ≤ 140737488355328) (hd : r.data.size ≤ 140737488355328) (hK : Ks w a ks) (hoff : ks ≠ [] → ∀ p off, a = some ⟨p, off, none⟩ → p < w.heap.size ∧ o p = (0, 0)) :
    Calls Tryd.prog 17 #[.pointer (some ⟨P, 0, none⟩), .agg (r.cs (.slice a ks.length kc)).toArray, .int .i64 now, .int .i64 ver] w fun e w' => ∃ a' m c o', e = .returned (.agg (acs (anA r ks now ver l).kind (.slice a' m c) (r.verb == 2) (anA r ks now ver l).num (anA r ks now ver l).text).toArray) ∧ m = (anV r ks now l).length ∧ OwnK w' o' (7, q) 4 (.slice a' m c) m (fcs (anV r ks now l)) ∧ IsR w' o' 3 P (apk r ks now ver l) ∧ Fr (TA q 3) o o' w w' := by
  have hof : ks ≠ [] → Off o a (· = (7, q)) := fun hne p off e e' => by
    rw [(hoff hne p off e).2] at e'; cases e'
  have hlw : ks ≠ [] → ∀ p off, a = some ⟨p, off, none⟩ → p < w.heap.size := fun hne p off e => (hoff hne p off e).1
  by_cases v1 : r.verb = 1 ∨ r.verb = 2
  · have post : ∀ e w', (∃ a' m c o', e = Ending.returned (.agg (acs 1 (.slice a' m c) (r.verb == 2) 0 ⟨#[]⟩).toArray) ∧ OwnK w' o' (7, q) 4 (.slice a' m c) m (fcs (fnd l now ks)) ∧ m = (fnd l now ks).length ∧ IsR w' o' 3 P l ∧ Fr (· = (7, q)) o o' w w') → ∃ a' m c o', e = .returned (.agg (acs (anA r ks now ver l).kind (.slice a' m c) (r.verb == 2) (anA r ks now ver l).num (anA r ks now ver l).text).toArray) ∧ m = (anV r ks now l).length ∧ OwnK w' o' (7, q) 4 (.slice a' m c) m (fcs (anV r ks now l)) ∧ IsR w' o' 3 P (apk r ks now ver l) ∧ Fr (TA q 3) o o' w w' := by
      rintro e w' ⟨a', m, c, o', rfl, hO, hm, i1, f1⟩
      have e1 : anA r ks now ver l = ab 1 := if_pos v1
      have e2 : anV r ks now l = fnd l now ks := if_pos v1
      have e3 : apk r ks now ver l = l := if_pos v1
      rw [e1, e2, e3]
      exact ⟨a', m, c, o', rfl, hm, hO, i1, f1.mono (fun _ e => .inl e)⟩
    show Calls Tryd.prog 17 #[.pointer (some ⟨P, 0, none⟩), .agg #[.int .i64 r.verb, .slice a ks.length kc, .int .i64 r.fl, .int .i64 r.exp, .int .i64 r.bytes, .int .i64 r.cas, .int .u64 (r.delta : Int), .bool r.quiet, .string r.data], .int .i64 now, .int .i64 ver] w _
    rcases v1 with v1 | v1
    · rw [v1] at post ⊢
      exact (rapply_get 3 (by omega) (7, q) (by show 7 < 8; omega) (fun e => by cases e) (fun e => by cases e) hs hz now ver a kc ks r.fl r.exp r.bytes r.cas r.delta r.quiet r.data hkl w h hK hof hlw).mono post
    · rw [v1] at post ⊢
      exact (rapply_gets 3 (by omega) (7, q) (by show 7 < 8; omega) (fun e => by cases e) (fun e => by cases e) hs hz now ver a kc ks r.fl r.exp r.bytes r.cas r.delta r.quiet r.data hkl w h hK hof hlw).mono post
  have n1 : r.verb ≠ 1 := fun e => v1 (.inl e)
  have n2 : r.verb ≠ 2 := fun e => v1 (.inr e)
  have g2 : (r.verb == 2) = false := by simp [n2]
  have e2 : anV r ks now l = [] := if_neg v1
  by_cases v13 : r.verb = 13
  · have e1 : anA r ks now ver l = ab 9 := by unfold anA; rw [if_neg v1, if_pos v13]
    have e3 : apk r ks now ver l = [] := by unfold apk; rw [if_neg v1, if_pos v13]
    rw [e1, e2, e3, g2]
    show Calls Tryd.prog 17 #[.pointer (some ⟨P, 0, none⟩), .agg #[.int .i64 r.verb, .slice a ks.length kc, .int .i64 r.fl, .int .i64 r.exp, .int .i64 r.bytes, .int .i64 r.cas, .int .u64 (r.delta : Int), .bool r.quiet, .string r.data], .int .i64 now, .int .i64 ver] w _
    rw [v13]
    refine (rapply_flush 3 now ver a ks.length kc r.fl r.exp r.bytes r.cas r.delta r.quiet r.data w h).mono ?_
    rintro e w' ⟨rfl, i1, f1⟩
    exact ⟨none, 0, 0, o, rfl, rfl, OwnK.nil _ _ _ _, i1, f1.mono (fun _ e => .inr e)⟩
  have g1 : (r.verb == 1) = false := by simp [n1]
  have g13 : (r.verb == 13) = false := by simp [v13]
  by_cases hone : ks.length = 1
  · obtain ⟨k, rfl⟩ := List.length_eq_one_iff.1 hone
    have e1 : anA r [k] now ver l = (q1 r k now ver l).1 := by unfold anA; rw [if_neg v1, if_neg v13]
    have e3 : apk r [k] now ver l = stp r k now ver l := by unfold apk; rw [if_neg v1, if_neg v13]
    rw [e1, e2, e3, g2]
    rcases hK with hK | ⟨p, off, rfl, h2⟩
    · cases hK
    have c := h2 0 k rfl
    refine (rapply_one 3 (by omega) (by omega) hs hz r now ver p off kc k g1 g2 g13 hok (hkz k (by simp)) hd w h c).mono ?_
    rintro e w' ⟨o', rfl, i1, f1⟩
    exact ⟨none, 0, 0, o', rfl, rfl, OwnK.nil _ _ _ _, i1, f1.mono (fun _ e => .inr e)⟩
  · obtain ⟨e1, e3⟩ := anA_none (now := now) (ver := ver) (l := l) v1 v13 hone
    rw [e1, e2, e3, g2]
    refine (rapply_none P now ver a ks.length kc r.fl r.exp r.bytes r.cas r.delta r.quiet r.data r.verb g1 g2 g13 hone w).mono ?_
    rintro e w' ⟨rfl, hb'⟩
    exact ⟨none, 0, 0, o, rfl, rfl, OwnK.nil _ _ _ _, h.below hb', Fr.ofBelow _ o hb'⟩
/- What Apply keeps. -/
theorem apk_srt {l : List En} (h : Srt l) (r : Rq) (ks : List ByteArray) (now ver : Int) : Srt (apk r ks now ver l) := by
  unfold apk
  split
  · exact h
  · split
    · exact Srt.nil
    · split
      · rename_i k
        unfold stp
        split
        · split
          · exact (h.put _).del _
          · exact h.put _
        · split
          · exact h.del _
          · exact h
      · exact h
theorem del_len (k : B) (l : List En) : (del k l).length ≤ l.length := List.length_filter_le _ _
theorem apk_len (l : List En) (r : Rq) (ks : List ByteArray) (now ver : Int) : (apk r ks now ver l).length ≤ l.length + 1 := by
  unfold apk
  split
  · omega
  · split
    · simp
    · split
      · rename_i k
        unfold stp
        split
        · split
          · exact Nat.le_trans (del_len _ _) (put_len8 _ _)
          · exact put_len8 _ _
        · split
          · exact Nat.le_trans (del_len _ _) (Nat.le_succ _)
          · exact Nat.le_succ _
      · omega
theorem apk_ok {l : List En} (h : Ok l) (r : Rq) (ks : List ByteArray) (now ver : Int) (hkz : ∀ k ∈ ks, k.size ≤ 140737488355328) (hd : r.data.size ≤ 140737488355328) : Ok (apk r ks now ver l) := by
  unfold apk
  split
  · exact h
  · split
    · exact Ok.nil
    · split
      · rename_i k
        exact stp_ok h (hkz k (by simp)) hd
      · exact h
theorem anV_len (l : List En) (r : Rq) (ks : List ByteArray) (now : Int) : (anV r ks now l).length ≤ ks.length := by
  unfold anV
  split
  · exact fnd_len _ _ _
  · simp
/-- What the law keeps from round to round: the model (owner 1), the reference (owner 3). -/
structure Rz (w0 w : World) (o : Nat → Nat × Nat) (P n : Nat) (l : List En) (Q : Nat) : Prop where
  m : ∃ b, IsM w o 1 P b n l
  r : IsR w o 3 Q l
  z : Zz w0 w o
  tab : TabIs Tryd.prog w "internal/strconv.uint64pow10" .u64 pow10Tab
  s : Srt l
  ok : Ok l
  len : l.length ≤ n
theorem tab_zz {T : Nat × Nat → Prop} {w0 w w' : World} {o o' : Nat → Nat × Nat} (h : TabIs Tryd.prog w "internal/strconv.uint64pow10" .u64 pow10Tab) (z : Zz w0 w o) (f : Fr T o o' w w') (hT : ¬ T (0, 0)) : TabIs Tryd.prog w' "internal/strconv.uint64pow10" .u64 pow10Tab := tabIs_fr h f (fun g hg => by
  obtain rfl := Option.some.inj (gPow.symm.trans hg)
  rw [z.z 0 z.t]; exact hT)
theorem Rz.fr {T : Nat × Nat → Prop} {w0 w w' : World} {o o' : Nat → Nat × Nat} {P n : Nat} {l : List En} {Q : Nat} (h : Rz w0 w o P n l Q) (f : Fr T o o' w w') (hT : ∀ t, T t → t.1 ≠ 0 ∧ t.1 ≠ 1 ∧ t.1 ≠ 3) : Rz w0 w' o' P n l Q := by
  obtain ⟨b, hb⟩ := h.m
  have n0 : ¬ T (0, 0) := fun e => (hT _ e).1 rfl
  exact ⟨⟨b, hb.fr f (fun e => (hT _ e).2.1 rfl) (fun e => (hT _ e).2.1 rfl)⟩, h.r.fr f (fun e => (hT _ e).2.2 rfl) (fun e => (hT _ e).2.2 rfl), h.z.fr f n0, tab_zz h.tab h.z f n0, h.s, h.ok, h.len⟩
theorem Rz.below {w0 w w' : World} {o : Nat → Nat × Nat} {P n : Nat} {l : List En} {Q : Nat} (h : Rz w0 w o P n l Q) (f : Below w.heap.size w w') : Rz w0 w' o P n l Q := h.fr (Fr.ofBelow (fun _ => False) o f) (fun _ e => e.elim)
theorem Rz.up {w0 w : World} {o : Nat → Nat × Nat} {P n : Nat} {l : List En} {Q : Nat} (h : Rz w0 w o P n l Q) : Rz w0 w o P (n + 1) l Q := by
  obtain ⟨b, hb⟩ := h.m
  exact ⟨⟨b, hb.mono (Nat.le_succ n)⟩, h.r, h.z, h.tab, h.s, h.ok, Nat.le_succ_of_le h.len⟩
/-- The twin (owner 2), and the list that the reference had. -/
structure Rt (w : World) (o : Nat → Nat × Nat) (T n : Nat) (l : List En) (wa : Option Addr) (wc : Nat) : Prop where
  t : ∃ b, IsM w o 2 T b n l
  wl : OwnK w o (5, 0) 5 (.slice wa l.length wc) l.length (ecs l)
theorem Rt.fr {T : Nat × Nat → Prop} {w w' : World} {o o' : Nat → Nat × Nat} {P n : Nat} {l : List En} {wa : Option Addr} {wc : Nat} (h : Rt w o P n l wa wc) (f : Fr T o o' w w') (hT : ∀ t, T t → t.1 ≠ 2 ∧ t.1 ≠ 5) : Rt w' o' P n l wa wc := by
  obtain ⟨b, hb⟩ := h.t
  exact ⟨⟨b, hb.fr f (fun e => (hT _ e).1 rfl) (fun e => (hT _ e).1 rfl)⟩, h.wl.fr f (fun e => (hT _ e).2 rfl)⟩
theorem Rt.below {w w' : World} {o : Nat → Nat × Nat} {P n : Nat} {l : List En} {wa : Option Addr} {wc : Nat} (h : Rt w o P n l wa wc) (f : Below w.heap.size w w') : Rt w' o P n l wa wc := h.fr (Fr.ofBelow (fun _ => False) o f) (fun _ e => e.elim)
/-- The box of the ask. -/
structure Bk (w : World) (o : Nat → Nat × Nat) (A : Nat) (K : List Value) : Prop where
  rg : w.rangeAt A 0 K
  ob : o A = (8, 1)
  lt : A < w.heap.size
theorem Bk.fr {T : Nat × Nat → Prop} {w w' : World} {o o' : Nat → Nat × Nat} {A : Nat} {K : List Value} (h : Bk w o A K) (f : Fr T o o' w w') (hT : ∀ t, T t → t.1 ≠ 8) : Bk w' o' A K := by
  have n8 : ¬ T (o A) := by rw [h.ob]; exact fun e => hT _ e rfl
  exact ⟨range_fr h.rg f n8, (f.lab A h.lt).trans h.ob, Nat.lt_of_lt_of_le h.lt f.size⟩
theorem Bk.below {w w' : World} {o : Nat → Nat × Nat} {A : Nat} {K : List Value} (h : Bk w o A K) (f : Below w.heap.size w w') : Bk w' o A K := h.fr (Fr.ofBelow (fun _ => False) o f) (fun _ e => e.elim)
theorem Bk.cell {w : World} {o : Nat → Nat × Nat} {A : Nat} {K : List Value} (h : Bk w o A K) {j : Nat} {v : Value} (e : K[j]? = some v) : w.cell? ⟨A, j, none⟩ = some v := by
  have := h.rg j v e
  rwa [Nat.zero_add] at this
/-- was := append([]Entry{}, w.L...). -/
theorem was_any {w : World} {o : Nat → Nat × Nat} {Q : Nat} {l : List En} (h : IsR w o 3 Q l) (hz : l.length ≤ 100000) :
    ∃ ra rc, (w.alloc (.cells #[] 49)).cell? ⟨Q, 0, none⟩ = some (.slice ra l.length rc) ∧ ∃ wa wc w' o', (Builtin.append_ #[39, 39] 39 #[.slice (some ⟨w.heap.size, 0, none⟩) 0 0, .slice ra l.length rc]).run Tryd.prog (w.alloc (.cells #[] 49)) = .ok (.slice wa l.length wc) w' ∧ OwnK w' o' (5, 0) 5 (.slice wa l.length wc) l.length (ecs l) ∧ Fr (· = (5, 0)) o o' w w' := by
  obtain ⟨ra, rc, hc, hO⟩ := h.li
  have A1 : Fr (fun _ => False) o (lab o w.heap.size (5, 0)) w (w.alloc (.cells #[] 49)) := Fr.new _ o w _ _
  have d1 : OwnK (w.alloc (.cells #[] 49)) (lab o w.heap.size (5, 0)) (5, 0) 5 (.slice (some ⟨w.heap.size, 0, none⟩) 0 0) 0 [] := by
    have := own_new (w := w) (o := o) (t := (5, 0)) (k := 5) (n := 0) (cap := 0) (e := 49) [] #[] (by simp) (fun _ h => by cases h) (Nat.le_refl _) (by unfold maxLen; omega) (by simp)
    simpa using this
  obtain ⟨v1, w1, q1, r1, O1, F1⟩ := app_own (t := (5, 0)) 39 39 49 (.agg e0.cs.toArray) 56 under39 info49 rfl d1 ((hO.fr A1 id).src under39) (by omega) (by omega)
  rw [Nat.zero_add, List.nil_append] at O1
  obtain ⟨wa, wc, rfl, _⟩ := O1.form
  exact ⟨ra, rc, cell_b hc (below_alloc _ _), wa, wc, w1, q1, r1, O1, (A1.mono (fun _ h => h.elim)).trans F1⟩
end Go.Proofs.YtpkmfckifnomeaaDoor


namespace Go.Proofs.YtpkmfckifnomeaaDoor
open Go.RowKit

open Go.Lib (TabIs pow10Tab)
/-- The round's memory: the model holds l, the reference lr, the twin and the list of old lt; the ask's box. -/
structure Rx (w0 w : World) (o : Nat → Nat × Nat) (P n : Nat) (l : List En) (Q : Nat) (lr : List En) (T nt : Nat) (lt : List En) (wa : Option Addr) (wc A : Nat) (K : List Value) : Prop where
  m : ∃ b, IsM w o 1 P b n l
  r : IsR w o 3 Q lr
  z : Zz w0 w o
  tab : TabIs Tryd.prog w "internal/strconv.uint64pow10" .u64 pow10Tab
  t : Rt w o T nt lt wa wc
  bk : Bk w o A K
theorem Rx.below {w0 w w' : World} {o : Nat → Nat × Nat} {P n : Nat} {l : List En} {Q : Nat} {lr : List En} {T nt : Nat} {lt : List En} {wa : Option Addr} {wc A : Nat} {K : List Value} (h : Rx w0 w o P n l Q lr T nt lt wa wc A K) (f : Below w.heap.size w w') : Rx w0 w' o P n l Q lr T nt lt wa wc A K := by
  obtain ⟨b, hb⟩ := h.m
  exact ⟨⟨b, hb.below f⟩, h.r.below f, h.z.below f, tabIs_below h.tab f, h.t.below f, h.bk.below f⟩
/-- The model has turned. -/
theorem Rx.first {U : Nat × Nat → Prop} {w0 w w' : World} {o o' : Nat → Nat × Nat} {P n n' : Nat} {l l' : List En} {Q : Nat} {lr : List En} {T nt : Nat} {lt : List En} {wa : Option Addr} {wc A : Nat} {K : List Value} (h : Rx w0 w o P n l Q lr T nt lt wa wc A K) (f : Fr U o o' w w') (hU : ∀ t, U t → t.1 = 7 ∨ t.1 = 1) (hm : ∃ b, IsM w' o' 1 P b n' l') : Rx w0 w' o' P n' l' Q lr T nt lt wa wc A K := by
  have ne : ∀ x y : Nat, x ≠ 7 → x ≠ 1 → ¬ U (x, y) := fun x y h7 h1 e => by
    rcases hU _ e with e | e
    · exact h7 e
    · exact h1 e
  exact ⟨hm, h.r.fr f (ne _ _ (by omega) (by omega)) (ne _ _ (by omega) (by omega)), h.z.fr f (ne _ _ (by omega) (by omega)), tab_zz h.tab h.z f (ne _ _ (by omega) (by omega)),
    h.t.fr f (fun t e => by rcases hU _ e with e | e <;> omega), h.bk.fr f (fun t e => by rcases hU _ e with e | e <;> omega)⟩
/-- The reference has turned. -/
theorem Rx.second {U : Nat × Nat → Prop} {w0 w w' : World} {o o' : Nat → Nat × Nat} {P n : Nat} {l : List En} {Q : Nat} {lr lr' : List En} {T nt : Nat} {lt : List En} {wa : Option Addr} {wc A : Nat} {K : List Value} (h : Rx w0 w o P n l Q lr T nt lt wa wc A K) (f : Fr U o o' w w') (hU : ∀ t, U t → t.1 = 7 ∨ t.1 = 3) (hr : IsR w' o' 3 Q lr') : Rx w0 w' o' P n l Q lr' T nt lt wa wc A K := by
  obtain ⟨b, hb⟩ := h.m
  have ne : ∀ x y : Nat, x ≠ 7 → x ≠ 3 → ¬ U (x, y) := fun x y h7 h1 e => by
    rcases hU _ e with e | e
    · exact h7 e
    · exact h1 e
  exact ⟨⟨b, hb.fr f (ne _ _ (by omega) (by omega)) (ne _ _ (by omega) (by omega))⟩, hr, h.z.fr f (ne _ _ (by omega) (by omega)), tab_zz h.tab h.z f (ne _ _ (by omega) (by omega)),
    h.t.fr f (fun t e => by rcases hU _ e with e | e <;> omega), h.bk.fr f (fun t e => by rcases hU _ e with e | e <;> omega)⟩
theorem forget_x (k : ByteArray) (hk : k.size ≤ 140737488355328) (B : Bool) {w0 : World} {o : Nat → Nat × Nat} {P n : Nat} {l : List En} (hB : (look (L k) l).isSome = B) {Q : Nat} {lr : List En} {T nt : Nat} {lt : List En} {wa : Option Addr} {wc A : Nat} {K : List Value} (w : World) (h : Rx w0 w o P n l Q lr T nt lt wa wc A K) :
    Calls Tryd.prog 14 #[.pointer (some ⟨P, 0, none⟩), .string k] w fun e w' => e = .returned (.bool B) ∧ ∃ o', Rx w0 w' o' P n (del (L k) l) Q lr T nt lt wa wc A K := by
  obtain ⟨b, hb⟩ := h.m
  refine (forget_any 1 k hk w hb).mono ?_
  rintro e w' ⟨rfl, i1, f1⟩
  exact ⟨by rw [hB], o, h.first f1 (fun t e => .inr e) ⟨b, i1⟩⟩
theorem rforget_x (k : ByteArray) (B : Bool) {w0 : World} {o : Nat → Nat × Nat} {P n : Nat} {l : List En} {Q : Nat} {lr : List En} (hB : (look (L k) lr).isSome = B) (hs : Srt lr) (hl : lr.length ≤ 2000000) {T nt : Nat} {lt : List En} {wa : Option Addr} {wc A : Nat} {K : List Value} (w : World) (h : Rx w0 w o P n l Q lr T nt lt wa wc A K) :
    Calls Tryd.prog 15 #[.pointer (some ⟨Q, 0, none⟩), .string k] w fun e w' => e = .returned (.bool B) ∧ ∃ o', Rx w0 w' o' P n l Q (del (L k) lr) T nt lt wa wc A K := by
  refine (rforget_any 3 hs hl k w h.r).mono ?_
  rintro e w' ⟨rfl, o', i1, f1⟩
  exact ⟨by rw [hB], o', h.second f1 (fun t e => .inr e) i1⟩
/-- The keys of an ask that came in. -/
theorem keys_x {w0 w : World} {o : Nat → Nat × Nat} (z : Zz w0 w o) {k : Ak} (hK : AkF w0 k) : Ks w k.a k.ks ∧ (k.ks ≠ [] → ∀ p off, k.a = some ⟨p, off, none⟩ → p < w.heap.size ∧ o p = (0, 0)) := by
  constructor
  · rcases hK.keys with h | ⟨p, off, h1, h2⟩
    · exact .inl h
    · exact .inr ⟨p, off, h1, fun i x hx => cell_b (h2 i x hx) z.b⟩
  · intro hne p off e
    have := hK.lt hne p off e
    exact ⟨Nat.lt_of_lt_of_le this z.b.size, z.z p this⟩
theorem ap_x (k : Ak) {w0 : World} (hK : AkF w0 k) (hkl : k.ks.length ≤ 1000000) (hkz : ∀ x ∈ k.ks, x.size ≤ 140737488355328) (hd : k.r.data.size ≤ 140737488355328) (kl ml : Nat) (gb : Bool) (kd nu : Int) (tx : ByteArray) {o : Nat → Nat × Nat} {P n : Nat} {l l' : List En} (h0 : k.ks.length = kl) (h1 : (anV k.r k.ks k.now l).length = ml) (h2 : (k.r.verb == 2) = gb) (h3 : anA k.r k.ks k.now k.ver l = ⟨kd, nu, tx⟩) (h4 : apk k.r k.ks k.now k.ver l = l') (hok : Ok l) (hn : n < 1000000) {Q : Nat} {lr : List En} {T nt : Nat} {lt : List En} {wa : Option Addr} {wc A : Nat} {KK : List Value} (w : World) (h : Rx w0 w o P n l Q lr T nt lt wa wc A KK) :
    Calls Tryd.prog 11 #[.pointer (some ⟨P, 0, none⟩), .agg #[.int .i64 k.r.verb, .slice k.a kl k.cap, .int .i64 k.r.fl, .int .i64 k.r.exp, .int .i64 k.r.bytes, .int .i64 k.r.cas, .int .u64 (k.r.delta : Int), .bool k.r.quiet, .string k.r.data], .int .i64 k.now, .int .i64 k.ver] w fun e w' => ∃ a' c o', e = .returned (.agg #[.int .i64 kd, .slice a' ml c, .bool gb, .int .u64 nu, .string tx, .int .i64 0, .int .i64 0, .int .i64 0, .int .i64 0]) ∧ OwnK w' o' (7, 0) 4 (.slice a' ml c) ml (fcs (anV k.r k.ks k.now l)) ∧ Rx w0 w' o' P (n + 1) l' Q lr T nt lt wa wc A KK := by
  obtain ⟨k1, k2⟩ := keys_x h.z hK
  have C := pap_any 0 k.r k.now k.ver k.a k.cap k.ks w h.m hok h.tab hn hkl hkz hd k1 k2
  rw [h0, h2, h3, h4, h1] at C
  refine C.mono ?_
  rintro e w' ⟨a', m, c, o', rfl, rfl, hO, hm, f1⟩
  exact ⟨a', c, o', rfl, hO, h.first f1 (fun t e => by rcases e with e | e; exact .inl (by rw [e]); exact .inr e) hm⟩
theorem rap_x (k : Ak) {w0 : World} (hK : AkF w0 k) (hkl : k.ks.length ≤ 1000000) (hkz : ∀ x ∈ k.ks, x.size ≤ 140737488355328) (hd : k.r.data.size ≤ 140737488355328) (kl ml : Nat) (gb : Bool) (kd nu : Int) (tx : ByteArray) {o : Nat → Nat × Nat} {P n : Nat} {l : List En} {Q : Nat} {lr l' : List En} (h0 : k.ks.length = kl) (h1 : (anV k.r k.ks k.now lr).length = ml) (h2 : (k.r.verb == 2) = gb) (h3 : anA k.r k.ks k.now k.ver lr = ⟨kd, nu, tx⟩) (h4 : apk k.r k.ks k.now k.ver lr = l') (hs : Srt lr) (hz : lr.length ≤ 900000) (hok : Ok lr) {T nt : Nat} {lt : List En} {wa : Option Addr} {wc A : Nat} {KK : List Value} (w : World) (h : Rx w0 w o P n l Q lr T nt lt wa wc A KK) (a1 : Option Addr) (c1 : Nat) (cs1 : List Value) (hO1 : OwnK w o (7, 0) 4 (.slice a1 ml c1) ml cs1) :
    Calls Tryd.prog 17 #[.pointer (some ⟨Q, 0, none⟩), .agg #[.int .i64 k.r.verb, .slice k.a kl k.cap, .int .i64 k.r.fl, .int .i64 k.r.exp, .int .i64 k.r.bytes, .int .i64 k.r.cas, .int .u64 (k.r.delta : Int), .bool k.r.quiet, .string k.r.data], .int .i64 k.now, .int .i64 k.ver] w fun e w' => ∃ a' c o', e = .returned (.agg #[.int .i64 kd, .slice a' ml c, .bool gb, .int .u64 nu, .string tx, .int .i64 0, .int .i64 0, .int .i64 0, .int .i64 0]) ∧ Lst w' 4 a1 ml cs1 ∧ Lst w' 4 a' ml (fcs (anV k.r k.ks k.now lr)) ∧ Rx w0 w' o' P n l Q l' T nt lt wa wc A KK := by
  obtain ⟨k1, k2⟩ := keys_x h.z hK
  have C := rap_any 1 k.r k.now k.ver k.a k.cap k.ks hs hz w h.r hok hkl hkz hd k1 k2
  rw [h0, h2, h3, h4, h1] at C
  refine C.mono ?_
  rintro e w' ⟨a', m, c, o', rfl, rfl, hO, hm, f1⟩
  refine ⟨a', c, o', rfl, (hO1.fr f1 ?_).lst, hO.lst, h.second f1 (fun t e => by rcases e with e | e; exact .inl (by rw [e]); exact .inr e) hm⟩
  rintro (e | e)
  · cases e
  · have : 7 = 3 := e; omega
/-- The lists told: the model's, the twin's; the reference's own cell. -/
theorem list_x {w0 : World} {o : Nat → Nat × Nat} {P n : Nat} {l : List En} {Q : Nat} {lr : List En} {T nt : Nat} {lt : List En} {wa : Option Addr} {wc A : Nat} {K : List Value} (hs : Srt l) (ll : Nat) (hl : l.length = ll) (hz : ll ≤ 2000000) (w : World) (h : Rx w0 w o P n l Q lr T nt lt wa wc A K) :
    Calls Tryd.prog 19 #[.pointer (some ⟨P, 0, none⟩)] w fun e w' => ∃ (a : Option Addr) (c : Nat), e = .returned (.slice a ll c) ∧ Lst w' 5 a ll (ecs l) ∧ Below w.heap.size w w' := by
  subst hl
  obtain ⟨b, hb⟩ := h.m
  exact list_any 1 hs hz w hb
theorem tlist_x {w0 : World} {o : Nat → Nat × Nat} {P n : Nat} {l : List En} {Q : Nat} {lr : List En} {T nt : Nat} {lt : List En} {wa : Option Addr} {wc A : Nat} {K : List Value} (hs : Srt lt) (ll : Nat) (hl : lt.length = ll) (hz : ll ≤ 2000000) (w : World) (h : Rx w0 w o P n l Q lr T nt lt wa wc A K) :
    Calls Tryd.prog 19 #[.pointer (some ⟨T, 0, none⟩)] w fun e w' => ∃ (a : Option Addr) (c : Nat), e = .returned (.slice a ll c) ∧ Lst w' 5 a ll (ecs lt) ∧ Below w.heap.size w w' := by
  subst hl
  obtain ⟨b, hb⟩ := h.t.t
  exact list_any 2 hs hz w hb
theorem own_x {w0 w : World} {o : Nat → Nat × Nat} {P n : Nat} {l : List En} {Q : Nat} {lr : List En} {T nt : Nat} {lt : List En} {wa : Option Addr} {wc A : Nat} {K : List Value} (ll : Nat) (hl : lr.length = ll) (h : Rx w0 w o P n l Q lr T nt lt wa wc A K) : ∃ ra rc, w.cell? ⟨Q, 0, none⟩ = some (.slice ra ll rc) ∧ Lst w 5 ra ll (ecs lr) := by
  subst hl
  obtain ⟨a, c, hc, hO⟩ := h.r.li
  exact ⟨a, c, hc, hO.lst⟩
theorem was_x {w0 w : World} {o : Nat → Nat × Nat} {P n : Nat} {l : List En} {Q : Nat} {lr : List En} {T nt : Nat} {lt : List En} {wa : Option Addr} {wc A : Nat} {K : List Value} (ll : Nat) (hl : lt.length = ll) (h : Rx w0 w o P n l Q lr T nt lt wa wc A K) : Lst w 5 wa ll (ecs lt) := by
  subst hl
  exact h.t.wl.lst
theorem Rx.shut {w0 w : World} {o : Nat → Nat × Nat} {P n : Nat} {l : List En} {Q T nt : Nat} {lt : List En} {wa : Option Addr} {wc A : Nat} {K : List Value} (h : Rx w0 w o P n l Q l T nt lt wa wc A K) (hs : Srt l) (hok : Ok l) (hl : l.length ≤ n) : Rz w0 w o P n l Q := ⟨h.m, h.r, h.z, h.tab, hs, hok, hl⟩
theorem Rx.grow {w0 w : World} {o : Nat → Nat × Nat} {P n : Nat} {l : List En} {Q : Nat} {lr : List En} {T nt : Nat} {lt : List En} {wa : Option Addr} {wc A : Nat} {K : List Value} (h : Rx w0 w o P n l Q lr T nt lt wa wc A K) : Rx w0 w o P (n + 1) l Q lr T nt lt wa wc A K := by
  obtain ⟨b, hb⟩ := h.m
  exact ⟨⟨b, hb.mono (Nat.le_succ n)⟩, h.r, h.z, h.tab, h.t, h.bk⟩
/-- The law's memory, new. -/
theorem new_x {w w0 : World} {o : Nat → Nat × Nat} {P b : Nat} (htab : TabIs Tryd.prog w "internal/strconv.uint64pow10" .u64 pow10Tab) (i1 : IsM w0 o 1 P b 0 []) (f1 : Fr (fun _ => False) o0 o w w0) :
    Rz w (w0.alloc (.cells #[.slice none 0 0] 41)) (lab o w0.heap.size (3, 0)) P 0 [] w0.heap.size := by
  have z0 : Zz w w o0 := ⟨fun _ _ => rfl, Below.refl _ _, tab_lt htab⟩
  have f2 : Fr (fun _ => False) o (lab o w0.heap.size (3, 0)) w0 (w0.alloc (.cells #[.slice none 0 0] 41)) := Fr.new _ o w0 _ _
  have t1 := tabIs_fr htab f1 (fun _ _ h => h)
  refine ⟨⟨b, i1.fr f2 id id⟩, ⟨lab_same _ _ _, World.frozen?_alloc_new _ _ _ _, none, 0, ?_, OwnK.nil _ _ _ _⟩, (z0.fr f1 id).fr f2 id, tabIs_fr t1 f2 (fun _ _ h => h), Srt.nil, Ok.nil, Nat.le_refl _⟩
  rw [World.cell?_alloc_new]; rfl
/-- The box of the ask, and what is known behind light. -/
theorem box_x {w0 w w2 : World} {o : Nat → Nat × Nat} {P n : Nat} {l : List En} {Q : Nat} {K : List Value} (h : Rz w0 w o P n l Q) (b1 : Below w.heap.size w w2) (hlt : w.heap.size < w2.heap.size) (hr : w2.rangeAt w.heap.size 0 K) : ∃ o', Rz w0 w2 o' P n l Q ∧ Bk w2 o' w.heap.size K := by
  have f : Fr (fun _ => False) o (lab o w.heap.size (8, 1)) w w2 := ⟨b1.os, b1.tape, b1.output, b1.size, fun c hc => lab_other _ _ _ (by omega), fun c hc _ => b1.block c hc⟩
  exact ⟨_, h.fr f (fun _ e => e.elim), hr, lab_same _ _ _, hlt⟩
end Go.Proofs.YtpkmfckifnomeaaDoor
