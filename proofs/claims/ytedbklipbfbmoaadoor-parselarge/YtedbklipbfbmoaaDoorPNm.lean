/-
  Requests with data, as bytes: what they make; numbers by Itoa.
-/
import Derived.Test.YtedbklipbfbmoaaDoorPLi
import Derived.Test.YtedbklipbfbmoaaDoorShelfN
import Derived.Lib.ItoaMem
import Derived.Lib.AppendIntMem
namespace Go.Proofs.YtedbklipbfbmoaaDoor
open Go.RowKit Go.Sort Go.Lib

theorem ng_append (most : Nat) : ∀ (l : B) (a : Nat) (r : B), ng most a (l ++ r) = (ng most a l).bind fun v => ng most v r
  | [], a, r => rfl
  | c :: l, a, r => by
    rw [List.cons_append, ng, ng]
    split
    · exact ng_append most l _ r
    · rfl
theorem dg_toNat {k : Nat} (h : k < 10) : (UInt8.ofNat (48 + k)).toNat = 48 + k := by
  rw [UInt8.toNat_ofNat']; omega
theorem ng_dec (most : Nat) (u : Nat) : ng most 0 (decDigits u) = if u ≤ most then some u else none := by
  induction u using Nat.strongRecOn with
  | _ u ih =>
    by_cases h : u < 10
    · rw [decDigits, dif_pos h, ng, dg_toNat h]
      by_cases h2 : u ≤ most
      · rw [if_pos ⟨by omega, by omega, by omega⟩, if_pos h2, ng]
        congr 1; omega
      · rw [if_neg (by omega), if_neg h2]
    · rw [decDigits, dif_neg h, ng_append, ih (u / 10) (by omega)]
      by_cases h2 : u / 10 ≤ most
      · rw [if_pos h2]
        show ng most (u / 10) _ = _
        rw [ng, dg_toNat (Nat.mod_lt _ (by omega))]
        by_cases h3 : u ≤ most
        · rw [if_pos ⟨by omega, by omega, by omega⟩, if_pos h3, ng]
          congr 1; omega
        · rw [if_neg (by omega), if_neg h3]
      · rw [if_neg h2, if_neg (by omega)]; rfl
theorem ng_zeros (most : Nat) : ∀ (k : Nat) (r : B), ng most 0 (List.replicate k 48 ++ r) = ng most 0 r
  | 0, r => rfl
  | k + 1, r => by
    rw [List.replicate_succ, List.cons_append, ng, if_pos ⟨by decide, by decide, by simp⟩]
    exact ng_zeros most k r
theorem dec_len {u : Nat} (h : u < 18446744073709551616) : 1 ≤ (decDigits u).length ∧ (decDigits u).length ≤ 20 := by
  rw [decDigits_length]
  by_cases h1 : 1 ≤ u
  · have := numDigits_eq u h1 h
    have h0 : 1 ≤ nDigits u := by rw [nDigits]; split <;> omega
    split at this <;> omega
  · rw [nDigits_small (by omega)]; omega
theorem num_dec {u : Nat} (h : u < 18446744073709551616) (most k : Nat) (hk : k + (decDigits u).length ≤ 20) : num most (List.replicate k 48 ++ decDigits u) = if u ≤ most then some u else none := by
  have := dec_len h
  unfold num
  rw [if_pos (by rw [List.length_append, List.length_replicate]; omega), ng_zeros, ng_dec]
theorem dec_num {u : Nat} (h : u < 18446744073709551616) (most : Nat) (hm : u ≤ most) : num most (decDigits u) = some u := by
  have := num_dec h most 0 (by have := dec_len h; omega)
  rwa [if_pos hm] at this
theorem ng_dig {most : Nat} : ∀ {l : B} {n v : Nat}, ng most n l = some v → ∀ c ∈ l, 48 ≤ c.toNat ∧ c.toNat ≤ 57
  | [], _, _, _, c, hc => by simp at hc
  | d :: l, n, v, e, c, hc => by
    rw [ng] at e
    split at e
    · rename_i hd
      rcases List.mem_cons.1 hc with rfl | hc
      · exact ⟨hd.1, hd.2.1⟩
      · exact ng_dig e c hc
    · cases e
theorem dec_dig (u : Nat) : ∀ c ∈ decDigits u, 48 ≤ c.toNat ∧ c.toNat ≤ 57 := by
  have := ng_dec u u
  rw [if_pos (Nat.le_refl _)] at this
  exact ng_dig this
theorem dec_word {u : Nat} (h : u < 18446744073709551616) : split (decDigits u) = [decDigits u] := by
  refine split_word _ (fun c hc e => ?_) (fun e => ?_)
  · have := dec_dig u c hc; subst e; simp at this
  · have := dec_len h; rw [e] at this; simp at this
/-- Itoa of a number that is not below nought. -/
theorem itoa_any (n : Nat) (h : n ≤ 9223372036854775807) (w : World) (htab : TabIs Tryd.prog w "internal/strconv.uint64pow10" .u64 pow10Tab) :
    Calls Tryd.prog 17 #[.int .i64 (n : Int)] w fun e w' => e = .returned (.string (S (decDigits n))) ∧ Below w.heap.size w w' := by
  refine (Tryd.strconv_Itoa (n : Int) (by omega) (by omega) w htab).mono ?_
  rintro e w' ⟨rfl, k, os, rfl⟩
  refine ⟨?_, below_grow _ _ (Nat.le_refl _) _ _⟩
  rw [show itoa (n : Int) = decDigits n by unfold itoa; rw [if_neg (by omega), Int.toNat_natCast]]
  rfl
def setW : B := [115, 101, 116]
theorem rd_set {k f n : B} {F N : Nat} (hk : key k = true) (hf : num 4294967295 f = some F) (hn : num 2147483647 n = some N) : rd [0, 1, 2, 3] 0 [k, f, [48], n] Rq.none = some ⟨0, [k], F, 0, N, 0, 0, false⟩ := by
  have g1 : gv 1099511627776 [48] = 0 := by decide
  have g2 : gb 1099511627776 [48] = true := by decide
  simp [rd, kd, st, hk, nb, nv, hf, hn, g1, g2, Rq.none]
/-- A line that asks to set. -/
theorem set_line {s k f n : B} {F N : Nat} (hs : split s = [setW, k, f, [48], n]) (hk : key k = true) (hf : num 4294967295 f = some F) (hn : num 2147483647 n = some N) : line s = (⟨3, [k], F, 0, N, 0, 0, false⟩, 0) := by
  unfold line
  rw [hs]
  show lin (vb setW) [k, f, [48], n] = _
  rw [show vb setW = 3 by decide]
  unfold lin
  rw [if_neg (by decide), show args (fm 3) [k, f, [48], n] = [k, f, [48], n] from rfl, if_neg (by show ¬ (4 < 4 ∨ 4 < 4); omega)]
  show (match rd [0, 1, 2, 3] 0 [k, f, [48], n] Rq.none with | none => _ | some r => _) = _
  rw [rd_set hk hf hn]
  rfl
/-- The same, hushed. -/
theorem set_hush {s k f n : B} {F N : Nat} (hs : split s = [setW, k, f, [48], n, noreply]) (hk : key k = true) (hf : num 4294967295 f = some F) (hn : num 2147483647 n = some N) : line s = (⟨3, [k], F, 0, N, 0, 0, true⟩, 0) := by
  unfold line
  rw [hs]
  show lin (vb setW) [k, f, [48], n, noreply] = _
  rw [show vb setW = 3 by decide]
  unfold lin
  have hh : hushed (fm 3) [k, f, [48], n, noreply] = true := rfl
  have ha : args (fm 3) [k, f, [48], n, noreply] = [k, f, [48], n] := by unfold args; rw [hh]; rfl
  rw [if_neg (by decide), ha, if_neg (by show ¬ (4 < 4 ∨ 4 < 4); omega)]
  show (match rd [0, 1, 2, 3] 0 [k, f, [48], n] Rq.none with | none => _ | some r => _) = _
  rw [rd_set hk hf hn, hh]
def sr (k : B) (d : B) : Rq := ⟨3, [k], 7, 0, (d.length : Nat), 0, 0, false⟩
/-- The line ahead of the data. -/
def stL (k : B) (n : Nat) : B := setW ++ 32 :: (k ++ 32 :: ([55] ++ 32 :: ([48] ++ 32 :: decDigits n)))
def stB (k d : B) : B := stL k d.length ++ 13 :: 10 :: (d ++ [13, 10])
theorem key_no {k : B} (h : key k = true) (c : UInt8) (hc : c.toNat ≤ 32) : c ∉ k := fun hm => by
  simp only [key, Bool.and_eq_true, decide_eq_true_eq, List.all_eq_true] at h
  have := (h.2 c hm).1
  omega
theorem stL_split {k : B} (hk : key k = true) {n : Nat} (hn : n < 18446744073709551616) : split (stL k n) = [setW, k, [55], [48], decDigits n] := by
  unfold stL
  rw [split_app, split_app, split_app, split_app, dec_word hn, split_word k (key_word hk).2 (key_word hk).1]
  rfl
theorem dec_no (n : Nat) (c : UInt8) (hc : c.toNat ≤ 32) : c ∉ decDigits n := fun hm => by have := dec_dig n c hm; omega
theorem stL_no {k : B} (hk : key k = true) (n : Nat) : (10 : UInt8) ∉ stL k n := by
  unfold stL
  simp only [setW, List.mem_append, List.mem_cons, List.not_mem_nil, or_false, not_or]
  exact ⟨by decide, by decide, key_no hk 10 (by decide), by decide, by decide, by decide, by decide, by decide, dec_no n 10 (by decide)⟩
theorem stL_len {k : B} (hk : key k = true) {n : Nat} (hn : n < 18446744073709551616) : (stL k n).length ≤ 300 := by
  have h1 := key_len hk
  have h2 := dec_len hn
  unfold stL
  simp [setW]
  omega
theorem obey_3 {l : B} {k : B} {F N : Nat} {q : Bool} (h : line l = (⟨3, [k], F, 0, N, 0, 0, q⟩, 0)) : obey l = (if N ≤ 1048576 then (pd [] ⟨3, [k], F, 0, N, 0, 0, q⟩, Ev.none) else (pp (N + 2), if q = true then Ev.none else ans 14 tooLarge)) := by
  unfold obey obeyR
  rw [h]
  simp only
  rw [if_neg (by decide), if_neg (by simp), if_neg (by decide), if_pos (by decide)]
  by_cases hN : N ≤ 1048576
  · rw [if_pos hN, if_pos (by omega)]; rfl
  · rw [if_neg hN, if_neg (by omega), show ((N : Int) + 2).toNat = N + 2 by omega]; rfl
/-- A line, whatever stands behind it. -/
theorem feed_ln (l r : B) (h : (10 : UInt8) ∉ l) (hl : l.length ≤ 500) : feed (pz 0) (l ++ 13 :: 10 :: r) = thn (obey l).2 (feed (obey l).1 r) := by
  have h10 : (10 : UInt8) ∉ l ++ [13] := fun hm => by
    rcases List.mem_append.1 hm with hm | hm
    · exact h hm
    · simp at hm
  have := feed_pl_end (l ++ [13]) r [] h10 (by simp; omega)
  rw [List.nil_append, trim_cr] at this
  rw [show l ++ 13 :: 10 :: r = (l ++ [13]) ++ 10 :: r by simp]
  exact this
/-- One request with its data. -/
theorem feed_store {k d : B} (hk : key k = true) (hd : d.length ≤ 200) : feed (pz 0) (stB k d) = (pz 0, [req (sr k d) d]) := by
  have hb : (sr k d).bytes.toNat = d.length := by simp [sr]
  unfold stB
  rw [feed_ln _ _ (stL_no hk _) (Nat.le_trans (stL_len hk (by omega)) (by omega)), obey_3 (set_line (F := 7) (stL_split hk (by omega)) hk (by decide) (dec_num (by omega) _ (by omega))), if_pos (by omega), thn_none]
  show feed (pd [] (sr k d)) (d ++ [13, 10]) = _
  rw [feed_go (feed_pd (sr k d) d [] (by rw [hb]; simp)), List.nil_append, feed_pd_13 _ _ _ hb.symm, feed_pd_10 _ _ _ (by rw [hb]; simp), feed_nil]
  show (pz 0, evs (req (sr k d) ((d ++ [13]).take (sr k d).bytes.toNat)) ++ []) = _
  rw [hb, List.take_left' rfl, evs_req _ _ (by show (3 : Nat) ≠ 0; decide)]
  rfl
/-- Requests with data, one behind the other. -/
theorem feed_stores : ∀ (pl : List (B × B)), (∀ p ∈ pl, key p.1 = true ∧ p.2.length ≤ 200) → feed (pz 0) (pl.map fun p => stB p.1 p.2).flatten = (pz 0, pl.map fun p => req (sr p.1 p.2) p.2)
  | [], _ => rfl
  | p :: pl, h => by
    rw [List.map_cons, List.flatten_cons, feed_app, feed_store (h p (by simp)).1 (h p (by simp)).2]
    simp only
    rw [feed_stores pl (fun q hq => h q (by simp [hq]))]
    rfl
theorem stB_len {k d : B} (hk : key k = true) (hd : d.length ≤ 200) : (stB k d).length ≤ 600 := by
  have := stL_len hk (n := d.length) (by omega)
  unfold stB
  simp
  omega
theorem stores_len : ∀ (pl : List (B × B)), (∀ p ∈ pl, key p.1 = true ∧ p.2.length ≤ 200) → (pl.map fun p => stB p.1 p.2).flatten.length ≤ pl.length * 600
  | [], _ => by simp
  | p :: pl, h => by
    have h1 := stB_len (h p (by simp)).1 (h p (by simp)).2
    have h2 := stores_len pl (fun q hq => h q (by simp [hq]))
    rw [List.map_cons, List.flatten_cons, List.length_append, List.length_cons]
    omega
def preM : B := [115, 101, 116, 32, 107, 32, 48, 32, 48, 32, 49, 13, 10, 120]
def postM : B := [13, 10, 118, 101, 114, 115, 105, 111, 110, 13, 10]
theorem pre_is : feed (pz 0) preM = (pd [120] ⟨3, [[107]], 0, 0, 1, 0, 0, false⟩, []) := by kernel_rfl
theorem ver_is : feed (pz 0) [118, 101, 114, 115, 105, 111, 110, 13, 10] = (pz 0, [req ⟨14, [], 0, 0, 0, 0, 0, false⟩ []]) := by kernel_rfl
/-- More bytes than were said. -/
theorem feed_more (m : Nat) : feed (pz 0) (preM ++ List.replicate (m + 1) 121 ++ postM) = (pz 0, [ans 13 badData, req ⟨14, [], 0, 0, 0, 0, 0, false⟩ []]) := by
  rw [List.append_assoc, feed_go pre_is, List.replicate_succ, List.cons_append, feed_pd_bad _ _ _ _ (by decide) (by decide)]
  have h10 : (10 : UInt8) ∉ 121 :: (List.replicate m (121 : UInt8) ++ [13]) := fun hm => by
    rcases List.mem_cons.1 hm with hm | hm
    · cases hm
    · rcases List.mem_append.1 hm with hm | hm
      · have := List.eq_of_mem_replicate hm; cases this
      · simp at hm
  have e : (121 : UInt8) :: (List.replicate m 121 ++ postM) = (121 :: (List.replicate m 121 ++ [13])) ++ 10 :: [118, 101, 114, 115, 105, 111, 110, 13, 10] := by simp [postM]
  rw [e, feed_3_end _ _ h10, ver_is]
  rfl
/-- A value that is too large. -/
def bigL (q : Bool) (n : Nat) : B := setW ++ 32 :: ([107] ++ 32 :: ([48] ++ 32 :: ([48] ++ 32 :: (decDigits n ++ if q then 32 :: noreply else []))))
theorem big_line (q : Bool) {n : Nat} (hn : n ≤ 2147483647) : line (bigL q n) = (⟨3, [[107]], 0, 0, n, 0, 0, q⟩, 0) := by
  cases q
  · exact set_line (k := [107]) (f := [48]) (F := 0) (by
      unfold bigL
      rw [if_neg (by decide), List.append_nil, split_app, split_app, split_app, split_app, dec_word (by omega)]; rfl) (by decide) (by decide) (dec_num (by omega) _ hn)
  · exact set_hush (k := [107]) (f := [48]) (F := 0) (by
      unfold bigL
      rw [if_pos rfl, split_app, split_app, split_app, split_app, split_app, dec_word (by omega)]; rfl) (by decide) (by decide) (dec_num (by omega) _ hn)
theorem feed_big (q : Bool) {n : Nat} (hn : n ≤ 2147483647) (hb : 1048576 < n) : feed (pz 0) (bigL q n ++ [13, 10]) = (pp (n + 2), if q then [] else [ans 14 tooLarge]) := by
  have hl := dec_len (u := n) (by omega)
  rw [feed_ln _ _ (by
    unfold bigL
    cases q
    · simp only [setW, List.mem_append, List.mem_cons, List.not_mem_nil, or_false, not_or]
      exact ⟨by decide, by decide, by decide, by decide, by decide, by decide, by decide, by decide, dec_no n 10 (by decide), by decide⟩
    · simp only [setW, List.mem_append, List.mem_cons, List.not_mem_nil, or_false, not_or]
      exact ⟨by decide, by decide, by decide, by decide, by decide, by decide, by decide, by decide, dec_no n 10 (by decide), by decide⟩) (by unfold bigL; cases q <;> simp [setW, noreply] <;> omega), obey_3 (big_line q hn), if_neg (by omega)]
  cases q <;> rfl
theorem feed_past {k : Nat} {b : B} (hk : 1 ≤ k) (hb : b.length ≤ k) : feed (pp k) b = (if k - b.length = 0 then pz 0 else pp (k - b.length), []) := by
  by_cases h : b.length = k
  · have := feed_pp_all b k [] h hk
    rw [List.append_nil] at this
    rw [this, h, Nat.sub_self, if_pos rfl, feed_nil]
  · rw [feed_pp_few b k (by omega), if_neg (by omega)]
theorem get_is : feed (pz 0) [103, 101, 116, 32, 97, 13, 10] = (pz 0, [req ⟨1, [[97]], 0, 0, 0, 0, 0, false⟩ []]) := by kernel_rfl
/-- The parser of a law's, wherever it stands. -/
structure Lp (w : World) (P : Nat) (wr : World) (p : Ps) (o : Nat → Nat × Nat) : Prop where
  ip : ∃ a n c ka kn kc, IsP wr o 1 P p a n c ka kn kc
  tb : Tb wr o
  fr : Fr (· ≠ (9, 9)) on9 o w wr
theorem Lp.below {w : World} {P : Nat} {wr : World} {p : Ps} {o : Nat → Nat × Nat} (h : Lp w P wr p o) : Below w.heap.size w wr := below_9 h.fr
theorem Lp.frm {T : Nat × Nat → Prop} {w : World} {P : Nat} {wr wr' : World} {p : Ps} {o o' : Nat → Nat × Nat} (h : Lp w P wr p o) (f : Fr T o o' wr wr') (h0 : ¬ T (1, 0)) (h1 : ¬ T (1, 1)) (h9 : ¬ T (9, 9)) : Lp w P wr' p o' := by
  obtain ⟨a, n, c, ka, kn, kc, ip⟩ := h.ip
  exact ⟨⟨a, n, c, ka, kn, kc, ip.fr f h0 h1 h9⟩, h.tb.fr f h9, h.fr.trans (f.mono (fun t ht e => h9 (e ▸ ht)))⟩
theorem Lp.up {w : World} {P : Nat} {wr wr' : World} {p : Ps} {o : Nat → Nat × Nat} (h : Lp w P wr p o) (hb : Below wr.heap.size wr wr') : Lp w P wr' p o := h.frm (Fr.ofBelow (fun _ => False) o hb) id id id
theorem Lp.new (w : World) (ht : HasTab w) {W1 : World} (hW1 : W1 = w.alloc (.cells ((pz 0).cs (.slice none 0 0) (.slice none 0 0)).toArray 60)) : ∃ o, Lp w w.heap.size W1 (pz 0) o := by
  obtain ⟨o, a, c, ka, kn, kc, ip⟩ := (Ln.new w ht hW1).imp fun o h => h.ip
  have f1 : Fr (fun _ => False) on9 (lab on9 w.heap.size (1, 0)) w W1 := by rw [hW1]; exact Fr.new _ _ _ _ _
  have i1 : IsP W1 (lab on9 w.heap.size (1, 0)) 1 w.heap.size (pz 0) none 0 0 none 0 0 := by rw [hW1]; exact IsP.new _ _ _
  have T0 : Tb w on9 := ⟨ht, rfl⟩
  exact ⟨_, ⟨_, _, _, _, _, _, i1⟩, T0.fr f1 id, f1.mono (fun _ h => h.elim)⟩
/-- Bytes more. -/
theorem Lp.fed {w : World} {P : Nat} {wr w5 : World} {p p' : Ps} {o : Nat → Nat × Nat} (h : Lp w P wr p o) {s : B} {l : List Ev} {v : Value} (hF : FOut wr o 1 P (7, 1) p s v w5) (e : feed p s = (p', l)) :
    ∃ o' a c, v = .slice a l.length c ∧ Evs w5 o' (7, 1) v l ∧ Lp w P w5 p' o' ∧ Fr (TF 1 (7, 1)) o o' wr w5 := by
  obtain ⟨o2, a2, n2, c2, ka2, kn2, kc2, E2, I2, F2, T2⟩ := hF
  rw [e] at E2 I2
  obtain ⟨a, c, hv⟩ := E2.form
  exact ⟨o2, a, c, hv, E2, ⟨⟨_, _, _, _, _, _, I2⟩, T2, h.fr.trans (F2.mono (nine (by decide) rfl))⟩, F2⟩
theorem tabIs_below {w w' : World} {name : String} {k : IntKind} {zs : List Int} (h : TabIs Tryd.prog w name k zs) (b : Below w.heap.size w w') : TabIs Tryd.prog w' name k zs := by
  unfold TabIs World.var? at *
  cases hg : Tryd.prog.globalNamed name with
  | none => simp [hg] at h
  | some g =>
    simp only [hg, Option.bind_some] at h ⊢
    have hlt : g < w.heap.size := by
      rcases Nat.lt_or_ge g w.heap.size with h' | h'
      · exact h'
      · rw [Array.getElem?_eq_none h'] at h; simp at h
    rw [b.block g hlt]
    exact h
end Go.Proofs.YtedbklipbfbmoaaDoor
