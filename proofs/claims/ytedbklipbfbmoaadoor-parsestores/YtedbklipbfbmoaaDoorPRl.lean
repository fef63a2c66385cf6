/-
  readLine: a line's bytes off a piece.
-/
import Derived.Test.YtedbklipbfbmoaaDoorPOb
namespace Go.Proofs.YtedbklipbfbmoaaDoor
open Go.RowKit

theorem store_run {w : World} {b : Nat} {E : List Value} (h : w.there b 0 E.length) (h1 : ∀ u ∈ E, u.oneCell' = true) : (storeCells ⟨b, 0, none⟩ E).run Tryd.prog w = .ok () (w.setCells b 0 E) :=
  run_storeCells_cells b 0 E 0 w (fun j hj => (h j hj).1) (fun j hj => (h j hj).2) h1
/-- A value and an event, handed back. -/
theorem res2 {W : World} {b : Nat} {E : List Value} {f : Func} {t : Array Value} {u : Value} (hf : f.results = #[.tmp 4, .cell 5 36]) (h4 : t[4]?.getD undef = u) (h5 : t[5]?.getD undef = .pointer (some ⟨b, 0, none⟩)) (hr : W.rangeAt b 0 E) (hl : E.length = 18) : (results f t).run Tryd.prog W = .ok (.tuple #[u, .agg E.toArray]) W := by
  simp [results, hf, h4, h5, asAddr, load36 hr hl]
set_option maxRecDepth 100000 in
set_option maxHeartbeats 2000000 in
theorem rline_more {o : Nat → Nat × Nat} {x P : Nat} {l : B} {a : Option Addr} {n c : Nat} {ka : Option Addr} {kn kc : Nat} (hx : x < 8) (s : ByteArray)  (hn : 10 ∉ L s) (hfit : l.length + s.size ≤ 2048) (w : World) (h : IsP w o x P (pl l) a n c ka kn kc) :
    Calls Tryd.prog 22 #[.pointer (some ⟨P, 0, none⟩), .string s] w fun e w' => ∃ E, e = .returned (.tuple #[.string (S []), .agg E.toArray]) ∧ OutE w o x P (pl (l ++ L s)) Ev.none E w' := by
  obtain ⟨W1, hW1⟩ : ∃ W1, W1 = w.alloc (.cells (Ev.none.cs (.slice none 0 0)).toArray 36) := ⟨_, rfl⟩
  obtain ⟨o1, ho1⟩ : ∃ o1, o1 = lab o w.heap.size (8, 8) := ⟨_, rfl⟩
  have F1' : Fr (fun _ => False) o o1 w W1 := by rw [hW1, ho1]; exact Fr.new _ _ _ _ _
  have R1 : Res W1 o1 w.heap.size := by rw [hW1, ho1]; exact Res.new _ _
  have I1 := h.fr F1' id id id
  have F1 : Fr (TX x) o o1 w W1 := F1'.mono (fun _ h => h.elim)
  have hle : n = l.length := h.len
  have IX := Lib.hid (ixs_no s hn)
  have hfit' : n + s.size ≤ 2048 := by omega
  have c1' : w.cell? ⟨P, 1, none⟩ = some (.slice a n c) := h.at_ 1 _ rfl
  have HW1 := Lib.hid hW1
  have H := Lib.hid (And.intro F1 (And.intro I1 R1))
  clear F1 F1' I1 R1 ho1 hle hW1 h hn hfit
  have t1 : decide ((2048 : Int) < (n : Int) + (s.size : Int)) = false := by simp; omega
  go_enter Tryd.func22, Tryd.ntmps22
  go_wp2_with fail
  refine (IX.out _).mono ?_
  rintro e w1 ⟨rfl, hw1⟩
  have hw1' : w1 = W1 := by rw [HW1.out, ← hw1]; rfl
  clear hw1
  subst hw1'
  have c1 : w1.cell? ⟨P, 1, none⟩ = some (.slice a n c) := H.out.2.1.at_ 1 _ rfl
  go_wp2_with fail
  refine (keep_any hx s (s.size : Int) s.size (by omega) (by omega) w1 H.out.2.1).mono ?_
  rintro e w2 ⟨o2, a2, c2, rfl, I2, F2⟩
  obtain ⟨F1, I1, R1⟩ := H.out
  rw [show (L s).drop s.size = [] by rw [← L_len]; exact List.drop_length]
  have I2' : IsP w2 o2 x P (pl (l ++ L s)) a2 (n + s.size) c2 ka kn kc := by
    rw [show (L s).take s.size = L s by rw [← L_len]; exact List.take_length] at I2
    exact I2
  have O5 := OutE.zero I2'
  obtain ⟨E, hE⟩ : ∃ E, E = (Ev.none.cs (.slice none 0 0)) := ⟨_, rfl⟩
  have HE : Hid (E = [.int .i64 0, .slice none 0 0, .int .i64 0, .int .i64 0, .int .i64 0, .int .i64 0, .int .u64 0, .bool false, .string ⟨#[]⟩, .int .i64 0, .slice none 0 0, .bool false, .int .u64 0, .string ⟨#[]⟩, .int .i64 0, .int .i64 0, .int .i64 0, .int .i64 0]) := Lib.hid (by rw [hE]; rfl)
  rw [← hE] at O5
  obtain ⟨hl, ho, ht, hr, hq⟩ := chain_e hx (F1.trans F2) (R1.fr F2 (tx8 hx)) (Nat.le_refl _) O5
  have HL := Lib.hid hl
  have H1 := Lib.hid ho
  have HT := Lib.hid ht
  have HR := Lib.hid hr
  have HO := Lib.hid hq
  clear hl ho ht hr hq
  clear hE F1 I1 R1 O5 H c1 c1' I2 I2' F2
  go_wp2_with ((with_reducible show wpList _ _ _ (Oper.mk none (Op.store 36 (.tmp 5) _) _ _ _ _ :: _) _ _); refine wpList_store_mid (by rfl) 36 (.tmp 5) (.tmp 35) (by rfl) w.heap.size 0 E.toArray (by rfl) (by rw [HE.out]; rfl) HT.out (by rw [List.size_toArray, HL.out]; kernel_rfl) (all_oneCell_toArray H1.out) ?_; rw [show E.toArray.toList = E from rfl])
  exact bodyPost_ret (v := .tuple #[.string (S []), .agg E.toArray]) (res2 Tryd.results22 (by rfl) (by rfl) HR.out HL.out) rfl ⟨E, rfl, HO.out⟩
set_option maxRecDepth 100000 in
set_option maxHeartbeats 2000000 in
theorem rline_end {o : Nat → Nat × Nat} {x P : Nat} {l : B} {a : Option Addr} {n c : Nat} {ka : Option Addr} {kn kc : Nat} (hx : x < 8) (s : ByteArray)  (hs : s.size ≤ 1000000000) (q r : B) (hq : L s = q ++ 10 :: r) (hn : 10 ∉ q) (hfit : l.length + q.length ≤ 2048) (w : World) (h : IsP w o x P (pl l) a n c ka kn kc) (ht : Tb w o) :
    Calls Tryd.prog 22 #[.pointer (some ⟨P, 0, none⟩), .string s] w fun e w' => ∃ E, e = .returned (.tuple #[.string (S r), .agg E.toArray]) ∧ OutE w o x P (obey (trim (l ++ q))).1 (obey (trim (l ++ q))).2 E w' := by
  obtain ⟨W1, hW1⟩ : ∃ W1, W1 = w.alloc (.cells (Ev.none.cs (.slice none 0 0)).toArray 36) := ⟨_, rfl⟩
  obtain ⟨o1, ho1⟩ : ∃ o1, o1 = lab o w.heap.size (8, 8) := ⟨_, rfl⟩
  have F1' : Fr (fun _ => False) o o1 w W1 := by rw [hW1, ho1]; exact Fr.new _ _ _ _ _
  have R1 : Res W1 o1 w.heap.size := by rw [hW1, ho1]; exact Res.new _ _
  have I1 := h.fr F1' id id id
  have F1 : Fr (TX x) o o1 w W1 := F1'.mono (fun _ h => h.elim)
  have T1 := ht.fr F1' id
  have hle : n = l.length := h.len
  have hqs : q.length + 1 + r.length = s.size := by rw [← L_len, hq]; simp; omega
  have IX := Lib.hid (ixs_yes s q r hq hn)
  have hd : (L s).drop q.length = 10 :: r := by rw [hq]; simp
  have hk : (L s).take q.length = q := by rw [hq]; simp
  have HD := Lib.hid hd
  have HK := Lib.hid hk
  have sl := str_lo (S (10 :: r)) 1 (by rw [S_size]; simp)
  rw [show (L (S (10 :: r))).drop 1 = r from rfl] at sl
  rw [show ((1 : Nat) : Int) = 1 from rfl] at sl
  obtain ⟨z, hz⟩ : ∃ z, z = q.length := ⟨_, rfl⟩
  have hfit' : n + z ≤ 2048 := by omega
  rw [← hz] at IX HD HK hqs
  have HTR : Hid ((S (l ++ q)).size ≤ 9223372036854775807) := Lib.hid (by rw [S_size, List.length_append]; omega)
  have HTS : Hid ((S (trim (l ++ q))).size ≤ 100000) := Lib.hid (by
    rw [S_size]
    have : (trim (l ++ q)).length ≤ (l ++ q).length := by
      unfold trim Lib.trimSuffix
      split
      · rw [List.length_take]; omega
      · omega
    rw [List.length_append] at this
    omega)
  have c1' : w.cell? ⟨P, 1, none⟩ = some (.slice a n c) := h.at_ 1 _ rfl
  have HW1 := Lib.hid hW1
  have H := Lib.hid (And.intro F1 (And.intro I1 (And.intro R1 T1)))
  clear F1 F1' I1 R1 T1 ho1 hle hW1 h hn hfit hd hk hz hq ht
  have t1 : decide ((2048 : Int) < (n : Int) + (z : Int)) = false := by simp; omega
  go_enter Tryd.func22, Tryd.ntmps22
  go_wp2_with fail
  refine (IX.out _).mono ?_
  rintro e w1 ⟨rfl, hw1⟩
  have hw1' : w1 = W1 := by rw [HW1.out, ← hw1]; rfl
  clear hw1
  subst hw1'
  have c1 : w1.cell? ⟨P, 1, none⟩ = some (.slice a n c) := H.out.2.1.at_ 1 _ rfl
  go_wp2_with fail
  refine (keep_any hx s (z : Int) z (by omega) (by omega) w1 H.out.2.1).mono ?_
  rintro e w2 ⟨o2, a2, c2, rfl, I2, F2⟩
  obtain ⟨F1, I1, R1, T1⟩ := H.out
  rw [HD.out]
  have I2' : IsP w2 o2 x P (pl (l ++ q)) a2 (n + z) c2 ka kn kc := by
    rw [HK.out] at I2
    exact I2
  have d1 : w2.cell? ⟨P, 1, none⟩ = some (.slice a2 (n + z) c2) := I2'.at_ 1 _ rfl
  have cv := conv_own I2'.own
  have H2 := Lib.hid (And.intro (F1.trans F2) (And.intro I2' (And.intro (R1.fr F2 (tx8 hx)) (T1.fr F2 (tx9 hx)))))
  clear I2 I2' F1 I1 R1 T1 F2 H c1 c1'
  obtain ⟨N2, hN2⟩ : ∃ N2, N2 = n + z := ⟨_, rfl⟩
  rw [← hN2] at d1 cv
  clear hN2
  rw [show (pl (l ++ q)).left = l ++ q from rfl] at cv
  go_wp2_with fail
  refine (Tryd.strings_TrimSuffix (S (l ++ q)) ⟨#[13]⟩ w2 HTR.out).mono ?_
  rintro e w3 ⟨rfl, rfl⟩
  rw [show (⟨(Lib.trimSuffix (S (l ++ q)).data.toList (⟨#[13]⟩ : ByteArray).data.toList).toArray⟩ : ByteArray) = S (trim (l ++ q)) from rfl]
  clear cv d1
  have HOB := Lib.hid (fun (W : World) (hI : IsP W o2 x P (pl (l ++ q)) a2 (n + z) c2 ka kn kc) (hT : Tb W o2) => obey_any hx (S (trim (l ++ q))) HTS.out W hI hT)
  rw [show L (S (trim (l ++ q))) = trim (l ++ q) from rfl] at HOB
  obtain ⟨tr, htr⟩ : ∃ tr, tr = S (trim (l ++ q)) := ⟨_, rfl⟩
  rw [← htr] at HOB ⊢
  have f3 := Fr.drew1 (TX x) o2 w3
  have H3 : Hid (Fr (TX x) o o2 w w3.drew ∧ IsP w3.drew o2 x P (pl (l ++ q)) a2 (n + z) c2 ka kn kc ∧ Res w3.drew o2 w.heap.size ∧ Tb w3.drew o2) := Lib.hid ⟨H2.out.1.trans f3, H2.out.2.1.fr (Fr.drew1 (fun _ => False) o2 w3) id id id, H2.out.2.2.1.fr f3 (tx8 hx), H2.out.2.2.2.fr f3 (tx9 hx)⟩
  clear H2 f3 htr
  obtain ⟨obq, hobq⟩ : ∃ obq, obq = obey (trim (l ++ q)) := ⟨_, rfl⟩
  rw [← hobq] at HOB
  have HOBQ := Lib.hid hobq
  clear hobq
  go_wp2_with fail
  go_region_with (go_at_call 40; refine (HOB.out _ H3.out.2.1 H3.out.2.2.2).mono ?_; rintro e w5 ⟨E, rfl, O5⟩; obtain ⟨hl, ho, ht, hr, hq⟩ := chain_e hx H3.out.1 H3.out.2.2.1 (Nat.le_refl _) O5; have HL := Lib.hid hl; have st := store_run ht ho; have HR := Lib.hid hr; have HO := Lib.hid hq; clear hl ho ht hr hq O5)
  all_goals
    go_wp2_with fail
    exact bodyPost_ret (v := .tuple #[.string (S r), .agg E.toArray]) (res2 Tryd.results22 (by rfl) (by rfl) HR.out HL.out) rfl ⟨E, rfl, by rw [← HOBQ.out]; exact HO.out⟩
set_option maxRecDepth 100000 in
set_option maxHeartbeats 2000000 in
theorem rline_long {o : Nat → Nat × Nat} {x P : Nat} {l : B} {a : Option Addr} {n c : Nat} {ka : Option Addr} {kn kc : Nat} (hx : x < 8) (s : ByteArray)  (hs : s.size ≤ 1000000000) (hl : l.length ≤ 2048) (q r : B) (hq : L s = q ++ 10 :: r) (hn : 10 ∉ q) (hbig : 2048 < l.length + q.length) (w : World) (h : IsP w o x P (pl l) a n c ka kn kc) :
    Calls Tryd.prog 22 #[.pointer (some ⟨P, 0, none⟩), .string s] w fun e w' => ∃ E, e = .returned (.tuple #[.string (S []), .agg E.toArray]) ∧ OutE w o x P (pz 4) (ans 15 []) E w' := by
  obtain ⟨W1, hW1⟩ : ∃ W1, W1 = w.alloc (.cells (Ev.none.cs (.slice none 0 0)).toArray 36) := ⟨_, rfl⟩
  obtain ⟨o1, ho1⟩ : ∃ o1, o1 = lab o w.heap.size (8, 8) := ⟨_, rfl⟩
  have F1' : Fr (fun _ => False) o o1 w W1 := by rw [hW1, ho1]; exact Fr.new _ _ _ _ _
  have R1 : Res W1 o1 w.heap.size := by rw [hW1, ho1]; exact Res.new _ _
  have I1 := h.fr F1' id id id
  have F1 : Fr (TX x) o o1 w W1 := F1'.mono (fun _ h => h.elim)
  have hle : n = l.length := h.len
  have hqs : q.length + 1 + r.length = s.size := by rw [← L_len, hq]; simp; omega
  have IX := Lib.hid (ixs_yes s q r hq hn)
  obtain ⟨z, hz⟩ : ∃ z, z = q.length := ⟨_, rfl⟩
  rw [← hz] at IX hbig hqs
  clear hz hq hn
  rw [← hle] at hl hbig
  have c1 : W1.cell? ⟨P, 1, none⟩ = some (.slice a n c) := I1.at_ 1 _ rfl
  have HW1 := Lib.hid hW1
  have H := Lib.hid (And.intro F1 (And.intro I1 R1))
  rw [hW1] at c1
  have c1' : w.cell? ⟨P, 1, none⟩ = some (.slice a n c) := h.at_ 1 _ rfl
  clear c1 F1 F1' I1 R1 ho1 hle hW1 h
  have t1 : decide ((2048 : Int) < (n : Int) + (z : Int)) = true := by simp; omega
  go_enter Tryd.func22, Tryd.ntmps22
  go_wp2_with fail
  refine (IX.out _).mono ?_
  rintro e w1 ⟨rfl, hw1⟩
  have hw1' : w1 = W1 := by rw [HW1.out, ← hw1]; rfl
  clear hw1
  subst hw1'
  have c1 : w1.cell? ⟨P, 1, none⟩ = some (.slice a n c) := H.out.2.1.at_ 1 _ rfl
  go_wp2_with fail
  refine (end_any hx w1 H.out.2.1).mono ?_
  rintro e w5 ⟨E, rfl, O5⟩
  obtain ⟨F1, I1, R1⟩ := H.out
  obtain ⟨hl, ho, ht, hr, hq⟩ := chain_e hx F1 R1 (Nat.le_refl _) O5
  have HL := Lib.hid hl
  have H1 := Lib.hid ho
  have HT := Lib.hid ht
  have HR := Lib.hid hr
  have HO := Lib.hid hq
  clear hl ho ht hr hq
  clear F1 I1 R1 O5 H c1 c1'
  go_wp2_with ((with_reducible show wpList _ _ _ (Oper.mk none (Op.store 36 (.tmp 5) _) _ _ _ _ :: _) _ _); refine wpList_store_mid (by rfl) 36 (.tmp 5) (.tmp 27) (by rfl) w.heap.size 0 E.toArray (by rfl) (by rfl) HT.out (by rw [List.size_toArray, HL.out]; kernel_rfl) (all_oneCell_toArray H1.out) ?_; rw [show E.toArray.toList = E from rfl])
  exact bodyPost_ret (v := .tuple #[.string (S []), .agg E.toArray]) (res2 Tryd.results22 (by rfl) (by rfl) HR.out HL.out) rfl ⟨E, rfl, HO.out⟩
set_option maxRecDepth 100000 in
set_option maxHeartbeats 2000000 in
theorem rline_far {o : Nat → Nat × Nat} {x P : Nat} {l : B} {a : Option Addr} {n c : Nat} {ka : Option Addr} {kn kc : Nat} (hx : x < 8) (s : ByteArray)  (hs : s.size ≤ 1000000000) (hl : l.length ≤ 2048) (hn : 10 ∉ L s) (hbig : 2048 < l.length + s.size) (w : World) (h : IsP w o x P (pl l) a n c ka kn kc) :
    Calls Tryd.prog 22 #[.pointer (some ⟨P, 0, none⟩), .string s] w fun e w' => ∃ E, e = .returned (.tuple #[.string (S []), .agg E.toArray]) ∧ OutE w o x P (pz 4) (ans 15 []) E w' := by
  obtain ⟨W1, hW1⟩ : ∃ W1, W1 = w.alloc (.cells (Ev.none.cs (.slice none 0 0)).toArray 36) := ⟨_, rfl⟩
  obtain ⟨o1, ho1⟩ : ∃ o1, o1 = lab o w.heap.size (8, 8) := ⟨_, rfl⟩
  have F1' : Fr (fun _ => False) o o1 w W1 := by rw [hW1, ho1]; exact Fr.new _ _ _ _ _
  have R1 : Res W1 o1 w.heap.size := by rw [hW1, ho1]; exact Res.new _ _
  have I1 := h.fr F1' id id id
  have F1 : Fr (TX x) o o1 w W1 := F1'.mono (fun _ h => h.elim)
  have hle : n = l.length := h.len
  have IX := Lib.hid (ixs_no s hn)
  obtain ⟨z, hz⟩ : ∃ z, z = s.size := ⟨_, rfl⟩
  rw [← hz] at hs hbig
  have HZ := Lib.hid hz
  clear hn
  rw [← hle] at hl hbig
  have c1 : W1.cell? ⟨P, 1, none⟩ = some (.slice a n c) := I1.at_ 1 _ rfl
  have HW1 := Lib.hid hW1
  have H := Lib.hid (And.intro F1 (And.intro I1 R1))
  rw [hW1] at c1
  have c1' : w.cell? ⟨P, 1, none⟩ = some (.slice a n c) := h.at_ 1 _ rfl
  clear c1 F1 F1' I1 R1 ho1 hle hW1 h
  have t1 : decide ((2048 : Int) < (n : Int) + (z : Int)) = true := by simp; omega
  subst hz
  go_enter Tryd.func22, Tryd.ntmps22
  go_wp2_with fail
  refine (IX.out _).mono ?_
  rintro e w1 ⟨rfl, hw1⟩
  have hw1' : w1 = W1 := by rw [HW1.out, ← hw1]; rfl
  clear hw1
  subst hw1'
  have c1 : w1.cell? ⟨P, 1, none⟩ = some (.slice a n c) := H.out.2.1.at_ 1 _ rfl
  go_wp2_with fail
  refine (end_any hx w1 H.out.2.1).mono ?_
  rintro e w5 ⟨E, rfl, O5⟩
  obtain ⟨F1, I1, R1⟩ := H.out
  obtain ⟨hl, ho, ht, hr, hq⟩ := chain_e hx F1 R1 (Nat.le_refl _) O5
  have HL := Lib.hid hl
  have H1 := Lib.hid ho
  have HT := Lib.hid ht
  have HR := Lib.hid hr
  have HO := Lib.hid hq
  clear hl ho ht hr hq
  clear F1 I1 R1 O5 H c1 c1'
  go_wp2_with ((with_reducible show wpList _ _ _ (Oper.mk none (Op.store 36 (.tmp 5) _) _ _ _ _ :: _) _ _); refine wpList_store_mid (by rfl) 36 (.tmp 5) (.tmp 27) (by rfl) w.heap.size 0 E.toArray (by rfl) (by rfl) HT.out (by rw [List.size_toArray, HL.out]; kernel_rfl) (all_oneCell_toArray H1.out) ?_; rw [show E.toArray.toList = E from rfl])
  exact bodyPost_ret (v := .tuple #[.string (S []), .agg E.toArray]) (res2 Tryd.results22 (by rfl) (by rfl) HR.out HL.out) rfl ⟨E, rfl, HO.out⟩
/-- A line's bytes taken off a piece. -/
theorem read_line {o : Nat → Nat × Nat} {x P : Nat} {l : B} {a : Option Addr} {n c : Nat} {ka : Option Addr} {kn kc : Nat} (hx : x < 8) (s : ByteArray) (hs : s.size ≤ 1000000000) (h0 : 0 < s.size) (hl : l.length ≤ 2048) (w : World) (h : IsP w o x P (pl l) a n c ka kn kc) (ht : Tb w o) :
    ∃ p' ev rest, (Calls Tryd.prog 22 #[.pointer (some ⟨P, 0, none⟩), .string s] w fun e w' => ∃ E, e = .returned (.tuple #[.string (S rest), .agg E.toArray]) ∧ OutE w o x P p' ev E w') ∧ feed (pl l) (L s) = thn ev (feed p' rest) ∧ rest.length < s.size ∧ (rest = [] ∨ Okp p') := by
  by_cases h10 : 10 ∈ L s
  · obtain ⟨q, r, hq, hn⟩ := cut_at h10
    have hqs : q.length + 1 + r.length = s.size := by rw [← L_len, hq]; simp; omega
    by_cases hbig : 2048 < l.length + q.length
    · exact ⟨pz 4, ans 15 [], [], rline_long hx s hs hl q r hq hn hbig w h, by rw [hq, feed_pl_long q _ l hn hbig hl]; rfl, by simpa using h0, .inl rfl⟩
    · exact ⟨_, _, r, rline_end hx s hs q r hq hn (by omega) w h ht, by rw [hq, feed_pl_end q r l hn (by omega)], by omega, .inr (okp_obey _)⟩
  · by_cases hbig : 2048 < l.length + s.size
    · refine ⟨pz 4, ans 15 [], [], rline_far hx s hs hl h10 hbig w h, ?_, by simpa using h0, .inl rfl⟩
      have := feed_pl_long (L s) [] l h10 (by rw [L_len]; exact hbig) hl
      rw [List.append_nil] at this
      rw [this]; rfl
    · exact ⟨pl (l ++ L s), Ev.none, [], rline_more hx s h10 (by omega) w h, by rw [feed_pl (L s) l h10 (by rw [L_len]; omega)]; rfl, by simpa using h0, .inl rfl⟩
end Go.Proofs.YtedbklipbfbmoaaDoor
