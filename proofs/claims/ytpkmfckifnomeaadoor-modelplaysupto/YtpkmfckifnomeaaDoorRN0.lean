/-
  DIGITS of the reference.
-/
import Derived.Test.YtpkmfckifnomeaaDoorEnt
import Derived.Test.YtpkmfckifnomeaaDoorStr
import Derived.Test.YtpkmfckifnomeaaDoorNext
namespace Go.Proofs.YtpkmfckifnomeaaDoor
open Go.RowKit
open Go.Lib (TabIs pow10Tab OthersKept)

/-- What is left of the number u0: u, and the digits behind it. -/
def Dw (u0 u : Nat) (s : ByteArray) : Prop := (s.size = 0 ∧ u = u0) ∨ (s.size ≠ 0 ∧ Lib.decDigits u0 = if u = 0 then L s else Lib.decDigits u ++ L s)
theorem Dw.size {u0 u : Nat} {s : ByteArray} (h : Dw u0 u s) (hu : u0 < 18446744073709551616) : s.size ≤ 20 := by
  rcases h with ⟨h, _⟩ | ⟨_, h⟩
  · omega
  · have h1 := (dec_len hu).2
    have h2 := L_len s
    rw [h] at h1
    split at h1
    · omega
    · rw [List.length_append] at h1; omega
theorem dg1 (u : Nat) : ((UInt8.ofNat (48 + u % 10)).toNat : Int) = 48 + (u : Int) % 10 := by
  rw [UInt8.toNat_ofNat']; omega
theorem Dw.step {u0 u : Nat} {s : ByteArray} (h : Dw u0 u s) (hg : 0 < u ∨ s.size = 0) : Dw u0 (u / 10) (S [UInt8.ofNat (48 + u % 10)] ++ s) := by
  refine .inr ⟨by rw [ByteArray.size_append, S_size]; simp, ?_⟩
  have e : Lib.decDigits u0 = Lib.decDigits u ++ L s := by
    rcases h with ⟨h1, rfl⟩ | ⟨h1, h2⟩
    · rw [show L s = [] from List.eq_nil_of_length_eq_zero (by rw [L_len]; exact h1), List.append_nil]
    · rw [if_neg (by omega)] at h2; exact h2
  rw [L_append, L_S, e]
  by_cases hu : u < 10
  · rw [if_pos (by omega), Lib.decDigits, dif_pos hu, Nat.mod_eq_of_lt hu]
  · rw [if_neg (by omega)]
    rw [Lib.decDigits, dif_neg hu, List.append_assoc]
theorem Dw.fin {u0 : Nat} {s : ByteArray} (h : Dw u0 0 s) (hs : s.size ≠ 0) : S (Lib.decDigits u0) = s := by
  rcases h with ⟨h1, _⟩ | ⟨_, h2⟩
  · exact absurd h1 hs
  · rw [if_pos rfl] at h2; rw [h2, S_L]
theorem nil_list : (⟨#[]⟩ : ByteArray).toList = [] := by rw [ByteArray.toList_eq]
def em : Value → Nat
  | .string s => if s.size = 0 then 1 else 0
  | _ => 0
/-- One byte as a text. -/
theorem conv_one (w : World) (u : Nat) : (convert 106 9 (.slice (some ⟨w.heap.size, 0, none⟩) 1 1)).run Tryd.prog (w.alloc (.cells #[.int .u8 (48 + (u : Int) % 10)] 5)) = .ok (.string (S [UInt8.ofNat (48 + u % 10)])) (w.alloc (.cells #[.int .u8 (48 + (u : Int) % 10)] 5)) := by
  have h := run_convert_bytes_back (P := Tryd.prog) (w.alloc (.cells #[.int .u8 (48 + (u : Int) % 10)] 5)) 106 9 5 ⟨w.heap.size, 0, none⟩ 1 [UInt8.ofNat (48 + u % 10)] Tryd.underlying106 Tryd.underlying5 Tryd.underlying9 (fun j hj => by
    obtain rfl : j = 0 := by simpa using hj
    show (w.alloc _).cell? ⟨w.heap.size, 0, none⟩ = _
    rw [World.cell?_alloc_new]
    show some (Value.int .u8 (48 + (u : Int) % 10)) = some (.int .u8 ((UInt8.ofNat (48 + u % 10)).toNat : Int))
    rw [dg1])
  exact h
set_option maxRecDepth 100000 in
set_option maxHeartbeats 1000000 in
theorem rdigits_any (u0 : Nat) (hu : u0 < 18446744073709551616) (w : World) :
    Calls Tryd.prog 58 #[.int .u64 (u0 : Int)] w fun e w' => e = .returned (.string (S (Lib.decDigits u0))) ∧ Below w.heap.size w w' := by
  have HU := Lib.hid hu
  go_enter Tryd.func58, Tryd.ntmps58
  go_wp2_with fail
  go_loopw [0, 3] (fun uv sv wr => ∃ (u : Nat) (s : ByteArray), uv = .int .u64 (u : Int) ∧ sv = .string s ∧ u < 18446744073709551616 ∧ Hid (Dw u0 u s) ∧ Hid (Below w.heap.size w wr)) (fun uv sv _ => (intOf uv).toNat * 2 + em sv)
  case atStart => exact ⟨u0, ⟨#[]⟩, rfl, rfl, hu, Lib.hid (.inl ⟨rfl, rfl⟩), Lib.hid (Below.refl _ _)⟩
  case round =>
    obtain ⟨u, s, rfl, rfl, hu64, HD, HB⟩ := hrel
    have zs : s.size ≤ 20 := HD.out.size HU.out
    have cv := conv_one wr u
    obtain ⟨d, hd⟩ : ∃ d, S [UInt8.ofNat (48 + u % 10)] = d := ⟨_, rfl⟩
    have zd : d.size = 1 := by rw [← hd, S_size]; rfl
    rw [hd] at cv
    obtain ⟨s', hs'⟩ : ∃ s', d ++ s = s' := ⟨_, rfl⟩
    have zs' : em (.string s') = 0 := by
      show (if s'.size = 0 then 1 else 0) = 0
      rw [← hs', ByteArray.size_append, if_neg (by omega)]
    have HST : Hid (0 < u ∨ s.size = 0 → Dw u0 (u / 10) s') := Lib.hid (fun h => by rw [← hs', ← hd]; exact HD.out.step h)
    clear hd
    by_cases h0 : 0 < u
    · have g0 : decide ((0 : Int) < (u : Int)) = true := decide_eq_true (by omega)
      go_wp2_with fail
      exact ⟨⟨u / 10, s', by go_num, rfl, by omega, Lib.hid (HST.out (.inl h0)), Lib.hid (HB.out.trans ((below_alloc _ _).mono HB.out.size))⟩, by simp [intOf, zs']; omega⟩
    · have g0 : decide ((0 : Int) < (u : Int)) = false := decide_eq_false (by omega)
      by_cases h1 : s.size = 0
      · have g1 : (s.toList == []) = true := by
          rw [show s = ⟨#[]⟩ from L_inj (List.eq_nil_of_length_eq_zero (by rw [L_len]; exact h1)), nil_list]; rfl
        go_wp2_with fail
        exact ⟨⟨u / 10, s', by go_num, rfl, by omega, Lib.hid (HST.out (.inr h1)), Lib.hid (HB.out.trans ((below_alloc _ _).mono HB.out.size))⟩, by
          have : em (.string s) = 1 := if_pos h1
          simp [intOf, zs', this]; omega⟩
      · have g1 : (s.toList == []) = false := by
          have := str_beq s ⟨#[]⟩
          rw [decide_eq_false (fun e => h1 (by rw [e]; rfl)), nil_list] at this
          exact this
        obtain rfl : u = 0 := by omega
        have HFN := Lib.hid (HD.out.fin h1)
        go_wp2_with fail
        rw [HFN.out]
        go_ret
        exact ⟨rfl, HB.out⟩
end Go.Proofs.YtpkmfckifnomeaaDoor


namespace Go.Proofs.YtpkmfckifnomeaaDoor
open Go.RowKit

theorem size_zero {s : ByteArray} (h : ¬ 1 ≤ s.size) : L s = [] := List.eq_nil_of_length_eq_zero (by rw [L_len]; omega)
theorem beq_nil (s : ByteArray) : (s.toList == []) = decide (s.size = 0) := by
  have e : s.toList = L s := by rw [ByteArray.toList_eq]; rfl
  rw [e, ← L_len]
  cases L s <;> simp
set_option maxHeartbeats 1000000 in
theorem rnumber_any (s : ByteArray) (most : Nat) (hm : most < 18446744073709551616) (w : World) :
    Calls Tryd.prog 57 #[.string s, .int .u64 (most : Int)] w fun e w' => e = .returned (.tuple #[.int .u64 (nv most (L s) : Int), .bool (nb most (L s))]) ∧ w = w' := by
  have hl := L_len s
  have bn := beq_nil s
  by_cases hlen : 1 ≤ s.size ∧ s.size ≤ 20
  · have hn : num most (L s) = ng most 0 (L s) := if_pos (by rw [hl]; exact hlen)
    have HN := Lib.hid hn
    clear hn
    have h1 : (s.toList == []) = false := by rw [bn]; exact decide_eq_false (by omega)
    have h2 : decide ((20 : Int) < (s.size : Int)) = false := decide_eq_false (by omega)
    obtain ⟨m, hme⟩ : ∃ m : Int, m = (most : Int) := ⟨_, rfl⟩
    rw [← hme]
    have HM := Lib.hid hme
    have m0 : 0 ≤ m := by omega
    have m1 : m < 18446744073709551616 := by omega
    clear hme hm bn
    have HL := Lib.hid hl
    clear hl
    go_enter Tryd.func57, Tryd.ntmps57
    go_wp2_with fail
    go_loopw [6, 7] (fun h i wr => ∃ j n : Nat, ∃ a : Int, j ≤ s.size ∧ i = .int .i64 (j : Int) ∧ h = .int .u64 a ∧ Hid (a = (n : Int) ∧ n ≤ most ∧ ng most 0 (L s) = ng most n ((L s).drop j)) ∧ w = wr) (fun _ i _ => s.size - (intOf i).toNat)
    case atStart => exact ⟨0, 0, 0, by omega, rfl, rfl, Lib.hid ⟨rfl, Nat.zero_le _, rfl⟩, rfl⟩
    case round =>
      obtain ⟨j, n, a, hj, rfl, rfl, HR, rfl⟩ := hrel
      by_cases hlt : j < s.size
      · have hi1 : (j : Int) < (s.size : Int) := by omega
        obtain ⟨c, hc⟩ : ∃ c, (L s)[j]? = some c := ⟨_, List.getElem?_eq_getElem (by rw [L_len]; exact hlt)⟩
        have ix := str_at hc
        have hd : (L s).drop j = c :: (L s).drop (j + 1) := by
          obtain ⟨h1, h2⟩ := List.getElem?_eq_some_iff.1 hc
          rw [← h2]; exact List.drop_eq_getElem_cons h1
        have HD := Lib.hid hd
        clear hd hc
        have ht := c.toNat_lt
        obtain ⟨x, hx⟩ : ∃ x : Int, x = ((c.toNat : Nat) : Int) := ⟨_, rfl⟩
        rw [← hx] at ix
        have x0 : 0 ≤ x := by omega
        have x1 : x < 256 := by omega
        have HX := Lib.hid hx
        clear hx ht
        have e0 : IntKind.u64.wrap x = x := by rw [IntKind.wrap_u64]; omega
        have HST : Hid (¬ (48 ≤ c.toNat ∧ c.toNat ≤ 57 ∧ n * 10 + (c.toNat - 48) ≤ most) → nv most (L s) = 0 ∧ nb most (L s) = false) := Lib.hid (fun hh => num_none (by rw [HN.out, HR.out.2.2, HD.out]; exact ng_stop hh))
        by_cases c1 : x < 48
        · obtain ⟨dd, hdd⟩ : ∃ dd, IntKind.u64.wrap (x - 48) = dd := ⟨_, rfl⟩
          go_wp2_with fail
          obtain ⟨e1, e2⟩ := HST.out (by have := HX.out; omega)
          exact bodyPost_ret (v := .tuple #[.int .u64 0, .bool false]) (by simp [results, Tryd.results57, go_sem]) rfl ⟨by rw [e1, e2]; rfl, rfl⟩
        have c1' : decide (x < 48) = false := decide_eq_false c1
        obtain ⟨d, hdd⟩ : ∃ d : Int, x - 48 = d := ⟨_, rfl⟩
        have d0 : 0 ≤ d := by omega
        have d1 : d < 208 := by omega
        have e3 : IntKind.u64.wrap (x - 48) = d := by rw [hdd, IntKind.wrap_u64]; omega
        have HDD := Lib.hid hdd
        by_cases c2 : 57 < x
        · clear hdd
          go_wp2_with fail
          obtain ⟨e1, e2⟩ := HST.out (by have := HX.out; omega)
          exact bodyPost_ret (v := .tuple #[.int .u64 0, .bool false]) (by simp [results, Tryd.results57, go_sem]) rfl ⟨by rw [e1, e2]; rfl, rfl⟩
        have c2' : decide (57 < x) = false := decide_eq_false c2
        have g1 : d ≤ 9 := by omega
        clear c1 c2 hdd
        by_cases c3 : m < d
        · obtain ⟨q, hq⟩ : ∃ q, IntKind.u64.wrap (m - d) = q := ⟨_, rfl⟩
          have q0 : 0 ≤ q ∧ q < 18446744073709551616 := by rw [← hq, IntKind.wrap_u64]; omega
          have HCC : Hid (nv most (L s) = 0 ∧ nb most (L s) = false) := Lib.hid (HST.out (by have := HX.out; have := HDD.out; have := HM.out; omega))
          obtain ⟨q1, q2⟩ := q0
          by_cases c4 : q / 10 < a
          · have c4' : decide (q / 10 < a) = true := decide_eq_true c4
            go_wp2_with fail
            obtain ⟨e1, e2⟩ := HCC.out
            exact bodyPost_ret (v := .tuple #[.int .u64 0, .bool false]) (by simp [results, Tryd.results57, go_sem]) rfl ⟨by rw [e1, e2]; rfl, rfl⟩
          · have c4' : decide (q / 10 < a) = false := decide_eq_false c4
            go_wp2_with fail
            obtain ⟨e1, e2⟩ := HCC.out
            exact bodyPost_ret (v := .tuple #[.int .u64 0, .bool false]) (by simp [results, Tryd.results57, go_sem]) rfl ⟨by rw [e1, e2]; rfl, rfl⟩
        · have c3' : decide (m < d) = false := decide_eq_false c3
          by_cases c4 : (m - d) / 10 < a
          · go_wp2_with fail
            obtain ⟨e1, e2⟩ := HST.out (by have := HX.out; have := HDD.out; have := HM.out; have := HR.out.1; omega)
            exact bodyPost_ret (v := .tuple #[.int .u64 0, .bool false]) (by simp [results, Tryd.results57, go_sem]) rfl ⟨by rw [e1, e2]; rfl, rfl⟩
          · have c4' : decide ((m - d) / 10 < a) = false := decide_eq_false c4
            have a0 : 0 ≤ a := by have := HR.out.1; omega
            have e5 : IntKind.u64.wrap (a * 10) = a * 10 := by rw [IntKind.wrap_u64]; omega
            have e4 : IntKind.u64.wrap (a * 10 + d) = a * 10 + d := by rw [IntKind.wrap_u64]; omega
            go_wp2_with fail
            refine ⟨⟨j + 1, n * 10 + (c.toNat - 48), a * 10 + d, by omega, by go_num, rfl, Lib.hid ⟨?_, ?_, ?_⟩, trivial⟩, by simp [intOf]; omega⟩
            · have := HX.out; have := HDD.out; have := HR.out.1; omega
            · have := HX.out; have := HDD.out; have := HM.out; have := HR.out.1; omega
            · rw [HR.out.2.2, HD.out, ng, if_pos]
              have := HX.out; have := HDD.out; have := HM.out; have := HR.out.1; omega
      · have hi1 : decide ((j : Int) < (s.size : Int)) = false := decide_eq_false (by omega)
        go_wp2_with fail
        obtain ⟨e1, e2⟩ := num_some (v := n) (by rw [HN.out, HR.out.2.2, List.drop_eq_nil_of_le (by rw [L_len]; omega)]; rfl)
        exact bodyPost_ret (v := .tuple #[.int .u64 a, .bool true]) (by simp [results, Tryd.results57, go_sem]) rfl ⟨by rw [e1, e2, HR.out.1], rfl⟩
  · obtain ⟨e1, e2⟩ := num_none (most := most) (s := L s) (if_neg (by rw [hl]; exact hlen))
    rw [e1, e2]
    clear e1 e2 hl
    by_cases h1 : s.size = 0
    · have h1' : (s.toList == []) = true := by rw [bn]; exact decide_eq_true h1
      clear bn
      go_enter Tryd.func57, Tryd.ntmps57
      go_wp2_with fail
      exact bodyPost_ret (v := .tuple #[.int .u64 0, .bool false]) (by simp [results, Tryd.results57, go_sem]) rfl ⟨rfl, rfl⟩
    · have h1' : (s.toList == []) = false := by rw [bn]; exact decide_eq_false h1
      have h2 : (20 : Int) < (s.size : Int) := by omega
      clear bn
      go_enter Tryd.func57, Tryd.ntmps57
      go_wp2_with fail
      exact bodyPost_ret (v := .tuple #[.int .u64 0, .bool false]) (by simp [results, Tryd.results57, go_sem]) rfl ⟨rfl, rfl⟩
end Go.Proofs.YtpkmfckifnomeaaDoor


namespace Go.Proofs.YtpkmfckifnomeaaDoor
open Go.RowKit

open Go.Lib (TabIs pow10Tab)
set_option maxRecDepth 100000 in
set_option maxHeartbeats 1000000 in
theorem say_any (k : Int) (w : World) : Calls Tryd.prog 43 #[.int .i64 k] w fun e w' => e = .returned (.agg (ab k).cs.toArray) ∧ Below w.heap.size w w' := by
  go_enter Tryd.func43, Tryd.ntmps43
  go_wp2_with fail
  refine bodyPost_ret (v := .agg #[.int .i64 k, .slice none 0 0, .bool false, .int .u64 0, .string ⟨#[]⟩, .int .i64 0, .int .i64 0, .int .i64 0, .int .i64 0]) (by simp [results, Tryd.results43]; go_simp) rfl ?_
  exact ⟨rfl, below_alloc _ _⟩
/-- Whichever one alone may come next. -/
theorem oneH {P : Program} {md : Region.Mode} {ops : Array Oper} {Q : Exit → Act → World → Prop} {S : World → Prop} {fuel i : Nat} {listed : Array Bool} {a : Act} {w : World} {op : Oper} (hr : Region.ready md ops listed = [i]) (hi : ops[i]? = some op)
    (h : ∀ K' : Act → World → Prop, (∀ a w, (S w ∧ wpAnyH P md ops Q S fuel (listed.setIfInBounds i true) a w) → K' a w) → if Region.wanted op (yielded ops a.tmps) = true then Oper.wp P op a w K' Q else K' (a.put op.dst undef) w) : wpAnyH P md ops Q S (fuel + 1) listed a w :=
  wpAnyH_all hr (by simp) (fun j hj => by
    obtain rfl : j = i := by simpa using hj
    exact wpOp_step hi h)
/-- The boxes, and the blocks of what is handed back, the entry's already written. -/
theorem r4 (w : World) (R E Z : Array Value) (X : List Value) (hZ : Z = zA.toArray) (hX : X.length = 5) :
    ((((w.alloc (.cells R 27)).alloc (.cells E 49)).alloc (.cells Z 32)).alloc (.cells X.toArray 49)).there (w.heap.size + 1 + 1) 0 9 ∧ ((((w.alloc (.cells R 27)).alloc (.cells E 49)).alloc (.cells Z 32)).alloc (.cells X.toArray 49)).there (w.heap.size + 1 + 1 + 1) 0 5 ∧ ((((w.alloc (.cells R 27)).alloc (.cells E 49)).alloc (.cells Z 32)).alloc (.cells X.toArray 49)).rangeAt (w.heap.size + 1 + 1 + 1) 0 X ∧ Below w.heap.size w ((((w.alloc (.cells R 27)).alloc (.cells E 49)).alloc (.cells Z 32)).alloc (.cells X.toArray 49)) := by
  subst hZ
  have a1 := there_new ((w.alloc (.cells R 27)).alloc (.cells E 49)) zA 32
  have a2 := there_new (((w.alloc (.cells R 27)).alloc (.cells E 49)).alloc (.cells zA.toArray 32)) X 49
  have a3 := range_new (((w.alloc (.cells R 27)).alloc (.cells E 49)).alloc (.cells zA.toArray 32)) X 49
  simp only [World.size_alloc] at a1 a2 a3
  rw [hX] at a2
  refine ⟨there_below a1 (below_alloc _ _), a2, a3, ?_⟩
  exact (below_alloc w _).trans (((below_alloc _ _).trans (((below_alloc _ _).trans ((below_alloc _ _).mono (by simp only [World.size_alloc]; omega))).mono (by simp only [World.size_alloc]; omega))).mono (by simp only [World.size_alloc]; omega))
/-- What the reference hands back: the entry counts only where it is kept. -/
def OutR (w : World) (q : Q4) (e : Ending) (w' : World) : Prop := ∃ y : En, e = .returned (.tuple #[.agg q.1.cs.toArray, .agg y.cs.toArray, .bool q.2.2.1, .bool q.2.2.2]) ∧ (q.2.2.1 = true → y = q.2.1) ∧ Below w.heap.size w w'
end Go.Proofs.YtpkmfckifnomeaaDoor


namespace Go.Proofs.YtpkmfckifnomeaaDoor
open Go.RowKit

open Go.Lib (TabIs pow10Tab)
/-- The boxes of a request and an entry, and the blocks of what is handed back, the entry's already written. -/
structure RX (w W : World) (R E X : List Value) : Prop where
  r : W.rangeAt w.heap.size 0 R
  e : W.rangeAt (w.heap.size + 1) 0 E
  x : W.rangeAt (w.heap.size + 1 + 1 + 1) 0 X
  ta : W.there (w.heap.size + 1 + 1) 0 9
  tx : W.there (w.heap.size + 1 + 1 + 1) 0 5
  b : Below w.heap.size w W
theorem RX.lt {w W : World} {R E X : List Value} (h : RX w W R E X) : w.heap.size + 3 < W.heap.size := by
  obtain ⟨u, hu⟩ := Option.isSome_iff_exists.1 (h.tx 0 (by omega)).1
  exact World.block_lt_of_cell? _ _ hu
theorem RX.below {w W W' : World} {R E X : List Value} (h : RX w W R E X) (f : Below W.heap.size W W') : RX w W' R E X :=
  ⟨range_below h.r f, range_below h.e f, range_below h.x f, there_below h.ta f, there_below h.tx f, h.b.trans (f.mono (by have := h.lt; omega))⟩
theorem RX.drew {w W : World} {R E X : List Value} (h : RX w W R E X) : RX w W.drew R E X := ⟨h.r, h.e, h.x, h.ta, h.tx, h.b.drew⟩
theorem RX.new (w : World) (R E : List Value) : RX w ((((w.alloc (.cells R.toArray 27)).alloc (.cells E.toArray 49)).alloc (.cells zA.toArray 32)).alloc (.cells e0.cs.toArray 49)) R E e0.cs := by
  obtain ⟨h1, h2, h3, h4⟩ := r4 w R.toArray E.toArray zA.toArray e0.cs rfl rfl
  have r1 := range_new w R 27
  have r2 := range_new (w.alloc (.cells R.toArray 27)) E 49
  rw [World.size_alloc] at r2
  refine ⟨range_below (range_below (range_below r1 (below_alloc _ _)) (below_alloc _ _)) (below_alloc _ _), range_below (range_below r2 (below_alloc _ _)) (below_alloc _ _), h3, h1, h2, h4⟩
/-- The entry written anew. -/
theorem RX.set {w W : World} {R E X : List Value} (h : RX w W R E X) (Y : List Value) (hY : Y.length = 5) : RX w (W.setCells (w.heap.size + 1 + 1 + 1) 0 Y) R E Y :=
  ⟨range_other h.r (by omega) Y, range_other h.e (by omega) Y, World.rangeAt_setCells_same _ _ _ _ (by rw [hY]; exact h.tx), there_other h.ta Y, there_other h.tx Y, below_sets h.b (by omega) _ _⟩
/-- The answer written anew. -/
theorem RX.setA {w W : World} {R E X : List Value} (h : RX w W R E X) (A : List Value) (_ : A.length = 9) : RX w (W.setCells (w.heap.size + 1 + 1) 0 A) R E X :=
  ⟨range_other h.r (by omega) A, range_other h.e (by omega) A, range_other h.x (by omega) A, there_other h.ta A, there_other h.tx A, below_sets h.b (by omega) _ _⟩
theorem RX.cellR {w W : World} {R E X : List Value} (h : RX w W R E X) (j : Nat) (v : Value) (hv : R[j]? = some v) : W.cell? ⟨w.heap.size, j, none⟩ = some v := by have := h.r j v hv; rwa [Nat.zero_add] at this
theorem RX.cellE {w W : World} {R E X : List Value} (h : RX w W R E X) (j : Nat) (v : Value) (hv : E[j]? = some v) : W.cell? ⟨w.heap.size + 1, j, none⟩ = some v := by have := h.e j v hv; rwa [Nat.zero_add] at this
theorem range_set1 {w : World} {b n : Nat} {cs : List Value} (h : w.rangeAt b 0 cs) (ht : w.there b 0 n) (j : Nat) (hj : j < n) (v : Value) : (w.setCell ⟨b, j, none⟩ v).rangeAt b 0 (cs.set j v) := fun i u hu => by
  obtain ⟨y, hy⟩ := Option.isSome_iff_exists.1 (ht j hj).1
  rw [Nat.zero_add] at hy
  rw [Nat.zero_add]
  by_cases e : j = i
  · subst e
    by_cases hl : j < cs.length
    · rw [List.getElem?_set_self hl] at hu
      rw [World.cell?_setCell_same _ _ _ hy]; exact hu
    · have := (List.getElem?_eq_some_iff.1 hu).1
      rw [List.length_set] at this; exact absurd this hl
  · rw [List.getElem?_set_ne e] at hu
    have := h i u hu
    rw [Nat.zero_add] at this
    rw [World.cell?_setCell_other _ _ _ _ (fun h => e (by injection h))]; exact this
/-- One cell of the entry stored. -/
theorem RX.set1 {w W : World} {R E X : List Value} (h : RX w W R E X) (j : Nat) (hj : j < 5) (v : Value) : RX w (W.setCell ⟨w.heap.size + 1 + 1 + 1, j, none⟩ v) R E (X.set j v) :=
  ⟨range_setOther h.r (by omega) j v, range_setOther h.e (by omega) j v, range_set1 h.x h.tx j hj v, there_setCell h.ta _ _, there_setCell h.tx _ _, h.b.setCell (p := ⟨w.heap.size + 1 + 1 + 1, j, none⟩) (by show w.heap.size ≤ w.heap.size + 1 + 1 + 1; omega) v⟩
theorem RX.cellX {w W : World} {R E X : List Value} (h : RX w W R E X) (j : Nat) (v : Value) (hv : X[j]? = some v) : W.cell? ⟨w.heap.size + 1 + 1 + 1, j, none⟩ = some v := by have := h.x j v hv; rwa [Nat.zero_add] at this
theorem RX.frz {w W : World} {R E X : List Value} (h : RX w W R E X) (j : Nat) (hj : j < 5) : W.frozen? ⟨w.heap.size + 1 + 1 + 1, j, none⟩ = false := by have := (h.tx j hj).2; rwa [Nat.zero_add] at this
/-- Behind a region: its frame, and what is known of its world; no other end. -/
def JoinA (F : Act) (R : World → Prop) : Exit → Act → World → Prop
  | .normal, a', w' => a' = F ∧ R w'
  | _, _, _ => False
theorem wp_joinA {P : Program} {c : Code} {Q' : Exit → Act → World → Prop} {a : Act} {w : World} (F : Act) (R : World → Prop)
    (h : c.wp P (JoinA F R) a w) (hq : ∀ w', R w' → Q' Exit.normal F w') : c.wp P Q' a w :=
  wp_mono h (fun e _ w' h => by
    cases e <;> first | exact (h : False).elim | (obtain ⟨h2, h3⟩ := h; subst h2; exact hq w' h3))
end Go.Proofs.YtpkmfckifnomeaaDoor
