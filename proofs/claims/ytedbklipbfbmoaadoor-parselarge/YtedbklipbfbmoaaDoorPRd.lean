/-
  readData: data's bytes, and those that end them, off a piece.
-/
import Derived.Test.YtedbklipbfbmoaaDoorPRl
import Derived.Deep.QuietTactic
namespace Go.Proofs.YtedbklipbfbmoaaDoor
open Go.RowKit

/-- readData on its way: the parser, where the answer comes, the request. -/
structure Dat (w : World) (o0 : Nat → Nat × Nat) (x P b : Nat) (q : Rq) (R : List Value) (W : World) (o : Nat → Nat × Nat) (l : B) (a : Option Addr) (n c : Nat) (ka : Option Addr) (kn kc : Nat) : Prop where
  fr : Fr (TX x) o0 o w W
  is : IsP W o x P (pd l q) a n c ka kn kc
  res : Res W o w.heap.size
  rg : W.rangeAt b 0 R
  th : W.there b 0 9
  mark : o b = (8, 7)
  lt : b < W.heap.size
theorem Dat.up {w : World} {o0 : Nat → Nat × Nat} {x P b : Nat} {q : Rq} {R : List Value} {W W' : World} {o o' : Nat → Nat × Nat} {l l' : B} {a a' : Option Addr} {n c n' c' : Nat} {ka : Option Addr} {kn kc : Nat} (hx : x < 8) (h : Dat w o0 x P b q R W o l a n c ka kn kc) (f : Fr (TX x) o o' W W') (hI : IsP W' o' x P (pd l' q) a' n' c' ka kn kc) : Dat w o0 x P b q R W' o' l' a' n' c' ka kn kc := by
  have hb : ¬ TX x (o b) := by rw [h.mark]; exact fun e => by have : 8 = x := e; omega
  exact ⟨h.fr.trans f, hI, h.res.fr f (tx8 hx), range_fr h.rg f hb, there_fr h.th f hb h.lt, (f.lab b h.lt).trans h.mark, Nat.lt_of_lt_of_le h.lt f.size⟩
theorem Dat.below {w : World} {o0 : Nat → Nat × Nat} {x P b : Nat} {q : Rq} {R : List Value} {W W' : World} {o : Nat → Nat × Nat} {l : B} {a : Option Addr} {n c : Nat} {ka : Option Addr} {kn kc : Nat} (hx : x < 8) (h : Dat w o0 x P b q R W o l a n c ka kn kc) (bl : Below W.heap.size W W') : Dat w o0 x P b q R W' o l a n c ka kn kc := h.up hx (Fr.ofBelow _ _ bl) (h.is.below bl)
theorem Dat.start {w : World} {o : Nat → Nat × Nat} {x P : Nat} {q : Rq} {l : B} {a : Option Addr} {n c : Nat} {ka : Option Addr} {kn kc : Nat} (h : IsP w o x P (pd l q) a n c ka kn kc) {W1 W3 : World} {R : List Value} (hR : R = q.cs (.slice ka kn kc)) (hW1 : W1 = w.alloc (.cells (Ev.none.cs (.slice none 0 0)).toArray 36)) (hW3 : W3 = (W1.alloc (.cells #[.int .i64 0, .slice none 0 0, .int .i64 0, .int .i64 0, .int .i64 0, .int .i64 0, .int .u64 0, .bool false, .string ⟨#[]⟩] 30)).setCells (w.heap.size + 1) 0 R) :
    W1.rangeAt P 2 R ∧ (W1.alloc (.cells #[.int .i64 0, .slice none 0 0, .int .i64 0, .int .i64 0, .int .i64 0, .int .i64 0, .int .u64 0, .bool false, .string ⟨#[]⟩] 30)).there (w.heap.size + 1) 0 9 ∧ ∃ o3, Dat w o x P (w.heap.size + 1) q R W3 o3 l a n c ka kn kc := by
  have F1 : Fr (fun _ => False) o (lab o w.heap.size (8, 8)) w W1 := by rw [hW1]; exact Fr.new _ _ _ _ _
  have R1 : Res W1 (lab o w.heap.size (8, 8)) w.heap.size := by rw [hW1]; exact Res.new _ _
  have I1 := h.fr F1 id id id
  have hs : W1.heap.size = w.heap.size + 1 := by rw [hW1]; simp
  have rl : R.length = 9 := by rw [hR]; rfl
  have hW3' : W3 = (W1.alloc (.cells ZV.toArray 30)).setCells W1.heap.size 0 R := by rw [hs]; exact hW3
  obtain ⟨f4, g4, th4, m4⟩ := rq_lay (o := lab o w.heap.size (8, 8)) rl hW3'
  rw [hs] at g4 th4 m4
  refine ⟨fun j v hv => ?_, th4, _, ⟨(F1.mono (fun _ h => h.elim)).trans (f4.mono (fun _ h => h.elim)), I1.fr f4 id id id, R1.fr f4 id, g4, ?_, by rw [hs]; exact m4, ?_⟩⟩
  · have hj : j < 9 := by rw [← rl]; exact (List.getElem?_eq_some_iff.1 hv).1
    refine I1.at_ (2 + j) v ?_
    rw [hR] at hv
    rw [← hv, Nat.add_comm]
    rcases j with _ | _ | _ | _ | _ | _ | _ | _ | _ | j
    all_goals first | rfl | omega
  · rw [hW3]; exact World.there_setCells th4 _ _ _
  · have := f4.size
    rw [hW3', size_setCells, size_alloc, hs]; omega
theorem OutE.drew {w W : World} {o : Nat → Nat × Nat} {x P : Nat} {p : Ps} {ev : Ev} {E : List Value} (h : OutE w o x P p ev E W) : OutE w o x P p ev E W.drew := by
  obtain ⟨o', a, n, c, ka, kn, kc, hE, hI, f⟩ := h
  have g := Fr.drew1 (fun _ => False) o' W
  exact ⟨o', a, n, c, ka, kn, kc, hE.fr g id, hI.fr g id id id, f.trans (g.mono (fun _ h => h.elim))⟩
theorem left_hi (g len cap h : Nat) (hh : h ≤ cap) (w : World) : (Instr.sliceAt 26 (.slice (some ⟨g, 0, none⟩) len cap) none (some (.int .i64 (h : Int))) none).run Tryd.prog w = .ok (.slice (some ⟨g, 0, none⟩) h cap) w := by
  have el : Tryd.prog.underlying 26 = some (.slice (Tryd.prog.elem 26)) := by kernel_rfl
  have ee : Tryd.prog.elem 26 = 5 := by kernel_rfl
  have sE : (sizeOf 5).run Tryd.prog w = .ok 1 w := by kernel_rfl
  rw [run_sliceAt_slice _ _ _ _ _ _ el, run_slice_h _ _ _ _ _ el _ _ (by omega) (by omega), ee, sE]
  have ea : (⟨g, 0, none⟩ : Addr).add 0 = ⟨g, 0, none⟩ := by unfold Addr.add; split <;> simp_all
  simp [sliced, ea]
theorem Dat.data {w : World} {o0 : Nat → Nat × Nat} {x P b : Nat} {q : Rq} {R : List Value} {W : World} {o : Nat → Nat × Nat} {l : B} {a : Option Addr} {n c : Nat} {ka : Option Addr} {kn kc : Nat} (hx : x < 8) (h : Dat w o0 x P b q R W o l a n c ka kn kc) (hb : w.heap.size ≤ b) (hR : R.length = 9) (v : Value) :
    Fr (TX x) o0 o w (W.setCell ⟨b, 8, none⟩ v) ∧ IsP (W.setCell ⟨b, 8, none⟩ v) o x P (pd l q) a n c ka kn kc ∧ Res (W.setCell ⟨b, 8, none⟩ v) o w.heap.size ∧ (W.setCell ⟨b, 8, none⟩ v).rangeAt b 0 (R.set 8 v) := by
  have fs : Fr (· = (8, 7)) o o W (W.setCell ⟨b, 8, none⟩ v) := Fr.set (a := ⟨b, 8, none⟩) h.mark _
  exact ⟨h.fr.setNew (a := ⟨b, 8, none⟩) hb _, h.is.fr fs (fun e => by injection e with e _; omega) (fun e => by injection e with e _; omega) (fun e => by cases e), h.res.fr fs (fun e => by cases e), range_set h.rg (by rw [hR]; omega)⟩
/-- A struct's store as a step of a region that draws. -/
theorem step_store {P : Program} {ops : Array Oper} {op : Oper} {a : Act} {w : World} {K : Act → World → Prop} {Q : Exit → Act → World → Prop} {E : Prop} {X : World} {b o : Nat} {cells : Array Value} (ht : X.there b o cells.size) (h1 : cells.all (·.oneCell') = true) (ty : TypeId) (x y : Operand) (hw : w = X) (hgd : op.guard = none) (ho : op.op = .store ty x y)
    (hx : a.eval x = .pointer (some ⟨b, o, none⟩)) (hy : a.eval y = .agg cells) (hi : (P.info? ty).map (·.size) = some cells.size) (hk : K (a.put op.dst undef) (X.setCells b o cells.toList)) :
    if Region.wanted op (yielded ops a.tmps) = true then Oper.wp P op a w K Q else E := by
  subst hw
  rw [if_pos (by simp [Region.wanted, hgd])]
  exact wp_store_mid ty x y ho b o cells hx hy ht hi h1 hk
theorem ending_at {i : Int} {v : Int} (h : (i = 0 ∧ v = 13) ∨ (i = 1 ∧ v = 10)) (w : World) : (Instr.index 9 (.string ⟨#[13, 10]⟩) (.int .i64 i)).run Tryd.prog w = .ok (.int .u8 v) w := by
  rcases h with ⟨rfl, rfl⟩ | ⟨rfl, rfl⟩
  · exact str_at (s := ⟨#[13, 10]⟩) (q := 0) (c := 13) rfl w
  · exact str_at (s := ⟨#[13, 10]⟩) (q := 1) (c := 10) rfl w
/-- What readData comes to. -/
def DOut (w : World) (o : Nat → Nat × Nat) (x P : Nat) (q : Rq) (l : B) (s : ByteArray) (e : Ending) (w' : World) : Prop :=
  ∃ E p' ev rest, e = .returned (.tuple #[.string (S rest), .agg E.toArray]) ∧ OutE w o x P p' ev E w' ∧ feed (pd l q) (L s) = thn ev (feed p' rest) ∧ 2 * rest.length + (if p'.st = 1 then 1 else 0) < 2 * s.size + 1 ∧ (rest = [] ∨ p' = pz 0 ∨ p' = pz 3)
set_option maxRecDepth 100000 in
set_option maxHeartbeats 1000000 in
theorem read_data {o : Nat → Nat × Nat} {x P : Nat} {q : Rq} {l : B} {a : Option Addr} {n c : Nat} {ka : Option Addr} {kn kc : Nat} (hx : x < 8) (s : ByteArray) (hs : s.size ≤ 1000000000) (h0 : 0 < s.size) (nn : Nat) (hnn : q.bytes = (nn : Int)) (hn1 : nn ≤ 1048576) (hl : l.length ≤ nn + 1) (w : World) (h : IsP w o x P (pd l q) a n c ka kn kc) :
    Calls Tryd.prog 23 #[.pointer (some ⟨P, 0, none⟩), .string s] w fun e w' => DOut w o x P q l s e w' := by
  obtain ⟨R, hR⟩ : ∃ R, R = q.cs (.slice ka kn kc) := ⟨_, rfl⟩
  obtain ⟨W1, hW1⟩ : ∃ W1, W1 = w.alloc (.cells #[.int .i64 0, .slice none 0 0, .int .i64 0, .int .i64 0, .int .i64 0, .int .i64 0, .int .u64 0, .bool false, .string ⟨#[]⟩, .int .i64 0, .slice none 0 0, .bool false, .int .u64 0, .string ⟨#[]⟩, .int .i64 0, .int .i64 0, .int .i64 0, .int .i64 0] 36) := ⟨_, rfl⟩
  obtain ⟨W3, hW3⟩ : ∃ W3, W3 = (W1.alloc (.cells #[.int .i64 0, .slice none 0 0, .int .i64 0, .int .i64 0, .int .i64 0, .int .i64 0, .int .u64 0, .bool false, .string ⟨#[]⟩] 30)).setCells (w.heap.size + 1) 0 R := ⟨_, rfl⟩
  obtain ⟨g1, th1, o3, D3⟩ := Dat.start h hR hW1 hW3
  have hle : n = l.length := h.len
  have HRR := Lib.hid hR
  have HRL : Hid (R.length = 9) := Lib.hid (by rw [hR]; rfl)
  have HRO : Hid (∀ u ∈ R, u.oneCell' = true) := Lib.hid (by rw [hR]; exact cs_one _ _ _ _)
  have HTH : Hid ((W1.alloc (.cells #[.int .i64 0, .slice none 0 0, .int .i64 0, .int .i64 0, .int .i64 0, .int .i64 0, .int .u64 0, .bool false, .string ⟨#[]⟩] 30)).there (w.heap.size + 1) 0 R.length) := Lib.hid (by rw [HRL.out]; exact th1)
  have HG1 := Lib.hid g1
  rw [hW1] at HTH HG1 hW3
  have HW3 := Lib.hid hW3
  have HD3 := Lib.hid D3
  have c1 : W3.cell? ⟨P, 1, none⟩ = some (.slice a n c) := D3.is.at_ 1 _ rfl
  have b4 : ∀ W : World, W.rangeAt (w.heap.size + 1) 0 R → W.cell? ⟨w.heap.size + 1, 4, none⟩ = some (.int .i64 (nn : Int)) := fun W hr => by
    have := hr 4 (.int .i64 (nn : Int)) (by rw [hR, ← hnn]; rfl)
    rwa [Nat.zero_add] at this
  have c4 := b4 _ D3.rg
  have HB4 := Lib.hid b4
  have HNN := Lib.hid hnn
  have HLE : Hid (q.bytes.toNat = nn) := Lib.hid (by rw [hnn]; rfl)
  have nb : n ≤ nn + 1 := by omega
  have HLL := Lib.hid hle
  clear hR hW3 hW1 g1 th1 D3 b4 hnn h hle hl
  go_enter Tryd.func23, Tryd.ntmps23
  go_wp2_with (first | ((with_reducible show wpList _ _ _ (Oper.mk (some _) (Op.load 30 (.tmp 9)) _ _ _ _ :: _) _ _); refine wpList_load_mid (by rfl) 30 (.tmp 9) (by rfl) P 2 (by rfl) R _ HG1.out Tryd.underlying30 (by rfl) (by rw [HRL.out]; kernel_rfl) ?_) | ((with_reducible show wpList _ _ _ (Oper.mk none (Op.store 30 (.tmp 6) _) _ _ _ _ :: _) _ _); refine wpList_store_mid (by rfl) 30 (.tmp 6) (.tmp 10) (by rfl) (w.heap.size + 1) 0 R.toArray (by rfl) (by rfl) HTH.out (by rw [List.size_toArray, HRL.out]; kernel_rfl) (all_oneCell_toArray HRO.out) ?_; rw [show R.toArray.toList = R from rfl, ← HW3.out]))
  clear HG1 HTH HW3
  by_cases hlt : n < nn
  case' pos =>
    have t1 : decide ((n : Int) < (nn : Int)) = true := by simp; omega
    go_quiet (fail)
    go_wp2_with fail
    obtain ⟨W4, hW4⟩ : ∃ W4, W4 = W3.drewN nq := ⟨_, rfl⟩
    have D4 := HD3.out.below hx (W' := W4) (by rw [hW4]; exact below_drewN (Below.refl _ _) nq)
    rw [← hW4]
    obtain ⟨dd, hdd⟩ : ∃ dd : Int, dd = (nn : Int) - (n : Int) := ⟨_, rfl⟩
    have w1 : IntKind.i64.wrap ((nn : Int) - (n : Int)) = dd := by rw [hdd, IntKind.wrap_i64]; omega
    have HDD := Lib.hid hdd
    clear hdd
    obtain ⟨m, hm⟩ : ∃ m : Nat, min dd (s.size : Int) = (m : Int) := ⟨min (nn - n) s.size, by have := HDD.out; omega⟩
    have d1 : W4.cell? ⟨P, 1, none⟩ = some (.slice a n c) := D4.is.at_ 1 _ rfl
    have d4 := HB4.out _ D4.rg
    have D5 := D4.below hx (W' := W4.drew) (below_drewN (Below.refl _ _) 1)
    have HKP := Lib.hid (fun (W : World) (hI : IsP W o3 x P (pd l q) a n c ka kn kc) => keep_any (o := o3) (p := pd l q) (a := a) (n := n) (c := c) (ka := ka) (kn := kn) (kc := kc) hx s dd m hm (by omega) W hI)
    have HD5 := Lib.hid D5
    have HM := Lib.hid hm
    clear D4 D5 hW4 hm c1 c4
    go_region_with (go_at_call 38; refine (HKP.out _ HD5.out.is).mono ?_; rintro e w5 ⟨o5, a5, c5, rfl, I5, F5⟩)
    all_goals
      go_wp2_with fail
      go_simp
      obtain ⟨rest, hrest⟩ : ∃ rest, rest = (L s).drop m := ⟨_, rfl⟩
      obtain ⟨l1, hl1⟩ : ∃ l1, l1 = l ++ (L s).take m := ⟨_, rfl⟩
      rw [← hrest]
      have HD6 : Hid (Dat w o x P (w.heap.size + 1) q R w5 o5 l1 a5 (n + m) c5 ka kn kc) := Lib.hid (HD5.out.up hx F5 (by rw [hl1]; exact I5))
      obtain ⟨n5, hn5⟩ : ∃ n5, n5 = n + m := ⟨_, rfl⟩
      rw [← hn5] at HD6
      have nb5 : n5 ≤ nn + 1 := by have := HM.out; have := HDD.out; omega
      have HP6 : Hid (feed (pd l q) (L s) = feed (pd l1 q) rest ∧ (rest ≠ [] → nn ≤ n5) ∧ rest.length ≤ s.size) := Lib.hid (by
        have hm := HM.out
        have hdd := HDD.out
        have hms : m ≤ s.size := by omega
        refine ⟨?_, fun hne => ?_, ?_⟩
        · rw [hl1, hrest]
          conv => lhs; rw [← List.take_append_drop m (L s)]
          exact feed_go (feed_pd q _ l (by rw [HLE.out, ← HLL.out, List.length_take, L_len]; omega)) _
        · have : 0 < rest.length := List.length_pos_iff.2 hne
          rw [hrest, List.length_drop, L_len] at this
          omega
        · rw [hrest, List.length_drop, L_len]; omega)
      clear hrest hl1 HKP HD5 HM I5 F5 hn5 d1 d4 hlt
  case' neg =>
    have t1 : decide ((n : Int) < (nn : Int)) = false := by simp; omega
    go_quiet (fail)
    go_wp2_with fail
    obtain ⟨w5, hw5⟩ : ∃ w5, w5 = W3.drewN nq := ⟨_, rfl⟩
    have HD6 : Hid (Dat w o x P (w.heap.size + 1) q R w5 o3 l a n c ka kn kc) := Lib.hid (HD3.out.below hx (W' := w5) (by rw [hw5]; exact below_drewN (Below.refl _ _) nq))
    rw [← hw5]
    obtain ⟨rest, hrest⟩ : ∃ rest, rest = L s := ⟨_, rfl⟩
    rw [show s = S rest by rw [hrest]; rfl]
    obtain ⟨n5, hn5⟩ : ∃ n5, n5 = n := ⟨_, rfl⟩
    obtain ⟨l1, hl1⟩ : ∃ l1, l1 = l := ⟨_, rfl⟩
    obtain ⟨a5, ha5⟩ : ∃ a5, a5 = a := ⟨_, rfl⟩
    obtain ⟨c5, hc5⟩ : ∃ c5, c5 = c := ⟨_, rfl⟩
    obtain ⟨o5, ho5⟩ : ∃ o5, o5 = o3 := ⟨_, rfl⟩
    have nb5 : n5 ≤ nn + 1 := by omega
    rw [← hn5, ← hl1, ← ha5, ← hc5, ← ho5] at HD6
    have HP6 : Hid (feed (pd l q) (L s) = feed (pd l1 q) rest ∧ (rest ≠ [] → nn ≤ n5) ∧ rest.length ≤ s.size) := Lib.hid ⟨by rw [hl1, hrest], fun _ => by omega, by rw [hrest, L_len]; omega⟩
    clear hw5 hrest hl1 hn5 ha5 hc5 ho5 hlt c1 c4
  all_goals
    clear HD3 t1 nb HLL
    go_loopw [1] (fun b wr => ∃ (rs : B) (l' : B) (o' : Nat → Nat × Nat) (a' : Option Addr) (n' c' : Nat), b = .string (S rs) ∧ n' ≤ nn + 1 ∧ Hid (Dat w o x P (w.heap.size + 1) q R wr o' l' a' n' c' ka kn kc) ∧ Hid (feed (pd l q) (L s) = feed (pd l' q) rs ∧ (rs ≠ [] → nn ≤ n') ∧ rs.length ≤ s.size)) (fun b _ => strLen b)
    case atStart => exact ⟨rest, l1, o5, a5, n5, c5, rfl, nb5, HD6, HP6⟩
    case round =>
      obtain ⟨rs, l', o', a', n', c', rfl, nb', HD, HP⟩ := hrel
      clear HD6 HP6 nb5
      cases rs with
      | nil =>
        rw [show (S ([] : B)) = ⟨#[]⟩ from rfl]
        have O5 := OutE.zero HD.out.is
        obtain ⟨E, hE⟩ : ∃ E, E = (Ev.none.cs (.slice none 0 0)) := ⟨_, rfl⟩
        have HE : Hid (E = [.int .i64 0, .slice none 0 0, .int .i64 0, .int .i64 0, .int .i64 0, .int .i64 0, .int .u64 0, .bool false, .string ⟨#[]⟩, .int .i64 0, .slice none 0 0, .bool false, .int .u64 0, .string ⟨#[]⟩, .int .i64 0, .int .i64 0, .int .i64 0, .int .i64 0]) := Lib.hid (by rw [hE]; rfl)
        rw [← hE] at O5
        obtain ⟨hl, ho, ht, hr, hq⟩ := chain_e hx HD.out.fr HD.out.res (Nat.le_refl _) O5
        have HL := Lib.hid hl
        have H1 := Lib.hid ho
        have HT := Lib.hid ht
        have HR := Lib.hid hr
        have HO := Lib.hid hq
        clear hl ho ht hr hq
        clear hE O5
        go_wp2_with ((with_reducible show wpList _ _ _ (Oper.mk none (Op.store 36 (.tmp 5) _) _ _ _ _ :: _) _ _); refine wpList_store_mid (by rfl) 36 (.tmp 5) (.tmp 76) (by rfl) w.heap.size 0 E.toArray (by rfl) (by rw [HE.out]; rfl) HT.out (by rw [List.size_toArray, HL.out]; kernel_rfl) (all_oneCell_toArray H1.out) ?_; rw [show E.toArray.toList = E from rfl])
        exact bodyPost_ret (v := .tuple #[.string (S []), .agg E.toArray]) (res2 Tryd.results23 (by rfl) (by rfl) HR.out HL.out) rfl ⟨E, pd l' q, Ev.none, [], rfl, HO.out, by rw [HP.out.1]; rfl, by show 2 * 0 + 1 < _; omega, .inl rfl⟩
      | cons c0 t =>
        have hn2 : nn ≤ n' := HP.out.2.1 (by simp)
        have e1 : wr.cell? ⟨P, 1, none⟩ = some (.slice a' n' c') := HD.out.is.at_ 1 _ rfl
        have e4 := HB4.out _ HD.out.rg
        have HNL : Hid (n' = l'.length) := Lib.hid HD.out.is.len
        obtain ⟨str, hstr⟩ : ∃ str, str = S (c0 :: t) := ⟨_, rfl⟩
        have hsz : str.size = t.length + 1 := by rw [hstr, S_size]; rfl
        have ix : ∀ w : World, (Instr.index 9 (.string str) (.int .i64 0)).run Tryd.prog w = .ok (.int .u8 ((c0.toNat : Nat) : Int)) w := fun w => str_at (s := str) (q := 0) (c := c0) (by rw [hstr]; rfl) w
        have tz : decide ((0 : Int) < (str.size : Int)) = true := by simp; omega
        have tz2 : 0 < str.size := by omega
        have HRS : Hid (t.length + 1 ≤ s.size) := Lib.hid HP.out.2.2
        have hsb : str.size ≤ 1000000000 := by have := HRS.out; omega
        have HSTR := Lib.hid hstr
        have HSZ := Lib.hid hsz
        rw [← hstr]
        clear hstr hsz
        obtain ⟨xx, hxx⟩ : ∃ xx : Int, xx = ((c0.toNat : Nat) : Int) := ⟨_, rfl⟩
        rw [← hxx] at ix
        have HXX := Lib.hid hxx
        clear hxx
        obtain ⟨k, v, hkv, hk⟩ : ∃ k v : Int, ((k = 0 ∧ v = 13) ∧ n' = nn ∨ (k = 1 ∧ v = 10) ∧ n' = nn + 1) ∧ IntKind.i64.wrap ((n' : Int) - (nn : Int)) = k := by
          by_cases e : n' = nn
          · exact ⟨0, 13, .inl ⟨⟨rfl, rfl⟩, e⟩, by rw [IntKind.wrap_i64]; omega⟩
          · exact ⟨1, 10, .inr ⟨⟨rfl, rfl⟩, by omega⟩, by rw [IntKind.wrap_i64]; omega⟩
        have ie := ending_at (i := k) (v := v) (by rcases hkv with h | h; exact .inl h.1; exact .inr h.1)
        have HKV := Lib.hid hkv
        clear hkv
        by_cases hbad : xx = v
        · go_wp2_with fail
          go_quiet (fail)
          go_wp2_with fail
          obtain ⟨w6, hw6⟩ : ∃ w6, w6 = wr.drewN nq := ⟨_, rfl⟩
          rw [← hw6]
          have D6 := HD.out.below hx (W' := w6) (by rw [hw6]; exact below_drewN (Below.refl _ _) nq)
          have HD6 := Lib.hid D6
          clear hw6 D6
          refine (keep_any hx str 1 1 (by omega) (by omega) w6 HD6.out.is).mono ?_
          rintro e w7 ⟨o7, a7, c7, rfl, I7, F7⟩
          obtain ⟨l7, hl7⟩ : ∃ l7, l7 = l' ++ [c0] := ⟨_, rfl⟩
          rw [show (L str).drop 1 = t by rw [HSTR.out]; rfl]
          have I7' : IsP w7 o7 x P (pd l7 q) a7 (n' + 1) c7 ka kn kc := by
            rw [show (L str).take 1 = [c0] by rw [HSTR.out]; rfl] at I7
            rw [hl7]
            exact I7
          have HD7 := Lib.hid (HD6.out.up hx F7 I7')
          have HL7 := Lib.hid hl7
          clear hl7 I7 I7' F7 HD6 e1 e4 ix ie
          obtain ⟨n7, hn7⟩ : ∃ n7, n7 = n' + 1 := ⟨_, rfl⟩
          rw [← hn7] at HD7
          have HN7 := Lib.hid hn7
          clear hn7
          have e1 : w7.cell? ⟨P, 1, none⟩ = some (.slice a7 n7 c7) := HD7.out.is.at_ 1 _ rfl
          have e4 := HB4.out _ HD7.out.rg
          obtain ⟨z2, hz2⟩ : ∃ z2 : Int, z2 = (nn : Int) + 2 := ⟨_, rfl⟩
          have w2 : IntKind.i64.wrap ((nn : Int) + 2) = z2 := by rw [hz2, IntKind.wrap_i64]; omega
          have HZ2 := Lib.hid hz2
          clear hz2
          by_cases hq7 : n' = nn
          · have t7 : ¬ ((n7 : Int) = z2) := by have := HN7.out; have := HZ2.out; omega
            go_wp2_with fail
            go_quiet (fail)
            go_wp2_with fail
            refine ⟨⟨t, l7, o7, a7, n7, c7, rfl, by have := HN7.out; omega, Lib.hid (HD7.out.below hx (below_drewN (Below.refl _ _) _)), Lib.hid ⟨?_, fun _ => by have := HN7.out; omega, by have := HRS.out; omega⟩⟩, by simp only [strLen]; rw [HSZ.out, S_size]; omega⟩
            rw [HP.out.1]
            have hc : c0 = 13 := by
              rcases HKV.out with ⟨⟨_, hv⟩, hn⟩ | ⟨⟨_, hv⟩, hn⟩
              · apply UInt8.toNat_inj.1
                have := HXX.out
                rw [hbad, hv] at this
                show c0.toNat = 13
                omega
              · omega
            rw [hc, feed_pd_13 q l' t (by rw [HLE.out, ← HNL.out]; exact hq7), HL7.out, hc]
          · have t7 : (n7 : Int) = z2 := by have := HN7.out; have := HZ2.out; omega
            go_wp2_with fail
            go_quiet (fail)
            go_wp2_with fail
            obtain ⟨w8, hw8⟩ : ∃ w8, w8 = w7.drewN nq := ⟨_, rfl⟩
            rw [← hw8]
            have D8 := HD7.out.below hx (W' := w8) (by rw [hw8]; exact below_drewN (Below.refl _ _) nq)
            have D9 := D8.below hx (W' := w8.drew) (below_drewN (Below.refl _ _) 1)
            have hll : n7 = l7.length := D9.is.len
            obtain ⟨g, cap, ea, _, _, hcap, _⟩ := D9.is.own.there (show 0 < (pd l7 q).left.length by show 0 < l7.length; have := HN7.out; omega)
            injection ea with ea1 ea2 ea3
            subst ea1 ea3
            obtain ⟨data, hdata⟩ : ∃ data, data = l7.take nn := ⟨_, rfl⟩
            have hdl : data.length = nn := by rw [hdata, List.length_take]; have := HN7.out; omega
            have own9 : OwnK w8.drew o7 (x, 1) 1 (.slice (some ⟨g, 0, none⟩) n7 c7) n7 (bc l7) := by
              have := D9.is.own
              rw [show (pd l7 q).left = l7 from rfl, ← hll] at this
              exact this
            have cv : (convert 26 9 (.slice (some ⟨g, 0, none⟩) nn c7)).run Tryd.prog w8.drew = .ok (.string (S data)) w8.drew := by
              have h1 := own9.cut nn (by have := HN7.out; omega)
              rw [Nat.mul_one, bc_take, ← hdata] at h1
              refine conv_own (o := o7) (t := (x, 1)) ?_
              rw [hdl]; exact h1
            have sl := left_hi g n7 c7 nn (by have := HN7.out; have := own9.form; obtain ⟨_, _, e, h⟩ := this; injection e with _ _ e3; subst e3; omega)
            have f1 : w8.cell? ⟨P, 1, none⟩ = some (.slice (some ⟨g, 0, none⟩) n7 c7) := D8.is.at_ 1 _ rfl
            have f4 := HB4.out _ D8.rg
            have f8 : w8.cell? ⟨w.heap.size + 1, 8, none⟩ = some (.string ⟨#[]⟩) := by
              have := D8.rg 8 (.string ⟨#[]⟩) (by rw [HRR.out]; rfl)
              rwa [Nat.zero_add] at this
            have z8 : w8.frozen? ⟨w.heap.size + 1, 8, none⟩ = false := by
              have := (D8.th 8 (by omega)).2
              rwa [Nat.zero_add] at this
            obtain ⟨F9, I9, R9, G9⟩ := D9.data hx (by omega) HRL.out (.string (S data))
            obtain ⟨I10, F10⟩ := I9.begin 0
            have R10 := R9.fr F10 (tx8 hx)
            have G10 := range_fr G9 F10 (by rw [D9.mark]; exact fun e => by have : 8 = x := e; omega)
            have k10 : Ks (w8.drew.setCell ⟨w.heap.size + 1, 8, none⟩ (.string (S data)) |>.setCells P 0 ((pz 0).cs (.slice none 0 0) (.slice none 0 0))) o7 (.slice ka kn kc) q.keys := I9.keys.fr F10 (tx9 hx)
            obtain ⟨W10, hW10⟩ : ∃ W10, W10 = (w8.drew.setCell ⟨w.heap.size + 1, 8, none⟩ (.string (S data))).setCells P 0 ((pz 0).cs (.slice none 0 0) (.slice none 0 0)) := ⟨_, rfl⟩
            rw [← hW10] at I10 F10 R10 G10 k10
            rw [HRR.out] at G10
            rw [show (q.cs (.slice ka kn kc)).set 8 (.string (S data)) = [.int .i64 ((q.verb : Nat) : Int), .slice ka kn kc, .int .i64 q.flags, .int .i64 q.exp, .int .i64 (nn : Int), .int .i64 q.cas, .int .u64 ((q.delta : Nat) : Int), .bool q.quiet, .string (S data)] by rw [← HNN.out]; rfl] at G10
            have g0 : W10.cell? ⟨w.heap.size + 1, 0, none⟩ = some (.int .i64 ((q.verb : Nat) : Int)) := by have := G10 0 _ rfl; rwa [Nat.zero_add] at this
            have g1 : W10.cell? ⟨w.heap.size + 1, 1, none⟩ = some (.slice ka kn kc) := by have := G10 1 _ rfl; rwa [Nat.zero_add] at this
            have g2 : W10.cell? ⟨w.heap.size + 1, 2, none⟩ = some (.int .i64 q.flags) := by have := G10 2 _ rfl; rwa [Nat.zero_add] at this
            have g3 : W10.cell? ⟨w.heap.size + 1, 3, none⟩ = some (.int .i64 q.exp) := by have := G10 3 _ rfl; rwa [Nat.zero_add] at this
            have g4 : W10.cell? ⟨w.heap.size + 1, 4, none⟩ = some (.int .i64 (nn : Int)) := by have := G10 4 _ rfl; rwa [Nat.zero_add] at this
            have g5 : W10.cell? ⟨w.heap.size + 1, 5, none⟩ = some (.int .i64 q.cas) := by have := G10 5 _ rfl; rwa [Nat.zero_add] at this
            have g6 : W10.cell? ⟨w.heap.size + 1, 6, none⟩ = some (.int .u64 ((q.delta : Nat) : Int)) := by have := G10 6 _ rfl; rwa [Nat.zero_add] at this
            have g7 : W10.cell? ⟨w.heap.size + 1, 7, none⟩ = some (.bool q.quiet) := by have := G10 7 _ rfl; rwa [Nat.zero_add] at this
            have g8 : W10.cell? ⟨w.heap.size + 1, 8, none⟩ = some (.string (S data)) := by have := G10 8 _ rfl; rwa [Nat.zero_add] at this
            have O5 : OutE W10 o7 x P (pz 0) (req q data) ((req q data).cs (.slice ka kn kc)) W10 := ⟨o7, none, 0, 0, none, 0, 0, ⟨ka, kn, kc, rfl, k10⟩, I10, Fr.refl _ _ _⟩
            have f11 := Fr.drew1 (TX x) o7 W10
            have O6 : OutE W10.drew o7 x P (pz 0) (req q data) ((req q data).cs (.slice ka kn kc)) W10.drew := ⟨o7, none, 0, 0, none, 0, 0, ⟨ka, kn, kc, rfl, k10.fr f11 (tx9 hx)⟩, I10.fr (Fr.drew1 (fun _ => False) o7 W10) id id id, Fr.refl _ _ _⟩
            obtain ⟨hl, ho, ht, hr, hq⟩ := chain_e hx ((F9.trans F10).trans f11) (R10.fr f11 (tx8 hx)) (Nat.le_refl _) O6
            rw [show (req q data).cs (.slice ka kn kc) = [.int .i64 ((q.verb : Nat) : Int), .slice ka kn kc, .int .i64 q.flags, .int .i64 q.exp, .int .i64 (nn : Int), .int .i64 q.cas, .int .u64 ((q.delta : Nat) : Int), .bool q.quiet, .string (S data), .int .i64 0, .slice none 0 0, .bool false, .int .u64 0, .string ⟨#[]⟩, .int .i64 0, .int .i64 0, .int .i64 0, .int .i64 0] by rw [← HNN.out]; rfl] at hl ho ht hr hq
            have HTD : Hid (W10.drew.there w.heap.size 0 (([.int .i64 ((q.verb : Nat) : Int), .slice ka kn kc, .int .i64 q.flags, .int .i64 q.exp, .int .i64 (nn : Int), .int .i64 q.cas, .int .u64 ((q.delta : Nat) : Int), .bool q.quiet, .string (S data), .int .i64 0, .slice none 0 0, .bool false, .int .u64 0, .string ⟨#[]⟩, .int .i64 0, .int .i64 0, .int .i64 0, .int .i64 0] : List Value).toArray).size) := Lib.hid ht
            have HOD := Lib.hid (all_oneCell_toArray ho)
            have HR := Lib.hid hr
            have HO := Lib.hid hq
            have hcap2 : nn ≤ c7 := by have := HN7.out; have := own9.form; obtain ⟨_, _, e, h⟩ := this; injection e with _ _ e3; subst e3; omega
            have HDATA := Lib.hid hdata
            have TH := Lib.hid I9.there
            have HW10 := Lib.hid hW10
            clear O5 O6 f11 hl ho ht hr hq I9 F9 R9 G9 I10 F10 R10 G10 k10 hW10 D8 D9 own9 hw8 hll hdl hdata e1 e4 hcap sl
            go_region_law (fail)
            all_goals
              go_wp2_with fail
              refine (begin_any P 0 _ TH.out).mono ?_
              rintro e w10 ⟨rfl, hw10⟩
              have hw10' : w10 = W10 := by rw [hw10, HW10.out]
              clear hw10
              subst hw10'
              clear f1 f4 f8 z8 cv
              go_wp2_with fail
              refine wp_region_any (by kernel_rfl) ?_
              change wpAny _ _ _ _ _ _ _ (World.drew _)
              refine wpAny_take (i := 0) (v := .string (S t)) rfl (by kernel_rfl) (by kernel_rfl) (by kernel_rfl) (fun _ _ _ h => h) (Or.inl ⟨by rfl, by intro w; go_simp⟩) ?_
              refine wpAny_take (i := 3) (v := .string (S t)) rfl (by kernel_rfl) (by kernel_rfl) (by kernel_rfl) (fun _ _ _ h => h) (Or.inl ⟨by rfl, by intro w; go_simp⟩) ?_
              refine wpAny_ready (rs := [1]) (by kernel_rfl) (by simp) ?_
              refine AllReady.cons rfl (fun K hK => ?_) AllReady.nil
              go_simp
              refine hK _ _ ?_
              clear hK K
              refine wpAny_take (i := 2) (v := .agg (([.int .i64 ((q.verb : Nat) : Int), .slice ka kn kc, .int .i64 q.flags, .int .i64 q.exp, .int .i64 (nn : Int), .int .i64 q.cas, .int .u64 ((q.delta : Nat) : Int), .bool q.quiet, .string (S data), .int .i64 0, .slice none 0 0, .bool false, .int .u64 0, .string ⟨#[]⟩, .int .i64 0, .int .i64 0, .int .i64 0, .int .i64 0] : List Value).toArray)) rfl (by kernel_rfl) (by kernel_rfl) (by kernel_rfl) (fun _ _ _ h => h) (Or.inl ⟨by rfl, by intro w; go_simp⟩) ?_
              refine wpAny_ready (rs := [4]) (by kernel_rfl) (by simp) ?_
              refine AllReady.cons rfl (fun K hK => ?_) AllReady.nil
              refine step_store HTD.out HOD.out 36 (.tmp 5) (.tmp 74) (by with_reducible rfl) (by rfl) (by rfl) (by rfl) (by rfl) (by kernel_rfl) ?_
              refine hK _ _ ?_
              clear hK K
              refine wpAny_done (by kernel_rfl) ?_ _
              go_wp2_with fail
              exact bodyPost_ret (v := .tuple #[.string (S t), .agg ([.int .i64 ((q.verb : Nat) : Int), .slice ka kn kc, .int .i64 q.flags, .int .i64 q.exp, .int .i64 (nn : Int), .int .i64 q.cas, .int .u64 ((q.delta : Nat) : Int), .bool q.quiet, .string (S data), .int .i64 0, .slice none 0 0, .bool false, .int .u64 0, .string ⟨#[]⟩, .int .i64 0, .int .i64 0, .int .i64 0, .int .i64 0] : List Value).toArray]) (res2 Tryd.results23 (by rfl) (by rfl) HR.out rfl) rfl ⟨_, pz 0, req q data, t, rfl, HO.out, by
                rw [HP.out.1]
                have hn : n' = nn + 1 := by rcases HKV.out with ⟨_, hn⟩ | ⟨_, hn⟩ <;> omega
                have hc : c0 = 10 := by
                  rcases HKV.out with ⟨⟨_, hv⟩, hn⟩ | ⟨⟨_, hv⟩, hn⟩
                  · omega
                  · apply UInt8.toNat_inj.1
                    have := HXX.out
                    rw [hbad, hv] at this
                    show c0.toNat = 10
                    omega
                have hlen : l'.length = nn + 1 := by rw [← HNL.out]; exact hn
                rw [hc, feed_pd_10 q l' t (by rw [HLE.out]; exact hlen), HLE.out, HDATA.out, HL7.out, List.take_append_of_le_length (by omega)], by have := HRS.out; simp [pz]; omega, .inr (.inl rfl)⟩
        · have HBAD : Hid (c0 ≠ if l'.length = q.bytes.toNat then 13 else 10) := Lib.hid (by
            rw [HLE.out, ← HNL.out]
            rcases HKV.out with ⟨⟨_, hv⟩, hn⟩ | ⟨⟨_, hv⟩, hn⟩
            · rw [if_pos hn]; intro e; apply hbad; rw [HXX.out, hv, e]; rfl
            · rw [if_neg (by omega)]; intro e; apply hbad; rw [HXX.out, hv, e]; rfl)
          go_wp2_with fail
          go_quiet (fail)
          go_wp2_with fail
          obtain ⟨w6, hw6⟩ : ∃ w6, w6 = wr.drewN nq := ⟨_, rfl⟩
          rw [← hw6]
          have D6 := HD.out.below hx (W' := w6) (by rw [hw6]; exact below_drewN (Below.refl _ _) nq)
          obtain ⟨I7, F7⟩ := D6.is.begin 3
          have R7 := D6.res.fr F7 (tx8 hx)
          have H7 := Lib.hid (And.intro (D6.fr.trans F7) (And.intro I7 R7))
          have TH := Lib.hid D6.is.there
          clear hw6 D6 I7 F7 R7
          refine (begin_any P 3 _ TH.out).mono ?_
          rintro e w7 ⟨rfl, hw7⟩
          have H8 : Hid (Fr (TX x) o o' w w7 ∧ IsP w7 o' x P (pz 3) none 0 0 none 0 0 ∧ Res w7 o' w.heap.size) := Lib.hid (by rw [hw7]; exact H7.out)
          clear hw7 H7 TH e1 e4 ix ie
          go_wp2_with fail
          refine (say_any 13 badData 13 ⟨#[98, 97, 100, 32, 100, 97, 116, 97, 32, 99, 104, 117, 110, 107]⟩ rfl rfl _).mono ?_
          rintro e w8 ⟨rfl, b8⟩
          obtain ⟨F8, I8, R8⟩ := H8.out
          have O5 := OutE.say I8 b8 13 badData
          obtain ⟨E, hE⟩ : ∃ E, E = (ans 13 badData).cs (.slice none 0 0) := ⟨_, rfl⟩
          rw [← hE] at O5 ⊢
          obtain ⟨hl, ho, ht, hr, hq⟩ := chain_e hx F8 R8 (Nat.le_refl _) O5
          have HL := Lib.hid hl
          have H1 := Lib.hid ho
          have HT := Lib.hid ht
          have HR := Lib.hid hr
          have HO := Lib.hid hq
          clear hl ho ht hr hq
          clear hE O5 F8 I8 R8 b8
          go_wp2_with ((with_reducible show wpList _ _ _ (Oper.mk none (Op.store 36 (.tmp 5) _) _ _ _ _ :: _) _ _); refine wpList_store_mid (by rfl) 36 (.tmp 5) (.tmp 48) (by rfl) w.heap.size 0 E.toArray (by rfl) (by rfl) HT.out (by rw [List.size_toArray, HL.out]; kernel_rfl) (all_oneCell_toArray H1.out) ?_; rw [show E.toArray.toList = E from rfl])
          rw [HSTR.out]
          exact bodyPost_ret (v := .tuple #[.string (S (c0 :: t)), .agg E.toArray]) (res2 Tryd.results23 (by rfl) (by rfl) HR.out HL.out) rfl ⟨E, pz 3, ans 13 badData, c0 :: t, rfl, HO.out, by rw [HP.out.1]; exact feed_pd_bad q l' c0 t (by rw [HLE.out, ← HNL.out]; exact hn2) HBAD.out, by have := HRS.out; simp [pz]; omega, .inr (.inr rfl)⟩
end Go.Proofs.YtedbklipbfbmoaaDoor
