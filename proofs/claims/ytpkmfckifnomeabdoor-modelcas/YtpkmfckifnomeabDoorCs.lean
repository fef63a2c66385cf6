/-
  ModelCas.
-/
import Derived.Test.YtpkmfckifnomeabDoorSf
namespace Go.Proofs.YtpkmfckifnomeabDoor
open Go.RowKit

open Go.Lib (TabIs pow10Tab)
def kK : ByteArray := ⟨#[107]⟩
def sE (v : ByteArray) (c : Int) : En := ⟨kK, 0, 0, v, c⟩
theorem lv0 (now : Int) : lv 0 now = true := rfl
theorem dl0 (now : Int) : dl 0 now = 0 := rfl
theorem s_set (v : ByteArray) : q1 (ofq 3 v 0) kK 1 7 [] = kpt (ab 2) (sE v 7) ∧ stp (ofq 3 v 0) kK 1 7 [] = [sE v 7] := by
  have e : q1 (ofq 3 v 0) kK 1 7 [] = kpt (ab 2) (sE v 7) := by unfold q1; rw [nxt_3 rfl]; rfl
  exact ⟨e, stp_new e⟩
theorem s_tou (v : ByteArray) : q1 (ofq 12 nA 0) kK 1 8 [sE v 7] = kpt (ab 7) (sE v 7) ∧ stp (ofq 12 nA 0) kK 1 8 [sE v 7] = [sE v 7] := by
  have e : q1 (ofq 12 nA 0) kK 1 8 [sE v 7] = kpt (ab 7) (sE v 7) := by
    unfold q1
    rw [show liv [sE v 7] kK 1 = (sE v 7, true) from liv_self (sE v 7) 1 (lv0 1), nxt_12 rfl]; rfl
  exact ⟨e, stp_keep (e := sE v 7) rfl e⟩
def cR (p : ByteArray) : Rq := ⟨8, 0, 0, (p.size : Int), 7, 0, false, p⟩
theorem s_cas (v p : ByteArray) (ver : Int) : q1 (cR p) kK 1 ver [sE v 7] = kpt (ab 2) (sE p ver) ∧ stp (cR p) kK 1 ver [sE v 7] = [sE p ver] := by
  have e : q1 (cR p) kK 1 ver [sE v 7] = kpt (ab 2) (sE p ver) := by
    unfold q1
    rw [show liv [sE v 7] kK 1 = (sE v 7, true) from liv_self (sE v 7) 1 (lv0 1), nxt_8 rfl, if_neg (by simp), if_pos (by rfl)]; rfl
  exact ⟨e, stp_keep (e := sE v 7) rfl e⟩
theorem s_no (v p : ByteArray) (ver : Int) : q1 (cR p) kK 1 ver [sE v 10] = tld (ab 4) ∧ stp (cR p) kK 1 ver [sE v 10] = [sE v 10] := by
  have e : q1 (cR p) kK 1 ver [sE v 10] = tld (ab 4) := by
    unfold q1
    rw [show liv [sE v 10] kK 1 = (sE v 10, true) from liv_self (sE v 10) 1 (lv0 1), nxt_8 rfl, if_neg (by simp), if_neg (by show ¬ ((10 : Int) = 7); omega)]
  exact ⟨e, stp_same e⟩
/-- The law on its way: the entry's number. -/
def nC (j : Nat) : Int := if j = 0 then 7 else 10
structure Sw (w wr : World) (o : Nat → Nat × Nat) (P j : Nat) (v : ByteArray) (G g c : Nat) (fs : List Value) : Prop where
  ls : Ls wr o P (j + 3) [sE v (nC j)] [(G, 3, [.int .i64 1, .slice (some ⟨g, 0, none⟩) 1 c, .bool true, .int .u64 0, .string ⟨#[]⟩, .int .i64 0, .int .i64 0, .int .i64 0, .int .i64 0])] [(1, .slice (some ⟨g, 0, none⟩) 1 c, 1, fs)]
  zz : Zz w wr o
  f3 : fs[3]? = some (.int .i64 7)
theorem Sw.c1 {w wr : World} {o : Nat → Nat × Nat} {P j : Nat} {v : ByteArray} {G g c : Nat} {fs : List Value} (h : Sw w wr o P j v G g c fs) : wr.cell? ⟨G, 1, none⟩ = some (.slice (some ⟨g, 0, none⟩) 1 c) := h.ls.cell (.head _) rfl
theorem Sw.c3 {w wr : World} {o : Nat → Nat × Nat} {P j : Nat} {v : ByteArray} {G g c : Nat} {fs : List Value} (h : Sw w wr o P j v G g c fs) : wr.cell? ⟨g, 3, none⟩ = some (.int .i64 7) := by
  obtain ⟨gg, cap, e, _, _, _, _, hc, _⟩ := (h.ls.s 1 _ _ _ (.head _)).there (by omega)
  injection e with e1 _ _
  injection e1 with e2
  injection e2 with e3 _ _
  rw [e3]
  exact hc 3 _ h.f3
set_option maxRecDepth 100000 in
set_option maxHeartbeats 8000000 in
theorem cas_walk (value : ByteArray) (a1 : Option Addr) (len1 cap1 : Nat) (T : Nat → ByteArray) (touch : Bool) (n1 : len1 ≤ 9223372036854775807) (w : World) (s1 : CellF w a1 (fun i => .string (T i)) len1) (htab : TabIs Tryd.prog w "internal/strconv.uint64pow10" .u64 pow10Tab) :
    Calls Tryd.prog 3 #[.string value, .slice a1 len1 cap1, .bool touch] w fun e w' => e = .returned (.bool true) ∧ Below w.heap.size w w' := by
  have HTAB := Lib.hid htab
  have HS := Lib.hid s1
  clear htab s1
  go_enter Tryd.func3, Tryd.ntmps3
  go_wp2_with fail
  refine (ls_new w HTAB.out).mono ?_
  rintro e_ w0 ⟨P, o_, rfl, h_, z_⟩
  clear HTAB
  have HL := Lib.hid (And.intro h_ z_)
  clear h_ z_
  by_cases hv : 200 < value.size
  · have g1 : decide ((200 : Int) < (value.size : Int)) = true := decide_eq_true (by omega)
    go_wp2_with fail
    refine (runs_any _ HL.out.1.tab).mono ?_
    rintro e_ w1 ⟨rfl, hb⟩
    have HB : Hid (Below w.heap.size w w1) := Lib.hid (HL.out.2.b.trans (hb.mono HL.out.2.b.size))
    clear hb HL
    go_wp2_with fail
    go_ret
    exact ⟨rfl, HB.out⟩
  have g1 : decide ((200 : Int) < (value.size : Int)) = false := decide_eq_false (by omega)
  have hvz : value.size ≤ 200 := by omega
  clear hv
  go_wp2_with fail
  refine (of_x 3 kK value 0 0 (value.size : Int) rfl rfl _ HL.out.1 HL.out.2).mono ?_
  rintro e_ w1 ⟨p1, o1, rfl, h_, z_⟩
  clear HL
  have HL := Lib.hid (And.intro h_ z_)
  clear h_ z_
  go_wp2_with fail
  refine (ls_x (ofq 3 value 0) 1 7 kK p1 1 0 rfl rfl rfl rfl (kpt (ab 2) (sE value 7)) [sE value 7] 2 0 nA (s_set value).1 (s_set value).2 rfl (by omega) (by decide) (by show value.size ≤ _; omega) _ HL.out.1 HL.out.2 (.head _)).mono ?_
  rintro e_ w2 ⟨o2, rfl, h_, z_⟩
  clear HL
  have HL := Lib.hid (And.intro h_ z_)
  clear h_ z_
  clear g1
  cases touch with
  | true =>
    go_wp2_with fail
    refine (of_x 12 kK nA 0 0 0 rfl rfl _ HL.out.1 HL.out.2).mono ?_
    rintro e_ w3 ⟨p3, o3, rfl, h_, z_⟩
    clear HL
    have HL := Lib.hid (And.intro h_ z_)
    clear h_ z_
    go_wp2_with fail
    refine (ls_x (ofq 12 nA 0) 1 8 kK p3 1 0 rfl rfl rfl rfl (kpt (ab 7) (sE value 7)) [sE value 7] 7 0 nA (s_tou value).1 (s_tou value).2 rfl (by omega) (by decide) (by decide) _ HL.out.1 HL.out.2 (.head _)).mono ?_
    rintro e_ w4 ⟨o4, rfl, h_, z_⟩
    clear HL
    have HL := Lib.hid (And.intro h_ z_)
    clear h_ z_
    go_wp2_with fail
    obtain ⟨h_, z_⟩ := Ls.alloc HL.out.1 HL.out.2 3 [.string kK] 9
    clear HL
    have HL := Lib.hid (And.intro h_ z_)
    clear h_ z_
    refine (lg_x true 1 (⟨2, 0, 0, 0, 0, 0, false, nA⟩ : Rq) 1 9 kK w4.heap.size 1 0 rfl rfl [sE value 7] (fnd_self (sE value 7) 1 (lv0 1)) (by decide) _ HL.out.1 HL.out.2 (.head _) (fun _ _ _ _ h => by cases h)).mono ?_
    rintro e_ w5 ⟨a5, m5, c5, o5, rfl, hm5, h_, z_⟩
    clear HL
    have HL := Lib.hid (And.intro h_ z_)
    clear h_ z_
    subst hm5
    obtain ⟨h_, z_⟩ := Ls.alloc HL.out.1 HL.out.2 3 [.int .i64 1, .slice a5 1 c5, .bool true, .int .u64 0, .string ⟨#[]⟩, .int .i64 0, .int .i64 0, .int .i64 0, .int .i64 0] 30
    clear HL
    have HL := Lib.hid (And.intro h_ z_)
    clear h_ z_
    obtain ⟨g, hg⟩ : ∃ g, a5 = some ⟨g, 0, none⟩ := by
      obtain ⟨gg, cap, e, _⟩ := (HL.out.1.s 1 _ _ _ (.head _)).there (by simp)
      injection e with e1 _ _
      exact ⟨gg, e1⟩
    subst hg
    have HJ : ∃ o2, Hid (Sw w (w5.alloc (.cells #[.int .i64 1, .slice (some ⟨g, 0, none⟩) 1 c5, .bool true, .int .u64 0, .string ⟨#[]⟩, .int .i64 0, .int .i64 0, .int .i64 0, .int .i64 0] 30)) o2 P 0 value w5.heap.size g c5 (fcs [sE value 7])) := ⟨_, Lib.hid ⟨HL.out.1.sub (by omega) (fun x hx => by simp only [List.mem_cons, List.not_mem_nil, or_false] at hx; subst hx; exact .head _) (fun x hx => hx), HL.out.2, rfl⟩⟩
    obtain ⟨o2, HJ⟩ := HJ
    obtain ⟨G, hG⟩ : ∃ G, w5.heap.size = G := ⟨_, rfl⟩
    obtain ⟨WJ, hWJ⟩ : ∃ WJ, w5.alloc (.cells #[.int .i64 1, .slice (some ⟨g, 0, none⟩) 1 c5, .bool true, .int .u64 0, .string ⟨#[]⟩, .int .i64 0, .int .i64 0, .int .i64 0, .int .i64 0] 30) = WJ := ⟨_, rfl⟩
    obtain ⟨fs, hfs⟩ : ∃ fs, fcs [sE value 7] = fs := ⟨_, rfl⟩
    have cG := HJ.out.c1
    rw [hG, hWJ, hfs] at HJ
    have HG := Lib.hid hG
    have HWJ := Lib.hid hWJ
    clear HL hfs hG hWJ
    go_wp2_with fail
    clear cG
    rw [HWJ.out, HG.out]
    have cG := HJ.out.c1
    go_loopw [9] (fun i wr => ∃ (j : Nat) (v : ByteArray) (o1 : Nat → Nat × Nat), j ≤ 10 ∧ j ≤ len1 ∧ i = .int .i64 (j : Int) ∧ Hid (Sw w wr o1 P j v G g c5 fs)) (fun i _ => 10 - (intOf i).toNat)
    case atStart => exact ⟨0, value, o2, by omega, by omega, rfl, HJ⟩
    case round =>
      obtain ⟨j, v, o1, hj1, hj2, rfl, HR⟩ := hrel
      clear HJ cG
      have cG := HR.out.c1
      have c7 := HR.out.c3
      by_cases hlt : j < len1 ∧ j < 10
      · obtain ⟨hl1, hl2⟩ := hlt
        have i1 : decide ((j : Int) < (len1 : Int)) = true := decide_eq_true (by omega)
        have i2 : decide ((j : Int) < 10) = true := decide_eq_true (by omega)
        obtain ⟨pa, offa, rfl, ca⟩ := (HS.out.below HR.out.zz.b).at_ hl1
        obtain ⟨s, hs⟩ : ∃ s, T j = s := ⟨_, rfl⟩
        rw [hs] at ca
        clear hs
        by_cases hc : 100 < s.size
        · have c1 : decide ((100 : Int) < (s.size : Int)) = true := decide_eq_true (by omega)
          go_wp2_with fail
          refine (runs_any _ HR.out.ls.tab).mono ?_
          rintro e_ w9 ⟨rfl, hb⟩
          have HB : Hid (Below w.heap.size w w9) := Lib.hid (HR.out.zz.b.trans (hb.mono HR.out.zz.b.size))
          clear hb HR
          go_wp2_with fail
          go_ret
          exact ⟨rfl, HB.out⟩
        have c1 : decide ((100 : Int) < (s.size : Int)) = false := decide_eq_false (by omega)
        have sz : s.size ≤ 100 := by omega
        have HL := Lib.hid (And.intro HR.out.ls HR.out.zz)
        go_wp2_with fail
        refine (of_x 8 kK s 0 0 (s.size : Int) rfl rfl _ HL.out.1 HL.out.2).mono ?_
        rintro e_ w91 ⟨p91, o91, rfl, h_, z_⟩
        clear HL
        have HL := Lib.hid (And.intro h_ z_)
        clear h_ z_
        have cG2 : (w91.alloc (.cells #[.int .i64 8, .slice (some ⟨p91, 0, none⟩) 1 1, .int .i64 0, .int .i64 0, .int .i64 (s.size : Int), .int .i64 0, .int .u64 0, .bool false, .string s] 33)).cell? ⟨G, 1, none⟩ = some (.slice (some ⟨g, 0, none⟩) 1 c5) := cell_b (HL.out.1.cell (.tail _ (.head _)) rfl) (below_alloc _ _)
        have c72 : (w91.alloc (.cells #[.int .i64 8, .slice (some ⟨p91, 0, none⟩) 1 1, .int .i64 0, .int .i64 0, .int .i64 (s.size : Int), .int .i64 0, .int .u64 0, .bool false, .string s] 33)).cell? ⟨g, 3, none⟩ = some (.int .i64 7) := by
          obtain ⟨gg, cap, e, _, _, _, _, hc, _⟩ := (HL.out.1.s 1 _ _ _ (.head _)).there (by omega)
          injection e with e1 _ _
          injection e1 with e2
          injection e2 with e3 _ _
          rw [e3]
          exact cell_b (hc 3 _ HR.out.f3) (below_alloc _ _)
        have h_ := HL.out.1.below (below_alloc _ (.cells #[.int .i64 8, .slice (some ⟨p91, 0, none⟩) 1 1, .int .i64 0, .int .i64 0, .int .i64 (s.size : Int), .int .i64 7, .int .u64 0, .bool false, .string s] 33))
        have z_ := HL.out.2.below (below_alloc _ (.cells #[.int .i64 8, .slice (some ⟨p91, 0, none⟩) 1 1, .int .i64 0, .int .i64 0, .int .i64 (s.size : Int), .int .i64 7, .int .u64 0, .bool false, .string s] 33))
        clear cG c7
        clear HL
        have HL := Lib.hid (And.intro h_ z_)
        clear h_ z_
        by_cases h0 : j = 0
        · skip
          subst h0
          have gz : decide (((0 : Nat) : Int) = 0) = true := rfl
          have CC := Lib.hid (s_cas v s 10)
          go_wp2_with fail
          refine (ls_x (cR s) 1 10 kK p91 1 0 rfl rfl rfl rfl (kpt (ab 2) (sE s 10)) [sE s 10] 2 0 nA CC.out.1 CC.out.2 rfl (by omega) (by decide) (by show s.size ≤ _; omega) _ HL.out.1 HL.out.2 (.head _)).mono ?_
          rintro e_ w92 ⟨o92, rfl, h_, z_⟩
          clear HL
          have HL := Lib.hid (And.intro h_ z_)
          clear h_ z_
          have HN : Hid (Sw w w92 o92 P (0 + 1) s G g c5 fs) := Lib.hid ⟨HL.out.1.sub (vs' := [(G, 3, [.int .i64 1, .slice (some ⟨g, 0, none⟩) 1 c5, .bool true, .int .u64 0, .string ⟨#[]⟩, .int .i64 0, .int .i64 0, .int .i64 0, .int .i64 0])]) (Nat.le_refl _) (fun x hx => by simp only [List.mem_cons, List.not_mem_nil, or_false] at hx; subst hx; exact .tail _ (.head _)) (fun x hx => hx), HL.out.2, HR.out.f3⟩
          clear HL CC HR
          have fl := fun W => fld0 2 (.slice none 0 0) false 0 nA W
          go_wp2_with fail
          exact ⟨⟨(0 + 1), s, o92, by omega, by omega, by go_num, HN⟩, by simp [intOf]⟩
        · skip
          have gz : ((j : Int) == 0) = false := by simp; omega
          have gz2 : ¬ (j = 0) := h0
          have hnc : nC j = 10 := if_neg h0
          rw [hnc] at HL
          clear hnc h0
          have CC := Lib.hid (s_no v s (10 + (j : Int)))
          go_wp2_with fail
          refine (ls_x (cR s) 1 (10 + (j : Int)) kK p91 1 0 rfl rfl rfl rfl (tld (ab 4)) [sE v 10] 4 0 nA CC.out.1 CC.out.2 rfl (by omega) (by decide) (by show s.size ≤ _; omega) _ HL.out.1 HL.out.2 (.head _)).mono ?_
          rintro e_ w92 ⟨o92, rfl, h_, z_⟩
          clear HL
          have HL := Lib.hid (And.intro h_ z_)
          clear h_ z_
          have HN : Hid (Sw w w92 o92 P (j + 1) v G g c5 fs) := Lib.hid ⟨HL.out.1.sub (vs' := [(G, 3, [.int .i64 1, .slice (some ⟨g, 0, none⟩) 1 c5, .bool true, .int .u64 0, .string ⟨#[]⟩, .int .i64 0, .int .i64 0, .int .i64 0, .int .i64 0])]) (Nat.le_refl _) (fun x hx => by simp only [List.mem_cons, List.not_mem_nil, or_false] at hx; subst hx; exact .tail _ (.head _)) (fun x hx => hx), HL.out.2, HR.out.f3⟩
          clear HL CC HR
          have fl := fun W => fld0 4 (.slice none 0 0) false 0 nA W
          go_wp2_with fail
          exact ⟨⟨(j + 1), v, o92, by omega, by omega, by go_num, HN⟩, by simp [intOf]; omega⟩
      · skip
        by_cases hq1 : j < len1
        · have i1 : decide ((j : Int) < (len1 : Int)) = true := decide_eq_true (by omega)
          have i2 : decide ((j : Int) < 10) = false := decide_eq_false (by omega)
          go_wp2_with fail
          refine (runs_any _ HR.out.ls.tab).mono ?_
          rintro e_ w9 ⟨rfl, hb⟩
          have HB : Hid (Below w.heap.size w w9) := Lib.hid (HR.out.zz.b.trans (hb.mono HR.out.zz.b.size))
          clear hb HR
          go_wp2_with fail
          go_ret
          exact ⟨rfl, HB.out⟩
        · have i1 : decide ((j : Int) < (len1 : Int)) = false := decide_eq_false (by omega)
          go_wp2_with fail
          refine (runs_any _ HR.out.ls.tab).mono ?_
          rintro e_ w9 ⟨rfl, hb⟩
          have HB : Hid (Below w.heap.size w w9) := Lib.hid (HR.out.zz.b.trans (hb.mono HR.out.zz.b.size))
          clear hb HR
          go_wp2_with fail
          go_ret
          exact ⟨rfl, HB.out⟩
  | false =>
    go_wp2_with fail
    obtain ⟨h_, z_⟩ := Ls.alloc HL.out.1 HL.out.2 3 [.string kK] 9
    clear HL
    have HL := Lib.hid (And.intro h_ z_)
    clear h_ z_
    refine (lg_x true 1 (⟨2, 0, 0, 0, 0, 0, false, nA⟩ : Rq) 1 9 kK w2.heap.size 1 0 rfl rfl [sE value 7] (fnd_self (sE value 7) 1 (lv0 1)) (by decide) _ HL.out.1 HL.out.2 (.head _) (fun _ _ _ _ h => by cases h)).mono ?_
    rintro e_ w3 ⟨a3, m3, c3, o3, rfl, hm3, h_, z_⟩
    clear HL
    have HL := Lib.hid (And.intro h_ z_)
    clear h_ z_
    subst hm3
    obtain ⟨h_, z_⟩ := Ls.alloc HL.out.1 HL.out.2 3 [.int .i64 1, .slice a3 1 c3, .bool true, .int .u64 0, .string ⟨#[]⟩, .int .i64 0, .int .i64 0, .int .i64 0, .int .i64 0] 30
    clear HL
    have HL := Lib.hid (And.intro h_ z_)
    clear h_ z_
    obtain ⟨g, hg⟩ : ∃ g, a3 = some ⟨g, 0, none⟩ := by
      obtain ⟨gg, cap, e, _⟩ := (HL.out.1.s 1 _ _ _ (.head _)).there (by simp)
      injection e with e1 _ _
      exact ⟨gg, e1⟩
    subst hg
    have HJ : ∃ o2, Hid (Sw w (w3.alloc (.cells #[.int .i64 1, .slice (some ⟨g, 0, none⟩) 1 c3, .bool true, .int .u64 0, .string ⟨#[]⟩, .int .i64 0, .int .i64 0, .int .i64 0, .int .i64 0] 30)) o2 P 0 value w3.heap.size g c3 (fcs [sE value 7])) := ⟨_, Lib.hid ⟨HL.out.1.sub (by omega) (fun x hx => by simp only [List.mem_cons, List.not_mem_nil, or_false] at hx; subst hx; exact .head _) (fun x hx => hx), HL.out.2, rfl⟩⟩
    obtain ⟨o2, HJ⟩ := HJ
    obtain ⟨G, hG⟩ : ∃ G, w3.heap.size = G := ⟨_, rfl⟩
    obtain ⟨WJ, hWJ⟩ : ∃ WJ, w3.alloc (.cells #[.int .i64 1, .slice (some ⟨g, 0, none⟩) 1 c3, .bool true, .int .u64 0, .string ⟨#[]⟩, .int .i64 0, .int .i64 0, .int .i64 0, .int .i64 0] 30) = WJ := ⟨_, rfl⟩
    obtain ⟨fs, hfs⟩ : ∃ fs, fcs [sE value 7] = fs := ⟨_, rfl⟩
    have cG := HJ.out.c1
    rw [hG, hWJ, hfs] at HJ
    have HG := Lib.hid hG
    have HWJ := Lib.hid hWJ
    clear HL hfs hG hWJ
    go_wp2_with fail
    clear cG
    rw [HWJ.out, HG.out]
    have cG := HJ.out.c1
    go_loopw [9] (fun i wr => ∃ (j : Nat) (v : ByteArray) (o1 : Nat → Nat × Nat), j ≤ 10 ∧ j ≤ len1 ∧ i = .int .i64 (j : Int) ∧ Hid (Sw w wr o1 P j v G g c3 fs)) (fun i _ => 10 - (intOf i).toNat)
    case atStart => exact ⟨0, value, o2, by omega, by omega, rfl, HJ⟩
    case round =>
      obtain ⟨j, v, o1, hj1, hj2, rfl, HR⟩ := hrel
      clear HJ cG
      have cG := HR.out.c1
      have c7 := HR.out.c3
      by_cases hlt : j < len1 ∧ j < 10
      · obtain ⟨hl1, hl2⟩ := hlt
        have i1 : decide ((j : Int) < (len1 : Int)) = true := decide_eq_true (by omega)
        have i2 : decide ((j : Int) < 10) = true := decide_eq_true (by omega)
        obtain ⟨pa, offa, rfl, ca⟩ := (HS.out.below HR.out.zz.b).at_ hl1
        obtain ⟨s, hs⟩ : ∃ s, T j = s := ⟨_, rfl⟩
        rw [hs] at ca
        clear hs
        by_cases hc : 100 < s.size
        · have c1 : decide ((100 : Int) < (s.size : Int)) = true := decide_eq_true (by omega)
          go_wp2_with fail
          refine (runs_any _ HR.out.ls.tab).mono ?_
          rintro e_ w9 ⟨rfl, hb⟩
          have HB : Hid (Below w.heap.size w w9) := Lib.hid (HR.out.zz.b.trans (hb.mono HR.out.zz.b.size))
          clear hb HR
          go_wp2_with fail
          go_ret
          exact ⟨rfl, HB.out⟩
        have c1 : decide ((100 : Int) < (s.size : Int)) = false := decide_eq_false (by omega)
        have sz : s.size ≤ 100 := by omega
        have HL := Lib.hid (And.intro HR.out.ls HR.out.zz)
        go_wp2_with fail
        refine (of_x 8 kK s 0 0 (s.size : Int) rfl rfl _ HL.out.1 HL.out.2).mono ?_
        rintro e_ w91 ⟨p91, o91, rfl, h_, z_⟩
        clear HL
        have HL := Lib.hid (And.intro h_ z_)
        clear h_ z_
        have cG2 : (w91.alloc (.cells #[.int .i64 8, .slice (some ⟨p91, 0, none⟩) 1 1, .int .i64 0, .int .i64 0, .int .i64 (s.size : Int), .int .i64 0, .int .u64 0, .bool false, .string s] 33)).cell? ⟨G, 1, none⟩ = some (.slice (some ⟨g, 0, none⟩) 1 c3) := cell_b (HL.out.1.cell (.tail _ (.head _)) rfl) (below_alloc _ _)
        have c72 : (w91.alloc (.cells #[.int .i64 8, .slice (some ⟨p91, 0, none⟩) 1 1, .int .i64 0, .int .i64 0, .int .i64 (s.size : Int), .int .i64 0, .int .u64 0, .bool false, .string s] 33)).cell? ⟨g, 3, none⟩ = some (.int .i64 7) := by
          obtain ⟨gg, cap, e, _, _, _, _, hc, _⟩ := (HL.out.1.s 1 _ _ _ (.head _)).there (by omega)
          injection e with e1 _ _
          injection e1 with e2
          injection e2 with e3 _ _
          rw [e3]
          exact cell_b (hc 3 _ HR.out.f3) (below_alloc _ _)
        have h_ := HL.out.1.below (below_alloc _ (.cells #[.int .i64 8, .slice (some ⟨p91, 0, none⟩) 1 1, .int .i64 0, .int .i64 0, .int .i64 (s.size : Int), .int .i64 7, .int .u64 0, .bool false, .string s] 33))
        have z_ := HL.out.2.below (below_alloc _ (.cells #[.int .i64 8, .slice (some ⟨p91, 0, none⟩) 1 1, .int .i64 0, .int .i64 0, .int .i64 (s.size : Int), .int .i64 7, .int .u64 0, .bool false, .string s] 33))
        clear cG c7
        clear HL
        have HL := Lib.hid (And.intro h_ z_)
        clear h_ z_
        by_cases h0 : j = 0
        · skip
          subst h0
          have gz : decide (((0 : Nat) : Int) = 0) = true := rfl
          have CC := Lib.hid (s_cas v s 10)
          go_wp2_with fail
          refine (ls_x (cR s) 1 10 kK p91 1 0 rfl rfl rfl rfl (kpt (ab 2) (sE s 10)) [sE s 10] 2 0 nA CC.out.1 CC.out.2 rfl (by omega) (by decide) (by show s.size ≤ _; omega) _ HL.out.1 HL.out.2 (.head _)).mono ?_
          rintro e_ w92 ⟨o92, rfl, h_, z_⟩
          clear HL
          have HL := Lib.hid (And.intro h_ z_)
          clear h_ z_
          have HN : Hid (Sw w w92 o92 P (0 + 1) s G g c3 fs) := Lib.hid ⟨HL.out.1.sub (vs' := [(G, 3, [.int .i64 1, .slice (some ⟨g, 0, none⟩) 1 c3, .bool true, .int .u64 0, .string ⟨#[]⟩, .int .i64 0, .int .i64 0, .int .i64 0, .int .i64 0])]) (Nat.le_refl _) (fun x hx => by simp only [List.mem_cons, List.not_mem_nil, or_false] at hx; subst hx; exact .tail _ (.head _)) (fun x hx => hx), HL.out.2, HR.out.f3⟩
          clear HL CC HR
          have fl := fun W => fld0 2 (.slice none 0 0) false 0 nA W
          go_wp2_with fail
          exact ⟨⟨(0 + 1), s, o92, by omega, by omega, by go_num, HN⟩, by simp [intOf]⟩
        · skip
          have gz : ((j : Int) == 0) = false := by simp; omega
          have gz2 : ¬ (j = 0) := h0
          have hnc : nC j = 10 := if_neg h0
          rw [hnc] at HL
          clear hnc h0
          have CC := Lib.hid (s_no v s (10 + (j : Int)))
          go_wp2_with fail
          refine (ls_x (cR s) 1 (10 + (j : Int)) kK p91 1 0 rfl rfl rfl rfl (tld (ab 4)) [sE v 10] 4 0 nA CC.out.1 CC.out.2 rfl (by omega) (by decide) (by show s.size ≤ _; omega) _ HL.out.1 HL.out.2 (.head _)).mono ?_
          rintro e_ w92 ⟨o92, rfl, h_, z_⟩
          clear HL
          have HL := Lib.hid (And.intro h_ z_)
          clear h_ z_
          have HN : Hid (Sw w w92 o92 P (j + 1) v G g c3 fs) := Lib.hid ⟨HL.out.1.sub (vs' := [(G, 3, [.int .i64 1, .slice (some ⟨g, 0, none⟩) 1 c3, .bool true, .int .u64 0, .string ⟨#[]⟩, .int .i64 0, .int .i64 0, .int .i64 0, .int .i64 0])]) (Nat.le_refl _) (fun x hx => by simp only [List.mem_cons, List.not_mem_nil, or_false] at hx; subst hx; exact .tail _ (.head _)) (fun x hx => hx), HL.out.2, HR.out.f3⟩
          clear HL CC HR
          have fl := fun W => fld0 4 (.slice none 0 0) false 0 nA W
          go_wp2_with fail
          exact ⟨⟨(j + 1), v, o92, by omega, by omega, by go_num, HN⟩, by simp [intOf]; omega⟩
      · skip
        by_cases hq1 : j < len1
        · have i1 : decide ((j : Int) < (len1 : Int)) = true := decide_eq_true (by omega)
          have i2 : decide ((j : Int) < 10) = false := decide_eq_false (by omega)
          go_wp2_with fail
          refine (runs_any _ HR.out.ls.tab).mono ?_
          rintro e_ w9 ⟨rfl, hb⟩
          have HB : Hid (Below w.heap.size w w9) := Lib.hid (HR.out.zz.b.trans (hb.mono HR.out.zz.b.size))
          clear hb HR
          go_wp2_with fail
          go_ret
          exact ⟨rfl, HB.out⟩
        · have i1 : decide ((j : Int) < (len1 : Int)) = false := decide_eq_false (by omega)
          go_wp2_with fail
          refine (runs_any _ HR.out.ls.tab).mono ?_
          rintro e_ w9 ⟨rfl, hb⟩
          have HB : Hid (Below w.heap.size w w9) := Lib.hid (HR.out.zz.b.trans (hb.mono HR.out.zz.b.size))
          clear hb HR
          go_wp2_with fail
          go_ret
          exact ⟨rfl, HB.out⟩
end Go.Proofs.YtpkmfckifnomeabDoor
