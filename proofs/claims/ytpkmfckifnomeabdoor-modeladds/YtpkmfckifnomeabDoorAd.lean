/-
  ModelAdds.
-/
import Derived.Test.YtpkmfckifnomeabDoorTw
namespace Go.Proofs.YtpkmfckifnomeabDoor
open Go.RowKit

open Go.Lib (TabIs pow10Tab)
def kK : ByteArray := ⟨#[107]⟩
def aE (v : ByteArray) (c : Int) : En := ⟨kK, 0, 0, v, c⟩
theorem lv0 (now : Int) : lv 0 now = true := rfl
theorem a_set (v : ByteArray) : q1 (ofq 3 v 0) kK 1 1 [] = kpt (ab 2) (aE v 1) ∧ stp (ofq 3 v 0) kK 1 1 [] = [aE v 1] := by
  have e : q1 (ofq 3 v 0) kK 1 1 [] = kpt (ab 2) (aE v 1) := by unfold q1; rw [nxt_3 rfl]; rfl
  exact ⟨e, stp_new e⟩
theorem a_new (v : ByteArray) (ver : Int) : q1 (ofq 4 v 0) kK 1 ver [] = kpt (ab 2) (aE v ver) ∧ stp (ofq 4 v 0) kK 1 ver [] = [aE v ver] := by
  have e : q1 (ofq 4 v 0) kK 1 ver [] = kpt (ab 2) (aE v ver) := by unfold q1; rw [nxt_4 rfl]; rfl
  exact ⟨e, stp_new e⟩
theorem a_no (v x : ByteArray) (c ver : Int) : q1 (ofq 4 v 0) kK 1 ver [aE x c] = tld (ab 3) ∧ stp (ofq 4 v 0) kK 1 ver [aE x c] = [aE x c] := by
  have e : q1 (ofq 4 v 0) kK 1 ver [aE x c] = tld (ab 3) := by
    unfold q1
    rw [show liv [aE x c] kK 1 = (aE x c, true) from liv_self (aE x c) 1 (lv0 1), nxt_4 rfl]; rfl
  exact ⟨e, stp_same e⟩
theorem r_no (v : ByteArray) : q1 (ofq 5 v 0) kK 1 2 [] = tld (ab 3) := by unfold q1; rw [nxt_5 rfl]; rfl
theorem r_yes (v x : ByteArray) : q1 (ofq 5 v 0) kK 1 2 [aE x 1] = kpt (ab 2) (aE v 2) := by
  unfold q1
  rw [show liv [aE x 1] kK 1 = (aE x 1, true) from liv_self (aE x 1) 1 (lv0 1), nxt_5 rfl]; rfl
theorem d_yes (x : ByteArray) (c : Int) : q1 (ofq 9 nA 0) kK 1 3 [aE x c] = (ab 6, e0, false, true) ∧ stp (ofq 9 nA 0) kK 1 3 [aE x c] = [] := by
  have e : q1 (ofq 9 nA 0) kK 1 3 [aE x c] = (ab 6, e0, false, true) := by
    unfold q1
    rw [show liv [aE x c] kK 1 = (aE x c, true) from liv_self (aE x c) 1 (lv0 1), nxt_9 rfl]; rfl
  exact ⟨e, stp_drop (e := aE x c) e⟩
set_option maxRecDepth 100000 in
set_option maxHeartbeats 4000000 in
theorem adds_walk (a b : ByteArray) (there : Bool) (z0 : a.size ≤ 140737488355328) (z1 : b.size ≤ 140737488355328) (w : World) (htab : TabIs Tryd.prog w "internal/strconv.uint64pow10" .u64 pow10Tab) :
    Calls Tryd.prog 4 #[.string a, .string b, .bool there] w fun e w' => e = .returned (.bool true) ∧ Below w.heap.size w w' := by
  have HTAB := Lib.hid htab
  clear htab
  by_cases hv : 300 < a.size + b.size
  · have g1 : decide ((300 : Int) < (a.size : Int) + (b.size : Int)) = true := decide_eq_true (by omega)
    go_enter Tryd.func4, Tryd.ntmps4
    go_wp2_with fail
    refine (runs_any _ HTAB.out).mono ?_
    rintro e_ w1 ⟨rfl, hb⟩
    go_wp2_with fail
    go_ret
    exact ⟨rfl, hb⟩
  have g1 : decide ((300 : Int) < (a.size : Int) + (b.size : Int)) = false := decide_eq_false (by omega)
  have az : a.size ≤ 300 := by omega
  have bz : b.size ≤ 300 := by omega
  clear hv
  cases there with
  | true =>
    go_enter Tryd.func4, Tryd.ntmps4
    go_wp2_with fail
    refine (ls_new w HTAB.out).mono ?_
    rintro e_ w0 ⟨P, o_, rfl, h_, z_⟩
    clear HTAB
    have HL := Lib.hid (And.intro h_ z_)
    clear h_ z_
    go_wp2_with fail
    refine (of_x 3 kK a 0 0 (a.size : Int) rfl rfl _ HL.out.1 HL.out.2).mono ?_
    rintro e_ w1 ⟨p1, o1, rfl, h_, z_⟩
    clear HL
    have HL := Lib.hid (And.intro h_ z_)
    clear h_ z_
    go_wp2_with fail
    refine (ls_x (ofq 3 a 0) 1 1 kK p1 1 0 rfl rfl rfl rfl (kpt (ab 2) (aE a 1)) [aE a 1] 2 0 nA (a_set a).1 (a_set a).2 rfl (by omega) (by decide) (by show a.size ≤ _; omega) _ HL.out.1 HL.out.2 (.head _)).mono ?_
    rintro e_ w2 ⟨o2, rfl, h_, z_⟩
    clear HL
    have HL := Lib.hid (And.intro h_ z_)
    clear h_ z_
    go_wp2_with fail
    refine (tw_2 _ HL.out.1 HL.out.2).mono ?_
    rintro e_ wt ⟨Q, ot, rfl, h_, z_⟩
    clear HL
    have HL := Lib.hid (And.intro h_ z_)
    clear h_ z_
    go_wp2_with fail
    refine (of_2 4 kK b (b.size : Int) rfl _ HL.out.1 HL.out.2).mono ?_
    rintro e_ w3 ⟨p3, o3, rfl, h_, z_⟩
    clear HL
    have HL := Lib.hid (And.intro h_ z_)
    clear h_ z_
    go_wp2_with fail
    refine (one_p (ofq 4 b 0) 1 2 kK p3 1 rfl rfl rfl rfl (tld (ab 3)) [aE a 1] 3 0 nA (a_no b a 1 2).1 (a_no b a 1 2).2 rfl (by omega) (by decide) (by show b.size ≤ _; omega) _ HL.out.1 HL.out.2 (.head _)).mono ?_
    rintro e_ w4 ⟨o4, rfl, h_, z_⟩
    clear HL
    have HL := Lib.hid (And.intro h_ z_)
    clear h_ z_
    go_wp2_with fail
    refine (of_2 5 kK b (b.size : Int) rfl _ HL.out.1 HL.out.2).mono ?_
    rintro e_ w5 ⟨p5, o5, rfl, h_, z_⟩
    clear HL
    have HL := Lib.hid (And.intro h_ z_)
    clear h_ z_
    go_wp2_with fail
    refine (one_q (ofq 5 b 0) 1 2 kK p5 1 rfl rfl rfl rfl (kpt (ab 2) (aE b 2)) 2 0 nA (r_yes b a) rfl (by omega) (by decide) (by show b.size ≤ _; omega) _ HL.out.1 HL.out.2 (.head _)).mono ?_
    rintro e_ w6 ⟨o6, rfl, h_, z_⟩
    clear HL
    have HL := Lib.hid (And.intro h_ z_)
    clear h_ z_
    obtain ⟨h_, z_⟩ := Ls.alloc HL.out.1 HL.out.2 3 [.int .i64 3, .slice none 0 0, .bool false, .int .u64 0, .string nA, .int .i64 0, .int .i64 0, .int .i64 0, .int .i64 0] 30
    clear HL
    have HL := Lib.hid (And.intro h_ z_)
    clear h_ z_
    obtain ⟨h_, z_⟩ := Ls.alloc HL.out.1 HL.out.2 3 [.int .i64 2, .slice none 0 0, .bool false, .int .u64 0, .string nA, .int .i64 0, .int .i64 0, .int .i64 0, .int .i64 0] 30
    simp only [World.size_alloc] at h_ z_
    clear HL
    have HL := Lib.hid (And.intro h_ z_)
    clear h_ z_
    go_wp2_with fail
    refine (of_x 9 kK nA 0 0 0 rfl rfl _ HL.out.1 HL.out.2).mono ?_
    rintro e_ w7 ⟨p7, o7, rfl, h_, z_⟩
    clear HL
    have HL := Lib.hid (And.intro h_ z_)
    clear h_ z_
    go_wp2_with fail
    refine (ls_x (ofq 9 nA 0) 1 3 kK p7 1 0 rfl rfl rfl rfl (ab 6, e0, false, true) [] 6 0 nA (d_yes a 1).1 (d_yes a 1).2 rfl (by omega) (by decide) (by decide) _ HL.out.1 HL.out.2 (.head _)).mono ?_
    rintro e_ w8 ⟨o8, rfl, h_, z_⟩
    clear HL
    have HL := Lib.hid (And.intro h_ z_)
    clear h_ z_
    go_wp2_with fail
    refine (of_x 4 kK b 0 0 (b.size : Int) rfl rfl _ HL.out.1 HL.out.2).mono ?_
    rintro e_ w9 ⟨p9, o9, rfl, h_, z_⟩
    clear HL
    have HL := Lib.hid (And.intro h_ z_)
    clear h_ z_
    go_wp2_with fail
    refine (ls_x (ofq 4 b 0) 1 4 kK p9 1 0 rfl rfl rfl rfl (kpt (ab 2) (aE b 4)) [aE b 4] 2 0 nA (a_new b 4).1 (a_new b 4).2 rfl (by omega) (by decide) (by show b.size ≤ _; omega) _ HL.out.1 HL.out.2 (.head _)).mono ?_
    rintro e_ w10 ⟨o10, rfl, h_, z_⟩
    clear HL
    have HL := Lib.hid (And.intro h_ z_)
    clear h_ z_
    obtain ⟨h_, z_⟩ := Ls.alloc HL.out.1 HL.out.2 3 [.int .i64 2, .slice none 0 0, .bool false, .int .u64 0, .string nA, .int .i64 0, .int .i64 0, .int .i64 0, .int .i64 0] 30
    clear HL
    have HL := Lib.hid (And.intro h_ z_)
    clear h_ z_
    have y1 : (w10.alloc (.cells #[.int .i64 2, .slice none 0 0, .bool false, .int .u64 0, .string nA, .int .i64 0, .int .i64 0, .int .i64 0, .int .i64 0] 30)).cell? ⟨w6.heap.size, 0, none⟩ = some (.int .i64 3) := HL.out.1.cell (.tail _ (.tail _ (.tail _ (.tail _ (.head _))))) rfl
    have y2 : (w10.alloc (.cells #[.int .i64 2, .slice none 0 0, .bool false, .int .u64 0, .string nA, .int .i64 0, .int .i64 0, .int .i64 0, .int .i64 0] 30)).cell? ⟨w6.heap.size + 1, 0, none⟩ = some (.int .i64 2) := HL.out.1.cell (.tail _ (.tail _ (.tail _ (.head _)))) rfl
    go_wp2_with fail
    refine (runs_any _ HL.out.1.tab).mono ?_
    rintro e_ w99 ⟨rfl, hb⟩
    have HB : Hid (Below w.heap.size w w99) := Lib.hid (HL.out.2.b.trans (hb.mono HL.out.2.b.size))
    clear hb HL
    go_wp2_with fail
    go_ret
    exact ⟨rfl, HB.out⟩
  | false =>
    go_enter Tryd.func4, Tryd.ntmps4
    go_wp2_with fail
    refine (ls_new w HTAB.out).mono ?_
    rintro e_ w0 ⟨P, o_, rfl, h_, z_⟩
    clear HTAB
    have HL := Lib.hid (And.intro h_ z_)
    clear h_ z_
    go_wp2_with fail
    refine (tw_2 _ HL.out.1 HL.out.2).mono ?_
    rintro e_ wt ⟨Q, ot, rfl, h_, z_⟩
    clear HL
    have HL := Lib.hid (And.intro h_ z_)
    clear h_ z_
    go_wp2_with fail
    refine (of_2 4 kK b (b.size : Int) rfl _ HL.out.1 HL.out.2).mono ?_
    rintro e_ w1 ⟨p1, o1, rfl, h_, z_⟩
    clear HL
    have HL := Lib.hid (And.intro h_ z_)
    clear h_ z_
    go_wp2_with fail
    refine (one_p (ofq 4 b 0) 1 2 kK p1 1 rfl rfl rfl rfl (kpt (ab 2) (aE b 2)) [aE b 2] 2 0 nA (a_new b 2).1 (a_new b 2).2 rfl (by omega) (by decide) (by show b.size ≤ _; omega) _ HL.out.1 HL.out.2 (.head _)).mono ?_
    rintro e_ w2 ⟨o2, rfl, h_, z_⟩
    clear HL
    have HL := Lib.hid (And.intro h_ z_)
    clear h_ z_
    go_wp2_with fail
    refine (of_2 5 kK b (b.size : Int) rfl _ HL.out.1 HL.out.2).mono ?_
    rintro e_ w3 ⟨p3, o3, rfl, h_, z_⟩
    clear HL
    have HL := Lib.hid (And.intro h_ z_)
    clear h_ z_
    go_wp2_with fail
    refine (one_q (ofq 5 b 0) 1 2 kK p3 1 rfl rfl rfl rfl (tld (ab 3)) 3 0 nA (r_no b) rfl (by omega) (by decide) (by show b.size ≤ _; omega) _ HL.out.1 HL.out.2 (.head _)).mono ?_
    rintro e_ w4 ⟨o4, rfl, h_, z_⟩
    clear HL
    have HL := Lib.hid (And.intro h_ z_)
    clear h_ z_
    obtain ⟨h_, z_⟩ := Ls.alloc HL.out.1 HL.out.2 3 [.int .i64 2, .slice none 0 0, .bool false, .int .u64 0, .string nA, .int .i64 0, .int .i64 0, .int .i64 0, .int .i64 0] 30
    clear HL
    have HL := Lib.hid (And.intro h_ z_)
    clear h_ z_
    obtain ⟨h_, z_⟩ := Ls.alloc HL.out.1 HL.out.2 3 [.int .i64 3, .slice none 0 0, .bool false, .int .u64 0, .string nA, .int .i64 0, .int .i64 0, .int .i64 0, .int .i64 0] 30
    simp only [World.size_alloc] at h_ z_
    clear HL
    have HL := Lib.hid (And.intro h_ z_)
    clear h_ z_
    go_wp2_with fail
    refine (of_x 9 kK nA 0 0 0 rfl rfl _ HL.out.1 HL.out.2).mono ?_
    rintro e_ w5 ⟨p5, o5, rfl, h_, z_⟩
    clear HL
    have HL := Lib.hid (And.intro h_ z_)
    clear h_ z_
    go_wp2_with fail
    refine (ls_x (ofq 9 nA 0) 1 3 kK p5 1 0 rfl rfl rfl rfl (ab 6, e0, false, true) [] 6 0 nA (d_yes b 2).1 (d_yes b 2).2 rfl (by omega) (by decide) (by decide) _ HL.out.1 HL.out.2 (.head _)).mono ?_
    rintro e_ w6 ⟨o6, rfl, h_, z_⟩
    clear HL
    have HL := Lib.hid (And.intro h_ z_)
    clear h_ z_
    go_wp2_with fail
    refine (of_x 4 kK b 0 0 (b.size : Int) rfl rfl _ HL.out.1 HL.out.2).mono ?_
    rintro e_ w7 ⟨p7, o7, rfl, h_, z_⟩
    clear HL
    have HL := Lib.hid (And.intro h_ z_)
    clear h_ z_
    go_wp2_with fail
    refine (ls_x (ofq 4 b 0) 1 4 kK p7 1 0 rfl rfl rfl rfl (kpt (ab 2) (aE b 4)) [aE b 4] 2 0 nA (a_new b 4).1 (a_new b 4).2 rfl (by omega) (by decide) (by show b.size ≤ _; omega) _ HL.out.1 HL.out.2 (.head _)).mono ?_
    rintro e_ w8 ⟨o8, rfl, h_, z_⟩
    clear HL
    have HL := Lib.hid (And.intro h_ z_)
    clear h_ z_
    obtain ⟨h_, z_⟩ := Ls.alloc HL.out.1 HL.out.2 3 [.int .i64 2, .slice none 0 0, .bool false, .int .u64 0, .string nA, .int .i64 0, .int .i64 0, .int .i64 0, .int .i64 0] 30
    clear HL
    have HL := Lib.hid (And.intro h_ z_)
    clear h_ z_
    have y1 : (w8.alloc (.cells #[.int .i64 2, .slice none 0 0, .bool false, .int .u64 0, .string nA, .int .i64 0, .int .i64 0, .int .i64 0, .int .i64 0] 30)).cell? ⟨w4.heap.size, 0, none⟩ = some (.int .i64 2) := HL.out.1.cell (.tail _ (.tail _ (.tail _ (.tail _ (.head _))))) rfl
    have y2 : (w8.alloc (.cells #[.int .i64 2, .slice none 0 0, .bool false, .int .u64 0, .string nA, .int .i64 0, .int .i64 0, .int .i64 0, .int .i64 0] 30)).cell? ⟨w4.heap.size + 1, 0, none⟩ = some (.int .i64 3) := HL.out.1.cell (.tail _ (.tail _ (.tail _ (.head _)))) rfl
    go_wp2_with fail
    refine (runs_any _ HL.out.1.tab).mono ?_
    rintro e_ w99 ⟨rfl, hb⟩
    have HB : Hid (Below w.heap.size w w99) := Lib.hid (HL.out.2.b.trans (hb.mono HL.out.2.b.size))
    clear hb HL
    go_wp2_with fail
    go_ret
    exact ⟨rfl, HB.out⟩
end Go.Proofs.YtpkmfckifnomeabDoor
