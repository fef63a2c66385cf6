/-
  Next, whole.
-/
import Derived.Test.YtpkmfckifnomeaaDoorNx7
import Derived.Test.YtpkmfckifnomeaaDoorNx8
import Derived.Test.YtpkmfckifnomeaaDoorNx9
namespace Go.Proofs.YtpkmfckifnomeaaDoor
open Go.RowKit

open Go.Lib (TabIs pow10Tab)
theorem nxt_3 {r : Rq} {e : En} {b : Bool} {now ver : Int} (h : r.verb = 3) : nxt r e b now ver = (kpt (ab 2) (fre r e now ver)) := by
  unfold nxt
  rw [if_pos h]
theorem nxt_4 {r : Rq} {e : En} {b : Bool} {now ver : Int} (h : r.verb = 4) : nxt r e b now ver = (if (!b) = false then tld (ab 3) else kpt (ab 2) (fre r e now ver)) := by
  unfold nxt
  rw [if_neg (by omega), if_pos h]; cases b <;> rfl
theorem nxt_5 {r : Rq} {e : En} {b : Bool} {now ver : Int} (h : r.verb = 5) : nxt r e b now ver = (if b = false then tld (ab 3) else kpt (ab 2) (fre r e now ver)) := by
  unfold nxt
  rw [if_neg (by omega), if_neg (by omega), if_pos h]
theorem nxt_6 {r : Rq} {e : En} {b : Bool} {now ver : Int} (h : r.verb = 6) : nxt r e b now ver = (joi e b (e.val ++ r.data) ver) := by
  unfold nxt
  rw [if_neg (by omega), if_neg (by omega), if_neg (by omega), if_pos h]
theorem nxt_7 {r : Rq} {e : En} {b : Bool} {now ver : Int} (h : r.verb = 7) : nxt r e b now ver = (joi e b (r.data ++ e.val) ver) := by
  unfold nxt
  rw [if_neg (by omega), if_neg (by omega), if_neg (by omega), if_neg (by omega), if_pos h]
theorem nxt_8 {r : Rq} {e : En} {b : Bool} {now ver : Int} (h : r.verb = 8) : nxt r e b now ver = (if b = false then tld (ab 5) else if e.cas = r.cas then kpt (ab 2) (fre r e now ver) else tld (ab 4)) := by
  unfold nxt
  rw [if_neg (by omega), if_neg (by omega), if_neg (by omega), if_neg (by omega), if_neg (by omega), if_pos h]
theorem nxt_9 {r : Rq} {e : En} {b : Bool} {now ver : Int} (h : r.verb = 9) : nxt r e b now ver = (if b = false then tld (ab 5) else (ab 6, e0, false, true)) := by
  unfold nxt
  rw [if_neg (by omega), if_neg (by omega), if_neg (by omega), if_neg (by omega), if_neg (by omega), if_neg (by omega), if_pos h]
theorem nxt_12 {r : Rq} {e : En} {b : Bool} {now ver : Int} (h : r.verb = 12) : nxt r e b now ver = (if b = false then tld (ab 5) else kpt (ab 7) ⟨e.key, e.fl, dl r.exp now, e.val, e.cas⟩) := by
  unfold nxt
  rw [if_neg (by omega), if_neg (by omega), if_neg (by omega), if_neg (by omega), if_neg (by omega), if_neg (by omega), if_neg (by omega), if_pos h]
theorem nxt_10 {r : Rq} {e : En} {b : Bool} {now ver : Int} (h : r.verb = 10) : nxt r e b now ver = (cou true e b r.delta ver) := by
  unfold nxt
  rw [if_neg (by omega), if_neg (by omega), if_neg (by omega), if_neg (by omega), if_neg (by omega), if_neg (by omega), if_neg (by omega), if_neg (by omega), if_pos h]
theorem nxt_11 {r : Rq} {e : En} {b : Bool} {now ver : Int} (h : r.verb = 11) : nxt r e b now ver = (cou false e b r.delta ver) := by
  unfold nxt
  rw [if_neg (by omega), if_neg (by omega), if_neg (by omega), if_neg (by omega), if_neg (by omega), if_neg (by omega), if_neg (by omega), if_neg (by omega), if_neg (by omega), if_pos h]
theorem nxt_oth {r : Rq} {e : En} {b : Bool} {now ver : Int} (h3 : r.verb ≠ 3) (h4 : r.verb ≠ 4) (h5 : r.verb ≠ 5) (h6 : r.verb ≠ 6) (h7 : r.verb ≠ 7) (h8 : r.verb ≠ 8) (h9 : r.verb ≠ 9) (h12 : r.verb ≠ 12) (h10 : r.verb ≠ 10) (h11 : r.verb ≠ 11) : nxt r e b now ver = tld (ab 0) := by
  unfold nxt
  rw [if_neg h3, if_neg h4, if_neg h5, if_neg h6, if_neg h7, if_neg h8, if_neg h9, if_neg h12, if_neg h10, if_neg h11]
/-- Next: what it comes to. -/
theorem next_any (r : Rq) (e : En) (b : Bool) (now ver : Int) (ka : Option Addr) (kn kc : Nat) (hk : e.key.size ≤ 281474976710656) (hv : e.val.size ≤ 140737488355328) (hdz : r.data.size ≤ 140737488355328) (w : World) (htab : TabIs Tryd.prog w "internal/strconv.uint64pow10" .u64 pow10Tab) :
    Calls Tryd.prog 20 #[.agg (r.cs (.slice ka kn kc)).toArray, .agg e.cs.toArray, .bool b, .int .i64 now, .int .i64 ver] w (OutQ w (nxt r e b now ver)) := by
  show Calls Tryd.prog 20 #[.agg #[.int .i64 r.verb, .slice ka kn kc, .int .i64 r.fl, .int .i64 r.exp, .int .i64 r.bytes, .int .i64 r.cas, .int .u64 (r.delta : Int), .bool r.quiet, .string r.data], _, _, _, _] w _
  by_cases h3 : r.verb = 3
  · rw [show nxt r e b now ver = _ from nxt_3 h3]
    rw [h3]
    exact next_set b now ka kn kc r.fl r.exp r.bytes r.cas r.delta r.quiet r.data e ver hk hv hdz w
  by_cases h4 : r.verb = 4
  · rw [show nxt r e b now ver = _ from nxt_4 h4]
    rw [h4]
    exact next_add b now ka kn kc r.fl r.exp r.bytes r.cas r.delta r.quiet r.data e ver hk hv hdz w
  by_cases h5 : r.verb = 5
  · rw [show nxt r e b now ver = _ from nxt_5 h5]
    rw [h5]
    exact next_rep b now ka kn kc r.fl r.exp r.bytes r.cas r.delta r.quiet r.data e ver hk hv hdz w
  by_cases h6 : r.verb = 6
  · rw [show nxt r e b now ver = _ from nxt_6 h6]
    rw [h6]
    exact next_app b now ka kn kc r.fl r.exp r.bytes r.cas r.delta r.quiet r.data e ver hk hv hdz w
  by_cases h7 : r.verb = 7
  · rw [show nxt r e b now ver = _ from nxt_7 h7]
    rw [h7]
    exact next_pre b now ka kn kc r.fl r.exp r.bytes r.cas r.delta r.quiet r.data e ver hk hv hdz w
  by_cases h8 : r.verb = 8
  · rw [show nxt r e b now ver = _ from nxt_8 h8]
    rw [h8]
    exact next_cas b now ka kn kc r.fl r.exp r.bytes r.cas r.delta r.quiet r.data e ver hk hv hdz w
  by_cases h9 : r.verb = 9
  · rw [show nxt r e b now ver = _ from nxt_9 h9]
    rw [h9]
    exact next_del b now ka kn kc r.fl r.exp r.bytes r.cas r.delta r.quiet r.data e ver hk hv hdz w
  by_cases h12 : r.verb = 12
  · rw [show nxt r e b now ver = _ from nxt_12 h12]
    rw [h12]
    exact next_tou b now ka kn kc r.fl r.exp r.bytes r.cas r.delta r.quiet r.data e ver hk hv hdz w
  by_cases h10 : r.verb = 10
  · rw [show nxt r e b now ver = _ from nxt_10 h10]
    rw [h10]
    exact next_up b now ka kn kc r.fl r.exp r.bytes r.cas r.delta r.quiet r.data e ver hk hv hdz w htab
  by_cases h11 : r.verb = 11
  · rw [show nxt r e b now ver = _ from nxt_11 h11]
    rw [h11]
    exact next_down b now ka kn kc r.fl r.exp r.bytes r.cas r.delta r.quiet r.data e ver hk hv hdz w htab
  rw [nxt_oth h3 h4 h5 h6 h7 h8 h9 h12 h10 h11]
  exact next_oth b now ka kn kc r.fl r.exp r.bytes r.cas r.delta r.quiet r.data e ver hk hv hdz r.verb (by simp [h3]) (by simp [h4]) (by simp [h5]) (by simp [h6]) (by simp [h7]) (by simp [h8]) (by simp [h9]) (by simp [h12]) (by simp [h10]) (by simp [h11]) w
end Go.Proofs.YtpkmfckifnomeaaDoor
