/-
  Next of the reference, whole.
-/
import Derived.Test.YtpkmfckifnomeaaDoorRN1
import Derived.Test.YtpkmfckifnomeaaDoorRN2
import Derived.Test.YtpkmfckifnomeaaDoorRN3
import Derived.Test.YtpkmfckifnomeaaDoorRN5
import Derived.Test.YtpkmfckifnomeaaDoorRN7
import Derived.Test.YtpkmfckifnomeaaDoorRN8
namespace Go.Proofs.YtpkmfckifnomeaaDoor
open Go.RowKit

open Go.Lib (TabIs pow10Tab)
/-- Next of the reference: what it comes to. -/
theorem rnext_any (r : Rq) (e : En) (b : Bool) (now ver : Int) (ka : Option Addr) (kn kc : Nat) (hv : e.val.size ≤ 140737488355328) (hdz : r.data.size ≤ 140737488355328) (w : World) :
    Calls Tryd.prog 21 #[.agg (r.cs (.slice ka kn kc)).toArray, .agg e.cs.toArray, .bool b, .int .i64 now, .int .i64 ver] w (OutR w (nxt r e b now ver)) := by
  show Calls Tryd.prog 21 #[.agg #[.int .i64 r.verb, .slice ka kn kc, .int .i64 r.fl, .int .i64 r.exp, .int .i64 r.bytes, .int .i64 r.cas, .int .u64 (r.delta : Int), .bool r.quiet, .string r.data], _, _, _, _] w _
  by_cases h3 : r.verb = 3
  · rw [show nxt r e b now ver = _ from nxt_3 h3]
    rw [h3]
    cases b
    · exact rn_set_f now ka kn kc r.fl r.exp r.bytes r.cas r.delta r.quiet r.data e ver w
    · exact rn_set_t now ka kn kc r.fl r.exp r.bytes r.cas r.delta r.quiet r.data e ver w
  by_cases h4 : r.verb = 4
  · rw [show nxt r e b now ver = _ from nxt_4 h4]
    rw [h4]
    cases b
    · rw [if_neg (by simp)]; exact rn_add_f now ka kn kc r.fl r.exp r.bytes r.cas r.delta r.quiet r.data e ver w
    · rw [if_pos (by simp)]; exact rn_add_t now ka kn kc r.fl r.exp r.bytes r.cas r.delta r.quiet r.data e ver w
  by_cases h5 : r.verb = 5
  · rw [show nxt r e b now ver = _ from nxt_5 h5]
    rw [h5]
    cases b
    · rw [if_pos rfl]; exact rn_rep_f now ka kn kc r.fl r.exp r.bytes r.cas r.delta r.quiet r.data e ver w
    · rw [if_neg (by simp)]; exact rn_rep_t now ka kn kc r.fl r.exp r.bytes r.cas r.delta r.quiet r.data e ver w
  by_cases h6 : r.verb = 6
  · rw [show nxt r e b now ver = _ from nxt_6 h6]
    rw [h6]
    unfold joi
    cases b
    · rw [if_pos rfl]; exact rn_app_f now ka kn kc r.fl r.exp r.bytes r.cas r.delta r.quiet r.data e ver w
    rw [if_neg (by simp)]
    by_cases hb : 1048576 < e.val.size + r.data.size
    · rw [if_pos (by rw [ByteArray.size_append]; omega)]; exact rn_app_big now ka kn kc r.fl r.exp r.bytes r.cas r.delta r.quiet r.data e ver hv hdz hb w
    rw [if_neg (by rw [ByteArray.size_append]; omega)]; exact rn_app_t now ka kn kc r.fl r.exp r.bytes r.cas r.delta r.quiet r.data e ver hv hdz (by omega) w
  by_cases h7 : r.verb = 7
  · rw [show nxt r e b now ver = _ from nxt_7 h7]
    rw [h7]
    unfold joi
    cases b
    · rw [if_pos rfl]; exact rn_pre_f now ka kn kc r.fl r.exp r.bytes r.cas r.delta r.quiet r.data e ver w
    rw [if_neg (by simp)]
    by_cases hb : 1048576 < e.val.size + r.data.size
    · rw [if_pos (by rw [ByteArray.size_append]; omega)]; exact rn_pre_big now ka kn kc r.fl r.exp r.bytes r.cas r.delta r.quiet r.data e ver hv hdz hb w
    rw [if_neg (by rw [ByteArray.size_append]; omega)]; exact rn_pre_t now ka kn kc r.fl r.exp r.bytes r.cas r.delta r.quiet r.data e ver hv hdz (by omega) w
  by_cases h8 : r.verb = 8
  · rw [show nxt r e b now ver = _ from nxt_8 h8]
    rw [h8]
    cases b
    · rw [if_pos rfl]; exact rn_cas_f now ka kn kc r.fl r.exp r.bytes r.cas r.delta r.quiet r.data e ver w
    rw [if_neg (by simp)]
    by_cases hc : e.cas = r.cas
    · rw [if_pos hc]; exact rn_cas_t now ka kn kc r.fl r.exp r.bytes r.cas r.delta r.quiet r.data e ver hc w
    rw [if_neg hc]; exact rn_cas_o now ka kn kc r.fl r.exp r.bytes r.cas r.delta r.quiet r.data e ver hc w
  by_cases h9 : r.verb = 9
  · rw [show nxt r e b now ver = _ from nxt_9 h9]
    rw [h9]
    cases b
    · rw [if_pos rfl]; exact rn_del_f now ka kn kc r.fl r.exp r.bytes r.cas r.delta r.quiet r.data e ver w
    rw [if_neg (by simp)]; exact rn_del_t now ka kn kc r.fl r.exp r.bytes r.cas r.delta r.quiet r.data e ver w
  by_cases h12 : r.verb = 12
  · rw [show nxt r e b now ver = _ from nxt_12 h12]
    rw [h12]
    cases b
    · rw [if_pos rfl]; exact rn_tou_f now ka kn kc r.fl r.exp r.bytes r.cas r.delta r.quiet r.data e ver w
    rw [if_neg (by simp)]; exact rn_tou_t now ka kn kc r.fl r.exp r.bytes r.cas r.delta r.quiet r.data e ver w
  by_cases h10 : r.verb = 10
  · rw [show nxt r e b now ver = _ from nxt_10 h10]
    rw [h10]
    exact rn_up now ka kn kc r.fl r.exp r.bytes r.cas r.delta r.quiet r.data e ver b w
  by_cases h11 : r.verb = 11
  · rw [show nxt r e b now ver = _ from nxt_11 h11]
    rw [h11]
    exact rn_down now ka kn kc r.fl r.exp r.bytes r.cas r.delta r.quiet r.data e ver b w
  rw [nxt_oth h3 h4 h5 h6 h7 h8 h9 h12 h10 h11]
  exact rn_oth now ka kn kc r.fl r.exp r.bytes r.cas r.delta r.quiet r.data e ver b r.verb (by simp [h3]) (by simp [h4]) (by simp [h5]) (by simp [h6]) (by simp [h7]) (by simp [h8]) (by simp [h9]) (by simp [h10]) (by simp [h11]) (by simp [h12]) w
end Go.Proofs.YtpkmfckifnomeaaDoor
