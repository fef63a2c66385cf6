/-
  The calls of a law, by their cells.
-/
import Derived.Test.YtpkmfckifnomeaaDoorLs
namespace Go.Proofs.YtpkmfckifnomeaaDoor
open Go.RowKit

open Go.Lib (TabIs pow10Tab)
theorem of_x (verb : Int) (k d : ByteArray) (delta : Nat) (de dz : Int) (h1 : (delta : Int) = de) (h2 : (d.size : Int) = dz) {w0 : World} {o : Nat → Nat × Nat} {P n : Nat} {l : List En} {vs : List (Nat × Nat × List Value)} {os : List (Nat × Value × Nat × List Value)} (w : World) (h : Ls w o P n l vs os) (hz : Zz w0 w o) :
    Calls Tryd.prog 10 #[.int .i64 verb, .string k, .string d, .int .u64 de] w fun e w' => ∃ p o', e = .returned (.agg #[.int .i64 verb, .slice (some ⟨p, 0, none⟩) 1 1, .int .i64 0, .int .i64 0, .int .i64 dz, .int .i64 0, .int .u64 de, .bool false, .string d]) ∧ Ls w' o' P n l ((p, 3, [.string k]) :: vs) os ∧ Zz w0 w' o' := by
  subst h1 h2
  exact (of_any verb k d delta w h hz).mono fun e w' hh => by
    obtain ⟨p, o', h1, h2, h3, _⟩ := hh
    exact ⟨p, o', h1, h2, h3⟩
theorem ls_x (r : Rq) (now ver : Int) (k : ByteArray) (p kc : Nat) (de : Int) (hde : (r.delta : Int) = de) (h1 : (r.verb == 1) = false) (h2 : (r.verb == 2) = false) (h13 : (r.verb == 13) = false) {w0 : World} {o : Nat → Nat × Nat} {P n : Nat} {l : List En} {vs : List (Nat × Nat × List Value)} {os : List (Nat × Value × Nat × List Value)} (q : Q4) (l' : List En) (kd nu : Int) (tx : ByteArray) (hq : q1 r k now ver l = q) (hl : stp r k now ver l = l') (hA : q.1 = ⟨kd, nu, tx⟩) (hn : n < 1000000) (hk : k.size ≤ 140737488355328) (hd : r.data.size ≤ 140737488355328) (w : World) (h : Ls w o P n l vs os) (hz : Zz w0 w o) (hp : (p, 3, [.string k]) ∈ vs) :
    Calls Tryd.prog 11 #[.pointer (some ⟨P, 0, none⟩), .agg #[.int .i64 r.verb, .slice (some ⟨p, 0, none⟩) 1 kc, .int .i64 r.fl, .int .i64 r.exp, .int .i64 r.bytes, .int .i64 r.cas, .int .u64 de, .bool r.quiet, .string r.data], .int .i64 now, .int .i64 ver] w fun e w' => ∃ o', e = .returned (.agg #[.int .i64 kd, .slice none 0 0, .bool false, .int .u64 nu, .string tx, .int .i64 0, .int .i64 0, .int .i64 0, .int .i64 0]) ∧ Ls w' o' P (n + 1) l' vs os ∧ Zz w0 w' o' := by
  subst hde hl
  refine (ls_one r now ver k p kc h1 h2 h13 hn hk hd w h hz hp).mono ?_
  rintro e w' ⟨o', rfl, h3, h4⟩
  exact ⟨o', by rw [hq, hA]; rfl, h3, h4⟩
theorem lg_x (g : Bool) (i : Nat) (r : Rq) (now ver : Int) (k : ByteArray) (p kc : Nat) (de : Int) (hde : (r.delta : Int) = de) (hv : r.verb = if g then 2 else 1) {w0 : World} {o : Nat → Nat × Nat} {P n : Nat} {l : List En} {vs : List (Nat × Nat × List Value)} {os : List (Nat × Value × Nat × List Value)} (fs : List En) (hf : fnd l now [k] = fs) (hk : k.size ≤ 140737488355328) (w : World) (h : Ls w o P n l vs os) (hz : Zz w0 w o) (hp : (p, 3, [.string k]) ∈ vs) (hq : ∀ j v k cs, (j, v, k, cs) ∈ os → j ≠ i) :
    Calls Tryd.prog 11 #[.pointer (some ⟨P, 0, none⟩), .agg #[.int .i64 r.verb, .slice (some ⟨p, 0, none⟩) 1 kc, .int .i64 r.fl, .int .i64 r.exp, .int .i64 r.bytes, .int .i64 r.cas, .int .u64 de, .bool r.quiet, .string r.data], .int .i64 now, .int .i64 ver] w fun e w' => ∃ a' m c o', e = .returned (.agg #[.int .i64 1, .slice a' m c, .bool g, .int .u64 0, .string ⟨#[]⟩, .int .i64 0, .int .i64 0, .int .i64 0, .int .i64 0]) ∧ m = fs.length ∧ Ls w' o' P n l vs ((i, .slice a' m c, m, fcs fs) :: os) ∧ Zz w0 w' o' := by
  subst hde hf
  exact ls_get g i r now ver k p kc hv hk w h hz hp hq
theorem dec_two (n : Nat) (h1 : 10 ≤ n) (h2 : n < 100) : Lib.decDigits n = [UInt8.ofNat (48 + n / 10), UInt8.ofNat (48 + n % 10)] := by
  rw [Lib.decDigits, dif_neg (by omega), Lib.decDigits, dif_pos (by omega)]
  rfl
end Go.Proofs.YtpkmfckifnomeaaDoor
