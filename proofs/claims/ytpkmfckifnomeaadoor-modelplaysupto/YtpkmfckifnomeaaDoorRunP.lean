/-
  The calls of a law, by their cells.
-/
import Derived.Test.YtpkmfckifnomeaaDoorLs
namespace Go.Proofs.YtpkmfckifnomeaaDoor
open Go.RowKit

open Go.Lib (TabIs pow10Tab)
theorem of_x (verb : Int) (k d : ByteArray) (delta : Nat) (de dz : Int) (h1 : (delta : Int) = de) (h2 : (d.size : Int) = dz) {w0 : World} {o : Nat → Nat × Nat} {P n : Nat} {l : List En} {vs : List (Nat × Nat × List Value)} {os : List (Nat × Value × Nat × List Value)} (w : World) (h : Ls w o P n l vs os) (hz : Zz w0 w o) :
    Calls Tryd.prog 10 #[.int .i64 verb, .string k, .string d, .int .u64 de] w fun e w' => ∃ p o', e = .returned (.agg #[.int .i64 verb, .slice (some ⟨p, 0, none⟩) 1 1, .int .i64 0, .int .i64 0, .int .i64 dz, .int .i64 0, .int .u64 de, .bool false, .string d]) ∧ Ls w' o' P n l ((p, 3, [.string k]) :: vs) os ∧ Zz w0 w' o' := by
  subst h1 h2
  exact (of_any verb k d delta w h hz).mono fun e w' hh => by
    obtain ⟨p, o', h1, h2, h3, _⟩ := hh
    exact ⟨p, o', h1, h2, h3⟩
theorem ls_x (r : Rq) (now ver : Int) (k : ByteArray) (p kc : Nat) (de : Int) (hde : (r.delta : Int) = de) (h1 : (r.verb == 1) = false) (h2 : (r.verb == 2) = false) (h13 : (r.verb == 13) = false) {w0 : World} {o : Nat → Nat × Nat} {P n : Nat} {l : List En} {vs : List (Nat × Nat × List Value)} {os : List (Nat × Value × Nat × List Value)} (q : Q4) (l' : List En) (kd nu : Int) (tx : ByteArray) (hq : q1 r k now ver l = q) (hl : stp r k now ver l = l') (hA : q.1 = ⟨kd, nu, tx⟩) (hn : n < 1000000) (hk : k.size ≤ 140737488355328) (hd : r.data.size ≤ 140737488355328) (w : World) (h : Ls w o P n l vs os) (hz : Zz w0 w o) (hp : (p, 3, [.string k]) ∈ vs) :
    Calls Tryd.prog 11 #[.pointer (some ⟨P, 0, none⟩), .agg #[.int .i64 r.verb, .slice (some ⟨p, 0, none⟩) 1 kc, .int .i64 r.fl, .int .i64 r.exp, .int .i64 r.bytes, .int .i64 r.cas, .int .u64 de, .bool r.quiet, .string r.data], .int .i64 now, .int .i64 ver] w fun e w' => ∃ o', e = .returned (.agg #[.int .i64 kd, .slice none 0 0, .bool false, .int .u64 nu, .string tx, .int .i64 0, .int .i64 0, .int .i64 0, .int .i64 0]) ∧ Ls w' o' P (n + 1) l' vs os ∧ Zz w0 w' o' := by
  subst hde hl
  refine (ls_one r now ver k p kc h1 h2 h13 hn hk hd w h hz hp).mono ?_
  rintro e w' ⟨o', rfl, h3, h4⟩
  exact ⟨o', by rw [hq, hA]; rfl, h3, h4⟩
theorem lg_x (g : Bool) (i : Nat) (r : Rq) (now ver : Int) (k : ByteArray) (p kc : Nat) (de : Int) (hde : (r.delta : Int) = de) (hv : r.verb = if g then 2 else 1) {w0 : World} {o : Nat → Nat × Nat} {P n : Nat} {l : List En} {vs : List (Nat × Nat × List Value)} {os : List (Nat × Value × Nat × List Value)} (fs : List En) (hf : fnd l now [k] = fs) (hk : k.size ≤ 140737488355328) (w : World) (h : Ls w o P n l vs os) (hz : Zz w0 w o) (hp : (p, 3, [.string k]) ∈ vs) (hq : ∀ j v k cs, (j, v, k, cs) ∈ os → j ≠ i) :
    Calls Tryd.prog 11 #[.pointer (some ⟨P, 0, none⟩), .agg #[.int .i64 r.verb, .slice (some ⟨p, 0, none⟩) 1 kc, .int .i64 r.fl, .int .i64 r.exp, .int .i64 r.bytes, .int .i64 r.cas, .int .u64 de, .bool r.quiet, .string r.data], .int .i64 now, .int .i64 ver] w fun e w' => ∃ a' m c o', e = .returned (.agg #[.int .i64 1, .slice a' m c, .bool g, .int .u64 0, .string ⟨#[]⟩, .int .i64 0, .int .i64 0, .int .i64 0, .int .i64 0]) ∧ m = fs.length ∧ Ls w' o' P n l vs ((i, .slice a' m c, m, fcs fs) :: os) ∧ Zz w0 w' o' := by
  subst hde hf
  exact ls_get g i r now ver k p kc hv hk w h hz hp hq
theorem dec_two (n : Nat) (h1 : 10 ≤ n) (h2 : n < 100) : Lib.decDigits n = [UInt8.ofNat (48 + n / 10), UInt8.ofNat (48 + n % 10)] := by
  rw [Lib.decDigits, dif_neg (by omega), Lib.decDigits, dif_pos (by omega)]
  rfl
end Go.Proofs.YtpkmfckifnomeaaDoor


namespace Go.Proofs.YtpkmfckifnomeaaDoor
open Go.RowKit

open Go.Lib (TabIs pow10Tab)
def kA : ByteArray := ⟨#[97]⟩
def v5 : ByteArray := ⟨#[53]⟩
def nA : ByteArray := ⟨#[]⟩
def u1 : En := ⟨kA, 1, 0, v5, 1⟩
def u2 : En := ⟨kA, 1, 0, ⟨#[49, 53]⟩, 2⟩
def u7 : En := ⟨kA, 1, 110, v5, 7⟩
def s1 : Rq := ⟨3, 1, 0, 1, 0, 0, false, v5⟩
def s7 : Rq := ⟨3, 1, 10, 1, 0, 0, false, v5⟩
theorem run1 : q1 s1 kA 0 1 [] = kpt (ab 2) u1 ∧ stp s1 kA 0 1 [] = [u1] := by
  have e : q1 s1 kA 0 1 [] = kpt (ab 2) u1 := by unfold q1; rw [nxt_3 rfl]; rfl
  exact ⟨e, by unfold stp; rw [e]; rfl⟩
theorem liv1 : liv [u1] kA 0 = (u1, true) := by kernel_rfl
theorem liv2 : liv [u2] kA 0 = (u2, true) := by kernel_rfl
theorem cou1 : cou true u1 true 10 2 = kpt ⟨8, 15, nA⟩ u2 := by
  have e : cnt true (nv 18446744073709551615 (L u1.val)) 10 = 15 := by kernel_rfl
  have d : S (Lib.decDigits 15) = ⟨#[49, 53]⟩ := by rw [dec_two 15 (by omega) (by omega)]; rfl
  unfold cou
  rw [if_neg (by simp), if_neg (by simp only [Bool.not_eq_false]; kernel_rfl), e, d]
  rfl
theorem run2 : q1 (ofq 10 nA 10) kA 0 2 [u1] = kpt ⟨8, 15, nA⟩ u2 ∧ stp (ofq 10 nA 10) kA 0 2 [u1] = [u2] := by
  have e : q1 (ofq 10 nA 10) kA 0 2 [u1] = kpt ⟨8, 15, nA⟩ u2 := by unfold q1; rw [liv1, nxt_10 rfl]; exact cou1
  exact ⟨e, by unfold stp; rw [e]; rfl⟩
theorem run3 : fnd [u2] 0 [kA] = [u2] := by kernel_rfl
theorem run4 : q1 (ofq 4 nA 0) kA 0 4 [u2] = tld (ab 3) ∧ stp (ofq 4 nA 0) kA 0 4 [u2] = [u2] := by
  have e : q1 (ofq 4 nA 0) kA 0 4 [u2] = tld (ab 3) := by unfold q1; rw [liv2, nxt_4 rfl]; rfl
  exact ⟨e, by unfold stp; rw [e]; rfl⟩
theorem run5 : q1 (ofq 9 nA 0) kA 0 5 [u2] = (ab 6, e0, false, true) ∧ stp (ofq 9 nA 0) kA 0 5 [u2] = [] := by
  have e : q1 (ofq 9 nA 0) kA 0 5 [u2] = (ab 6, e0, false, true) := by unfold q1; rw [liv2, nxt_9 rfl]; rfl
  exact ⟨e, by unfold stp; rw [e]; rfl⟩
theorem run6 : fnd [] 0 [kA] = [] := by kernel_rfl
theorem run7 : q1 s7 kA 100 7 [] = kpt (ab 2) u7 ∧ stp s7 kA 100 7 [] = [u7] := by
  have e : q1 s7 kA 100 7 [] = kpt (ab 2) u7 := by unfold q1; rw [nxt_3 rfl]; rfl
  exact ⟨e, by unfold stp; rw [e]; rfl⟩
theorem run8 : fnd [u7] 109 [kA] = [u7] := by kernel_rfl
theorem run9 : fnd [u7] 110 [kA] = [] := by kernel_rfl
end Go.Proofs.YtpkmfckifnomeaaDoor
