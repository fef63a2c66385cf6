/-
  WHAT NEXT COMES TO, plainly.
-/
import Derived.Test.YtpkmfckifnomeaaDoorNx1
namespace Go.Proofs.YtpkmfckifnomeaaDoor
open Go.RowKit

def tooLarge : ByteArray := ⟨#[111, 98, 106, 101, 99, 116, 32, 116, 111, 111, 32, 108, 97, 114, 103, 101, 32, 102, 111, 114, 32, 99, 97, 99, 104, 101]⟩
def noNumber : ByteArray := ⟨#[99, 97, 110, 110, 111, 116, 32, 105, 110, 99, 114, 101, 109, 101, 110, 116, 32, 111, 114, 32, 100, 101, 99, 114, 101, 109, 101, 110, 116, 32, 110, 111, 110, 45, 110, 117, 109, 101, 114, 105, 99, 32, 118, 97, 108, 117, 101]⟩
abbrev Q4 := Ab × En × Bool × Bool
def tld (a : Ab) : Q4 := (a, e0, false, false)
def kpt (a : Ab) (x : En) : Q4 := (a, x, true, false)
def joi (e : En) (there : Bool) (v : ByteArray) (ver : Int) : Q4 := if there = false then tld (ab 3) else if 1048576 < v.size then tld ⟨14, 0, tooLarge⟩ else kpt (ab 2) ⟨e.key, e.fl, e.dl, v, ver⟩
/-- The number behind it. -/
def cnt (up : Bool) (n d : Nat) : Nat := if up then (n + d) % 18446744073709551616 else n - min n d
def cou (up : Bool) (e : En) (there : Bool) (d : Nat) (ver : Int) : Q4 :=
  if there = false then tld (ab 5) else if nb 18446744073709551615 (L e.val) = false then tld ⟨13, 0, noNumber⟩ else
    kpt ⟨8, ((cnt up (nv 18446744073709551615 (L e.val)) d : Nat) : Int), ⟨#[]⟩⟩ ⟨e.key, e.fl, e.dl, S (Lib.decDigits (cnt up (nv 18446744073709551615 (L e.val)) d)), ver⟩
def fre (r : Rq) (e : En) (now ver : Int) : En := ⟨e.key, r.fl, dl r.exp now, r.data, ver⟩
def nxt (r : Rq) (e : En) (there : Bool) (now ver : Int) : Q4 :=
  if r.verb = 3 then kpt (ab 2) (fre r e now ver)
  else if r.verb = 4 then (if there = false then kpt (ab 2) (fre r e now ver) else tld (ab 3))
  else if r.verb = 5 then (if there = false then tld (ab 3) else kpt (ab 2) (fre r e now ver))
  else if r.verb = 6 then joi e there (e.val ++ r.data) ver
  else if r.verb = 7 then joi e there (r.data ++ e.val) ver
  else if r.verb = 8 then (if there = false then tld (ab 5) else if e.cas = r.cas then kpt (ab 2) (fre r e now ver) else tld (ab 4))
  else if r.verb = 9 then (if there = false then tld (ab 5) else (ab 6, e0, false, true))
  else if r.verb = 12 then (if there = false then tld (ab 5) else kpt (ab 7) ⟨e.key, e.fl, dl r.exp now, e.val, e.cas⟩)
  else if r.verb = 10 then cou true e there r.delta ver
  else if r.verb = 11 then cou false e there r.delta ver
  else tld (ab 0)
/-- What a call hands back that makes but new memory. -/
def OutQ (w : World) (q : Q4) (e : Ending) (w' : World) : Prop := Out w q.1.cs q.2.1.cs q.2.2.1 q.2.2.2 e w'
theorem cnt_lt (up : Bool) (n d : Nat) (hn : n < 18446744073709551616) : cnt up n d < 18446744073709551616 := by
  unfold cnt; split <;> omega
end Go.Proofs.YtpkmfckifnomeaaDoor
