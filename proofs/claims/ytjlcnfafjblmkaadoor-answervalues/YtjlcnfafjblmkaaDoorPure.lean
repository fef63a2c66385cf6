/-
  WHAT IS SAID OF AN ANSWER, as lists of bytes.
-/
import Derived.Test.YtjlcnfafjblmkaaDoorStr
import Derived.Lib.Join
import Derived.Lib.ItoaNum
namespace Go.Proofs.YtjlcnfafjblmkaaDoor
open Go.RowKit Go.Lib

/-- A number's digits; of one below nought, those of nought. -/
def dg (n : Int) : B := decDigits n.toNat
/-- Words as a line. -/
def ln (ws : List B) : B := Lib.join ws [32] ++ [13, 10]
/-- What was found. -/
structure Fd where
  key : ByteArray
  fl : Int
  val : ByteArray
  cas : Int
def Fd.cs (f : Fd) : List Value := [.string f.key, .int .i64 f.fl, .string f.val, .int .i64 f.cas]
def Fd.v (f : Fd) : Value := .agg f.cs.toArray
/-- The words of a value's first line. -/
def hd (g : Bool) (f : Fd) : List B := [[86, 65, 76, 85, 69], L f.key, dg f.fl, dg (f.val.size : Int)] ++ if g then [dg f.cas] else []
/-- One value's lines. -/
def vl (g : Bool) (f : Fd) : B := ln (hd g f) ++ (L f.val ++ [13, 10])
def vls (g : Bool) : List Fd → B
  | [] => []
  | f :: fs => vl g f ++ vls g fs
theorem vls_app (g : Bool) (a b : List Fd) : vls g (a ++ b) = vls g a ++ vls g b := by
  induction a with
  | nil => rfl
  | cons f a ih => simp only [List.cons_append, vls, ih, List.append_assoc]
def END : B := [69, 78, 68]
def vals (g : Bool) (fs : List Fd) : B := vls g fs ++ ln [END]
/-- The counts' names. -/
def nm : Nat → B
  | 0 => [115, 108, 111, 116, 115, 95, 117, 112]
  | 1 => [99, 109, 100, 95, 103, 101, 116]
  | 2 => [99, 109, 100, 95, 115, 101, 116]
  | _ => [103, 101, 116, 95, 104, 105, 116, 115]
def stl (i : Nat) (n : Int) : B := ln [[83, 84, 65, 84], nm i, dg n]
/-- The first n counts' lines. -/
def sts (f : Nat → Int) : Nat → B
  | 0 => []
  | n + 1 => sts f n ++ stl n (f n)
def stats (f : Nat → Int) : B := sts f 4 ++ ln [END]
structure An where
  kind : Int
  fs : List Fd
  gets : Bool
  num : Nat
  text : ByteArray
  s0 : Int
  s1 : Int
  s2 : Int
  s3 : Int
def four (a b c d : Int) : Nat → Int
  | 0 => a
  | 1 => b
  | 2 => c
  | _ => d
def An.v (x : An) (a : Option Addr) (cap : Nat) : Value := .agg #[.int .i64 x.kind, .slice a x.fs.length cap, .bool x.gets, .int .u64 (x.num : Int), .string x.text, .int .i64 x.s0, .int .i64 x.s1, .int .i64 x.s2, .int .i64 x.s3]
/-- What is said. -/
def txt (x : An) : B :=
  if x.kind = 1 then vals x.gets x.fs
  else if x.kind = 2 then ln [[83, 84, 79, 82, 69, 68]]
  else if x.kind = 3 then ln [[78, 79, 84, 95, 83, 84, 79, 82, 69, 68]]
  else if x.kind = 4 then ln [[69, 88, 73, 83, 84, 83]]
  else if x.kind = 5 then ln [[78, 79, 84, 95, 70, 79, 85, 78, 68]]
  else if x.kind = 6 then ln [[68, 69, 76, 69, 84, 69, 68]]
  else if x.kind = 7 then ln [[84, 79, 85, 67, 72, 69, 68]]
  else if x.kind = 8 then ln [decDigits x.num]
  else if x.kind = 9 then ln [[79, 75]]
  else if x.kind = 10 then ln [[86, 69, 82, 83, 73, 79, 78], [100, 101, 112, 111, 116]]
  else if x.kind = 11 then stats (four x.s0 x.s1 x.s2 x.s3)
  else if x.kind = 12 then ln [[69, 82, 82, 79, 82]]
  else if x.kind = 13 then ln [[67, 76, 73, 69, 78, 84, 95, 69, 82, 82, 79, 82], L x.text]
  else if x.kind = 14 then ln [[83, 69, 82, 86, 69, 82, 95, 69, 82, 82, 79, 82], L x.text]
  else []
/-- Sizes that stand. -/
structure FdOk (f : Fd) : Prop where
  key : f.key.size ≤ 3000
  val : f.val.size ≤ 3000
  fl : f.fl ≤ 9223372036854775807
  cas : f.cas ≤ 9223372036854775807
  fl0 : -9223372036854775808 ≤ f.fl
  cas0 : -9223372036854775808 ≤ f.cas
structure AnOk (x : An) : Prop where
  len : x.fs.length ≤ 8000
  fs : ∀ f ∈ x.fs, FdOk f
  text : x.text.size ≤ 3000
  num : x.num < 18446744073709551616
  s0 : x.s0 ≤ 9223372036854775807
  s1 : x.s1 ≤ 9223372036854775807
  s2 : x.s2 ≤ 9223372036854775807
  s3 : x.s3 ≤ 9223372036854775807
theorem dec_len {u : Nat} (h : u < 18446744073709551616) : 1 ≤ (decDigits u).length ∧ (decDigits u).length ≤ 20 := by
  rw [decDigits_length]
  by_cases h1 : 1 ≤ u
  · have := numDigits_eq u h1 h
    have h0 : 1 ≤ nDigits u := by rw [nDigits]; split <;> omega
    split at this <;> omega
  · rw [nDigits_small (by omega)]; omega
theorem dg_len {n : Int} (h : n ≤ 9223372036854775807) : 1 ≤ (dg n).length ∧ (dg n).length ≤ 20 := dec_len (by omega)
theorem ln_len (ws : List B) : (ln ws).length ≤ Lib.lens ws + ws.length + 2 := by
  unfold ln
  rw [List.length_append]
  cases ws with
  | nil => simp [Lib.join, List.intercalate]
  | cons x r =>
    rw [Lib.join_length]
    simp
    omega
theorem hd_lens {g : Bool} {f : Fd} (h : FdOk f) : Lib.lens (hd g f) + (hd g f).length ≤ 3100 ∧ ∀ x ∈ hd g f, x.length ≤ 3000 := by
  have h1 := dg_len h.fl
  have h2 := dg_len h.cas
  have h3 := dg_len (n := (f.val.size : Int)) (by have := h.val; omega)
  have h4 := h.key
  have h5 := L_len f.key
  cases g <;> simp [hd, Lib.lens] <;> omega
theorem vl_len {g : Bool} {f : Fd} (h : FdOk f) : (vl g f).length ≤ 6200 := by
  have h1 := (hd_lens (g := g) h).1
  have h2 := ln_len (hd g f)
  have h3 := h.val
  have h4 := L_len f.val
  unfold vl
  simp
  omega
theorem vls_len (g : Bool) : ∀ (fs : List Fd), (∀ f ∈ fs, FdOk f) → (vls g fs).length ≤ 6200 * fs.length
  | [], _ => by simp [vls]
  | f :: fs, h => by
    have h1 := vl_len (g := g) (h f (by simp))
    have h2 := vls_len g fs (fun x hx => h x (by simp [hx]))
    simp only [vls, List.length_append, List.length_cons]
    omega
end Go.Proofs.YtjlcnfafjblmkaaDoor
