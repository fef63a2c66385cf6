/-
  THE LINES OF WHAT WAS FOUND: values of the program.
-/
import Derived.Test.YtjlcnfafjblmkaaDoorBld
import Derived.Test.YtjlcnfafjblmkaaDoorFmt
import Derived.Test.YtjlcnfafjblmkaaDoorMem
import Derived.Deep.RegionHeld3
namespace Go.Proofs.YtjlcnfafjblmkaaDoor
open Go.RowKit
open Go.Lib (TabIs pow10Tab OthersKept)

/-- What was found lies at the slice. -/
def FdF (w : World) (a : Option Addr) (fs : List Fd) : Prop := fs = [] ∨ ∃ p off, a = some ⟨p, off, none⟩ ∧ p < w.heap.size ∧ ∀ i f, fs[i]? = some f →
  w.cell? ⟨p, off + i * 4, none⟩ = some (.string f.key) ∧ w.cell? ⟨p, off + i * 4 + 1, none⟩ = some (.int .i64 f.fl) ∧ w.cell? ⟨p, off + i * 4 + 2, none⟩ = some (.string f.val) ∧ w.cell? ⟨p, off + i * 4 + 3, none⟩ = some (.int .i64 f.cas)
theorem FdF.below {w w' : World} {a : Option Addr} {fs : List Fd} {N : Nat} (h : FdF w a fs) (hN : N = w.heap.size) (hb : Below N w w') : FdF w' a fs := by
  subst hN
  rcases h with h | ⟨p, off, h1, h2, h3⟩
  · exact .inl h
  · refine .inr ⟨p, off, h1, Nat.lt_of_lt_of_le h2 hb.size, fun i f hf => ?_⟩
    obtain ⟨c0, c1, c2, c3⟩ := h3 i f hf
    have e := fun k => World.cell?_of_block (a := ⟨p, k, none⟩) (hb.block p h2)
    exact ⟨(e _).trans c0, (e _).trans c1, (e _).trans c2, (e _).trans c3⟩
theorem FdF.up {w w' : World} {a : Option Addr} {fs : List Fd} (h : FdF w a fs) (hb : Below w.heap.size w w') : FdF w' a fs := h.below rfl hb
/-- One of them in a variable of its own. -/
def FdAt (w : World) (A : Nat) (f : Fd) : Prop := w.heap[A]? = some (.cells #[.string f.key, .int .i64 f.fl, .string f.val, .int .i64 f.cas] 23)
theorem FdAt.lt {w : World} {A : Nat} {f : Fd} (h : FdAt w A f) : A < w.heap.size := (Array.getElem?_eq_some_iff.1 h).1
theorem FdAt.up {w w' : World} {A : Nat} {f : Fd} (h : FdAt w A f) (hb : Below w.heap.size w w') : FdAt w' A f := (hb.block A h.lt).trans h
theorem FdAt.kept {w w' : World} {A b : Nat} {f : Fd} (h : FdAt w A f) (hn : A ≠ b) (hk : OthersKept 5 (some b) w w') : FdAt w' A f :=
  hk A _ h (fun e => hn (Option.some.inj e)) (fun c fz e => by injection e with _ e _; exact absurd e (by decide))
theorem FdAt.cells {w : World} {A : Nat} {f : Fd} (h : FdAt w A f) : w.cell? ⟨A, 0, none⟩ = some (.string f.key) ∧ w.cell? ⟨A, 1, none⟩ = some (.int .i64 f.fl) ∧ w.cell? ⟨A, 2, none⟩ = some (.string f.val) ∧ w.cell? ⟨A, 3, none⟩ = some (.int .i64 f.cas) := by
  unfold FdAt at h
  unfold World.cell?
  rw [h]
  exact ⟨rfl, rfl, rfl, rfl⟩
theorem below_alloc (w : World) (ob : Obj) : Below w.heap.size w (w.alloc ob) := ⟨rfl, rfl, rfl, by simp, fun b hb => Below.heap_alloc _ _ _ hb⟩
/-- Words in new memory. -/
theorem Ws.new (w : World) (xs : List ByteArray) (vs : Array Value) (hv : vs = (xs.map Value.string).toArray) : Ws (w.alloc (.cells vs 9)) w.heap.size 0 xs := by
  subst hv
  refine ⟨by simp, fun j x hx => ?_⟩
  rw [World.cell?_alloc_new, Nat.zero_add, List.getElem?_toArray, List.getElem?_map, hx]
  rfl
theorem info9 : (Tryd.prog.info? 9).map (fun i => (i.zero, i.size, i.bytes)) = some (some (.string ⟨#[]⟩), 1, 16) := by kernel_rfl
theorem under33 : Tryd.prog.underlying 33 = some (.slice 9) := by kernel_rfl
/-- One word more behind words in new memory. -/
theorem Ws.more {w : World} (vs : Array Value) (xs : List ByteArray) (hv : vs = (xs.map Value.string).toArray) (hx : xs.length = 4) {W : World} (hW : Below (w.alloc (.cells vs 9)).heap.size (w.alloc (.cells vs 9)) W) (d : ByteArray) :
    ∃ q c w', (Builtin.append_ #[33, 33] 33 #[.slice (some ⟨w.heap.size, 0, none⟩) 4 4, .slice (some ⟨W.heap.size, 0, none⟩) 1 1]).run Tryd.prog (W.alloc (.cells #[.string d] 9)) = .ok (.slice (some ⟨q, 0, none⟩) 5 c) w' ∧ 5 ≤ c ∧ Ws w' q 0 (xs ++ [d]) ∧ Hid (Below w.heap.size w w') := by
  subst hv
  have h1 : ∀ u ∈ xs.map Value.string, u.oneCell' = true := fun u hu => by
    obtain ⟨x, _, rfl⟩ := List.mem_map.1 hu; rfl
  have o1 := own_new (w := w) (o := fun _ => (0, 0)) (t := (1, 1)) (k := 1) (n := 4) (cap := 4) (e := 9) (xs.map Value.string) #[] (by simp [hx]) h1 (Nat.le_refl _) (by unfold maxLen; omega) (by simp)
  rw [Array.append_empty] at o1
  have o2 := o1.fr (Fr.ofBelow (fun _ => False) _ hW) (fun x => x)
  obtain ⟨v', w', o', hr, h2, h3⟩ := app_one 33 9 (.string ⟨#[]⟩) 16 under33 info9 rfl o2 [.string d] rfl (by simp [Value.oneCell']) (by omega) (by omega)
  obtain ⟨g, cap, rfl, h4, h5, h6, h7, h8, _⟩ := h2.there (by omega)
  have hws : (w.alloc (.cells (xs.map Value.string).toArray 9)).heap.size = w.heap.size + 1 := by simp
  have hsz := hW.size
  have hold : ∀ b, b < w.heap.size → w'.heap[b]? = W.heap[b]? := fun b hb => h3.block b (by omega) (by
    rw [lab_other _ _ _ (by omega)]; decide)
  refine ⟨g, cap, w', hr, h6, ⟨h5, fun j x hj => ?_⟩, Lib.hid (((below_alloc w _).trans (hW.mono (by omega))).trans ⟨h3.os, h3.tape, h3.output, h3.size, hold⟩)⟩
  rw [Nat.zero_add]
  exact h8 j (.string x) (by
    have : (xs.map Value.string ++ [Value.string d]) = (xs ++ [d]).map Value.string := by simp
    rw [this, List.getElem?_map, hj]; rfl)
/-- Where the loop stands: what is in the builder. -/
structure Vw (w wr : World) (b : Nat) (l : B) : Prop where
  bld : IsB wr w.heap.size b l
  below : Below w.heap.size w wr
theorem Vw.up {w wr wr' : World} {b : Nat} {l : B} (h : Vw w wr b l) (hb : Below wr.heap.size wr wr') : Vw w wr' b l := ⟨h.bld.up hb, h.below.trans (hb.mono h.below.size)⟩
theorem Vw.write {w wr wr' : World} {b : Nat} {l l' : B} (h : Vw w wr b l) (h1 : IsB wr' w.heap.size b l') (hb : Below w.heap.size wr wr') : Vw w wr' b l' := ⟨h1, h.below.trans hb⟩
theorem Vw.ne {w wr : World} {b : Nat} {l : B} (h : Vw w wr b l) {A : Nat} (hA : wr.heap.size ≤ A) : A ≠ b := by have := h.bld.lt; omega
abbrev Tb (w : World) : Prop := TabIs Tryd.prog w "internal/strconv.uint64pow10" .u64 pow10Tab
theorem Vw.tab {w wr : World} {b : Nat} {l : B} (h : Vw w wr b l) (ht : Tb w) : Tb wr := tabIs_below ht h.below
theorem vls_step (g : Bool) (fs : List Fd) (i : Nat) (f : Fd) (h : fs[i]? = some f) : vls g (fs.take (i + 1)) = vls g (fs.take i) ++ ln (hd g f) ++ L f.val ++ [13, 10] := by
  rw [List.take_add_one, h, vls_app]
  simp only [Option.toList, vls, vl, List.append_nil, List.append_assoc]
theorem line_c {w : World} {q o c n : Nat} {xs : List ByteArray} {R : ByteArray} (h : Ws w q o xs) (hn : xs.length = n) (hc : n ≤ c) (hlen : Lib.lens (xs.map L) + n ≤ 100000) (hR : S (ln (xs.map L)) = R) :
    Calls Tryd.prog 12 #[.slice (some ⟨q, o, none⟩) n c] w fun e w' => e = .returned (.string R) ∧ Below w.heap.size w w' := by
  subst hR
  exact line_any h hn hc hlen
set_option maxRecDepth 100000 in
set_option maxHeartbeats 2000000 in
theorem values_any (g : Bool) (fs : List Fd) (a : Option Addr) (cap n : Nat) (hn : fs.length = n) (w : World) (hF : FdF w a fs) (hok : ∀ f ∈ fs, FdOk f) (hlen : n ≤ 8000) (ht : Tb w) :
    Calls Tryd.prog 11 #[.slice a n cap, .bool g] w fun e w' => e = .returned (.string (S (vals g fs))) ∧ Below w.heap.size w w' := by
  have HF := Lib.hid hF
  have HO := Lib.hid hok
  have HN := Lib.hid hn
  have HT := Lib.hid ht
  clear hF hok hn ht
  go_enter Tryd.func11, Tryd.ntmps11
  go_wp2_with fail
  have HV : Hid (Vw w (w.alloc (.cells #[.pointer none, .slice none 0 0] 47)) w.heap.size []) := Lib.hid ⟨IsB.new w, below_alloc _ _⟩
  obtain ⟨b, hb⟩ : ∃ b, w.heap.size = b := ⟨_, rfl⟩
  rw [hb]
  rw [hb] at HV
  clear hb
  go_loopw [11] (fun iv wr => ∃ i : Nat, i ≤ n ∧ iv = .int .i64 (i : Int) ∧ Hid (Vw w wr b (vls g (fs.take i)))) (fun iv _ => n - (intOf iv).toNat)
  case atStart => exact ⟨0, by omega, rfl, HV⟩
  case round =>
    clear HV
    obtain ⟨i, hi, rfl, HV⟩ := hrel
    have hvl : (vls g (fs.take i)).length ≤ 49600000 := by
      have h1 := vls_len g (fs.take i) (fun f hf => HO.out f (List.mem_of_mem_take hf))
      have h2 : (fs.take i).length ≤ 8000 := by rw [List.length_take, HN.out]; omega
      omega
    by_cases hlt : i < n
    · have h1 : (i : Int) < (n : Int) := by omega
      obtain ⟨f, hf⟩ : ∃ f, fs[i]? = some f := ⟨_, List.getElem?_eq_getElem (by rw [HN.out]; exact hlt)⟩
      have HFi := Lib.hid hf
      have HOf := Lib.hid (HO.out f (List.mem_of_getElem? hf))
      obtain ⟨p, off, rfl, c0, c1, c2, c3⟩ : ∃ p off, a = some ⟨p, off, none⟩ ∧ wr.cell? ⟨p, off + i * 4, none⟩ = some (.string f.key) ∧ wr.cell? ⟨p, off + i * 4 + 1, none⟩ = some (.int .i64 f.fl) ∧ wr.cell? ⟨p, off + i * 4 + 2, none⟩ = some (.string f.val) ∧ wr.cell? ⟨p, off + i * 4 + 3, none⟩ = some (.int .i64 f.cas) := by
        rcases HF.out.below rfl HV.out.below with h | ⟨p, off, h1, h2, h3⟩
        · rw [h] at hf; simp at hf
        · exact ⟨p, off, h1, h3 i f hf⟩
      clear hf
      go_wp2_with fail
      have HA : Hid (FdAt (wr.alloc (.cells #[.string f.key, .int .i64 f.fl, .string f.val, .int .i64 f.cas] 23)) wr.heap.size f) := Lib.hid (heap_alloc_new _ _)
      have HV2 : Hid (Vw w (wr.alloc (.cells #[.string f.key, .int .i64 f.fl, .string f.val, .int .i64 f.cas] 23)) b (vls g (fs.take i))) := Lib.hid (HV.out.up (below_alloc _ _))
      have HNE : Hid (wr.heap.size ≠ b) := Lib.hid (HV.out.ne (Nat.le_refl _))
      obtain ⟨A, hA⟩ : ∃ A, wr.heap.size = A := ⟨_, rfl⟩
      obtain ⟨W2, hW2⟩ : ∃ W, wr.alloc (.cells #[.string f.key, .int .i64 f.fl, .string f.val, .int .i64 f.cas] 23) = W := ⟨_, rfl⟩
      rw [hA, hW2] at HA
      rw [hW2] at HV2
      rw [hA] at HNE
      rw [hW2, hA]
      clear hA hW2 HV c0 c1 c2 c3
      have HS : Hid (∀ X, Below W2.heap.size W2 X → (X.cell? ⟨A, 0, none⟩ = some (.string f.key) ∧ X.cell? ⟨A, 1, none⟩ = some (.int .i64 f.fl) ∧ X.cell? ⟨A, 2, none⟩ = some (.string f.val))) := Lib.hid (fun X bX => ⟨(HA.out.up bX).cells.1, (HA.out.up bX).cells.2.1, (HA.out.up bX).cells.2.2.1⟩)
      have BD : Hid (Below W2.heap.size W2 W2.drew) := Lib.hid (below_drewN (Below.refl _ _) 1)
      have S0 := HS.out _ BD.out
      have zf := HOf.out.fl
      have zk := HOf.out.key
      have zw := HOf.out.val
      have zv : (f.val.size : Int) ≤ 9223372036854775807 := by omega
      have T0 : Hid (Tb W2.drew) := Lib.hid ((HV2.out.up BD.out).tab HT.out)
      go_region_held3 (fun w' => w'.cell? ⟨A, 0, none⟩ = some (.string f.key) ∧ w'.cell? ⟨A, 1, none⟩ = some (.int .i64 f.fl) ∧ w'.cell? ⟨A, 2, none⟩ = some (.string f.val))
        (first | with_reducible exact S0 | with_reducible exact S1 | with_reducible exact S2 | with_reducible exact S3)
        (first
          | (go_at_call 16; with_reducible refine (digits_any f.fl zf _ T0.out).mono ?_; rintro e w4 ⟨rfl, b4⟩; have B1 : Hid (Below W2.heap.size W2 w4) := Lib.hid (BD.out.trans (b4.mono BD.out.size)); have S1 := HS.out _ B1.out; have T1 : Hid (Tb w4) := Lib.hid ((HV2.out.up B1.out).tab HT.out); clear b4)
          | (go_at_call 16; with_reducible refine (digits_any (f.val.size : Int) zv _ T1.out).mono ?_; rintro e w5 ⟨rfl, b5⟩; have B2 : Hid (Below W2.heap.size W2 w5) := Lib.hid (B1.out.trans (b5.mono B1.out.size)); have S2 := HS.out _ B2.out; have S3 := HS.out _ (B2.out.trans ((below_alloc w5 (.cells #[.string ⟨#[86, 65, 76, 85, 69]⟩, .string f.key, .string (S (dg f.fl)), .string (S (dg (f.val.size : Int)))] 9)).mono B2.out.size)); clear b5))
      have HA5 : Hid (FdAt w5 A f) := Lib.hid (HA.out.up B2.out)
      have HV5 : Hid (Vw w w5 b (vls g (fs.take i))) := Lib.hid (HV2.out.up B2.out)
      have HA6 : Hid (FdAt (w5.alloc (.cells #[.string ⟨#[86, 65, 76, 85, 69]⟩, .string f.key, .string (S (dg f.fl)), .string (S (dg (f.val.size : Int)))] 9)) A f) := Lib.hid ((HA.out.up B2.out).up (below_alloc _ _))
      have HV6 : Hid (Vw w (w5.alloc (.cells #[.string ⟨#[86, 65, 76, 85, 69]⟩, .string f.key, .string (S (dg f.fl)), .string (S (dg (f.val.size : Int)))] 9)) b (vls g (fs.take i))) := Lib.hid ((HV2.out.up B2.out).up (below_alloc _ _))
      obtain ⟨R, hR⟩ : ∃ R, S (ln (hd g f)) = R := ⟨_, rfl⟩
      have zR : R.size ≤ 3200 := by
        rw [← hR, S_size]
        have := ln_len (hd g f)
        have := (hd_lens (g := g) HOf.out).1
        omega
      have HLN := Lib.hid (show Lib.lens (hd g f) + (hd g f).length ≤ 100000 by have := (hd_lens (g := g) HOf.out).1; omega)
      have HR := Lib.hid hR
      clear hR S0 S1 S2 S3 T0 T1 HS BD B1 HV2 HA
      cases g
      case false =>
        have HW : Hid (Ws (w5.alloc (.cells #[.string ⟨#[86, 65, 76, 85, 69]⟩, .string f.key, .string (S (dg f.fl)), .string (S (dg (f.val.size : Int)))] 9)) w5.heap.size 0 [⟨#[86, 65, 76, 85, 69]⟩, f.key, S (dg f.fl), S (dg (f.val.size : Int))]) := Lib.hid (Ws.new w5 [⟨#[86, 65, 76, 85, 69]⟩, f.key, S (dg f.fl), S (dg (f.val.size : Int))] _ rfl)
        clear B2
        go_wp2_with fail
        refine (line_c (n := 4) (R := R) HW.out rfl (Nat.le_refl _) HLN.out HR.out).mono ?_
        rintro e w7 ⟨rfl, b7⟩
        have HV7 : Hid (Vw w w7 b (vls false (fs.take i))) := Lib.hid (HV6.out.up b7)
        have HA7 : Hid (FdAt w7 A f) := Lib.hid (HA6.out.up b7)
        clear HV6 HA6 b7 HW
        go_wp2_with fail
        refine (write_any HV7.out.bld R (by omega)).mono ?_
        rintro e w8 ⟨rfl, I8, B8, K8⟩
        have HA8 : Hid (FdAt w8 A f) := Lib.hid (HA7.out.kept HNE.out K8)
        have HV8 : Hid (Vw w w8 b (vls false (fs.take i) ++ L R)) := Lib.hid (HV7.out.write I8 B8)
        obtain ⟨d0, d1, d2, d3⟩ := HA8.out.cells
        clear HV7 HA7 HA8 I8 B8 K8 d0 d1 d3
        go_wp2_with fail
        refine (write_any HV8.out.bld f.val (by rw [List.length_append, L_len]; omega)).mono ?_
        rintro e w9 ⟨rfl, I9, B9, _⟩
        have HV9 : Hid (Vw w w9 b (vls false (fs.take i) ++ L R ++ L f.val)) := Lib.hid (HV8.out.write I9 B9)
        clear HV8 I9 B9 d2
        go_wp2_with fail
        refine (write_any HV9.out.bld ⟨#[13, 10]⟩ (by rw [List.length_append, List.length_append, L_len, L_len]; show _ + 2 ≤ _; omega)).mono ?_
        rintro e w10 ⟨rfl, I10, B10, _⟩
        have HV10 : Hid (Vw w w10 b (vls false (fs.take (i + 1)))) := Lib.hid (by
          have h := HV9.out.write I10 B10
          rw [vls_step false fs i f HFi.out, ← L_S (ln (hd false f)), HR.out]
          exact h)
        clear HV9 I10 B10
        go_wp2_with fail
        exact ⟨⟨i + 1, by omega, by go_num, HV10⟩, by simp [intOf]; omega⟩
      case true =>
        obtain ⟨d0, d1, d2, d3⟩ := HA6.out.cells
        clear d0 d1 d2
        go_wp2_with fail
        refine (digits_any f.cas HOf.out.cas _ (HV6.out.tab HT.out)).mono ?_
        rintro e w6 ⟨rfl, b6⟩
        obtain ⟨q, c, w', hr, hc, hw, hbw⟩ := Ws.more (w := w5) #[.string ⟨#[86, 65, 76, 85, 69]⟩, .string f.key, .string (S (dg f.fl)), .string (S (dg (f.val.size : Int)))] [⟨#[86, 65, 76, 85, 69]⟩, f.key, S (dg f.fl), S (dg (f.val.size : Int))] rfl rfl b6 (S (dg f.cas))
        clear HA6 HV6 d3 b6
        have HA6 : Hid (FdAt w' A f) := Lib.hid (HA5.out.up hbw.out)
        have HV6 : Hid (Vw w w' b (vls true (fs.take i))) := Lib.hid (HV5.out.up hbw.out)
        have HW := Lib.hid hw
        clear hw hbw HA5 HV5
        go_wp2_with (at_builtin; refine wpList_append_run rfl (.tmp 26) (.tmp 30) 33 33 rfl _ _ _ rfl rfl hr ?_)
        refine (line_c (n := 5) (R := R) HW.out rfl hc HLN.out HR.out).mono ?_
        rintro e w7 ⟨rfl, b7⟩
        have HV7 : Hid (Vw w w7 b (vls true (fs.take i))) := Lib.hid (HV6.out.up b7)
        have HA7 : Hid (FdAt w7 A f) := Lib.hid (HA6.out.up b7)
        clear HV6 HA6 b7 HW
        go_wp2_with fail
        refine (write_any HV7.out.bld R (by omega)).mono ?_
        rintro e w8 ⟨rfl, I8, B8, K8⟩
        have HA8 : Hid (FdAt w8 A f) := Lib.hid (HA7.out.kept HNE.out K8)
        have HV8 : Hid (Vw w w8 b (vls true (fs.take i) ++ L R)) := Lib.hid (HV7.out.write I8 B8)
        obtain ⟨d0, d1, d2, d3⟩ := HA8.out.cells
        clear HV7 HA7 HA8 I8 B8 K8 d0 d1 d3
        go_wp2_with fail
        refine (write_any HV8.out.bld f.val (by rw [List.length_append, L_len]; omega)).mono ?_
        rintro e w9 ⟨rfl, I9, B9, _⟩
        have HV9 : Hid (Vw w w9 b (vls true (fs.take i) ++ L R ++ L f.val)) := Lib.hid (HV8.out.write I9 B9)
        clear HV8 I9 B9 d2
        go_wp2_with fail
        refine (write_any HV9.out.bld ⟨#[13, 10]⟩ (by rw [List.length_append, List.length_append, L_len, L_len]; show _ + 2 ≤ _; omega)).mono ?_
        rintro e w10 ⟨rfl, I10, B10, _⟩
        have HV10 : Hid (Vw w w10 b (vls true (fs.take (i + 1)))) := Lib.hid (by
          have h := HV9.out.write I10 B10
          rw [vls_step true fs i f HFi.out, ← L_S (ln (hd true f)), HR.out]
          exact h)
        clear HV9 I10 B10
        go_wp2_with fail
        exact ⟨⟨i + 1, by omega, by go_num, HV10⟩, by simp [intOf]; omega⟩
    · have h1 : decide ((i : Int) < (n : Int)) = false := decide_eq_false (by omega)
      obtain rfl : i = n := by omega
      go_wp2_with fail
      refine (line_c (n := 1) (c := 1) (R := ⟨#[69, 78, 68, 13, 10]⟩) (Ws.new wr [⟨#[69, 78, 68]⟩] _ rfl) rfl (by omega) (by decide) (by decide)).mono ?_
      rintro e w2 ⟨rfl, b2⟩
      have HV2 : Hid (Vw w w2 b (vls g (fs.take i))) := Lib.hid ((HV.out.up (below_alloc _ _)).up b2)
      clear HV b2
      go_wp2_with fail
      refine (write_any HV2.out.bld _ (by show _ + 5 ≤ _; omega)).mono ?_
      rintro e w3 ⟨rfl, I3, B3, _⟩
      have HV3 : Hid (Vw w w3 b (vals g fs)) := Lib.hid (by
        have h := HV2.out.write I3 B3
        rw [List.take_of_length_le (by rw [HN.out]; omega)] at h
        exact h)
      clear HV2 I3 B3
      go_wp2_with fail
      refine (string_any HV3.out.bld).mono ?_
      rintro e w4 ⟨rfl, b4⟩
      go_wp2_with fail
      go_ret
      exact ⟨rfl, HV3.out.below.trans b4⟩
end Go.Proofs.YtjlcnfafjblmkaaDoor
