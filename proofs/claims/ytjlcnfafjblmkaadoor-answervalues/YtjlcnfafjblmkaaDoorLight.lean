/-
  LIGHT of the law: an answer that is not too large. Quiet of the program.
-/
import Derived.Test.YtjlcnfafjblmkaaDoorRuns
namespace Go.Proofs.YtjlcnfafjblmkaaDoor
open Go.RowKit
open Go.Lib (TabIs pow10Tab OthersKept)

/-- Are so many bytes, and these, few? -/
def li (n : Nat) : List Fd → Bool
  | [] => decide (n ≤ 3000)
  | f :: fs => if 3000 < n + f.key.size + f.val.size + 1 then false else li (n + f.key.size + f.val.size + 1) fs
theorem li_ok : ∀ (fs : List Fd) (n : Nat), li n fs = true → n + fs.length ≤ 3000 ∧ ∀ f ∈ fs, f.key.size ≤ 3000 ∧ f.val.size ≤ 3000
  | [], n, h => ⟨by simpa [li] using h, fun f hf => by simp at hf⟩
  | f :: fs, n, h => by
    rw [li] at h
    split at h
    · cases h
    · rename_i hn
      obtain ⟨h1, h2⟩ := li_ok fs _ h
      refine ⟨by simp only [List.length_cons]; omega, fun x hx => ?_⟩
      rcases List.mem_cons.1 hx with rfl | hx
      · omega
      · exact h2 x hx
theorem li_big {n : Nat} (h : 3000 < n) : ∀ fs, li n fs = false
  | [] => by simp [li]; omega
  | f :: fs => by rw [li, if_pos (by omega)]
/-- What an answer's numbers and texts may be, when it came in. -/
structure AnIn (x : An) : Prop where
  fs : ∀ f ∈ x.fs, f.key.size ≤ 140737488355328 ∧ f.val.size ≤ 140737488355328 ∧ f.fl ≤ 9223372036854775807 ∧ f.cas ≤ 9223372036854775807 ∧ -9223372036854775808 ≤ f.fl ∧ -9223372036854775808 ≤ f.cas
  text : x.text.size ≤ 140737488355328
  num : x.num < 18446744073709551616
  s0 : x.s0 ≤ 9223372036854775807
  s1 : x.s1 ≤ 9223372036854775807
  s2 : x.s2 ≤ 9223372036854775807
  s3 : x.s3 ≤ 9223372036854775807
theorem AnIn.ok {x : An} (h : AnIn x) (hl : li x.text.size x.fs = true) : AnOk x := by
  obtain ⟨h1, h2⟩ := li_ok _ _ hl
  exact ⟨by omega, fun f hf => ⟨(h2 f hf).1, (h2 f hf).2, (h.fs f hf).2.2.1, (h.fs f hf).2.2.2.1, (h.fs f hf).2.2.2.2.1, (h.fs f hf).2.2.2.2.2⟩, by omega, h.num, h.s0, h.s1, h.s2, h.s3⟩
structure Lw (w wr : World) (A : Nat) (v : Value) : Prop where
  below : Below w.heap.size w wr
  cell : wr.cell? ⟨A, 1, none⟩ = some v
  lt : A < wr.heap.size
theorem Lw.drewN {w wr : World} {A : Nat} {v : Value} (h : Lw w wr A v) (k : Nat) : Lw w (wr.drewN k) A v := ⟨below_drewN h.below k, h.cell, h.lt⟩
set_option maxRecDepth 100000 in
set_option maxHeartbeats 1000000 in
theorem light_walk (fs : List Fd) (kind : Int) (g : Bool) (num : Nat) (text : ByteArray) (s0 s1 s2 s3 : Int) (a : Option Addr) (n cap : Nat) (w : World) (hn : fs.length = n) (hnn : n ≤ 9223372036854775807) (hF : FdF w a fs) (hb : ∀ f ∈ fs, f.key.size ≤ 140737488355328 ∧ f.val.size ≤ 140737488355328) (ht : text.size ≤ 140737488355328) :
    Calls Tryd.prog 8 #[.agg #[.int .i64 kind, .slice a n cap, .bool g, .int .u64 (num : Int), .string text, .int .i64 s0, .int .i64 s1, .int .i64 s2, .int .i64 s3]] w fun e w' => e = .returned (.bool (li text.size fs)) ∧ Below w.heap.size w w' := by
  have HF := Lib.hid hF
  have HO := Lib.hid hb
  have HN := Lib.hid hn
  clear hF hb hn
  go_enter Tryd.func8, Tryd.ntmps8
  go_wp2_with fail
  have HL : Hid (Lw w (w.alloc (.cells #[.int .i64 kind, .slice a n cap, .bool g, .int .u64 (num : Int), .string text, .int .i64 s0, .int .i64 s1, .int .i64 s2, .int .i64 s3] 28)) w.heap.size (.slice a n cap)) := Lib.hid ⟨below_alloc _ _, by rw [World.cell?_alloc_new]; rfl, by simp⟩
  obtain ⟨W1, hW1⟩ : ∃ W, w.alloc (.cells #[.int .i64 kind, .slice a n cap, .bool g, .int .u64 (num : Int), .string text, .int .i64 s0, .int .i64 s1, .int .i64 s2, .int .i64 s3] 28) = W := ⟨_, rfl⟩
  obtain ⟨A, hA⟩ : ∃ A, w.heap.size = A := ⟨_, rfl⟩
  rw [hW1, hA] at HL
  rw [hW1, hA]
  clear hW1 hA
  go_loopw [3, 4] (fun mv iv wr => ∃ i m : Nat, i ≤ n ∧ m ≤ 140737488355328 ∧ mv = .int .i64 (m : Int) ∧ iv = .int .i64 (i : Int) ∧ Hid (li text.size fs = li m (fs.drop i)) ∧ Hid (Lw w wr A (.slice a n cap))) (fun _ iv _ => n - (intOf iv).toNat)
  case atStart => exact ⟨0, text.size, by omega, ht, rfl, rfl, Lib.hid rfl, HL⟩
  case round =>
    clear HL
    obtain ⟨i, m, hi, hm, rfl, rfl, HE, HL⟩ := hrel
    have cA := HL.out.cell
    by_cases hlt : i < n
    · have h1 : (i : Int) < (n : Int) := by omega
      obtain ⟨f, hf⟩ : ∃ f, fs[i]? = some f := ⟨_, List.getElem?_eq_getElem (by rw [HN.out]; exact hlt)⟩
      have HD : Hid (fs.drop i = f :: fs.drop (i + 1)) := Lib.hid (by
        obtain ⟨x1, x2⟩ := List.getElem?_eq_some_iff.1 hf
        rw [← x2]; exact List.drop_eq_getElem_cons x1)
      obtain ⟨zk, zv⟩ := HO.out f (List.mem_of_getElem? hf)
      obtain ⟨p, off, rfl, c0, c1, c2, c3⟩ : ∃ p off, a = some ⟨p, off, none⟩ ∧ wr.cell? ⟨p, off + i * 4, none⟩ = some (.string f.key) ∧ wr.cell? ⟨p, off + i * 4 + 1, none⟩ = some (.int .i64 f.fl) ∧ wr.cell? ⟨p, off + i * 4 + 2, none⟩ = some (.string f.val) ∧ wr.cell? ⟨p, off + i * 4 + 3, none⟩ = some (.int .i64 f.cas) := by
        rcases HF.out.below rfl HL.out.below with h | ⟨p, off, h1, h2, h3⟩
        · rw [h] at hf; simp at hf
        · exact ⟨p, off, h1, h3 i f hf⟩
      clear hf c1 c3
      obtain ⟨fk, hfk⟩ : ∃ s, f.key = s := ⟨_, rfl⟩
      obtain ⟨fv, hfv⟩ : ∃ s, f.val = s := ⟨_, rfl⟩
      rw [hfk] at zk c0
      rw [hfv] at zv c2
      have HFK := Lib.hid hfk
      have HFV := Lib.hid hfv
      clear hfk hfv
      go_wp2_with fail
      go_quiet (fail)
      have HLq : Hid (Lw w (wr.drewN nq) A (.slice (some ⟨p, off, none⟩) n cap)) := Lib.hid (HL.out.drewN nq)
      obtain ⟨M, hM⟩ : ∃ M : Nat, (m : Int) + (fk.size : Int) + (fv.size : Int) + 1 = (M : Int) := ⟨m + fk.size + fv.size + 1, by omega⟩
      have hM2 : M = m + fk.size + fv.size + 1 := by omega
      rw [hM]
      have HM := Lib.hid hM2
      clear hM HL cA c0 c2
      by_cases hbig : 3000 < M
      · have g1 : (3000 : Int) < (M : Int) := by omega
        clear hM2
        go_wp2_with fail
        have e : li text.size fs = false := by
          rw [HE.out, HD.out, li, HFK.out, HFV.out, if_pos (by have := HM.out; omega)]
        rw [e]
        go_ret
        exact ⟨rfl, HLq.out.below⟩
      · have g1 : decide ((3000 : Int) < (M : Int)) = false := decide_eq_false (by omega)
        have hMb : M ≤ 3000 := by omega
        clear hM2
        go_wp2_with fail
        exact ⟨⟨i + 1, M, by omega, by omega, rfl, by go_num, Lib.hid (by
          rw [HE.out, HD.out, li, HFK.out, HFV.out, if_neg (by have := HM.out; omega), ← HM.out]), HLq⟩, by simp [intOf]; omega⟩
    · have h1 : decide ((i : Int) < (n : Int)) = false := decide_eq_false (by omega)
      obtain rfl : i = n := by omega
      go_wp2_with fail
      have e : li text.size fs = decide ((m : Int) ≤ 3000) := by
        rw [HE.out, List.drop_of_length_le (by rw [HN.out]; omega), li]
        by_cases h : m ≤ 3000
        · rw [decide_eq_true h, decide_eq_true (by omega)]
        · rw [decide_eq_false h, decide_eq_false (by omega)]
      rw [e]
      go_ret
      exact ⟨rfl, HL.out.below⟩
theorem light_any (x : An) (a : Option Addr) (cap : Nat) (w : World) (hn : x.fs.length ≤ 9223372036854775807) (hF : FdF w a x.fs) (hx : AnIn x) :
    Calls Tryd.prog 8 #[x.v a cap] w fun e w' => e = .returned (.bool (li x.text.size x.fs)) ∧ Below w.heap.size w w' :=
  light_walk x.fs x.kind x.gets x.num x.text x.s0 x.s1 x.s2 x.s3 a x.fs.length cap w rfl hn hF (fun f hf => ⟨(hx.fs f hf).1, (hx.fs f hf).2.1⟩) hx.text
end Go.Proofs.YtjlcnfafjblmkaaDoor
