/-
  NEW of a slab.
-/
import Derived.Test.YtbflcnghpkmcoaaSlab
namespace Go.Proofs.Ytbflcnghpkmcoaa
open Go.RowKit

/-- The cells of classes without pages. -/
def ncl (j : Nat) : List Value := (List.range j).flatMap fun i => [.int .i64 ((sz i : Nat) : Int), .slice none 0 0, .slice none 0 0]
theorem ncl_succ (j : Nat) : ncl (j + 1) = ncl j ++ [.int .i64 ((sz j : Nat) : Int), .slice none 0 0, .slice none 0 0] := by simp [ncl, List.range_succ]
theorem ncl_length : ∀ j, (ncl j).length = j * 3
  | 0 => rfl
  | j + 1 => by rw [ncl_succ, List.length_append, ncl_length j]; simp; omega
theorem ncl_at : ∀ (n i : Nat), i < n → (ncl n)[i * 3]? = some (.int .i64 ((sz i : Nat) : Int)) ∧ (ncl n)[i * 3 + 1]? = some (.slice none 0 0) ∧ (ncl n)[i * 3 + 2]? = some (.slice none 0 0)
  | 0, i, h => by omega
  | n + 1, i, h => by
    rw [ncl_succ]
    have hl := ncl_length n
    by_cases e : i = n
    · subst e
      rw [List.getElem?_append_right (by omega), List.getElem?_append_right (by omega), List.getElem?_append_right (by omega), hl]
      rw [show i * 3 - i * 3 = 0 by omega, show i * 3 + 1 - i * 3 = 1 by omega, show i * 3 + 2 - i * 3 = 2 by omega]
      exact ⟨rfl, rfl, rfl⟩
    · rw [List.getElem?_append_left (by omega), List.getElem?_append_left (by omega), List.getElem?_append_left (by omega)]
      exact ncl_at n i (by omega)
theorem under100 : Try.prog.underlying 100 = some (.slice 105) := by kernel_rfl
theorem info105 : (Try.prog.info? 105).map (fun i => (i.zero, i.size, i.bytes)) = some (some (.agg #[.int .i64 0, .slice none 0 0, .slice none 0 0]), 3, 56) := by kernel_rfl
/-- What turns marks that none of the old blocks has turns no old block. -/
theorem Fr.fresh {T U : Nat × Nat → Prop} {o1 o2 o3 : (Nat → Nat × Nat)} {w1 w2 w3 : World} (h : Fr U o1 o2 w1 w2) (k : Fr T o2 o3 w2 w3) (hf : ∀ b, b < w1.heap.size → ¬ T (o1 b)) : Fr U o1 o3 w1 w3 :=
  ⟨k.os.trans h.os, k.tape.trans h.tape, k.output.trans h.output, Nat.le_trans h.size k.size,
    fun b hb => (k.lab b (Nat.lt_of_lt_of_le hb h.size)).trans (h.lab b hb),
    fun b hb ht => (k.block b (Nat.lt_of_lt_of_le hb h.size) (by rw [h.lab b hb]; exact hf b hb)).trans (h.block b hb ht)⟩
/-- Are the arguments of New right? -/
def rightN (pages page : Int) : Prop := 1 ≤ pages ∧ pages ≤ 64 ∧ 64 ≤ page ∧ page ≤ 65536
set_option maxRecDepth 100000 in
theorem new_no (pages page : Int) (h : ¬ rightN pages page) (w : World) :
    Calls Try.prog 27 #[.int .i64 pages, .int .i64 page] w fun e w' => e = .returned (.tuple #[.pointer none, .int .i64 1]) ∧ w = w' := by
  have hc : pages < 1 ∨ (1 ≤ pages ∧ 64 < pages) ∨ (1 ≤ pages ∧ pages ≤ 64 ∧ page < 64) ∨ (1 ≤ pages ∧ pages ≤ 64 ∧ 64 ≤ page ∧ 65536 < page) := by unfold rightN at h; omega
  clear h
  rcases hc with h1 | ⟨h1, h2⟩ | ⟨h1, h2, h3⟩ | ⟨h1, h2, h3, h4⟩
  · go_enter Try.func27, Try.ntmps27
    go_wp2_with fail
    go_ret2
    exact ⟨rfl, rfl⟩
  · have j1 : decide (pages < 1) = false := by simp; omega
    go_enter Try.func27, Try.ntmps27
    go_wp2_with fail
    go_ret2
    exact ⟨rfl, rfl⟩
  · have j1 : decide (pages < 1) = false := by simp; omega
    have j2 : decide (64 < pages) = false := by simp; omega
    go_enter Try.func27, Try.ntmps27
    go_wp2_with fail
    go_ret2
    exact ⟨rfl, rfl⟩
  · have j1 : decide (pages < 1) = false := by simp; omega
    have j2 : decide (64 < pages) = false := by simp; omega
    have j3 : decide (page < 64) = false := by simp; omega
    go_enter Try.func27, Try.ntmps27
    go_wp2_with fail
    go_ret2
    exact ⟨rfl, rfl⟩
/-- What New leaves. -/
def NewP (w : World) (o : (Nat → Nat × Nat)) (x pages page : Nat) (w' : World) (S : Nat) : Prop := ∃ o' n, IsSlab w' o' x S (St.new pages page n) ∧ Fr (fun _ => False) o o' w w'
set_option maxRecDepth 100000 in
set_option maxHeartbeats 1000000 in
theorem new_yes (x pages page : Nat) (P Q : Int) (hP : P = (pages : Int)) (hQ : Q = (page : Int)) (p1 : 1 ≤ pages) (p2 : pages ≤ 64) (g1 : 64 ≤ page) (g2 : page ≤ 65536) (w : World) (o : (Nat → Nat × Nat)) (hfr : ∀ b, b < w.heap.size → (o b).1 ≠ x) :
    Calls Try.prog 27 #[.int .i64 P, .int .i64 Q] w fun e w' => ∃ S, e = .returned (.tuple #[.pointer (some ⟨S, 0, none⟩), .int .i64 0]) ∧ NewP w o x pages page w' S := by
  subst hP hQ
  have HFR : Hid (∀ b, b < w.heap.size → (o b).1 ≠ x) := hfr
  clear hfr
  have j1 : decide ((pages : Int) < 1) = false := by simp; omega
  have j2 : decide ((64 : Int) < (pages : Int)) = false := by simp; omega
  have j3 : decide ((page : Int) < 64) = false := by simp; omega
  have j4 : decide ((65536 : Int) < (page : Int)) = false := by simp; omega
  go_enter Try.func27, Try.ntmps27
  go_wp2_with fail
  obtain ⟨S, hS⟩ : ∃ S, S = w.heap.size := ⟨_, rfl⟩
  obtain ⟨w0, hw0⟩ : ∃ w0, w0 = w.alloc (.cells #[.int .i64 (page : Int), .int .i64 (pages : Int), .int .i64 (pages : Int), .slice none 0 0] 102) := ⟨_, rfl⟩
  have F0 : Hid (Fr (fun _ => False) o (lab o S (x, 0)) w w0) := by rw [hw0, hS]; exact Fr.new _ o w _ _
  have oS : Hid (lab o S (x, 0) S = (x, 0)) := lab_same _ _ _
  have s0 : Hid (w0.cell? ⟨S, 0, none⟩ = some (.int .i64 (page : Int))) := by show _ = _; rw [hw0, hS, World.cell?_alloc_new]; rfl
  have s1 : Hid (w0.cell? ⟨S, 1, none⟩ = some (.int .i64 (pages : Int))) := by show _ = _; rw [hw0, hS, World.cell?_alloc_new]; rfl
  have s2 : Hid (w0.cell? ⟨S, 2, none⟩ = some (.int .i64 (pages : Int))) := by show _ = _; rw [hw0, hS, World.cell?_alloc_new]; rfl
  have s3 : Hid (w0.cell? ⟨S, 3, none⟩ = some (.slice none 0 0)) := by show _ = _; rw [hw0, hS, World.cell?_alloc_new]; rfl
  have sz' : Hid (∀ j, w0.frozen? ⟨S, j, none⟩ = false) := fun j => by rw [hw0, hS]; exact World.frozen?_alloc_new _ _ _ _
  have HS : Hid (S = w.heap.size) := hS
  rw [← hw0, ← hS]
  clear hw0 hS
  go_loopw [7] (fun y wr => ∃ (j : Nat) (o1 : (Nat → Nat × Nat)) (a : Option Addr) (c : Nat), y = .int .i64 ((sz j : Nat) : Int) ∧ j ≤ 11 ∧ sz j ≤ 131072 ∧ Hid (∀ i, i < j → sz i ≤ page) ∧ Hid (OwnK wr o1 (x, 1) 3 (.slice a j c) j (ncl j)) ∧ Hid (o1 S = (x, 0)) ∧
    Hid (wr.cell? ⟨S, 0, none⟩ = some (.int .i64 (page : Int))) ∧ Hid (wr.cell? ⟨S, 1, none⟩ = some (.int .i64 (pages : Int))) ∧ Hid (wr.cell? ⟨S, 2, none⟩ = some (.int .i64 (pages : Int))) ∧ Hid (wr.cell? ⟨S, 3, none⟩ = some (.slice a j c)) ∧ Hid (∀ j, wr.frozen? ⟨S, j, none⟩ = false) ∧ Hid (Fr (fun _ => False) o o1 w wr)) (fun y _ => 200000 - (intOf y).toNat)
  case atStart => exact ⟨0, lab o S (x, 0), none, 0, rfl, by omega, by decide, fun i hi => by omega, OwnK.nil _ _ _ _, oS, s0, s1, s2, s3, sz', F0⟩
  case round =>
    clear s0 s1 s2 s3 sz' F0 oS
    obtain ⟨j, o1, a, c, rfl, hj, hsz, HJ, OK, oS, S0, S1, S2, S3, SZ, FF⟩ := hrel
    have hsp := sz_pos j
    by_cases hle : sz j ≤ page
    · have k1 : ((sz j : Nat) : Int) ≤ (page : Int) := by omega
      obtain ⟨v3, w3, o3, hrun, O3, F3⟩ := app_one 100 105 (.agg #[.int .i64 0, .slice none 0 0, .slice none 0 0]) 56 under100 info105 (by kernel_rfl) OK.out [.int .i64 ((sz j : Nat) : Int), .slice none 0 0, .slice none 0 0] rfl (fun x hx => by simp at hx; rcases hx with rfl | rfl | rfl <;> rfl) (by omega) (by omega)
      obtain ⟨a3, b3, rfl, _⟩ := O3.form
      have s3 := S3.out
      have sz3 := SZ.out 3
      have hSl : S < wr.heap.size := World.block_lt_of_cell? _ _ s3
      have nS : ¬ (o1 S = (x, 1)) := by rw [oS.out]; intro e; injection e with _ e; cases e
      have t3 := F3.cell s3 nS
      have tz3 := (F3.frozen (off := 3) hSl nS).trans sz3
      have HF3 : Hid (Fr (fun t => t = (x, 1)) o1 o3 wr w3) := F3
      have HO3 : Hid (OwnK w3 o3 (x, 1) 3 (.slice a3 (j + 1) b3) (j + 1) (ncl (j + 1))) := by show OwnK _ _ _ _ _ _ _; rw [ncl_succ]; exact O3
      clear F3 O3
      go_wp2_with (at_builtin; refine wpList_append_run rfl (.tmp 36) (.tmp 39) 100 100 rfl _ _ _ rfl rfl hrun ?_)
      have oS3 : o3 S = (x, 0) := (HF3.out.lab S hSl).trans oS.out
      have e2 : sz (j + 1) = 2 * sz j := sz_succ j
      have FS : Fr (fun t => t = (x, 0)) o3 o3 w3 (w3.setCell ⟨S, 3, none⟩ (.slice a3 (j + 1) b3)) := Fr.set (a := ⟨S, 3, none⟩) oS3 _
      have hj10 : j < 11 := by
        refine Nat.lt_of_not_le fun h => ?_
        have := sz_mono h
        have e : sz 11 = 131072 := rfl
        omega
      have ne : ∀ k, k ≠ 3 → (w3.setCell ⟨S, 3, none⟩ (.slice a3 (j + 1) b3)).cell? ⟨S, k, none⟩ = w3.cell? ⟨S, k, none⟩ := fun k hk => World.cell?_setCell_other _ _ _ _ (fun e => hk (by injection e with _ e; exact e.symm))
      refine ⟨⟨j + 1, o3, a3, b3, by congr 1; omega, by omega, by omega, fun i hi => ?_, HO3.out.fr FS (fun e => by injection e with _ e; cases e), oS3, ?_, ?_, ?_, World.cell?_setCell_same _ _ _ t3, fun k => ?_, ?_⟩, by simp [intOf]; omega⟩
      · by_cases e : i = j
        · subst e; exact hle
        · exact HJ.out i (by omega)
      · exact (ne 0 (by decide)).trans (HF3.out.cell S0.out nS)
      · exact (ne 1 (by decide)).trans (HF3.out.cell S1.out nS)
      · exact (ne 2 (by decide)).trans (HF3.out.cell S2.out nS)
      · rw [World.frozen?_setCell]; exact (HF3.out.frozen hSl nS).trans (SZ.out k)
      · exact (FF.out.fresh HF3.out (fun b hb e => HFR.out b hb (by rw [e]))).setNew (a := ⟨S, 3, none⟩) (by rw [← HS.out]; exact Nat.le_refl _) _
    · have k1 : decide (((sz j : Nat) : Int) ≤ (page : Int)) = false := by simp; omega
      go_wp2_with fail
      go_ret2
      have hn : ∀ i, i < j ↔ sz i ≤ page := fun i => ⟨HJ.out i, fun h => Nat.lt_of_not_le fun h2 => by have := sz_mono h2; omega⟩
      have j0 : 0 < j := (hn 0).2 (by have e : sz 0 = 64 := rfl; omega)
      obtain ⟨g, cap, e, h2, h3, h4, h5, h6, h7⟩ := OK.out.there j0
      refine ⟨S, rfl, o1, j, ⟨Ok.new p1 p2 g1 g2 hn, oS.out, S0.out, S1.out, S2.out, SZ.out 2, g, cap, fun _ => .slice none 0 0, fun _ => .slice none 0 0, h4, by show _ = some (Value.slice (some ⟨g, 0, none⟩) j cap); rw [← e]; exact S3.out, ?_⟩, FF.out⟩
      exact ⟨h2, fun i hi => h6 _ _ (ncl_at j i hi).1, fun i hi => h6 _ _ (ncl_at j i hi).2.1, fun i hi => h6 _ _ (ncl_at j i hi).2.2, fun i hi => (h7 _ (by have hi : i < j := hi; omega)).2, fun i hi => (h7 _ (by have hi : i < j := hi; omega)).2, fun i hi => OwnK.nil _ _ _ _, fun i hi => OwnK.nil _ _ _ _⟩
end Go.Proofs.Ytbflcnghpkmcoaa
