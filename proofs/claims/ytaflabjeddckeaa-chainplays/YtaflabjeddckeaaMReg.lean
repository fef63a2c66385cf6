/-
  LISTS of calls, texts, numbers as cells; a chain and its two lists, and what is to be appended to each, in a region that draws.
-/
import Derived.Test.YtaflabjeddckeaaCut
namespace Go.Proofs.Ytaflabjeddckeaa
open Go.RowKit

def strc (l : List ByteArray) : List Value := l.map fun s => .string s
def intc (l : List Int) : List Value := l.map fun n => .int .i64 n
def askc (l : List AskD) : List Value := l.flatMap fun q => [.int .i64 q.K, .int .i64 q.N, .string q.S]
theorem strc_append (l m : List ByteArray) : strc (l ++ m) = strc l ++ strc m := by simp [strc]
theorem intc_append (l m : List Int) : intc (l ++ m) = intc l ++ intc m := by simp [intc]
theorem askc_append (l m : List AskD) : askc (l ++ m) = askc l ++ askc m := by simp [askc]
theorem strc_at (l : List ByteArray) (j : Nat) (d : ByteArray) (h : l[j]? = some d) : (strc l)[j]? = some (.string d) := by simp [strc, h]
theorem intc_at (l : List Int) (j : Nat) (d : Int) (h : l[j]? = some d) : (intc l)[j]? = some (.int .i64 d) := by simp [intc, h]
theorem askc_cons (q : AskD) (l : List AskD) : askc (q :: l) = .int .i64 q.K :: .int .i64 q.N :: .string q.S :: askc l := rfl
theorem askc_length : ∀ l : List AskD, (askc l).length = l.length * 3
  | [] => rfl
  | p :: l => by rw [askc_cons, List.length_cons, List.length_cons, List.length_cons, askc_length l, List.length_cons]; omega
theorem askc_one : ∀ (l : List AskD), ∀ u ∈ askc l, u.oneCell' = true
  | [], u, h => by cases h
  | p :: l, u, h => by
    rw [askc_cons, List.mem_cons, List.mem_cons, List.mem_cons] at h
    rcases h with rfl | rfl | rfl | h
    · rfl
    · rfl
    · rfl
    · exact askc_one l u h
theorem askc_at : ∀ (l : List AskD) (j : Nat) (q : AskD), l[j]? = some q → (askc l)[j * 3]? = some (.int .i64 q.K) ∧ (askc l)[j * 3 + 1]? = some (.int .i64 q.N) ∧ (askc l)[j * 3 + 2]? = some (.string q.S)
  | [], j, q, h => by simp at h
  | p :: l, 0, q, h => by simp at h; subst h; exact ⟨rfl, rfl, rfl⟩
  | p :: l, j + 1, q, h => by
    rw [askc_cons, show (j + 1) * 3 = j * 3 + 1 + 1 + 1 by omega]
    simp only [List.getElem?_cons_succ] at h ⊢
    exact askc_at l j q h
theorem askc_take : ∀ (l : List AskD) (i : Nat), (askc l).take (i * 3) = askc (l.take i)
  | [], i => by simp [askc]
  | p :: l, 0 => by simp [askc]
  | p :: l, i + 1 => by rw [askc_cons, show (i + 1) * 3 = i * 3 + 1 + 1 + 1 by omega, List.take_succ_cons, List.take_succ_cons, List.take_succ_cons, List.take_succ_cons, askc_cons, askc_take l i]
theorem strc_out (l : List ByteArray) (i : Nat) : (strc l).take (i * 1) ++ (strc l).drop ((i + 1) * 1) = strc (out l i) := by
  unfold out strc; rw [List.map_append, List.map_take, List.map_drop, Nat.mul_one, Nat.mul_one]
theorem intc_out (l : List Int) (i : Nat) : (intc l).take (i * 1) ++ (intc l).drop ((i + 1) * 1) = intc (out l i) := by
  unfold out intc; rw [List.map_append, List.map_take, List.map_drop, Nat.mul_one, Nat.mul_one]
theorem intc_set (l : List Int) (i : Nat) (v : Int) : (intc l).set i (.int .i64 v) = intc (l.set i v) := by
  unfold intc; rw [List.map_set]
theorem under45 : Try.prog.underlying 45 = some (.slice 9) := by kernel_rfl
theorem under46 : Try.prog.underlying 46 = some (.slice 3) := by kernel_rfl
theorem under32a : Try.prog.underlying 32 = some (.slice 37) := by kernel_rfl
theorem info9 : (Try.prog.info? 9).map (fun i => (i.zero, i.size, i.bytes)) = some (some (.string ⟨#[]⟩), 1, 16) := by kernel_rfl
theorem info3 : (Try.prog.info? 3).map (fun i => (i.zero, i.size, i.bytes)) = some (some (.int .i64 0), 1, 8) := by kernel_rfl
theorem info37 : (Try.prog.info? 37).map (fun i => (i.zero, i.size, i.bytes)) = some (some (.agg #[.int .i64 0, .int .i64 0, .string ⟨#[]⟩]), 3, 32) := by kernel_rfl
theorem elem45 : Try.prog.underlying 45 = some (.slice (Try.prog.elem 45)) := by kernel_rfl
theorem elem45' : Try.prog.elem 45 = 9 := by kernel_rfl
theorem elem46 : Try.prog.underlying 46 = some (.slice (Try.prog.elem 46)) := by kernel_rfl
theorem elem46' : Try.prog.elem 46 = 3 := by kernel_rfl
theorem elem32 : Try.prog.underlying 32 = some (.slice (Try.prog.elem 32)) := by kernel_rfl
theorem elem32' : Try.prog.elem 32 = 37 := by kernel_rfl
theorem size9' (w : World) : (sizeOf 9).run Try.prog w = .ok 1 w := by kernel_rfl
theorem size3' (w : World) : (sizeOf 3).run Try.prog w = .ok 1 w := by kernel_rfl
theorem size37' (w : World) : (sizeOf 37).run Try.prog w = .ok 3 w := by kernel_rfl
/-- Marks of the chain and of the three lists. -/
def TM (t : Nat × Nat) : Prop := t.1 = 1 ∨ t.1 = 2 ∨ t.1 = 3 ∨ t.1 = 4
theorem o0_TM (w : World) {o : Nat → Nat × Nat} {w' : World} (h : Fr TM o0 o w w') : Below w.heap.size w w' := h.below (Nat.le_refl _) (fun b _ e => by rcases e with e | e | e | e <;> cases e)
/-- The chain and the lists, and what is to be appended to each of the two, where it is there. -/
def MReg (w X : World) (C : Nat) (s : A) (kv : Value) (m : Nat) (ks : List ByteArray) (sa : Option Nat) (k : ByteArray) (nv : Value) (m' : Nat) (ns : List Int) (sb : Option Nat) (v : Int) (av : Value) (n : Nat) (L : List AskD) : Prop :=
  ∃ o, OwnK X o (2, 0) 1 kv m (strc ks) ∧ OwnK X o (3, 0) 1 nv m' (intc ns) ∧ OwnK X o (4, 0) 3 av n (askc L) ∧ IsChain X o 1 C s ∧ Fr TM o0 o w X ∧
    (∀ b, sa = some b → X.cell? ⟨b, 0, none⟩ = some (.string k) ∧ o b = (9, 0)) ∧ (∀ b, sb = some b → X.cell? ⟨b, 0, none⟩ = some (.int .i64 v) ∧ o b = (9, 0))
theorem MReg.mono {w X X' : World} {C : Nat} {s : A} {kv : Value} {m : Nat} {ks : List ByteArray} {sa : Option Nat} {k : ByteArray} {nv : Value} {m' : Nat} {ns : List Int} {sb : Option Nat} {v : Int} {av : Value} {n : Nat} {L : List AskD} (h : MReg w X C s kv m ks sa k nv m' ns sb v av n L) (hb : Below X.heap.size X X') : MReg w X' C s kv m ks sa k nv m' ns sb v av n L := by
  obtain ⟨o, h1, h2, h3, h4, h5, h6, h7⟩ := h
  exact ⟨o, h1.below hb, h2.below hb, h3.below hb, h4.below hb, h5.trans (Fr.ofBelow _ o hb), fun b e => ⟨cell_up hb (h6 b e).1, (h6 b e).2⟩, fun b e => ⟨cell_up hb (h7 b e).1, (h7 b e).2⟩⟩
theorem MReg.allA {w X : World} {C : Nat} {s : A} {kv : Value} {m : Nat} {ks : List ByteArray} {k : ByteArray} {nv : Value} {m' : Nat} {ns : List Int} {sb : Option Nat} {v : Int} {av : Value} {n : Nat} {L : List AskD} (h : MReg w X C s kv m ks none k nv m' ns sb v av n L) :
    MReg w (X.alloc (.cells #[.string k] 9)) C s kv m ks (some X.heap.size) k nv m' ns sb v av n L := by
  obtain ⟨o, h1, h2, h3, h4, h5, _, h7⟩ := h
  have f : ∀ U, Fr U o (lab o X.heap.size (9, 0)) X (X.alloc (.cells #[.string k] 9)) := fun U => Fr.new U o X _ _
  refine ⟨_, h1.fr (f (fun _ => False)) (fun x => x), h2.fr (f (fun _ => False)) (fun x => x), h3.fr (f (fun _ => False)) (fun x => x), h4.fr (f (fun _ => False)) (fun _ x => x), h5.trans (f _), fun b e => ?_, fun b e => ?_⟩
  · injection e with e; subst e
    exact ⟨by rw [World.cell?_alloc_new]; rfl, lab_same _ _ _⟩
  · have hb := World.block_lt_of_cell? _ _ (h7 b e).1
    exact ⟨(f (fun _ => False)).cell (h7 b e).1 (fun x => x), ((f (fun _ => False)).lab b hb).trans (h7 b e).2⟩
theorem MReg.allB {w X : World} {C : Nat} {s : A} {kv : Value} {m : Nat} {ks : List ByteArray} {sa : Option Nat} {k : ByteArray} {nv : Value} {m' : Nat} {ns : List Int} {v : Int} {av : Value} {n : Nat} {L : List AskD} (h : MReg w X C s kv m ks sa k nv m' ns none v av n L) :
    MReg w (X.alloc (.cells #[.int .i64 v] 3)) C s kv m ks sa k nv m' ns (some X.heap.size) v av n L := by
  obtain ⟨o, h1, h2, h3, h4, h5, h6, _⟩ := h
  have f : ∀ U, Fr U o (lab o X.heap.size (9, 0)) X (X.alloc (.cells #[.int .i64 v] 3)) := fun U => Fr.new U o X _ _
  refine ⟨_, h1.fr (f (fun _ => False)) (fun x => x), h2.fr (f (fun _ => False)) (fun x => x), h3.fr (f (fun _ => False)) (fun x => x), h4.fr (f (fun _ => False)) (fun _ x => x), h5.trans (f _), fun b e => ?_, fun b e => ?_⟩
  · have hb := World.block_lt_of_cell? _ _ (h6 b e).1
    exact ⟨(f (fun _ => False)).cell (h6 b e).1 (fun x => x), ((f (fun _ => False)).lab b hb).trans (h6 b e).2⟩
  · injection e with e; subst e
    exact ⟨by rw [World.cell?_alloc_new]; rfl, lab_same _ _ _⟩
theorem MReg.appA {w X : World} {C : Nat} {s : A} {kv : Value} {m : Nat} {ks : List ByteArray} {b : Nat} {k : ByteArray} {nv : Value} {m' : Nat} {ns : List Int} {sb : Option Nat} {v : Int} {av : Value} {n : Nat} {L : List AskD} (h : MReg w X C s kv m ks (some b) k nv m' ns sb v av n L) (hm : m ≤ 1000) :
    ∃ a c X', (Builtin.append_ #[45, 45] 45 #[kv, .slice (some ⟨b, 0, none⟩) 1 1]).run Try.prog X = .ok (.slice a (m + 1) c) X' ∧ MReg w X' C s (.slice a (m + 1) c) (m + 1) (ks ++ [k]) none k nv m' ns sb v av n L := by
  obtain ⟨o, h1, h2, h3, h4, h5, h6, h7⟩ := h
  obtain ⟨c0, ob⟩ := h6 b rfl
  have src : Src Try.prog 1 45 (.slice (some ⟨b, 0, none⟩) 1 1) 1 (strc [k]) X := by
    refine Src.ofSlice _ under45 _ 1 1 _ rfl (fun j u hu => ?_) (fun u hu => by simp [strc] at hu; rcases hu with rfl; rfl)
    have hj : j < 1 := by have := (List.getElem?_eq_some_iff.1 hu).1; simpa [strc] using this
    have e : (⟨b, 0, none⟩ : Addr).add j = ⟨b, j, none⟩ := by unfold Addr.add; split <;> simp_all
    rw [e]
    have : j = 0 := by omega
    subst this
    rw [c0]; exact hu
  obtain ⟨v', X', o', hr, O', F'⟩ := app_own 45 45 9 (.string ⟨#[]⟩) 16 under45 info9 (by kernel_rfl) h1 src (by omega) (by omega)
  obtain ⟨a, c, rfl, _⟩ := O'.form
  rw [← strc_append] at O'
  refine ⟨a, c, X', hr, o', O', h2.fr F' (fun e => by cases e), h3.fr F' (fun e => by cases e), h4.fr F' (fun _ e => by cases e), h5.trans (F'.mono (fun t e => .inr (.inl (by rw [e])))), (fun b e => by cases e), fun b e => ?_⟩
  have hb := World.block_lt_of_cell? _ _ (h7 b e).1
  exact ⟨F'.cell (h7 b e).1 (by rw [(h7 b e).2]; intro e; cases e), (F'.lab b hb).trans (h7 b e).2⟩
theorem MReg.appB {w X : World} {C : Nat} {s : A} {kv : Value} {m : Nat} {ks : List ByteArray} {sa : Option Nat} {b : Nat} {k : ByteArray} {nv : Value} {m' : Nat} {ns : List Int} {v : Int} {av : Value} {n : Nat} {L : List AskD} (h : MReg w X C s kv m ks sa k nv m' ns (some b) v av n L) (hm : m' ≤ 1000) :
    ∃ a c X', (Builtin.append_ #[46, 46] 46 #[nv, .slice (some ⟨b, 0, none⟩) 1 1]).run Try.prog X = .ok (.slice a (m' + 1) c) X' ∧ MReg w X' C s kv m ks sa k (.slice a (m' + 1) c) (m' + 1) (ns ++ [v]) none v av n L := by
  obtain ⟨o, h1, h2, h3, h4, h5, h6, h7⟩ := h
  obtain ⟨c0, ob⟩ := h7 b rfl
  have src : Src Try.prog 1 46 (.slice (some ⟨b, 0, none⟩) 1 1) 1 (intc [v]) X := by
    refine Src.ofSlice _ under46 _ 1 1 _ rfl (fun j u hu => ?_) (fun u hu => by simp [intc] at hu; rcases hu with rfl; rfl)
    have hj : j < 1 := by have := (List.getElem?_eq_some_iff.1 hu).1; simpa [intc] using this
    have e : (⟨b, 0, none⟩ : Addr).add j = ⟨b, j, none⟩ := by unfold Addr.add; split <;> simp_all
    rw [e]
    have : j = 0 := by omega
    subst this
    rw [c0]; exact hu
  obtain ⟨v', X', o', hr, O', F'⟩ := app_own 46 46 3 (.int .i64 0) 8 under46 info3 (by kernel_rfl) h2 src (by omega) (by omega)
  obtain ⟨a, c, rfl, _⟩ := O'.form
  rw [← intc_append] at O'
  refine ⟨a, c, X', hr, o', h1.fr F' (fun e => by cases e), O', h3.fr F' (fun e => by cases e), h4.fr F' (fun _ e => by cases e), h5.trans (F'.mono (fun t e => .inr (.inr (.inl (by rw [e]))))), fun b e => ?_, (fun b e => by cases e)⟩
  have hb := World.block_lt_of_cell? _ _ (h6 b e).1
  exact ⟨F'.cell (h6 b e).1 (by rw [(h6 b e).2]; intro e; cases e), (F'.lab b hb).trans (h6 b e).2⟩
/-- A list that came in, as what is appended. -/
theorem AskF.src {w : World} {a : Option Addr} {q : Nat → AskD} {n c : Nat} (h : AskF w a q n) (hc : a = none → n = 0) : Src Try.prog 3 32 (.slice a n c) n (askc ((List.range n).map q)) w := by
  cases a with
  | none =>
    have := hc rfl
    subst this
    exact Src.ofNil _ under32a c
  | some ad =>
    refine Src.ofSlice _ under32a ad n c _ (by rw [askc_length]; simp) (fun j u hu => ?_) (askc_one _)
    have hj := (List.getElem?_eq_some_iff.1 hu).1
    rw [askc_length, List.length_map, List.length_range] at hj
    rcases h with h | ⟨p, off, e, h⟩
    · omega
    · injection e with e
      subst e
      have ea : (⟨p, off, none⟩ : Addr).add j = ⟨p, off + j, none⟩ := by unfold Addr.add; split <;> simp_all
      rw [ea]
      have hq : ((List.range n).map q)[j / 3]? = some (q (j / 3)) := by rw [List.getElem?_map, List.getElem?_range (by omega)]; rfl
      obtain ⟨x0, x1, x2⟩ := askc_at _ _ _ hq
      obtain ⟨y0, y1, y2⟩ := h (j / 3) (by omega)
      have : j = j / 3 * 3 ∨ j = j / 3 * 3 + 1 ∨ j = j / 3 * 3 + 2 := by omega
      rcases this with e | e | e
      · rw [e, x0] at hu; rw [e]; injection hu with hu; rw [← hu]; exact y0
      · rw [e, x1] at hu; rw [e, ← Nat.add_assoc]; injection hu with hu; rw [← hu]; exact y1
      · rw [e, x2] at hu; rw [e, ← Nat.add_assoc]; injection hu with hu; rw [← hu]; exact y2
end Go.Proofs.Ytaflabjeddckeaa
