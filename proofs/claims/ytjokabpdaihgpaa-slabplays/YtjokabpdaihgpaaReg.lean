/-
  TWO LISTS THAT GROW in one region that draws its order, and what is between; the ways brought together.
-/
import Derived.Test.YtjokabpdaihgpaaCut
import Derived.Test.YtjokabpdaihgpaaHold
namespace Go.Proofs.Ytjokabpdaihgpaa
open Go.RowKit

/-- Texts as cells. -/
def strc (l : List ByteArray) : List Value := l.map fun s => .string s
theorem strc_append (l m : List ByteArray) : strc (l ++ m) = strc l ++ strc m := by simp [strc]
theorem strc_at (l : List ByteArray) (j : Nat) (d : ByteArray) (h : l[j]? = some d) : (strc l)[j]? = some (.string d) := by simp [strc, h]
theorem strc_out (l : List ByteArray) (i : Nat) : (strc l).take (i * 1) ++ (strc l).drop ((i + 1) * 1) = strc (out l i) := by
  unfold out strc; rw [List.map_append, List.map_take, List.map_drop, Nat.mul_one, Nat.mul_one]
theorem hsc_length : ∀ l : List (Nat × Nat), (hsc l).length = l.length * 2
  | [] => rfl
  | p :: l => by rw [hsc_cons, List.length_cons, List.length_cons, hsc_length l, List.length_cons]; omega
theorem hsc_take : ∀ (l : List (Nat × Nat)) (i : Nat), (hsc l).take (i * 2) = hsc (l.take i)
  | [], i => by simp [hsc]
  | p :: l, 0 => by simp [hsc]
  | p :: l, i + 1 => by rw [hsc_cons, show (i + 1) * 2 = i * 2 + 1 + 1 by omega, List.take_succ_cons, List.take_succ_cons, List.take_succ_cons, hsc_cons, hsc_take l i]
theorem hsc_drop : ∀ (l : List (Nat × Nat)) (i : Nat), (hsc l).drop (i * 2) = hsc (l.drop i)
  | [], i => by simp [hsc]
  | p :: l, 0 => by simp
  | p :: l, i + 1 => by rw [hsc_cons, show (i + 1) * 2 = i * 2 + 1 + 1 by omega, List.drop_succ_cons, List.drop_succ_cons, List.drop_succ_cons, hsc_drop l i]
theorem hsc_out (l : List (Nat × Nat)) (i : Nat) : (hsc l).take (i * 2) ++ (hsc l).drop ((i + 1) * 2) = hsc (out l i) := by
  rw [hsc_take, hsc_drop, ← hsc_append]; rfl
theorem under58 : Try.prog.underlying 58 = some (.slice 9) := by kernel_rfl
theorem info9 : (Try.prog.info? 9).map (fun i => (i.zero, i.size, i.bytes)) = some (some (.string ⟨#[]⟩), 1, 16) := by kernel_rfl
/-- Marks of the slab and of the two lists. -/
def T123 (t : Nat × Nat) : Prop := t.1 = 1 ∨ t.1 = 2 ∨ t.1 = 3
theorem o0_T123 (w : World) {o : (Nat → Nat × Nat)} {w' : World} (h : Fr T123 o0 o w w') : Below w.heap.size w w' := h.below (Nat.le_refl _) (fun b _ e => by rcases e with e | e | e <;> cases e)
/-- The slab and the two lists, and what is to be appended to each, where it is there. -/
def Reg (w X : World) (S : Nat) (s : St) (hv : Value) (n : Nat) (hs : List (Nat × Nat)) (sa : Option Nat) (p : Nat × Nat) (dv : Value) (m : Nat) (ds : List ByteArray) (sb : Option Nat) (d : ByteArray) (L : List (Nat × Nat × Value)) : Prop :=
  ∃ o, OwnK X o (2, 0) 2 hv n (hsc hs) ∧ OwnK X o (3, 0) 1 dv m (strc ds) ∧ IsSlab X o 1 S s ∧ Fr T123 o0 o w X ∧
    (∀ b, sa = some b → X.cell? ⟨b, 0, none⟩ = some (.int .i64 ((p.1 : Nat) : Int)) ∧ X.cell? ⟨b, 1, none⟩ = some (.int .i64 ((p.2 : Nat) : Int)) ∧ o b = (9, 0)) ∧
    (∀ b, sb = some b → X.cell? ⟨b, 0, none⟩ = some (.string d) ∧ o b = (9, 0)) ∧ ∀ c, c ∈ L → X.cell? ⟨c.1, c.2.1, none⟩ = some c.2.2 ∧ o c.1 = (9, 0)
theorem Reg.mono {w X X' : World} {S : Nat} {s : St} {hv : Value} {n : Nat} {hs : List (Nat × Nat)} {sa : Option Nat} {p : Nat × Nat} {dv : Value} {m : Nat} {ds : List ByteArray} {sb : Option Nat} {d : ByteArray} {L : List (Nat × Nat × Value)} (h : Reg w X S s hv n hs sa p dv m ds sb d L)
    (hb : Below X.heap.size X X') : Reg w X' S s hv n hs sa p dv m ds sb d L := by
  obtain ⟨o, h1, h2, h3, h4, h5, h6, h7⟩ := h
  exact ⟨o, h1.below hb, h2.below hb, h3.below hb, h4.trans (Fr.ofBelow _ o hb), fun b e => ⟨cell_up hb (h5 b e).1, cell_up hb (h5 b e).2.1, (h5 b e).2.2⟩, fun b e => ⟨cell_up hb (h6 b e).1, (h6 b e).2⟩, fun c hc => ⟨cell_up hb (h7 c hc).1, (h7 c hc).2⟩⟩
theorem Reg.allA {w X : World} {S : Nat} {s : St} {hv : Value} {n : Nat} {hs : List (Nat × Nat)} {p : Nat × Nat} {dv : Value} {m : Nat} {ds : List ByteArray} {sb : Option Nat} {d : ByteArray} {L : List (Nat × Nat × Value)} (h : Reg w X S s hv n hs none p dv m ds sb d L) :
    Reg w (X.alloc (.cells #[.int .i64 ((p.1 : Nat) : Int), .int .i64 ((p.2 : Nat) : Int)] 34)) S s hv n hs (some X.heap.size) p dv m ds sb d L := by
  obtain ⟨o, h1, h2, h3, h4, _, h6, h7⟩ := h
  have f : ∀ U, Fr U o (lab o X.heap.size (9, 0)) X (X.alloc (.cells #[.int .i64 ((p.1 : Nat) : Int), .int .i64 ((p.2 : Nat) : Int)] 34)) := fun U => Fr.new U o X _ _
  refine ⟨_, h1.fr (f (fun _ => False)) (fun x => x), h2.fr (f (fun _ => False)) (fun x => x), h3.fr (f (fun _ => False)) (fun _ x => x), h4.trans (f _), fun b e => ?_, fun b e => ?_, fun c hc => ⟨(f (fun _ => False)).cell (h7 c hc).1 (fun x => x), ((f (fun _ => False)).lab c.1 (World.block_lt_of_cell? _ _ (h7 c hc).1)).trans (h7 c hc).2⟩⟩
  · injection e with e; subst e
    exact ⟨by rw [World.cell?_alloc_new]; rfl, by rw [World.cell?_alloc_new]; rfl, lab_same _ _ _⟩
  · have hb := World.block_lt_of_cell? _ _ (h6 b e).1
    exact ⟨(f (fun _ => False)).cell (h6 b e).1 (fun x => x), ((f (fun _ => False)).lab b hb).trans (h6 b e).2⟩
theorem Reg.allB {w X : World} {S : Nat} {s : St} {hv : Value} {n : Nat} {hs : List (Nat × Nat)} {p : Nat × Nat} {dv : Value} {m : Nat} {ds : List ByteArray} {sa : Option Nat} {d : ByteArray} {L : List (Nat × Nat × Value)} (h : Reg w X S s hv n hs sa p dv m ds none d L) :
    Reg w (X.alloc (.cells #[.string d] 9)) S s hv n hs sa p dv m ds (some X.heap.size) d L := by
  obtain ⟨o, h1, h2, h3, h4, h5, _, h7⟩ := h
  have f : ∀ U, Fr U o (lab o X.heap.size (9, 0)) X (X.alloc (.cells #[.string d] 9)) := fun U => Fr.new U o X _ _
  refine ⟨_, h1.fr (f (fun _ => False)) (fun x => x), h2.fr (f (fun _ => False)) (fun x => x), h3.fr (f (fun _ => False)) (fun _ x => x), h4.trans (f _), fun b e => ?_, fun b e => ?_, fun c hc => ⟨(f (fun _ => False)).cell (h7 c hc).1 (fun x => x), ((f (fun _ => False)).lab c.1 (World.block_lt_of_cell? _ _ (h7 c hc).1)).trans (h7 c hc).2⟩⟩
  · have hb := World.block_lt_of_cell? _ _ (h5 b e).1
    exact ⟨(f (fun _ => False)).cell (h5 b e).1 (fun x => x), (f (fun _ => False)).cell (h5 b e).2.1 (fun x => x), ((f (fun _ => False)).lab b hb).trans (h5 b e).2.2⟩
  · injection e with e; subst e
    exact ⟨by rw [World.cell?_alloc_new]; rfl, lab_same _ _ _⟩
theorem Reg.appA {w X : World} {S : Nat} {s : St} {hv : Value} {n : Nat} {hs : List (Nat × Nat)} {b : Nat} {p : Nat × Nat} {dv : Value} {m : Nat} {ds : List ByteArray} {sb : Option Nat} {d : ByteArray} {L : List (Nat × Nat × Value)} (h : Reg w X S s hv n hs (some b) p dv m ds sb d L) (hn : n ≤ 1000) :
    ∃ a c X', (Builtin.append_ #[43, 43] 43 #[hv, .slice (some ⟨b, 0, none⟩) 1 1]).run Try.prog X = .ok (.slice a (n + 1) c) X' ∧ Reg w X' S s (.slice a (n + 1) c) (n + 1) (hs ++ [p]) none p dv m ds sb d L := by
  obtain ⟨o, h1, h2, h3, h4, h5, h6, h7⟩ := h
  obtain ⟨c0, c1, ob⟩ := h5 b rfl
  have src : Src Try.prog 2 43 (.slice (some ⟨b, 0, none⟩) 1 1) 1 (hsc [p]) X := by
    refine Src.ofSlice _ under43 _ 1 1 _ rfl (fun j u hu => ?_) (fun u hu => by simp [hsc] at hu; rcases hu with rfl | rfl <;> rfl)
    have hj : j < 2 := by have := (List.getElem?_eq_some_iff.1 hu).1; simpa [hsc] using this
    have e : (⟨b, 0, none⟩ : Addr).add j = ⟨b, j, none⟩ := by unfold Addr.add; split <;> simp_all
    rw [e]
    have : j = 0 ∨ j = 1 := by omega
    rcases this with rfl | rfl
    · rw [c0]; exact hu
    · rw [c1]; exact hu
  obtain ⟨v', X', o', hr, O', F'⟩ := app_own 43 43 34 (.agg #[.int .i64 0, .int .i64 0]) 16 under43 info34 (by kernel_rfl) h1 src (by omega) (by omega)
  obtain ⟨a, c, rfl, _⟩ := O'.form
  rw [← hsc_append] at O'
  refine ⟨a, c, X', hr, o', O', h2.fr F' (fun e => by cases e), h3.fr F' (fun _ e => by cases e), h4.trans (F'.mono (fun t e => .inr (.inl (by rw [e])))), (fun b e => by cases e), fun b e => ?_, fun c hc => ⟨F'.cell (h7 c hc).1 (by rw [(h7 c hc).2]; intro e; cases e), (F'.lab c.1 (World.block_lt_of_cell? _ _ (h7 c hc).1)).trans (h7 c hc).2⟩⟩
  have hb := World.block_lt_of_cell? _ _ (h6 b e).1
  exact ⟨F'.cell (h6 b e).1 (by rw [(h6 b e).2]; intro e; cases e), (F'.lab b hb).trans (h6 b e).2⟩
theorem Reg.appB {w X : World} {S : Nat} {s : St} {hv : Value} {n : Nat} {hs : List (Nat × Nat)} {b : Nat} {p : Nat × Nat} {dv : Value} {m : Nat} {ds : List ByteArray} {sa : Option Nat} {d : ByteArray} {L : List (Nat × Nat × Value)} (h : Reg w X S s hv n hs sa p dv m ds (some b) d L) (hn : m ≤ 1000) :
    ∃ a c X', (Builtin.append_ #[58, 58] 58 #[dv, .slice (some ⟨b, 0, none⟩) 1 1]).run Try.prog X = .ok (.slice a (m + 1) c) X' ∧ Reg w X' S s hv n hs sa p (.slice a (m + 1) c) (m + 1) (ds ++ [d]) none d L := by
  obtain ⟨o, h1, h2, h3, h4, h5, h6, h7⟩ := h
  obtain ⟨c0, ob⟩ := h6 b rfl
  have src : Src Try.prog 1 58 (.slice (some ⟨b, 0, none⟩) 1 1) 1 (strc [d]) X := by
    refine Src.ofSlice _ under58 _ 1 1 _ rfl (fun j u hu => ?_) (fun u hu => by simp [strc] at hu; rcases hu with rfl; rfl)
    have hj : j < 1 := by have := (List.getElem?_eq_some_iff.1 hu).1; simpa [strc] using this
    have e : (⟨b, 0, none⟩ : Addr).add j = ⟨b, j, none⟩ := by unfold Addr.add; split <;> simp_all
    rw [e]
    have : j = 0 := by omega
    subst this
    rw [c0]; exact hu
  obtain ⟨v', X', o', hr, O', F'⟩ := app_own 58 58 9 (.string ⟨#[]⟩) 16 under58 info9 (by kernel_rfl) h2 src (by omega) (by omega)
  obtain ⟨a, c, rfl, _⟩ := O'.form
  rw [← strc_append] at O'
  refine ⟨a, c, X', hr, o', h1.fr F' (fun e => by cases e), O', h3.fr F' (fun _ e => by cases e), h4.trans (F'.mono (fun t e => .inr (.inr (by rw [e])))), fun b e => ?_, (fun b e => by cases e), fun c hc => ⟨F'.cell (h7 c hc).1 (by rw [(h7 c hc).2]; intro e; cases e), (F'.lab c.1 (World.block_lt_of_cell? _ _ (h7 c hc).1)).trans (h7 c hc).2⟩⟩
  have hb := World.block_lt_of_cell? _ _ (h5 b e).1
  exact ⟨F'.cell (h5 b e).1 (by rw [(h5 b e).2.2]; intro e; cases e), F'.cell (h5 b e).2.1 (by rw [(h5 b e).2.2]; intro e; cases e), (F'.lab b hb).trans (h5 b e).2.2⟩
end Go.Proofs.Ytjokabpdaihgpaa
