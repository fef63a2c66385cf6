/-
  ITEMHOLDS walked: what is known on the way.
-/
import Derived.Test.YtbflcnghpkmcoaaAsks
import Derived.Test.YtbflcnghpkmcoaaLed
namespace Go.Proofs.Ytbflcnghpkmcoaa
open Go.RowKit

/-- Truth values as cells. -/
def blc (l : List Bool) : List Value := l.map .bool
theorem blc_append (l m : List Bool) : blc (l ++ m) = blc l ++ blc m := by simp [blc]
theorem blc_length (l : List Bool) : (blc l).length = l.length := by simp [blc]
theorem blc_at (l : List Bool) {j : Nat} {k : Bool} (h : l[j]? = some k) : (blc l)[j]? = some (.bool k) := by simp [blc, h]
theorem blc_set (l : List Bool) (j : Nat) (b : Bool) : (blc l).set j (.bool b) = blc (l.set j b) := by simp [blc, List.map_set]
theorem strc_set (l : List ByteArray) (j : Nat) (b : ByteArray) : (strc l).set j (.string b) = strc (l.set j b) := by simp [strc, List.map_set]
theorem underB : Try.prog.underlying 63 = some (.slice 4) := by kernel_rfl
theorem infoB : (Try.prog.info? 4).map (fun i => (i.zero, i.size, i.bytes)) = some (some (.bool false), 1, 1) := by kernel_rfl
theorem OwnK.readB {w : World} {o : Nat → Nat × Nat} {t : Nat × Nat} {a : Option Addr} {n c : Nat} {l : List Bool} (h : OwnK w o t 1 (.slice a n c) n (blc l)) {j : Nat} {k : Bool} (hk : l[j]? = some k) : ∃ g, a = some ⟨g, 0, none⟩ ∧ w.cell? ⟨g, j, none⟩ = some (.bool k) := by
  have hl := h.1
  rw [blc_length] at hl
  have hj := (List.getElem?_eq_some_iff.1 hk).1
  obtain ⟨g, cap, e, _, _, _, _, h6, _⟩ := h.there (by omega)
  injection e with e1 e2 e3
  exact ⟨g, e1, h6 j _ (blc_at l hk)⟩
structure Lst (w : World) (X : Nat) (z : Sp) (m : Nat) (ks ds : List ByteArray) (ps : List Bool) (K D P : Value) (wr : World) (o : Nat → Nat × Nat) : Prop where
  led : Led z ks ds ps
  len : m = ks.length
  sml : ∀ k ∈ ks, k.size ≤ 100
  st : IsSt wr o X z
  k : OwnK wr o (9, 0) 1 K m (strc ks)
  d : OwnK wr o (9, 1) 1 D m (strc ds)
  p : OwnK wr o (9, 2) 1 P m (blc ps)
  fr : Fr T9 o0 o w wr
theorem Lst.keys {w : World} {X : Nat} {z : Sp} {m : Nat} {ks ds : List ByteArray} {ps : List Bool} {K D P : Value} {wr : World} {o : Nat → Nat × Nat} (h : Lst w X z m ks ds ps K D P wr o) {j : Nat} {k : ByteArray} (hk : ks[j]? = some k) : k.size ≤ 140737488355328 := by
  have := h.sml k (List.mem_of_getElem? hk); omega
theorem Lst.below {w : World} {X : Nat} {z : Sp} {m : Nat} {ks ds : List ByteArray} {ps : List Bool} {K D P : Value} {wr wx : World} {o : Nat → Nat × Nat} (h : Lst w X z m ks ds ps K D P wr o) (b : Below wr.heap.size wr wx) : Lst w X z m ks ds ps K D P wx o :=
  ⟨h.led, h.len, h.sml, h.st.below b, h.k.below b, h.d.below b, h.p.below b, h.fr.trans (Fr.ofBelow _ o b)⟩
theorem Lst.new {w : World} {X : Nat} {z : Sp} {m : Nat} {ks ds : List ByteArray} {ps : List Bool} {K D P : Value} {wr : World} {o : Nat → Nat × Nat} (h : Lst w X z m ks ds ps K D P wr o) (ob : Obj) : Lst w X z m ks ds ps K D P (wr.alloc ob) (lab o wr.heap.size (0, 0)) := by
  have f := fun T => Fr.new T o wr ob (0, 0)
  exact ⟨h.led, h.len, h.sml, h.st.fr (f (fun _ => False)) (fun _ _ x => x), h.k.fr (f (fun _ => False)) (fun x => x), h.d.fr (f (fun _ => False)) (fun x => x), h.p.fr (f (fun _ => False)) (fun x => x), h.fr.trans (f _)⟩
/-- The store alone turns. -/
theorem Lst.turn {w : World} {X : Nat} {z z' : Sp} {m : Nat} {ks ds : List ByteArray} {ps : List Bool} {K D P : Value} {wr wx : World} {o o' : Nat → Nat × Nat} (h : Lst w X z m ks ds ps K D P wr o) (hl : Led z' ks ds ps) (hs : IsSt wx o' X z') (f : Fr TS o o' wr wx) : Lst w X z' m ks ds ps K D P wx o' :=
  ⟨hl, h.len, h.sml, hs, h.k.fr f (nT9 0), h.d.fr f (nT9 1), h.p.fr f (nT9 2), h.fr.trans (f.mono (fun _ h => .inl h))⟩
theorem nT90 : ¬ T9 (0, 0) := fun h => by
  rcases h with h | h
  · exact nT0 h
  · have h : (0 : Nat) = 9 := h; omega
theorem AskAt.fr {T : Nat × Nat → Prop} {w w' : World} {o o' : Nat → Nat × Nat} {p b : Nat} {q : AskD} (h : AskAt w p b q) (f : Fr T o o' w w') (hT : ¬ T (o p)) : AskAt w' p b q := ⟨f.cell h.1 hT, f.cell h.2.1 hT, f.cell h.2.2.1 hT, f.cell h.2.2.2.1 hT, f.cell h.2.2.2.2 hT⟩
/-- What stands behind the call. -/
def ToldP (w : World) (X m : Nat) (ks : List ByteArray) (K D P : Value) (wx : World) : Prop := ∃ (ds : List ByteArray) (ps : List Bool) (z : Sp) (o : Nat → Nat × Nat), Lst w X z m ks ds ps K D P wx o
/-- The lists and the store, while they don't tell of it. -/
structure Mid (w : World) (X : Nat) (z : Sp) (m : Nat) (ks ds : List ByteArray) (ps : List Bool) (K D P : Value) (A : Nat) (q : AskD) (wr : World) (o : Nat → Nat × Nat) : Prop where
  st : IsSt wr o X z
  k : OwnK wr o (9, 0) 1 K m (strc ks)
  d : OwnK wr o (9, 1) 1 D m (strc ds)
  p : OwnK wr o (9, 2) 1 P m (blc ps)
  fr : Fr T9 o0 o w wr
  ask : AskAt wr A 0 q
  oA : o A = (0, 0)
theorem Mid.below {w : World} {X : Nat} {z : Sp} {m : Nat} {ks ds : List ByteArray} {ps : List Bool} {K D P : Value} {A : Nat} {q : AskD} {wr wx : World} {o : Nat → Nat × Nat} (h : Mid w X z m ks ds ps K D P A q wr o) (b : Below wr.heap.size wr wx) : Mid w X z m ks ds ps K D P A q wx o :=
  ⟨h.st.below b, h.k.below b, h.d.below b, h.p.below b, h.fr.trans (Fr.ofBelow _ o b), h.ask.below b, h.oA⟩
theorem Lst.mid {w : World} {X : Nat} {z z' : Sp} {m : Nat} {ks ds : List ByteArray} {ps : List Bool} {K D P : Value} {A : Nat} {q : AskD} {wr wx : World} {o o' : Nat → Nat × Nat} (h : Lst w X z m ks ds ps K D P wr o) (ha : AskAt wr A 0 q) (hA : o A = (0, 0)) (hs : IsSt wx o' X z') (f : Fr TS o o' wr wx) : Mid w X z' m ks ds ps K D P A q wx o' :=
  ⟨hs, h.k.fr f (nT9 0), h.d.fr f (nT9 1), h.p.fr f (nT9 2), h.fr.trans (f.mono (fun _ h => .inl h)), ha.fr f (by rw [hA]; exact nT0), (f.lab A (World.block_lt_of_cell? _ _ ha.1)).trans hA⟩
/-- A truth value stored. -/
theorem Mid.told {w : World} {X : Nat} {z : Sp} {m : Nat} {ks ds : List ByteArray} {ps : List Bool} {K D : Value} {gp pc A : Nat} {q : AskD} {wr : World} {o : Nat → Nat × Nat} (h : Mid w X z m ks ds ps K D (.slice (some ⟨gp, 0, none⟩) m pc) A q wr o) {p : Nat} (hp : p < m) {b : Bool} (hl : Led z ks ds (ps.set p b)) (hlen : m = ks.length) (hsml : ∀ k ∈ ks, k.size ≤ 100) : ToldP w X m ks K D (.slice (some ⟨gp, 0, none⟩) m pc) (wr.setCell ⟨gp, p, none⟩ (.bool b)) := by
  obtain ⟨g, c, e, og, _⟩ := h.p.there (by omega)
  injection e with e1 e2 e3
  injection e1 with e1
  injection e1 with e1
  subst e1
  have f : Fr (fun t => t = (9, 2)) o o wr (wr.setCell ⟨gp, p, none⟩ (.bool b)) := Fr.set (a := ⟨gp, p, none⟩) og _
  have hs := h.p.set p (.bool b) rfl (by omega)
  rw [blc_set] at hs
  exact ⟨ds, ps.set p b, z, o, hl, hlen, hsml, h.st.nine f, h.k.fr f (by decide), h.d.fr f (by decide), hs, h.fr.trans f.own9⟩
theorem Mid.setD {w : World} {X : Nat} {z : Sp} {m : Nat} {ks ds : List ByteArray} {ps : List Bool} {K P : Value} {gd dc A : Nat} {q : AskD} {wr : World} {o : Nat → Nat × Nat} (h : Mid w X z m ks ds ps K (.slice (some ⟨gd, 0, none⟩) m dc) P A q wr o) {p : Nat} (hp : p < m) (b : ByteArray) : Mid w X z m ks (ds.set p b) ps K (.slice (some ⟨gd, 0, none⟩) m dc) P A q (wr.setCell ⟨gd, p, none⟩ (.string b)) o := by
  obtain ⟨g, c, e, og, _⟩ := h.d.there (by omega)
  injection e with e1 e2 e3
  injection e1 with e1
  injection e1 with e1
  subst e1
  have f : Fr (fun t => t = (9, 1)) o o wr (wr.setCell ⟨gd, p, none⟩ (.string b)) := Fr.set (a := ⟨gd, p, none⟩) og _
  have hs := h.d.set p (.string b) rfl (by omega)
  rw [strc_set] at hs
  exact ⟨h.st.nine f, h.k.fr f (by decide), hs, h.p.fr f (by decide), h.fr.trans f.own9, h.ask.fr f (by rw [h.oA]; decide), h.oA⟩
theorem OwnK.cellAt {w : World} {o : Nat → Nat × Nat} {t : Nat × Nat} {g n c : Nat} {cs : List Value} (h : OwnK w o t 1 (.slice (some ⟨g, 0, none⟩) n c) n cs) {j : Nat} {u : Value} (hu : cs[j]? = some u) : w.cell? ⟨g, j, none⟩ = some u ∧ w.frozen? ⟨g, j, none⟩ = false := by
  have hj := (List.getElem?_eq_some_iff.1 hu).1
  have hl := h.1
  obtain ⟨g', cap, e, _, _, h4, _, h6, h7⟩ := h.there (by omega)
  injection e with e1 e2 e3
  injection e1 with e1
  injection e1 with e1
  subst e1
  exact ⟨h6 j u hu, (h7 j (by omega)).2⟩
/-- Where a key stands among the first j. -/
def AtP (ks : List ByteArray) (k : ByteArray) (j : Nat) (z : Int) : Prop := (z = -1 ∧ ∀ p, p < j → ks[p]? ≠ some k) ∨ ∃ p : Nat, z = (p : Int) ∧ p < j ∧ ks[p]? = some k
theorem AtP.next {ks : List ByteArray} {k k' : ByteArray} {j : Nat} {z : Int} (h : AtP ks k j z) (hk : ks[j]? = some k') (hne : k' ≠ k) : AtP ks k (j + 1) z := by
  rcases h with ⟨h1, h2⟩ | ⟨p, h1, h2, h3⟩
  · refine .inl ⟨h1, fun p hp => ?_⟩
    by_cases e : p = j
    · subst e; rw [hk]; intro e; injection e with e; exact hne e
    · exact h2 p (by omega)
  · exact .inr ⟨p, h1, by omega, h3⟩
/-- One key more. -/
theorem Lst.grow {w : World} {X : Nat} {z : Sp} {m : Nat} {ks ds : List ByteArray} {ps : List Bool} {K D P : Value} {wr : World} {o : Nat → Nat × Nat} (h : Lst w X z m ks ds ps K D P wr o) (hm : m ≤ 1000) {key : ByteArray} (hks : key.size ≤ 100) (hk : ∀ j : Nat, ks[j]? ≠ some key) :
    ∃ ka kc da dc pa pc w1 w2 w3 o3, (Builtin.append_ #[26, 26] 26 #[K, .slice (some ⟨wr.heap.size, 0, none⟩) 1 1]).run Try.prog (wr.alloc (.cells #[.string key] 9)) = .ok (.slice ka (m + 1) kc) w1 ∧
      (Builtin.append_ #[26, 26] 26 #[D, .slice (some ⟨w1.heap.size, 0, none⟩) 1 1]).run Try.prog (w1.alloc (.cells #[.string ⟨#[]⟩] 9)) = .ok (.slice da (m + 1) dc) w2 ∧
      (Builtin.append_ #[63, 63] 63 #[P, .slice (some ⟨w2.heap.size, 0, none⟩) 1 1]).run Try.prog (w2.alloc (.cells #[.bool false] 4)) = .ok (.slice pa (m + 1) pc) w3 ∧
      Lst w X z (m + 1) (ks ++ [key]) (ds ++ [⟨#[]⟩]) (ps ++ [false]) (.slice ka (m + 1) kc) (.slice da (m + 1) dc) (.slice pa (m + 1) pc) w3 o3 ∧ Fr (fun t => t.1 = 9) o o3 wr w3 := by
  obtain ⟨v1, w1, o1, r1, O1, F1⟩ := app_one 26 9 (.string ⟨#[]⟩) 16 underS infoS (by kernel_rfl) h.k [.string key] rfl (fun u hu => by simp at hu; rw [hu]; rfl) (by omega) (by omega)
  obtain ⟨ka, kc, rfl, _⟩ := O1.form
  obtain ⟨v2, w2, o2, r2, O2, F2⟩ := app_one 26 9 (.string ⟨#[]⟩) 16 underS infoS (by kernel_rfl) (h.d.fr F1 (by decide)) [.string ⟨#[]⟩] rfl (fun u hu => by simp at hu; rw [hu]; rfl) (by omega) (by omega)
  obtain ⟨da, dc, rfl, _⟩ := O2.form
  obtain ⟨v3, w3, o3, r3, O3, F3⟩ := app_one 63 4 (.bool false) 1 underB infoB (by kernel_rfl) ((h.p.fr F1 (by decide)).fr F2 (by decide)) [.bool false] rfl (fun u hu => by simp at hu; rw [hu]; rfl) (by omega) (by omega)
  obtain ⟨pa, pc, rfl, _⟩ := O3.form
  refine ⟨ka, kc, da, dc, pa, pc, w1, w2, w3, o3, r1, r2, r3, ⟨h.led.grow hk, by rw [List.length_append, ← h.len]; rfl, fun k hk => ?_, ((h.st.nine F1).nine F2).nine F3, ?_, ?_, ?_, ((h.fr.trans F1.own9).trans F2.own9).trans F3.own9⟩, ((F1.mono (fun t e => by rw [e])).trans (F2.mono (fun t e => by rw [e]))).trans (F3.mono (fun t e => by rw [e]))⟩
  · rcases List.mem_append.1 hk with hk | hk
    · exact h.sml k hk
    · rw [List.mem_singleton.1 hk]; exact hks
  · rw [strc_append]; exact (O1.fr F2 (by decide)).fr F3 (by decide)
  · rw [strc_append]; exact O2.fr F3 (by decide)
  · rw [blc_append]; exact O3
end Go.Proofs.Ytbflcnghpkmcoaa
