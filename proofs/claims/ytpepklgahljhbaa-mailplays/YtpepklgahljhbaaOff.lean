/-
  A LIST OF THE CALL'S OWN THAT BEGINS SOMEWHERE IN ITS BLOCK: cut at its head, appended to. Calls that came in.
-/
import Derived.Test.YtpepklgahljhbaaEqs
namespace Go.Proofs.Ytpepklgahljhbaa
open Go.Conc Go.RowKit

/-- A list of n elements of k cells, from some place of a block with the mark t on. -/
def OwnO (w : World) (o : (Nat → Nat × Nat)) (t : Nat × Nat) (k : Nat) (v : Value) (n : Nat) (cs : List Value) : Prop :=
  cs.length = n * k ∧ (∀ u ∈ cs, u.oneCell' = true) ∧ ((∃ A, v = .slice A 0 0 ∧ n = 0) ∨ ∃ g f cap, v = .slice (some ⟨g, f, none⟩) n cap ∧ o g = t ∧ g < w.heap.size ∧ n ≤ cap ∧ cap ≤ maxLen ∧
    (∀ j u, cs[j]? = some u → w.cell? ⟨g, f + j, none⟩ = some u) ∧ ∀ j, j < cap * k → (w.cell? ⟨g, f + j, none⟩).isSome = true ∧ w.frozen? ⟨g, f + j, none⟩ = false)
theorem OwnO.nil (w : World) (o : (Nat → Nat × Nat)) (t : Nat × Nat) (k : Nat) : OwnO w o t k (.slice none 0 0) 0 [] := ⟨by simp, (fun _ h => by cases h), .inl ⟨none, rfl, rfl⟩⟩
theorem OwnO.form {w : World} {o : (Nat → Nat × Nat)} {t : Nat × Nat} {k : Nat} {v : Value} {n : Nat} {cs : List Value} (h : OwnO w o t k v n cs) : ∃ a c, v = .slice a n c ∧ n ≤ c := by
  rcases h.2.2 with ⟨A, rfl, rfl⟩ | ⟨g, f, cap, rfl, _, _, h1, _⟩
  · exact ⟨A, 0, rfl, Nat.le_refl _⟩
  · exact ⟨_, cap, rfl, h1⟩
theorem OwnO.there {w : World} {o : (Nat → Nat × Nat)} {t : Nat × Nat} {k : Nat} {v : Value} {n : Nat} {cs : List Value} (h : OwnO w o t k v n cs) (hn : 0 < n) : ∃ g f cap, v = .slice (some ⟨g, f, none⟩) n cap ∧ o g = t ∧ g < w.heap.size ∧ n ≤ cap ∧ cap ≤ maxLen ∧
    (∀ j u, cs[j]? = some u → w.cell? ⟨g, f + j, none⟩ = some u) ∧ ∀ j, j < cap * k → (w.cell? ⟨g, f + j, none⟩).isSome = true ∧ w.frozen? ⟨g, f + j, none⟩ = false := by
  rcases h.2.2 with ⟨_, rfl, rfl⟩ | h
  · omega
  · exact h
theorem OwnO.fr {T : Nat × Nat → Prop} {w w' : World} {o o' : (Nat → Nat × Nat)} {t : Nat × Nat} {k : Nat} {v : Value} {n : Nat} {cs : List Value} (h : OwnO w o t k v n cs) (f : Fr T o o' w w') (ht : ¬ T t) : OwnO w' o' t k v n cs := by
  refine ⟨h.1, h.2.1, ?_⟩
  rcases h.2.2 with h | ⟨g, off, cap, h1, h2, h3, h4, h5, h6, h7⟩
  · exact .inl h
  · have hT : ¬ T (o g) := by rw [h2]; exact ht
    have hb := f.block g h3 hT
    refine .inr ⟨g, off, cap, h1, (f.lab g h3).trans h2, Nat.lt_of_lt_of_le h3 f.size, h4, h5, fun j u hu => f.cell (h6 j u hu) hT, fun j hj => ?_⟩
    exact ⟨by rw [World.cell?_of_block (a := ⟨g, off + j, none⟩) hb]; exact (h7 j hj).1, (World.frozen?_of_block (a := ⟨g, off + j, none⟩) hb).trans (h7 j hj).2⟩
theorem OwnK.off {w : World} {o : (Nat → Nat × Nat)} {t : Nat × Nat} {k : Nat} {v : Value} {n : Nat} {cs : List Value} (h : OwnK w o t k v n cs) : OwnO w o t k v n cs := by
  refine ⟨h.1, h.2.1, ?_⟩
  rcases h.2.2 with ⟨e, hn⟩ | ⟨g, cap, h1, h2, h3, h4, h5, h6, h7⟩
  · exact .inl ⟨none, e, hn⟩
  · exact .inr ⟨g, 0, cap, h1, h2, h3, h4, h5, fun j u hu => by rw [Nat.zero_add]; exact h6 j u hu, fun j hj => by rw [Nat.zero_add]; exact h7 j hj⟩
/-- More cells stored behind a list that has the room. -/
theorem own_roomO {w : World} {o : (Nat → Nat × Nat)} {t : Nat × Nat} {k n m cap g f : Nat} {cs news : List Value} (hl : cs.length = n * k) (hl2 : news.length = m * k) (h1 : ∀ u ∈ cs, u.oneCell' = true) (h2 : ∀ u ∈ news, u.oneCell' = true) (hg : o g = t) (hgs : g < w.heap.size)
    (hroom : n + m ≤ cap) (hm : cap ≤ maxLen) (h6 : ∀ j u, cs[j]? = some u → w.cell? ⟨g, f + j, none⟩ = some u) (h7 : ∀ j, j < cap * k → (w.cell? ⟨g, f + j, none⟩).isSome = true ∧ w.frozen? ⟨g, f + j, none⟩ = false) :
    OwnO (w.setCells g (f + n * k) news) o t k (.slice (some ⟨g, f, none⟩) (n + m) cap) (n + m) (cs ++ news) := by
  have hcap : n * k + m * k ≤ cap * k := by rw [← Nat.add_mul]; exact Nat.mul_le_mul_right _ hroom
  refine ⟨by rw [List.length_append, hl, hl2, Nat.add_mul], fun u hu => by rcases List.mem_append.1 hu with h | h; exact h1 u h; exact h2 u h, .inr ⟨g, f, cap, rfl, hg, by rw [size_setCells]; exact hgs, hroom, hm, fun j u hu => ?_, fun j hj => ⟨some_setCells g _ _ _ _ (h7 j hj).1, by rw [World.frozen?_setCells]; exact (h7 j hj).2⟩⟩⟩
  by_cases hj : j < cs.length
  · rw [List.getElem?_append_left hj] at hu
    rw [World.cell?_setCells_out g news (f + n * k) w ⟨g, f + j, none⟩ (fun _ _ => .inl (by show f + j < f + n * k; omega))]; exact h6 j u hu
  · rw [List.getElem?_append_right (by omega)] at hu
    have hjn := (List.getElem?_eq_some_iff.1 hu).1
    have e := World.cell?_setCells_in g news (f + n * k) w (fun q hq => by rw [Nat.add_assoc]; exact (h7 (n * k + q) (by omega)).1) (j - cs.length) hjn
    rw [show f + n * k + (j - cs.length) = f + j by omega] at e
    rw [e]
    rw [List.getElem?_eq_getElem hjn] at hu; exact hu
/-- append, of one element. -/
theorem app_oneO {w : World} {o : (Nat → Nat × Nat)} {t : Nat × Nat} (htm : ¬ t.1 = 1) {k : Nat} {v : Value} {n : Nat} {cs : List Value} (T e : TypeId) (z : Value) (bz : Nat) (ht : Try.prog.underlying T = some (.slice e)) (hinfo : (Try.prog.info? e).map (fun i => (i.zero, i.size, i.bytes)) = some (some z, k, bz)) (hz : z.cells.size = k)
    (h0 : OwnO w o t k v n cs) (news : List Value) (hnl : news.length = k) (hn1 : ∀ u ∈ news, u.oneCell' = true) (hb : (n + 1) * bz ≤ 140737488355328) (hb2 : n + 1 ≤ 140737488355328) :
    ∃ v' w' o', (Builtin.append_ #[T, T] T #[v, .slice (some ⟨w.heap.size, 0, none⟩) 1 1]).run Try.prog (w.alloc (.cells news.toArray e)) = .ok v' w' ∧ OwnO w' o' t k v' (n + 1) (cs ++ news) ∧ Fr (· = t) o o' w w' := by
  obtain ⟨i0, hi, hz0, hz1, hz2⟩ := info_parts hinfo
  have hs := src_new ht w k 1 news hnl hn1
  have FA : Fr (fun _ => False) o o w (w.alloc (.cells news.toArray e)) := Fr.alloc _ o w _
  have h := h0.fr FA id
  obtain ⟨W, hW⟩ : ∃ W, W = w.alloc (.cells news.toArray e) := ⟨_, rfl⟩
  obtain ⟨x, hx⟩ : ∃ x, x = Value.slice (some ⟨w.heap.size, 0, none⟩) 1 1 := ⟨_, rfl⟩
  rw [← hW, ← hx] at hs
  rw [← hW] at h FA
  rw [← hW, ← hx]
  have hs' : Src Try.prog i0.size T x 1 news W := by rw [hz1]; exact hs
  obtain ⟨hl, h1, h⟩ := h
  have hmax : n + 1 ≤ maxLen := by unfold maxLen; omega
  have hnl2 : news.length = 1 * k := by omega
  have grow : ∀ (a : Option Addr) (c : Nat), v = .slice a n c → c < n + 1 → (Builtin.firstCells i0.size n (.slice a n c)).run Try.prog W.drew = .ok cs.toArray W.drew →
      ∃ v' w' o', (Builtin.append_ #[T, T] T #[v, x]).run Try.prog W = .ok v' w' ∧ OwnO w' o' t k v' (n + 1) (cs ++ news) ∧ Fr (· = t) o o' w w' := by
    rintro a c rfl hc hold
    have hr := run_append_grow_src (P := Try.prog) W T T T e i0 z ht hi hz0 a n c cs hold x 1 news hs' hc (by omega) (by rw [hz2]; exact growslice_fits hc hb)
    have hge := grownCap_ge W (n + 1) c e
    have hcm := grownCap_le_maxLen W (n + 1) c e hmax
    obtain ⟨cap, hcap⟩ : ∃ cap, grownCap W (n + 1) c e = cap := ⟨_, rfl⟩
    rw [hcap] at hr hge hcm
    refine ⟨_, _, lab o W.heap.size t, hr, ?_, ((FA.mono (fun _ h => h.elim)).trans (Fr.drew1 _ o W)).trans (Fr.new _ o W.drew _ t (fun x => absurd x htm))⟩
    have := own_new (w := W.drew) (o := o) (t := t) (k := k) (n := n + 1) (cap := cap) (e := e) (cs ++ news) (Builtin.zeroCells z.cells (cap - (n + 1))) (by rw [List.length_append, hl, hnl, Nat.add_mul]; omega) (fun u hu => by rcases List.mem_append.1 hu with h | h; exact h1 u h; exact hn1 u h) hge hcm (by rw [size_zeroCells, hz])
    exact OwnK.off this
  rcases h with ⟨A, rfl, rfl⟩ | ⟨g, f, cap, rfl, h2, h3, h4, h5, h6, h7⟩
  · have hcs : cs = [] := List.eq_nil_of_length_eq_zero (by omega)
    subst hcs
    cases A with
    | none => exact grow none 0 rfl (by omega) (by simpa using run_firstCells_none (P := Try.prog) W.drew i0.size 0 0 0)
    | some ad => exact grow (some ad) 0 rfl (by omega) (run_firstCells_some (P := Try.prog) W.drew i0.size 0 ad 0 0 [] (by simp) (fun j u hu => by simp at hu))
  · by_cases hroom : n + 1 ≤ cap
    · have hcap : n * k + 1 * k ≤ cap * k := by rw [← Nat.add_mul]; exact Nat.mul_le_mul_right _ hroom
      have hr := run_append_room_src (P := Try.prog) W T T T e i0 ht hi g f n cap x 1 news hs' hroom (fun j hj => by
          rw [hz1, Nat.add_assoc]
          exact (h7 (n * k + j) (by omega)).1) (fun j hj => by
          rw [hz1, Nat.add_assoc]
          exact (h7 (n * k + j) (by omega)).2)
      rw [hz1] at hr
      exact ⟨_, _, o, hr, own_roomO hl hnl2 h1 hn1 h2 h3 hroom h5 h6 h7, (FA.mono (fun _ h => h.elim)).trans (Fr.sets (T := (· = t)) h2 _ _ _)⟩
    · refine grow _ cap rfl (by omega) (run_firstCells_some (P := Try.prog) W.drew i0.size n ⟨g, f, none⟩ n cap cs (by rw [hl, hz1]) (fun j u hu => ?_))
      rw [add_lit']; exact h6 j u hu
theorem elem30 : Try.prog.underlying 30 = some (.slice (Try.prog.elem 30)) := by kernel_rfl
theorem elem30' : Try.prog.elem 30 = 26 := by kernel_rfl
theorem size26' (w : World) : (sizeOf 26).run Try.prog w = .ok 9 w := by kernel_rfl
/-- The first frame gone. -/
theorem OwnO.tail {w : World} {o : (Nat → Nat × Nat)} {t : Nat × Nat} {a : Option Addr} {n c : Nat} {f : F} {l : List F} (h : OwnO w o t 9 (.slice a (n + 1) c) (n + 1) (fc (f :: l))) :
    ∃ ua uc, (∀ w' : World, (Instr.sliceAt 30 (.slice a (n + 1) c) (some (.int .i64 1)) none none).run Try.prog w' = .ok (.slice ua n uc) w') ∧ OwnO w o t 9 (.slice ua n uc) n (fc l) := by
  obtain ⟨g, off, cap, e, h2, h3, h4, h5, h6, h7⟩ := h.there (by omega)
  injection e with e1 _ e3
  subst e1 e3
  have hfl : fc (f :: l) = f.cs ++ fc l := by simp [fc]
  have hl := h.1
  rw [hfl, List.length_append, show f.cs.length = 9 from rfl] at hl
  refine ⟨some (cut1 g off c 9), c - 1, fun w' => slice_1G 30 26 9 elem30 elem30' size26' g off (n + 1) c (by omega) w', by omega, fc_one l, ?_⟩
  by_cases e : c = 1
  · exact .inl ⟨_, by rw [e, show n = 0 by omega], by omega⟩
  · refine .inr ⟨g, off + 9, c - 1, by unfold cut1; rw [if_neg e], h2, h3, by omega, by omega, fun j u hu => ?_, fun j hj => ?_⟩
    · have := h6 (9 + j) u (by rw [hfl, List.getElem?_append_right (by show 9 ≤ 9 + j; omega), show 9 + j - f.cs.length = j by show 9 + j - 9 = j; omega]; exact hu)
      rw [Nat.add_assoc]; exact this
    · have := h7 (9 + j) (by omega)
      rw [Nat.add_assoc]; exact this
/-- Nine cells of a frame. -/
def FrmAt (w : World) (g off : Nat) (f : F) : Prop := ∀ j u, f.cs[j]? = some u → w.cell? ⟨g, off + j, none⟩ = some u
theorem OwnO.head {w : World} {o : (Nat → Nat × Nat)} {t : Nat × Nat} {a : Option Addr} {n c : Nat} {f : F} {l : List F} (h : OwnO w o t 9 (.slice a (n + 1) c) (n + 1) (fc (f :: l))) : ∃ g off, a = some ⟨g, off, none⟩ ∧ FrmAt w g off f := by
  obtain ⟨g, off, cap, e, h2, h3, h4, h5, h6, h7⟩ := h.there (by omega)
  injection e with e1 _ e3
  refine ⟨g, off, e1, fun j u hu => h6 j u ?_⟩
  have hfl : fc (f :: l) = f.cs ++ fc l := by simp [fc]
  rw [hfl, List.getElem?_append_left (List.getElem?_eq_some_iff.1 hu).1]
  exact hu
/-- n calls lie at a. -/
def AskF (w : World) (a : Option Addr) (q : Nat → Int × F) (n : Nat) : Prop := n = 0 ∨ ∃ p off, a = some ⟨p, off, none⟩ ∧ ∀ i, i < n → w.cell? ⟨p, off + i * 10, none⟩ = some (.int .i64 (q i).1) ∧ FrmAt w p (off + i * 10 + 1) (q i).2
end Go.Proofs.Ytpepklgahljhbaa
