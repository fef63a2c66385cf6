/-
  A CHAIN IN MEMORY: entries that lead one to the next, rows of buckets; place, Len, Shape.
-/
import Derived.Test.YtbflcnghpkmcoaaCPure
import Derived.Test.YtbflcnghpkmcoaaShelf
import Derived.Test.YtbflcnghpkmcoaaSlab
import Derived.Deep.RegionHeld3
import Derived.Deep.RegionWith
namespace Go.Proofs.Ytbflcnghpkmcoaa
open Go.RowKit

structure Ent where
  b : Nat
  k : ByteArray
  v : Int
def Ent.kv (e : Ent) : KV := (e.k, e.v)
/-- The pointer to the first one. -/
def hd : List Ent → Value
  | [] => .pointer none
  | e :: _ => .pointer (some ⟨e.b, 0, none⟩)
def hdp : List Ent → Option Addr
  | [] => none
  | e :: _ => some ⟨e.b, 0, none⟩
theorem hd_eq (l : List Ent) : hd l = .pointer (hdp l) := by cases l <;> rfl
/-- An entry lies in its block. -/
structure EntF (w : World) (o : Nat → Nat × Nat) (x : Nat) (e : Ent) (nx : Value) : Prop where
  ob : o e.b = (x, 2)
  c0 : w.cell? ⟨e.b, 0, none⟩ = some (.string e.k)
  c1 : w.cell? ⟨e.b, 1, none⟩ = some (.int .i64 e.v)
  c2 : w.cell? ⟨e.b, 2, none⟩ = some nx
  f1 : w.frozen? ⟨e.b, 1, none⟩ = false
  f2 : w.frozen? ⟨e.b, 2, none⟩ = false
  ks : e.k.size ≤ 140737488355328
theorem EntF.lt {w : World} {o : Nat → Nat × Nat} {x : Nat} {e : Ent} {nx : Value} (h : EntF w o x e nx) : e.b < w.heap.size := World.block_lt_of_cell? _ _ h.c0
theorem EntF.cg {w w' : World} {o o' : Nat → Nat × Nat} {x : Nat} {e : Ent} {nx : Value} (h : EntF w o x e nx) (hb : w'.heap[e.b]? = w.heap[e.b]?) (ho : o' e.b = o e.b) : EntF w' o' x e nx :=
  ⟨ho.trans h.ob, (World.cell?_of_block (a := ⟨e.b, 0, none⟩) hb).trans h.c0, (World.cell?_of_block (a := ⟨e.b, 1, none⟩) hb).trans h.c1, (World.cell?_of_block (a := ⟨e.b, 2, none⟩) hb).trans h.c2,
    (World.frozen?_of_block (a := ⟨e.b, 1, none⟩) hb).trans h.f1, (World.frozen?_of_block (a := ⟨e.b, 2, none⟩) hb).trans h.f2, h.ks⟩
/-- Two entries in one block have one key. -/
theorem EntF.key {w : World} {o o' : Nat → Nat × Nat} {x x' : Nat} {e e' : Ent} {nx nx' : Value} (h : EntF w o x e nx) (h' : EntF w o' x' e' nx') (hb : e.b = e'.b) : e.k = e'.k := by
  have h1 := h.c0
  rw [hb, h'.c0] at h1
  injection h1 with h1
  injection h1 with h1
  exact h1.symm
def Chn (w : World) (o : Nat → Nat × Nat) (x : Nat) : List Ent → Prop
  | [] => True
  | e :: l => EntF w o x e (hd l) ∧ Chn w o x l
theorem Chn.tail {w : World} {o : Nat → Nat × Nat} {x : Nat} : ∀ {pre post : List Ent}, Chn w o x (pre ++ post) → Chn w o x post
  | [], _, h => h
  | _ :: pre, _, h => Chn.tail (pre := pre) h.2
theorem Chn.mem {w : World} {o : Nat → Nat × Nat} {x : Nat} : ∀ {l : List Ent}, Chn w o x l → ∀ {e}, e ∈ l → ∃ nx, EntF w o x e nx
  | _ :: _, h, e, he => by
    rcases List.mem_cons.1 he with rfl | he
    · exact ⟨_, h.1⟩
    · exact Chn.mem h.2 he
theorem Chn.cg {w w' : World} {o o' : Nat → Nat × Nat} {x : Nat} : ∀ {l : List Ent}, Chn w o x l → (∀ e ∈ l, w'.heap[e.b]? = w.heap[e.b]?) → (∀ e ∈ l, o' e.b = o e.b) → Chn w' o' x l
  | [], _, _, _ => trivial
  | e :: _, h, hb, ho => ⟨h.1.cg (hb e List.mem_cons_self) (ho e List.mem_cons_self), Chn.cg h.2 (fun e he => hb e (List.mem_cons_of_mem _ he)) (fun e he => ho e (List.mem_cons_of_mem _ he))⟩
theorem Chn.fr {T : Nat × Nat → Prop} {w w' : World} {o o' : Nat → Nat × Nat} {x : Nat} {l : List Ent} (h : Chn w o x l) (f : Fr T o o' w w') (hT : ¬ T (x, 2)) : Chn w' o' x l :=
  h.cg (fun e he => by obtain ⟨nx, hn⟩ := h.mem he; exact f.block _ hn.lt (by rw [hn.ob]; exact hT)) (fun e he => by obtain ⟨nx, hn⟩ := h.mem he; exact f.lab _ hn.lt)
/-- A row of n buckets lies in block G. -/
structure RowR (w : World) (o : Nat → Nat × Nat) (x G n : Nat) (E : Nat → List Ent) : Prop where
  og : o G = (x, 1)
  cl : ∀ i, i < n → w.cell? ⟨G, i, none⟩ = some (hd (E i))
  fz : ∀ i, i < n → w.frozen? ⟨G, i, none⟩ = false
  ch : ∀ i, i < n → Chn w o x (E i)
theorem RowR.fr {T : Nat × Nat → Prop} {w w' : World} {o o' : Nat → Nat × Nat} {x G n : Nat} {E : Nat → List Ent} (h : RowR w o x G n E) (hn : 0 < n) (f : Fr T o o' w w') (h1 : ¬ T (x, 1)) (h2 : ¬ T (x, 2)) : RowR w' o' x G n E := by
  have hlt := World.block_lt_of_cell? _ _ (h.cl 0 hn)
  have hG : ¬ T (o G) := by rw [h.og]; exact h1
  exact ⟨(f.lab G hlt).trans h.og, fun i hi => f.cell (h.cl i hi) hG, fun i hi => (f.frozen hlt hG).trans (h.fz i hi), fun i hi => (h.ch i hi).fr f h2⟩
/-- The old row's slice. -/
def oldV (m G : Nat) : Value := if m = 0 then .slice none 0 0 else .slice (some ⟨G, 0, none⟩) m m
theorem oldV_form (m G : Nat) : ∃ s, oldV m G = .slice s m m := by
  unfold oldV
  split
  · rename_i h; exact ⟨none, by rw [h]⟩
  · exact ⟨_, rfl⟩
theorem oldV_pos {m : Nat} (h : m ≠ 0) (G : Nat) : oldV m G = .slice (some ⟨G, 0, none⟩) m m := if_neg h
structure IsC (w : World) (o : Nat → Nat × Nat) (x C : Nat) (a : A) (E : Bool → Nat → List Ent) (G : Bool → Nat) : Prop where
  has : Has a (fun r i => (E r i).map Ent.kv)
  oC : o C = (x, 0)
  c0 : w.cell? ⟨C, 0, none⟩ = some (oldV a.m (G false))
  c1 : w.cell? ⟨C, 1, none⟩ = some (.int .i64 ((a.mv : Nat) : Int))
  c2 : w.cell? ⟨C, 2, none⟩ = some (.slice (some ⟨G true, 0, none⟩) a.n a.n)
  c3 : w.cell? ⟨C, 3, none⟩ = some (.int .i64 0)
  c4 : w.cell? ⟨C, 4, none⟩ = some (.int .i64 a.keys)
  fz : ∀ j, w.frozen? ⟨C, j, none⟩ = false
  row : ∀ r, 0 < a.cnt r → RowR w o x (G r) (a.cnt r) (E r)
  gne : a.m ≠ 0 → G false ≠ G true
/-- A chain lies in block C; its blocks bear x's marks. -/
def IsChain (w : World) (o : Nat → Nat × Nat) (x C : Nat) (a : A) : Prop := ∃ E G, IsC w o x C a E G
theorem IsC.fr {T : Nat × Nat → Prop} {w w' : World} {o o' : Nat → Nat × Nat} {x C : Nat} {a : A} {E : Bool → Nat → List Ent} {G : Bool → Nat} (h : IsC w o x C a E G) (f : Fr T o o' w w') (hT : ∀ q, ¬ T (x, q)) : IsC w' o' x C a E G := by
  have hlt := World.block_lt_of_cell? _ _ h.c0
  have hC : ¬ T (o C) := by rw [h.oC]; exact hT 0
  exact ⟨h.has, (f.lab C hlt).trans h.oC, f.cell h.c0 hC, f.cell h.c1 hC, f.cell h.c2 hC, f.cell h.c3 hC, f.cell h.c4 hC, fun j => (f.frozen hlt hC).trans (h.fz j), fun r hr => (h.row r hr).fr hr f (hT 1) (hT 2), h.gne⟩
theorem IsC.below {w w' : World} {o : Nat → Nat × Nat} {x C : Nat} {a : A} {E : Bool → Nat → List Ent} {G : Bool → Nat} (h : IsC w o x C a E G) (hb : Below w.heap.size w w') : IsC w' o x C a E G := h.fr (Fr.ofBelow (fun _ => False) o hb) (fun _ x => x)
theorem IsChain.fr {T : Nat × Nat → Prop} {w w' : World} {o o' : Nat → Nat × Nat} {x C : Nat} {a : A} (h : IsChain w o x C a) (f : Fr T o o' w w') (hT : ∀ q, ¬ T (x, q)) : IsChain w' o' x C a := by
  obtain ⟨E, G, h⟩ := h; exact ⟨E, G, h.fr f hT⟩
theorem IsChain.below {w w' : World} {o : Nat → Nat × Nat} {x C : Nat} {a : A} (h : IsChain w o x C a) (hb : Below w.heap.size w w') : IsChain w' o x C a := by
  obtain ⟨E, G, h⟩ := h; exact ⟨E, G, h.below hb⟩
theorem IsChain.ok {w : World} {o : Nat → Nat × Nat} {x C : Nat} {a : A} (h : IsChain w o x C a) : a.Ok := by
  obtain ⟨E, G, h⟩ := h; exact h.has.ok
set_option maxRecDepth 100000 in
set_option maxHeartbeats 1000000 in
theorem place_any (B q n c mv h : Nat) (s : Option Addr) (hn : n ≤ 8192) (hh : h < 4294967296) (w : World) (c0 : w.cell? ⟨B, q, none⟩ = some (.slice s n c)) (c1 : w.cell? ⟨B, q + 1, none⟩ = some (.int .i64 ((mv : Nat) : Int))) :
    Calls Try.prog 65 #[.pointer (some ⟨B, q, none⟩), .int .u32 ((h : Nat) : Int)] w fun e w' => e = .returned (.tuple #[.int .i64 (((if n = 0 then 0 else h % n) : Nat) : Int), .bool (decide (0 < n ∧ mv ≤ h % n))]) ∧ ∃ k, w' = w.drewN k := by
  by_cases hn0 : n = 0
  · subst hn0
    go_enter Try.func65, Try.ntmps65
    go_wp2_with fail
    go_ret2
    exact ⟨rfl, 0, rfl⟩
  · have e0 : ((n : Int) == 0) = false := by simp; omega
    obtain ⟨r, hr⟩ : ∃ r, r = h % n := ⟨_, rfl⟩
    have hrn : r < n := by rw [hr]; exact Nat.mod_lt _ (by omega)
    have hw : wrap64 ((h : Int) % (n : Int)) = ((r : Nat) : Int) := by
      rw [← Int.natCast_emod, ← hr]; unfold wrap64; omega
    have HW : Hid (wrap64 ((h : Int) % (n : Int)) = ((r : Nat) : Int)) := hw
    have hd1 : decide (0 < n ∧ mv ≤ r) = decide (mv ≤ r) := by simp; omega
    rw [if_neg hn0, ← hr, hd1]
    clear hw hr hd1
    go_enter Try.func65, Try.ntmps65
    go_wp2_with fail
    rw [HW.out]
    go_quiet (fail)
    go_wp2_with fail
    go_ret2
    exact ⟨rfl, nq, rfl⟩
set_option maxRecDepth 100000 in
theorem len_any (x C : Nat) (a : A) (w : World) (o : Nat → Nat × Nat) (h : IsChain w o x C a) :
    Calls Try.prog 49 #[.pointer (some ⟨C, 0, none⟩)] w fun e w' => e = .returned (.int .i64 a.keys) ∧ w = w' := by
  obtain ⟨E, G, h⟩ := h
  have c4 := h.c4
  clear h
  go_enter Try.func49, Try.ntmps49
  go_wp2_with fail
  go_ret
  exact ⟨rfl, rfl⟩
end Go.Proofs.Ytbflcnghpkmcoaa
