/-
  THE REFERENCE'S CHAIN IN MEMORY: rows of lists of keys and numbers; its Shape, bucket, Get, NewChain.
-/
import Derived.Test.YtaflabjeddckeaaMap
namespace Go.Proofs.Ytaflabjeddckeaa
open Go.RowKit

/-- Keys and numbers as cells. -/
def kvc (l : List KV) : List Value := l.flatMap fun p => [.string p.1, .int .i64 p.2]
theorem kvc_cons (p : KV) (l : List KV) : kvc (p :: l) = .string p.1 :: .int .i64 p.2 :: kvc l := rfl
theorem kvc_append (l m : List KV) : kvc (l ++ m) = kvc l ++ kvc m := by simp [kvc]
theorem kvc_at : ∀ (l : List KV) (j : Nat) (p : KV), l[j]? = some p → (kvc l)[j * 2]? = some (.string p.1) ∧ (kvc l)[j * 2 + 1]? = some (.int .i64 p.2)
  | [], j, p, h => by simp at h
  | q :: l, 0, p, h => by simp at h; subst h; exact ⟨rfl, rfl⟩
  | q :: l, j + 1, p, h => by
    rw [kvc_cons, show (j + 1) * 2 = j * 2 + 1 + 1 by omega]
    simp only [List.getElem?_cons_succ] at h ⊢
    exact kvc_at l j p h
theorem kvc_take : ∀ (l : List KV) (i : Nat), (kvc l).take (i * 2) = kvc (l.take i)
  | [], i => by simp [kvc]
  | p :: l, 0 => by simp [kvc]
  | p :: l, i + 1 => by rw [kvc_cons, show (i + 1) * 2 = i * 2 + 1 + 1 by omega, List.take_succ_cons, List.take_succ_cons, List.take_succ_cons, kvc_cons, kvc_take l i]
theorem kvc_drop : ∀ (l : List KV) (i : Nat), (kvc l).drop (i * 2) = kvc (l.drop i)
  | [], i => by simp [kvc]
  | p :: l, 0 => by simp
  | p :: l, i + 1 => by rw [kvc_cons, show (i + 1) * 2 = i * 2 + 1 + 1 by omega, List.drop_succ_cons, List.drop_succ_cons, List.drop_succ_cons, kvc_drop l i]
theorem kvc_out (l : List KV) (i : Nat) : (kvc l).take (i * 2) ++ (kvc l).drop ((i + 1) * 2) = kvc (out l i) := by
  rw [kvc_take, kvc_drop, ← kvc_append]; rfl
theorem kvc_set : ∀ (l : List KV) (j : Nat) (k : ByteArray) (u v : Int), l[j]? = some (k, u) → (kvc l).set (j * 2 + 1) (.int .i64 v) = kvc (l.set j (k, v))
  | [], j, k, u, v, h => by simp at h
  | q :: l, 0, k, u, v, h => by simp at h; subst h; rfl
  | q :: l, j + 1, k, u, v, h => by
    rw [kvc_cons, show (j + 1) * 2 + 1 = j * 2 + 1 + 1 + 1 by omega, List.set_cons_succ, List.set_cons_succ, List.set_cons_succ, kvc_cons]
    simp only [List.getElem?_cons_succ] at h
    rw [kvc_set l j k u v h]
/-- Marks of a row of n buckets, and of its bucket i. -/
def mA (x n : Nat) : Nat × Nat := (x, 2 * n + 2)
def mB (x n i : Nat) : Nat × Nat := (x, 2 * (n + i) + 3)
structure RowB (w : World) (o : Nat → Nat × Nat) (x G n : Nat) (B : Nat → List KV) : Prop where
  og : o G = mA x n
  bk : ∀ i, i < n → ∃ v, w.cell? ⟨G, i, none⟩ = some v ∧ OwnK w o (mB x n i) 2 v (B i).length (kvc (B i))
  fz : ∀ i, i < n → w.frozen? ⟨G, i, none⟩ = false
theorem RowB.lt {w : World} {o : Nat → Nat × Nat} {x G n : Nat} {B : Nat → List KV} (h : RowB w o x G n B) (hn : 0 < n) : G < w.heap.size := by
  obtain ⟨v, hv, _⟩ := h.bk 0 hn
  exact World.block_lt_of_cell? _ _ hv
theorem RowB.fr {T : Nat × Nat → Prop} {w w' : World} {o o' : Nat → Nat × Nat} {x G n : Nat} {B : Nat → List KV} (h : RowB w o x G n B) (hn : 0 < n) (f : Fr T o o' w w') (h1 : ¬ T (mA x n)) (h2 : ∀ i, i < n → ¬ T (mB x n i)) : RowB w' o' x G n B := by
  have hlt := h.lt hn
  have hG : ¬ T (o G) := by rw [h.og]; exact h1
  refine ⟨(f.lab G hlt).trans h.og, fun i hi => ?_, fun i hi => (f.frozen hlt hG).trans (h.fz i hi)⟩
  obtain ⟨v, hv, ho⟩ := h.bk i hi
  exact ⟨v, f.cell hv hG, ho.fr f (h2 i hi)⟩
structure IsR (w : World) (o : Nat → Nat × Nat) (x C : Nat) (a : A) (B : Bool → Nat → List KV) (G : Bool → Nat) : Prop where
  has : Has a B
  oC : o C = (x, 0)
  c0 : w.cell? ⟨C, 0, none⟩ = some (.slice (some ⟨G true, 0, none⟩) a.n a.n)
  c1 : w.cell? ⟨C, 1, none⟩ = some (oldV a.m (G false))
  c2 : w.cell? ⟨C, 2, none⟩ = some (.int .i64 ((a.mv : Nat) : Int))
  c3 : w.cell? ⟨C, 3, none⟩ = some (.int .i64 a.keys)
  fz : ∀ j, w.frozen? ⟨C, j, none⟩ = false
  row : ∀ r, 0 < a.cnt r → RowB w o x (G r) (a.cnt r) (B r)
def IsRef (w : World) (o : Nat → Nat × Nat) (x C : Nat) (a : A) : Prop := ∃ B G, IsR w o x C a B G
theorem IsR.fr {T : Nat × Nat → Prop} {w w' : World} {o o' : Nat → Nat × Nat} {x C : Nat} {a : A} {B : Bool → Nat → List KV} {G : Bool → Nat} (h : IsR w o x C a B G) (f : Fr T o o' w w') (hT : ∀ q, ¬ T (x, q)) : IsR w' o' x C a B G := by
  have hlt := World.block_lt_of_cell? _ _ h.c0
  have hC : ¬ T (o C) := by rw [h.oC]; exact hT 0
  exact ⟨h.has, (f.lab C hlt).trans h.oC, f.cell h.c0 hC, f.cell h.c1 hC, f.cell h.c2 hC, f.cell h.c3 hC, fun j => (f.frozen hlt hC).trans (h.fz j), fun r hr => (h.row r hr).fr hr f (hT _) (fun _ _ => hT _)⟩
theorem IsR.below {w w' : World} {o : Nat → Nat × Nat} {x C : Nat} {a : A} {B : Bool → Nat → List KV} {G : Bool → Nat} (h : IsR w o x C a B G) (hb : Below w.heap.size w w') : IsR w' o x C a B G := h.fr (Fr.ofBelow (fun _ => False) o hb) (fun _ x => x)
theorem IsRef.fr {T : Nat × Nat → Prop} {w w' : World} {o o' : Nat → Nat × Nat} {x C : Nat} {a : A} (h : IsRef w o x C a) (f : Fr T o o' w w') (hT : ∀ q, ¬ T (x, q)) : IsRef w' o' x C a := by
  obtain ⟨B, G, h⟩ := h; exact ⟨B, G, h.fr f hT⟩
theorem IsRef.below {w w' : World} {o : Nat → Nat × Nat} {x C : Nat} {a : A} (h : IsRef w o x C a) (hb : Below w.heap.size w w') : IsRef w' o x C a := by
  obtain ⟨B, G, h⟩ := h; exact ⟨B, G, h.below hb⟩
/-- Lists whose elements are all among others, none twice, are no longer. -/
theorem nodup_len {α : Type} [DecidableEq α] : ∀ (l m : List α), l.Nodup → (∀ x ∈ l, x ∈ m) → l.length ≤ m.length
  | [], _, _, _ => Nat.zero_le _
  | x :: l, m, h, hm => by
    obtain ⟨h1, h2⟩ := List.nodup_cons.1 h
    have hx := hm x List.mem_cons_self
    have := nodup_len l (m.erase x) h2 (fun y hy => (List.mem_erase_of_ne (fun e => h1 (by rw [← e]; exact hy))).2 (hm y (List.mem_cons_of_mem _ hy)))
    rw [List.length_erase_of_mem hx] at this
    have hpos : 0 < m.length := List.length_pos_of_mem hx
    show l.length + 1 ≤ _
    omega
/-- All keys that are there are among these; so few that each bucket is short. -/
def Dom (a : A) (K : List ByteArray) : Prop := K.length ≤ 1000 ∧ (∀ k v, a.F k = some v → k ∈ K) ∧ ∀ k ∈ K, k.size ≤ 140737488355328
theorem Has.short {a : A} {B : Bool → Nat → List KV} (h : Has a B) {K : List ByteArray} (hK : Dom a K) {r : Bool} {i : Nat} (hi : i < a.cnt r) : (B r i).length ≤ 1000 := by
  have := nodup_len ((B r i).map (·.1)) K (h.nd r i hi) (fun k hk => by
    obtain ⟨p, hp, rfl⟩ := List.mem_map.1 hk
    exact hK.2.1 p.1 p.2 ((h.ff p.1 p.2).2 ⟨r, i, hi, hp⟩))
  rw [List.length_map] at this
  exact Nat.le_trans this hK.1
theorem Has.ksz {a : A} {B : Bool → Nat → List KV} (h : Has a B) {K : List ByteArray} (hK : Dom a K) {r : Bool} {i : Nat} (hi : i < a.cnt r) {p : KV} (hp : p ∈ B r i) : p.1.size ≤ 140737488355328 :=
  hK.2.2 _ (hK.2.1 p.1 p.2 ((h.ff p.1 p.2).2 ⟨r, i, hi, hp⟩))
theorem rshape_any (x C : Nat) (a : A) (w : World) (o : Nat → Nat × Nat) (h : IsRef w o x C a) :
    Calls Try.prog 22 #[.pointer (some ⟨C, 0, none⟩)] w fun e w' => e = .returned (.tuple #[.int .i64 ((a.n : Nat) : Int), .int .i64 ((a.m : Nat) : Int), .int .i64 ((a.mv : Nat) : Int)]) ∧ Below w.heap.size w w' := by
  obtain ⟨B, G, h⟩ := h
  have c0 := h.c0
  have c1 := h.c1
  have c2 := h.c2
  obtain ⟨s, hs⟩ := oldV_form a.m (G false)
  rw [hs] at c1
  clear h hs
  go_enter Try.func22, Try.ntmps22
  go_wp2_with fail
  go_quiet (fail)
  go_wp2_with fail
  refine bodyPost_ret (v := .tuple #[.int .i64 ((a.n : Nat) : Int), .int .i64 ((a.m : Nat) : Int), .int .i64 ((a.mv : Nat) : Int)]) (by simp [results, Try.results22, go_sem]) rfl ?_
  exact ⟨rfl, below_drewN (Below.refl _ _) nq⟩
set_option maxHeartbeats 1000000 in
theorem rbucket_any (x C : Nat) (a : A) (k : ByteArray) (hk : k.size ≤ 140737488355328) (w : World) (o : Nat → Nat × Nat) (B : Bool → Nat → List KV) (G : Bool → Nat) (h : IsR w o x C a B G) :
    Calls Try.prog 30 #[.pointer (some ⟨C, 0, none⟩), .string k] w fun e w' => e = .returned (.pointer (some ⟨G (a.row k), a.at_ k, none⟩)) ∧ ∃ d, w' = w.drewN d := by
  have c0 := h.c0
  have c1 := h.c1
  have c2 := h.c2
  have hok := h.has.ok
  have hn0 := hok.1
  have hn2 := hok.2.1
  have hm2 : a.m ≤ 8192 := by have := hok.2.2; omega
  have hh := hsn_lt k
  obtain ⟨h', hh'⟩ : ∃ h', h' = hsn k := ⟨_, rfl⟩
  have HH : Hid (h' = hsn k) := hh'
  rw [← hh'] at hh
  have hwn : ((h' : Int)).tmod (a.n : Int) = ((h' % a.n : Nat) : Int) := by rw [Int.natCast_emod, Int.tmod_eq_emod_of_nonneg (by omega)]
  have hwm : ((h' : Int)).tmod (a.m : Int) = ((h' % a.m : Nat) : Int) := by rw [Int.natCast_emod, Int.tmod_eq_emod_of_nonneg (by omega)]
  clear hh' h
  by_cases hm : a.m = 0
  · rw [hm] at c1
    replace c1 : w.cell? ⟨C, 1, none⟩ = some (.slice none 0 0) := c1
    have er : a.row k = true := by unfold A.row; simp [hm]
    have ea : a.at_ k = h' % a.n := by unfold A.at_; rw [er, HH.out]; rfl
    rw [er, ea]
    clear er ea hm hwm hok hm2
    go_enter Try.func30, Try.ntmps30
    go_wp2_with fail
    refine (rhash_any k hk _).mono ?_
    rintro e w2 ⟨rfl, rfl⟩
    rw [hsn_eq, ← HH.out]
    obtain ⟨t, ht⟩ : ∃ t, t = h' % a.n := ⟨_, rfl⟩
    have HT : Hid (t = h' % a.n) := ht
    have htn : t < a.n := by rw [ht]; exact Nat.mod_lt _ hn0
    have ti : (t : Int) < (a.n : Int) := by omega
    rw [← ht] at hwn
    have hw2 : IntKind.i64.wrap ((h' : Int).tmod (a.n : Int)) = (t : Int) := by rw [hwn, IntKind.wrap_i64]; omega
    have e0 : ((a.n : Int) == 0) = false := by simp; omega
    have e1 : ¬ ((a.n : Int) = 0) := by omega
    have e2 : ¬ ((a.n : Int) = -1) := by omega
    clear ht
    go_wp2_with fail
    go_quiet (fail)
    go_wp2_with fail
    go_ret
    exact ⟨by rw [← HT.out]; rfl, nq, rfl⟩
  · rw [oldV_pos hm] at c1
    obtain ⟨u, hu⟩ : ∃ u, u = h' % a.m := ⟨_, rfl⟩
    have HU : Hid (u = h' % a.m) := hu
    have hum : u < a.m := by rw [hu]; exact Nat.mod_lt _ (by omega)
    have ui : (u : Int) < (a.m : Int) := by omega
    rw [← hu] at hwm
    have hv2 : IntKind.i64.wrap ((h' : Int).tmod (a.m : Int)) = (u : Int) := by rw [hwm, IntKind.wrap_i64]; omega
    have f0 : ((a.m : Int) == 0) = false := by simp; omega
    have f1 : ¬ ((a.m : Int) = 0) := by omega
    have f2 : ¬ ((a.m : Int) = -1) := by omega
    have f3 : decide (0 < a.m) = true := by simp; omega
    have f4 : (0 : Int) < (a.m : Int) := by omega
    obtain ⟨t, ht⟩ : ∃ t, t = h' % a.n := ⟨_, rfl⟩
    have HT : Hid (t = h' % a.n) := ht
    have htn : t < a.n := by rw [ht]; exact Nat.mod_lt _ hn0
    have ti : (t : Int) < (a.n : Int) := by omega
    rw [← ht] at hwn
    have hw2 : IntKind.i64.wrap ((h' : Int).tmod (a.n : Int)) = (t : Int) := by rw [hwn, IntKind.wrap_i64]; omega
    have e0 : ((a.n : Int) == 0) = false := by simp; omega
    have e1 : ¬ ((a.n : Int) = 0) := by omega
    have e2 : ¬ ((a.n : Int) = -1) := by omega
    by_cases hmv : a.mv ≤ u
    · have er : a.row k = false := by
        unfold A.row
        rw [← HH.out, ← hu]
        simp [hmv]; omega
      have ea : a.at_ k = u := by unfold A.at_; rw [er, ← HH.out, hu]; rfl
      rw [er, ea]
      have g1 : decide (a.mv ≤ u) = true := by simpa using hmv
      have g2 : (a.mv : Int) ≤ (u : Int) := by omega
      clear er ea hm hok hu ht
      go_enter Try.func30, Try.ntmps30
      go_wp2_with fail
      refine (rhash_any k hk _).mono ?_
      rintro e w2 ⟨rfl, rfl⟩
      rw [hsn_eq, ← HH.out]
      go_wp2_with fail
      go_ret
      exact ⟨rfl, 0, rfl⟩
    · have er : a.row k = true := by
        unfold A.row
        rw [← HH.out, ← hu]
        simp [hmv]
      have ea : a.at_ k = t := by unfold A.at_; rw [er, ← HH.out, ht]; rfl
      rw [er, ea]
      have g1 : decide (a.mv ≤ u) = false := by simpa using hmv
      have g2 : decide ((a.mv : Int) ≤ (u : Int)) = false := by simp; omega
      clear er ea hm hok hu ht
      go_enter Try.func30, Try.ntmps30
      go_wp2_with fail
      refine (rhash_any k hk _).mono ?_
      rintro e w2 ⟨rfl, rfl⟩
      rw [hsn_eq, ← HH.out]
      go_wp2_with fail
      go_quiet (fail)
      go_wp2_with fail
      go_ret
      exact ⟨rfl, nq, rfl⟩
/-- A key's bucket in memory. -/
theorem IsR.bucket {w : World} {o : Nat → Nat × Nat} {x C : Nat} {a : A} {B : Bool → Nat → List KV} {G : Bool → Nat} (h : IsR w o x C a B G) (k : ByteArray) : RowB w o x (G (a.row k)) (a.cnt (a.row k)) (B (a.row k)) ∧ a.at_ k < a.cnt (a.row k) :=
  ⟨h.row _ (A.cnt_row h.has.ok k), A.at_lt h.has.ok k⟩
/-- A key that isn't among those of its bucket isn't there. -/
theorem Has.no {a : A} {B : Bool → Nat → List KV} (h : Has a B) {k : ByteArray} (hn : ∀ (j : Nat) p, (B (a.row k) (a.at_ k))[j]? = some p → p.1 ≠ k) : a.F k = none :=
  h.nokey k fun p hp => by
    obtain ⟨j, hj⟩ := List.mem_iff_getElem?.1 hp
    exact hn j p hj
set_option maxHeartbeats 1000000 in
theorem rget_any (x C : Nat) (a : A) (k : ByteArray) (hk : k.size ≤ 140737488355328) (K : List ByteArray) (hK : Dom a K) (w : World) (o : Nat → Nat × Nat) (h : IsRef w o x C a) :
    Calls Try.prog 19 #[.pointer (some ⟨C, 0, none⟩), .string k] w fun e w' => e = .returned (.tuple #[.int .i64 ((a.F k).getD 0), .bool (a.F k).isSome]) ∧ Below w.heap.size w w' := by
  obtain ⟨B, G, h⟩ := h
  obtain ⟨rr, hat⟩ := h.bucket k
  have hsh := h.has.short hK hat
  obtain ⟨v, hv, ow⟩ := rr.bk _ hat
  obtain ⟨va, vc, rfl, hvc⟩ := ow.form
  have HC : Hid (IsR w o x C a B G) := h
  have HO : Hid (OwnK w o (mB x (a.cnt (a.row k)) (a.at_ k)) 2 (.slice va (B (a.row k) (a.at_ k)).length vc) (B (a.row k) (a.at_ k)).length (kvc (B (a.row k) (a.at_ k)))) := ow
  obtain ⟨l, hl⟩ : ∃ l, l = B (a.row k) (a.at_ k) := ⟨_, rfl⟩
  have HL : Hid (l = B (a.row k) (a.at_ k)) := hl
  rw [← hl] at HO hv hsh
  obtain ⟨n, hn⟩ : ∃ n, n = l.length := ⟨_, rfl⟩
  have HN : Hid (n = l.length) := hn
  rw [← hn] at HO hv hsh
  clear h rr ow hl hn hvc
  go_enter Try.func19, Try.ntmps19
  go_wp2_with fail
  refine (rbucket_any x C a k hk _ o B G HC.out).mono ?_
  rintro e w2 ⟨rfl, d, rfl⟩
  go_wp2_with fail
  go_loopw [7] (fun y wr => ∃ j : Nat, y = .int .i64 (j : Int) ∧ j ≤ n ∧ Hid (∀ (i : Nat) p, i < j → l[i]? = some p → p.1 ≠ k) ∧ w.drewN d = wr) (fun y _ => n - (intOf y).toNat)
  case atStart => exact ⟨0, rfl, by omega, fun i p hi => by omega, rfl⟩
  case round =>
    obtain ⟨j, rfl, hj, HP, rfl⟩ := hrel
    by_cases hjn : j < n
    · have k1 : (j : Int) < (n : Int) := by omega
      obtain ⟨g, c, eg, og, _, _, _, hcell, _⟩ := HO.out.there (by omega)
      injection eg with e1 _ e3
      subst e1 e3
      obtain ⟨p, hp⟩ : ∃ p, l[j]? = some p := ⟨_, List.getElem?_eq_getElem (by rw [← HN.out]; exact hjn)⟩
      obtain ⟨q1, q2⟩ := kvc_at _ _ _ hp
      have y1 := hcell _ _ q1
      have y2 := hcell _ _ q2
      have HPj : Hid (l[j]? = some p) := hp
      clear hcell q1 q2 hp
      by_cases hpk : p.1 = k
      · have s1 : (p.1.toList == k.toList) = true := by rw [str_beq, hpk]; simp
        have HF : Hid (a.F k = some p.2) := (HC.out.has.at_ k p.2).2 (by rw [← HL.out]; rw [← hpk]; exact List.mem_of_getElem? HPj.out)
        clear hpk
        go_wp2_with fail
        go_ret2
        exact ⟨by rw [HF.out]; rfl, below_drewN (Below.refl _ _) d⟩
      · have s1 : (p.1.toList == k.toList) = false := by rw [str_beq, decide_eq_false hpk]
        have HPK : Hid (p.1 ≠ k) := hpk
        clear hpk
        go_wp2_with fail
        refine ⟨⟨j + 1, by go_num, by omega, fun i q hi hq => ?_, trivial⟩, by simp [intOf]; omega⟩
        by_cases e : i = j
        · rw [e, HPj.out] at hq; injection hq with hq; rw [← hq]; exact HPK.out
        · exact HP.out i q (by omega) hq
    · have k1 : decide ((j : Int) < (n : Int)) = false := by simp; omega
      have HF : Hid (a.F k = none) := HC.out.has.no (fun i p hp => by
        rw [← HL.out] at hp
        exact HP.out i p (by have := (List.getElem?_eq_some_iff.1 hp).1; rw [← HN.out] at this; omega) hp)
      go_wp2_with fail
      go_ret2
      exact ⟨by rw [HF.out]; rfl, below_drewN (Below.refl _ _) d⟩
end Go.Proofs.Ytaflabjeddckeaa
