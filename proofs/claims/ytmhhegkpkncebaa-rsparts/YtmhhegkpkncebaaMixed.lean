/-
  MIXED of the program: the sum of rows, each times its factor, place by place.
-/
import Derived.Test.YtmhhegkpkncebaaCode
namespace Go.Proofs.Ytmhhegkpkncebaa
open Go.RowKit

/-- n strings lie at a. -/
def StrF (w : World) (a : Option Addr) (R : Nat → ByteArray) (n : Nat) : Prop :=
  n = 0 ∨ ∃ p off, a = some ⟨p, off, none⟩ ∧ ∀ i, i < n → w.cell? ⟨p, off + i, none⟩ = some (.string (R i))
theorem StrF.up {w w' : World} {a : Option Addr} {R : Nat → ByteArray} {n : Nat} (h : StrF w a R n) (hb : Below w.heap.size w w') : StrF w' a R n := by
  rcases h with h | ⟨p, off, e, hr⟩
  · exact Or.inl h
  · exact Or.inr ⟨p, off, e, fun i hi => cell_later hb (hr i hi)⟩
theorem str_at (s : ByteArray) (q : Nat) (h : q < s.size) (w : World) : (Instr.index 9 (.string s) (.int .i64 (q : Int))).run Try.prog w = .ok (.int .u8 ((bt s q : Nat) : Int)) w := by
  rw [run_index_string w 9 s .i64 (q : Int) under9, dif_pos ⟨by omega, by omega⟩]
  have h1 : q < s.data.toList.length := by rw [size_len]; exact h
  have e : (s[((q : Int)).toNat]'(by omega)).toNat = bt s q := by
    unfold bt
    rw [List.getD_eq_getElem?_getD, List.getElem?_eq_getElem h1]
    simp only [Int.toNat_natCast, Option.getD_some]
    rfl
  rw [e]

/-- A row of bytes of the call's own. -/
def OwnB (w : World) (G : Nat) (f : Nat → Nat) (L : Nat) : Prop := ∃ C, w.heap[G]? = some (.cells C 5 (0, 0)) ∧ C.size = L ∧ ∀ x, x < L → C[x]? = some (.int .u8 ((f x : Nat) : Int))
theorem OwnB.cell {w : World} {G L x : Nat} {f : Nat → Nat} (h : OwnB w G f L) (hx : x < L) : w.cell? ⟨G, x, none⟩ = some (.int .u8 ((f x : Nat) : Int)) := by
  obtain ⟨C, h1, _, h2⟩ := h
  rw [cell_of_row w G x C 5 (0, 0) h1]; exact h2 x hx
theorem OwnB.fz {w : World} {G L : Nat} {f : Nat → Nat} (h : OwnB w G f L) (x : Nat) : w.frozen? ⟨G, x, none⟩ = false := by
  obtain ⟨C, h1, _⟩ := h
  simp [World.frozen?, h1]
theorem OwnB.rowF {w : World} {G L : Nat} {f : Nat → Nat} (h : OwnB w G f L) : RowF w (some ⟨G, 0, none⟩) f L :=
  Or.inr ⟨G, 0, rfl, fun i hi => by rw [Nat.zero_add]; exact h.cell hi⟩
theorem OwnB.congr {w : World} {G L : Nat} {f g : Nat → Nat} (h : OwnB w G f L) (e : ∀ x, x < L → f x = g x) : OwnB w G g L := by
  obtain ⟨C, h1, h2, h3⟩ := h
  exact ⟨C, h1, h2, fun x hx => by rw [← e x hx]; exact h3 x hx⟩
theorem OwnB.up {w w' : World} {G L : Nat} {f : Nat → Nat} (h : OwnB w G f L) (hb : Below w.heap.size w w') : OwnB w' G f L := by
  obtain ⟨C, h1, h2⟩ := h
  exact ⟨C, (hb.block G (Array.getElem?_eq_some_iff.1 h1).1).trans h1, h2⟩
theorem OwnB.alike {w w' : World} {G L : Nat} {f : Nat → Nat} (h : OwnB w G f L) (e : Alike w w') : OwnB w' G f L := h.up (e.below _)
theorem OwnB.set {w : World} {G L x v : Nat} {f : Nat → Nat} (h : OwnB w G f L) (hx : x < L) : OwnB (w.setCell ⟨G, x, none⟩ (.int .u8 ((v : Nat) : Int))) G (fun y => if y = x then v else f y) L := by
  obtain ⟨C, h1, h2, h3⟩ := h
  refine ⟨C.setIfInBounds x (.int .u8 ((v : Nat) : Int)), by rw [setCell_eq_setRow w G x C 5 (0, 0) _ h1]; exact setRow_heap w G C _ 5 (0, 0) h1, by simp [h2], fun y hy => ?_⟩
  by_cases e : y = x
  · subst e; rw [Array.getElem?_setIfInBounds_self_of_lt (by omega)]; simp only [if_true]
  · rw [Array.getElem?_setIfInBounds_ne (by omega)]; simp only [if_neg e]; exact h3 y hy

/-- The sum of k rows, each times its factor, at a place. -/
def mixF (f : Nat → Nat) (R : Nat → ByteArray) (k x : Nat) : Nat := Gf.dotN f (fun j => bt (R j) x) k
theorem mixF_lt (f : Nat → Nat) (R : Nat → ByteArray) (k x : Nat) : mixF f R k x < 256 := Gf.dotN_lt _ _ _
theorem mixF_succ (f : Nat → Nat) (R : Nat → ByteArray) (k x : Nat) : mixF f R (k + 1) x = mixF f R k x ^^^ Gf.mul (f k) (bt (R k) x) := rfl

set_option maxHeartbeats 1000000 in
set_option maxRecDepth 100000 in
theorem mixed_any (b k N L c c' : Nat) (a a' : Option Addr) (f : Nat → Nat) (R : Nat → ByteArray) (hf : ∀ i, f i < 256) (hk1 : 1 ≤ k) (hk : k ≤ 8) (hL : L ≤ 4194304) (hR : ∀ i, i < k → (R i).size = L) (w : World) (hC : IsCode w b k N) (ra : RowF w a f k) (rb : StrF w a' R k) :
    Calls Try.prog 30 #[.pointer (some ⟨b, 0, none⟩), .slice a k c, .slice a' k c'] w fun e w' => ∃ G, e = .returned (.slice (some ⟨G, 0, none⟩) L L) ∧ w.heap.size ≤ G ∧ OwnB w' G (mixF f R k) L ∧ Below w.heap.size w w' := by
  obtain ⟨p, o, rfl, q1⟩ : ∃ p off, a = some ⟨p, off, none⟩ ∧ ∀ i, i < k → w.cell? ⟨p, off + i, none⟩ = some (.int .u8 ((f i : Nat) : Int)) := by
    rcases ra with r | r
    · exfalso; omega
    · exact r
  obtain ⟨p', o', rfl, q2⟩ : ∃ p off, a' = some ⟨p, off, none⟩ ∧ ∀ i, i < k → w.cell? ⟨p, off + i, none⟩ = some (.string (R i)) := by
    rcases rb with r | r
    · exfalso; omega
    · exact r
  have c0 := q2 0 (by omega)
  rw [Nat.add_zero] at c0
  have hL0 := hR 0 (by omega)
  have hk0 : (0 : Int) < (k : Int) := by omega
  clear ra rb
  have Q1 : Hid (∀ i, i < k → w.cell? ⟨p, o + i, none⟩ = some (.int .u8 ((f i : Nat) : Int))) := q1
  have Q2 : Hid (∀ i, i < k → w.cell? ⟨p', o' + i, none⟩ = some (.string (R i))) := q2
  have HC : Hid (IsCode w b k N) := hC
  have HR : Hid (∀ i, i < k → (R i).size = L) := hR
  have HF : Hid (∀ i, f i < 256) := hf
  clear q1 q2 hC hR hf
  go_enter Try.func30, Try.ntmps30
  go_wp2_with fail
  obtain ⟨w1, cur, hrun, hg, hcs, hz, hb1⟩ := make_zeros w L (by omega)
  rw [hrun]
  clear hrun
  obtain ⟨G, eG⟩ : ∃ G, G = w.heap.size := ⟨_, rfl⟩
  have O1 : Hid (OwnB w1 G (mixF f R 0) L) := ⟨cur, by rw [eG]; exact hg, hcs, hz⟩
  have HB1 : Hid (Below w.heap.size w w1) := hb1
  have hGB : w.heap.size ≤ G := by omega
  rw [← eG]
  clear hg hcs hz hb1 c0 hL0 hk0 eG
  go_wp2_with fail
  go_loopw [18] (fun i wr => ∃ t : Nat, t ≤ k ∧ i = .int .i64 (t : Int) ∧ Hid (OwnB wr G (mixF f R t) L) ∧ Hid (Below w.heap.size w wr)) (fun i _ => k - (intOf i).toNat)
  case atStart => exact ⟨0, by omega, rfl, O1, HB1⟩
  case round =>
    obtain ⟨t, ht, rfl, HO, HB⟩ := hrel
    clear O1 HB1
    by_cases hlt : t < k
    · have hi1 : (t : Int) < (k : Int) := by omega
      have d1 : wr.cell? ⟨p, o + t, none⟩ = some (.int .u8 ((f t : Nat) : Int)) := cell_later HB.out (Q1.out t hlt)
      by_cases hz : f t = 0
      · have O3 : Hid (OwnB wr G (mixF f R (t + 1)) L) := HO.out.congr (fun x _ => by rw [mixF_succ, hz, Gf.zero_mul, Nat.xor_zero])
        rw [hz] at d1
        clear HO
        go_wp2_with fail
        exact ⟨⟨t + 1, by omega, by go_num, O3, HB⟩, by simp [intOf]; omega⟩
      · have hz1 : (((f t : Nat) : Int) == 0) = false := by simp; omega
        have hft := HF.out t
        go_wp2_with fail
        have O3 : Hid (OwnB wr G (fun x => mixF f R t x ^^^ if x < 0 then Gf.mul (f t) (bt (R t) x) else 0) L) := HO.out.congr (fun x _ => by rw [if_neg (by omega), Nat.xor_zero])
        clear HO hz d1
        go_loopw [27] (fun j wr => ∃ q : Nat, q ≤ L ∧ j = .int .i64 (q : Int) ∧ Hid (OwnB wr G (fun x => mixF f R t x ^^^ if x < q then Gf.mul (f t) (bt (R t) x) else 0) L) ∧ Hid (Below w.heap.size w wr)) (fun j _ => L - (intOf j).toNat)
        case atStart => exact ⟨0, by omega, rfl, O3, HB⟩
        case round =>
          obtain ⟨q, hq, rfl, HO, HB⟩ := hrel
          by_cases hqL : q < L
          · have hi2 : (q : Int) < (L : Int) := by omega
            have c1 : wr.cell? ⟨G, q, none⟩ = some (.int .u8 ((mixF f R t q : Nat) : Int)) := by
              rw [HO.out.cell hqL, if_neg (by omega), Nat.xor_zero]
            have c2 : wr.cell? ⟨p', o' + t, none⟩ = some (.string (R t)) := cell_later HB.out (Q2.out t hlt)
            have c3 := str_at (R t) q (by rw [HR.out t hlt]; exact hqL)
            have fz := HO.out.fz q
            have hb8 := bt_lt (R t) q
            have hxor := xor_u8 (mixF f R t q) (Gf.mul (f t) (bt (R t) q)) (mixF_lt _ _ _ _) (Gf.mul_lt _ _)
            have T4 : ∀ d, HasTab (wr.drewN d) b := fun d => (HC.out.up HB.out).tab.drewN d
            have O4 : Hid (OwnB (wr.setCell ⟨G, q, none⟩ (.int .u8 ((mixF f R t q ^^^ Gf.mul (f t) (bt (R t) q) : Nat) : Int))) G (fun x => mixF f R t x ^^^ if x < q + 1 then Gf.mul (f t) (bt (R t) x) else 0) L) :=
              (HO.out.set (v := mixF f R t q ^^^ Gf.mul (f t) (bt (R t) q)) hqL).congr (fun x _ => by
                by_cases e : x = q
                · simp only [if_pos e]; rw [e, if_pos (by omega)]
                · simp only [if_neg e]
                  by_cases e2 : x < q
                  · rw [if_pos e2, if_pos (by omega)]
                  · rw [if_neg e2, if_neg (by omega)])
            have B4 : Hid (Below w.heap.size w (wr.setCell ⟨G, q, none⟩ (.int .u8 ((mixF f R t q ^^^ Gf.mul (f t) (bt (R t) q) : Nat) : Int)))) := HB.out.setCell hGB _
            clear HO HB O3
            go_wp2_with fail
            go_region_with (go_at_call 45; refine (mul_any b (f t) (bt (R t) q) hft hb8 _ (T4 1)).mono ?_; rintro e w2 ⟨rfl, n1, rfl⟩)
            all_goals
              go_wp2_with fail
              exact ⟨⟨q + 1, by omega, by go_num, O4.out.alike ⟨rfl, rfl, rfl, rfl⟩, below_alike B4.out ⟨rfl, rfl, rfl, rfl⟩⟩, by simp [intOf]; omega⟩
          · have hqn : q = L := by omega
            subst hqn
            have i1 : decide ((q : Int) < (q : Int)) = false := by simp
            have O5 : Hid (OwnB wr G (mixF f R (t + 1)) q) := HO.out.congr (fun x hx => by rw [if_pos hx, mixF_succ])
            clear HO O3
            go_wp2_with fail
            exact ⟨⟨t + 1, by omega, by go_num, O5, HB⟩, by simp [intOf]; omega⟩
    · have htk : t = k := by omega
      subst htk
      have i1 : decide ((t : Int) < (t : Int)) = false := by simp
      go_wp2_with fail
      go_ret
      exact ⟨G, rfl, hGB, HO.out, HB.out⟩
end Go.Proofs.Ytmhhegkpkncebaa
