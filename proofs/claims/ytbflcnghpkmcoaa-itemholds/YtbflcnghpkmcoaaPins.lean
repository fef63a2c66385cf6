/-
  ITEMPINS walked.
-/
import Derived.Test.YtbflcnghpkmcoaaRuns
import Derived.Test.YtbflcnghpkmcoaaOne
namespace Go.Proofs.Ytbflcnghpkmcoaa
open Go.RowKit

/-- string(b), of bytes that lie in a block. -/
theorem conv_n (w : World) (p n c : Nat) (f : Nat → Nat) (h : ∀ i, i < n → w.cell? ⟨p, i, none⟩ = some (.int .u8 ((f i : Nat) : Int))) : (convert 33 9 (.slice (some ⟨p, 0, none⟩) n c)).run Try.prog w = .ok (.string (mkS f n)) w := by
  rw [run_convert_bytes_arg w 33 5 under33 under5 p 0 n c ((List.range n).map fun i => ((f i : Nat) : Int)) (by simp) (fun i hi => by
      rw [Nat.zero_add, h i hi]; simp [List.getD_eq_getElem?_getD, hi]) 9 under9]
  unfold strOfNums mkS
  simp
/-- The key of one byte. -/
def ky (i : Nat) : ByteArray := mkS (fun _ => 97 + i) 1
theorem ky_size (i : Nat) : (ky i).size = 1 := mkS_size _ _
theorem ky_inj {i j : Nat} (hi : i < 100) (hj : j < 100) (h : ky i = ky j) : i = j := by
  have h1 : bt (ky i) 0 = 97 + i := bt_mkS (by omega) (by omega)
  have h2 : bt (ky j) 0 = 97 + j := bt_mkS (by omega) (by omega)
  rw [h] at h1
  omega
theorem conv_ky (w : World) (i : Nat) : (convert 33 9 (.slice (some ⟨w.heap.size, 0, none⟩) 1 1)).run Try.prog (w.alloc (.cells #[.int .u8 (97 + (i : Int))] 5)) = .ok (.string (ky i)) (w.alloc (.cells #[.int .u8 (97 + (i : Int))] 5)) :=
  conv_n (w.alloc (.cells #[.int .u8 (97 + (i : Int))] 5)) w.heap.size 1 1 (fun _ => 97 + i) (fun j hj => by
    have : j = 0 := by omega
    subst this
    rw [World.cell?_alloc_new]
    show some (Value.int .u8 (97 + (i : Int))) = _
    congr 2)
def dX : ByteArray := ⟨#[120]⟩
theorem kyx (i : Nat) : (ky i ++ dX).size ≤ 64 := by rw [ba_size, ky_size]; decide
theorem ky24 : (⟨#[121]⟩ : ByteArray) = ky 24 := by kernel_rfl
theorem ky25 : (⟨#[122]⟩ : ByteArray) = ky 25 := by kernel_rfl
theorem one_class {n : Nat} (h : ∀ i, i < n ↔ sz i ≤ 64) : n = 1 := by
  have h1 := (h 0).2 (by decide)
  have h2 : ¬ 1 < n := fun x => absurd ((h 1).1 x) (by decide)
  omega
/-- The first m keys are there, pinned, and no others. -/
structure Held (n m : Nat) (z : Sp) : Prop where
  one : One n z
  len : z.l.length = m
  key : ∀ i ∈ z.l, i.pin = true ∧ ∃ j, j < m ∧ i.key = ky j
  all : ∀ j, j < m → ∃ i ∈ z.l, i.key = ky j
theorem Held.no {n m : Nat} {z : Sp} (h : Held n m z) {q : Nat} (hm : m ≤ q) (hq : q < 100) : ∀ i ∈ z.l, i.key ≠ ky q := fun i hi e => by
  obtain ⟨_, j, hj, hk⟩ := h.key i hi
  have := ky_inj (by omega) hq (hk.symm.trans e)
  omega
theorem Held.next {n m : Nat} {z : Sp} (h : Held n m z) (hm : m < n) (hn : n ≤ 12) : ∃ z', z.put (ky m) dX true = ([], 0, z') ∧ Held n (m + 1) z' := by
  obtain ⟨z', i, h1, h2, h3, h4, h5, _⟩ := h.one.put_room (pin := true) (kyx m) (h.no (Nat.le_refl _) (by omega)) (by rw [h.len]; exact hm)
  refine ⟨z', h1, h2, by rw [h3, List.length_cons, h.len], fun j hj => ?_, fun j hj => ?_⟩
  · rw [h3] at hj
    rcases List.mem_cons.1 hj with rfl | hj
    · exact ⟨h5, m, by omega, h4⟩
    · obtain ⟨q1, q, q2, q3⟩ := h.key j hj; exact ⟨q1, q, by omega, q3⟩
  · rw [h3]
    by_cases e : j = m
    · subst e; exact ⟨i, List.mem_cons_self, h4⟩
    · obtain ⟨q, q1, q2⟩ := h.all j (by omega); exact ⟨q, List.mem_cons_of_mem _ q1, q2⟩
theorem Held.full {n : Nat} {z : Sp} (h : Held n n z) (hn : n ≤ 12) : z.put (ky 24) dX true = ([], 6, z) := h.one.put_full (kyx 24) (h.no (by omega) (by omega)) h.len (fun i hi => (h.key i hi).1)
/-- One is let go: it alone makes room, once. -/
theorem Held.let {n k : Nat} {z : Sp} (h : Held n n z) (hn : n ≤ 12) (hk : k < n) : (fnd z.l (ky k)).isSome = true ∧
    ∃ z', (z.pin (ky k) false).put (ky 25) dX true = ([ky k], 0, z') ∧ z'.l.length = n ∧ z'.put (ky 24) dX true = ([], 6, z') := by
  obtain ⟨i0, hi0, hk0⟩ := h.all k hk
  have hf : fnd z.l (ky k) = some i0 := by rw [← hk0]; exact fnd_mk h.one.ok.ndk hi0
  refine ⟨by rw [hf]; rfl, ?_⟩
  have h1 := h.one.pin (ky k) false
  have hno : ∀ q, n ≤ q → q < 100 → ∀ i ∈ (z.pin (ky k) false).l, i.key ≠ ky q := fun q hq hq2 i hi => by
    obtain ⟨j, hj, rfl⟩ := List.mem_map.1 hi
    rw [It.pinned_key]; exact h.no hq hq2 j hj
  have hlen : (z.pin (ky k) false).l.length = n := by show (z.l.map _).length = n; rw [List.length_map]; exact h.len
  have hpin : ∀ i ∈ (z.pin (ky k) false).l, i.pin = false ↔ i.key = ky k := fun i hi => by
    obtain ⟨j, hj, rfl⟩ := List.mem_map.1 hi
    rw [It.pinned_key]
    unfold It.pinned
    by_cases e : j.key = ky k
    · rw [if_pos e]; exact ⟨fun _ => e, fun _ => rfl⟩
    · rw [if_neg e, (h.key j hj).1]; exact ⟨fun x => (by cases x), fun x => absurd x e⟩
  have hin : i0.pinned (ky k) false ∈ (z.pin (ky k) false).l := List.mem_map_of_mem hi0
  have hk1 : (i0.pinned (ky k) false).key = ky k := by rw [It.pinned_key]; exact hk0
  obtain ⟨v, hv⟩ : ∃ v, (z.pin (ky k) false).vic 0 = some v := by
    unfold Sp.vic
    cases e : ((z.pin (ky k) false).l.filter (It.may 0)).getLast? with
    | some v => exact ⟨v, rfl⟩
    | none =>
      rw [List.getLast?_eq_none_iff, List.filter_eq_nil_iff] at e
      have := e _ hin
      rw [It.may, (hpin _ hin).2 hk1, h1.c0 hin] at this
      simp at this
  obtain ⟨v1, v2, v3⟩ := vic_some hv
  have hvk : v.key = ky k := (hpin v v1).1 v3
  obtain ⟨z', i, q1, q2, q3, q4, q5, _⟩ := h1.put_goes (pin := true) (kyx 25) (hno 25 (by omega) (by omega)) hlen hv
  have hl' : z'.l.length = n := by rw [q3, List.length_cons, but_len h1.ok.ndk v1]; exact hlen
  refine ⟨z', by rw [q1, hvk], hl', q2.put_full (kyx 24) (fun j hj => ?_) hl' (fun j hj => ?_)⟩
  · rw [q3] at hj
    rcases List.mem_cons.1 hj with rfl | hj
    · rw [q4]; exact fun e => by have := ky_inj (by omega) (by omega) e; omega
    · exact hno 24 (by omega) (by omega) j (mem_but.1 hj).1
  · rw [q3] at hj
    rcases List.mem_cons.1 hj with rfl | hj
    · exact q5
    · obtain ⟨m1, m2⟩ := mem_but.1 hj
      rw [hvk] at m2
      cases hp : j.pin with
      | true => rfl
      | false => exact absurd ((hpin j m1).1 hp) m2
set_option maxRecDepth 100000 in
set_option maxHeartbeats 1000000 in
theorem pins_walk (room free : Int) (w : World) : Calls Try.prog 7 #[.int .i64 room, .int .i64 free] w fun e w' => e = .returned (.bool true) ∧ Below w.heap.size w w' := by
  go_enter Try.func7, Try.ntmps7
  go_wp2_with fail
  refine (within_any room 1 12 (by omega) (by omega) (by omega) _).mono ?_
  rintro e w1 ⟨rfl, rfl⟩
  obtain ⟨b1, b2⟩ := wi_bd room 1 12 (by omega)
  obtain ⟨n, hn⟩ : ∃ n : Nat, wi room 1 12 = (n : Int) := ⟨(wi room 1 12).toNat, by omega⟩
  rw [hn] at b1 b2 ⊢
  clear hn
  have hn1 : 1 ≤ n := by omega
  have hn12 : n ≤ 12 := by omega
  go_wp2_with fail
  refine (snew_yes n 64 _ 64 rfl rfl hn1 (by omega) (by omega) (by omega) _ o0 (fun b _ => o0_ok b)).mono ?_
  rintro e w1 ⟨X, rfl, o1, m, hm, I1, F1⟩
  have hm1 := one_class hm
  subst hm1
  have HI1 : Hid (IsSt w1 o1 X ⟨St.new n 64 1, []⟩) := I1
  have HF1 : Hid (Fr TS o0 o1 w w1) := F1.mono (fun _ h => h.elim)
  have HH1 : Hid (Held n 0 ⟨St.new n 64 1, []⟩) := ⟨One.new I1.ok.ok, rfl, (fun _ h => by cases h), fun j h => by omega⟩
  clear I1 F1 hm
  go_wp2_with fail
  go_loopw [8] (fun y wr => ∃ (i : Nat) (z : Sp) (o2 : Nat → Nat × Nat), i ≤ n ∧ y = .int .i64 (i : Int) ∧ Hid (Held n i z) ∧ Hid (IsSt wr o2 X z) ∧ Hid (Fr TS o0 o2 w wr)) (fun y _ => n - (intOf y).toNat)
  case atStart => exact ⟨0, _, o1, by omega, rfl, HH1, HI1, HF1⟩
  case round =>
    clear HI1 HF1 HH1
    obtain ⟨i, z, o2, hi, rfl, HH, HI, HF⟩ := hrel
    by_cases hlt : i < n
    · have hi1 : (i : Int) < (n : Int) := by omega
      have hcv := conv_ky wr i
      have B1 : Below wr.heap.size wr (wr.alloc (.cells #[.int .u8 (97 + (i : Int))] 5)) := (Below.refl _ _).alloc (Nat.le_refl _) _
      obtain ⟨z', hput, hh'⟩ := HH.out.next hlt hn12
      have HP : Hid (z.put (ky i) dX true = ([], 0, z') ∧ Held n (i + 1) z') := ⟨hput, hh'⟩
      have HI1 : Hid (IsSt (wr.alloc (.cells #[.int .u8 (97 + (i : Int))] 5)) o2 X z) := HI.out.below B1
      have HF1 : Hid (Fr TS o0 o2 w (wr.alloc (.cells #[.int .u8 (97 + (i : Int))] 5))) := HF.out.trans (Fr.ofBelow _ o2 B1)
      clear B1 HI HF hput hh'
      go_wp2_with fail
      refine (sput_any X z (ky i) dX true (by rw [ky_size]; omega) (by decide) _ o2 HI1.out).mono ?_
      rintro e w2 ⟨V, o3, rfl, _, I3, F3⟩
      rw [HP.out.1] at I3 ⊢
      have HI3 : Hid (IsSt w2 o3 X z') := I3
      have HF3 : Hid (Fr TS o0 o3 w w2) := HF1.out.trans F3
      clear I3 F3 HI1 HF1 hcv
      go_wp2_with fail
      exact ⟨⟨i + 1, z', o3, by omega, by go_num, HP.out.2, HI3, HF3⟩, by simp [intOf]; omega⟩
    · have hin : i = n := by omega
      subst hin
      go_wp2_with fail
      rw [ky24]
      refine (sput_any X z (ky 24) dX true (by rw [ky_size]; omega) (by decide) _ o2 HI.out).mono ?_
      rintro e w2 ⟨V2, o3, rfl, _, I3, F3⟩
      rw [HH.out.full hn12] at I3 ⊢
      have HI3 : Hid (IsSt w2 o3 X z) := I3
      have HF3 : Hid (Fr TS o0 o3 w w2) := HF.out.trans F3
      clear I3 F3 HI HF
      go_wp2_with fail
      refine (within_any free 0 ((i : Int) - 1) (by omega) (by omega) (by omega) _).mono ?_
      rintro e w3 ⟨rfl, rfl⟩
      obtain ⟨b3, b4⟩ := wi_bd free 0 ((i : Int) - 1) (by omega)
      obtain ⟨k, hk⟩ : ∃ k : Nat, wi free 0 ((i : Int) - 1) = (k : Int) := ⟨(wi free 0 ((i : Int) - 1)).toNat, by omega⟩
      rw [hk] at b3 b4 ⊢
      clear hk
      have hki : k < i := by omega
      have hk12 : k < 12 := by omega
      obtain ⟨hfd, z', hp1, hl1, hp2⟩ := HH.out.let hn12 hki
      have HP : Hid ((fnd z.l (ky k)).isSome = true ∧ (z.pin (ky k) false).put (ky 25) dX true = ([ky k], 0, z') ∧ z'.l.length = i ∧ z'.put (ky 24) dX true = ([], 6, z')) := ⟨hfd, hp1, hl1, hp2⟩
      have hcv := conv_ky w2 k
      have B4 : Below w2.heap.size w2 (w2.alloc (.cells #[.int .u8 (97 + (k : Int))] 5)) := (Below.refl _ _).alloc (Nat.le_refl _) _
      have HI4 : Hid (IsSt (w2.alloc (.cells #[.int .u8 (97 + (k : Int))] 5)) o3 X z) := HI3.out.below B4
      have HF4 : Hid (Fr TS o0 o3 w (w2.alloc (.cells #[.int .u8 (97 + (k : Int))] 5))) := HF3.out.trans (Fr.ofBelow _ o3 B4)
      clear hfd hp1 hl1 hp2 HI3 HF3 B4
      go_wp2_with fail
      refine (spin_any X z (ky k) false (by rw [ky_size]; omega) _ o3 HI4.out).mono ?_
      rintro e w5 ⟨rfl, I5, F5⟩
      rw [HP.out.1]
      have HI5 : Hid (IsSt w5 o3 X (z.pin (ky k) false)) := I5
      have HF5 : Hid (Fr TS o0 o3 w w5) := HF4.out.trans F5
      clear I5 F5 HI4 HF4 hcv
      go_wp2_with fail
      rw [ky25]
      refine (sput_any X _ (ky 25) dX true (by rw [ky_size]; omega) (by decide) _ o3 HI5.out).mono ?_
      rintro e w6 ⟨V6, o6, rfl, O6, I6, F6⟩
      rw [HP.out.2.1] at I6 O6 ⊢
      obtain ⟨a6, c6, rfl, _⟩ := O6.form
      have HI6 : Hid (IsSt w6 o6 X z') := I6
      have HF6 : Hid (Fr TS o0 o6 w w6) := HF5.out.trans F6
      have HO6 : Hid (OwnK w6 o6 (7, 0) 1 (.slice a6 1 c6) 1 (strc [ky k])) := O6
      rw [show ([ky k], (0 : Nat), z').fst.length = 1 from rfl]
      clear I6 F6 HI5 HF5 O6
      go_wp2_with fail
      rw [ky24]
      refine (sput_any X z' (ky 24) dX true (by rw [ky_size]; omega) (by decide) _ o6 HI6.out).mono ?_
      rintro e w7 ⟨V7, o7, rfl, _, I7, F7⟩
      rw [HP.out.2.2.2] at I7 ⊢
      have B8 : Below w7.heap.size w7 (w7.alloc (.cells #[.string (ky k)] 9)) := (Below.refl _ _).alloc (Nat.le_refl _) _
      have HI8 : Hid (IsSt (w7.alloc (.cells #[.string (ky k)] 9)) o7 X z') := IsSt.below I7 B8
      have HF8 : Hid (Fr TS o0 o7 w (w7.alloc (.cells #[.string (ky k)] 9))) := (HF6.out.trans F7).trans (Fr.ofBelow _ o7 B8)
      have HO8 : Hid (OwnK (w7.alloc (.cells #[.string (ky k)] 9)) o7 (7, 0) 1 (.slice a6 1 c6) 1 (strc [ky k])) := (HO6.out.fr F7 nT7).below B8
      clear I7 F7 HI6 HF6 HO6 B8
      go_wp2_with fail
      refine (same_any [ky k] (by simp) _ HO8.out (lit_own w7 o0 [ky k] (by simp))).mono ?_
      rintro e w9 ⟨rfl, B9⟩
      have HI9 : Hid (IsSt w9 o7 X z') := HI8.out.below B9
      have HF9 : Hid (Fr TS o0 o7 w w9) := HF8.out.trans (Fr.ofBelow _ o7 B9)
      clear B9 HI8 HF8 HO8
      go_wp2_with fail
      refine (slen_any X z' _ o7 HI9.out).mono ?_
      rintro e w10 ⟨rfl, rfl⟩
      rw [HP.out.2.2.1]
      go_wp2_with fail
      refine (runs_any _).mono ?_
      rintro e w11 ⟨rfl, B11⟩
      have HF11 : Hid (Fr TS o0 o7 w w11) := HF9.out.trans (Fr.ofBelow _ o7 B11)
      clear B11 HF9 HI9
      go_wp2_with fail
      go_ret
      exact ⟨rfl, HF11.out.below (Nat.le_refl _) (fun b _ e => nT0 e)⟩
end Go.Proofs.Ytbflcnghpkmcoaa
