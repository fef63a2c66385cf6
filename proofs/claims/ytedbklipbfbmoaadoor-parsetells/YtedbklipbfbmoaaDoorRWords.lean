/-
  words of the reference: the parts of a line between blanks.
-/
import Derived.Test.YtedbklipbfbmoaaDoorGets
import Derived.Test.YtedbklipbfbmoaaDoorRNum
namespace Go.Proofs.YtedbklipbfbmoaaDoor
open Go.RowKit

/-- The word under way begins at f. -/
def Cur (s : B) (j : Nat) (f : Int) (cur : B) : Prop := (f = -1 ∧ cur = []) ∨ ∃ k : Nat, f = (k : Int) ∧ k < j ∧ cur = (s.take j).drop k
/-- words on its way. -/
def Wds (s : B) (j : Nat) (f : Int) (l : List B) : Prop := (j ≤ s.length ∧ ∃ cur, Cur s j f cur ∧ split s = l ++ wd cur (s.drop j)) ∨ (j = s.length + 1 ∧ split s = l)
theorem Cur.ne {s : B} {j k : Nat} (hj : j ≤ s.length) (hk : k < j) : (s.take j).drop k ≠ [] := fun e => by
  have := congrArg List.length e
  rw [List.length_drop, List.length_take, List.length_nil] at this
  omega
theorem Wds.start (s : B) : Wds s 0 (-1) [] := .inl ⟨Nat.zero_le _, [], .inl ⟨rfl, rfl⟩, rfl⟩
theorem drop_at {s : B} {j : Nat} {c : UInt8} (h : s[j]? = some c) : s.drop j = c :: s.drop (j + 1) := by
  obtain ⟨h1, h2⟩ := List.getElem?_eq_some_iff.1 h
  rw [← h2]; exact List.drop_eq_getElem_cons h1
/-- A byte of a word, the first. -/
theorem Wds.first {s : B} {j : Nat} {l : List B} {c : UInt8} (h : Wds s j (-1) l) (hc : s[j]? = some c) (h32 : c ≠ 32) : Wds s (j + 1) (j : Int) l := by
  have hj := (List.getElem?_eq_some_iff.1 hc).1
  rcases h with ⟨h1, cur, h2, h3⟩ | ⟨h1, _⟩
  · rcases h2 with ⟨_, rfl⟩ | ⟨k, e, _⟩
    · refine .inl ⟨hj, [c], .inr ⟨j, rfl, by omega, ?_⟩, ?_⟩
      · rw [List.take_add_one, hc, List.drop_append, List.drop_of_length_le (by rw [List.length_take]; omega), List.length_take]
        rw [Nat.min_eq_left (by omega), Nat.sub_self]; rfl
      · rw [h3, drop_at hc, wd, if_neg h32]; rfl
    · omega
  · omega
/-- A byte of a word, another one. -/
theorem Wds.next {s : B} {j k : Nat} {l : List B} {c : UInt8} (h : Wds s j (k : Int) l) (hc : s[j]? = some c) (h32 : c ≠ 32) : Wds s (j + 1) (k : Int) l := by
  have hj := (List.getElem?_eq_some_iff.1 hc).1
  rcases h with ⟨h1, cur, h2, h3⟩ | ⟨h1, _⟩
  · rcases h2 with ⟨e, _⟩ | ⟨k', e, hk, rfl⟩
    · omega
    · have : k' = k := by omega
      subst this
      refine .inl ⟨hj, (s.take j).drop k' ++ [c], .inr ⟨k', rfl, by omega, ?_⟩, ?_⟩
      · rw [List.take_add_one, hc, List.drop_append_of_le_length (by rw [List.length_take]; omega)]; rfl
      · rw [h3, drop_at hc, wd, if_neg h32]
  · omega
/-- A blank, or the end, behind no word. -/
theorem Wds.skip {s : B} {j : Nat} {l : List B} (h : Wds s j (-1) l) (hj : j ≤ s.length) (hc : j < s.length → s[j]? = some 32) : Wds s (j + 1) (-1) l := by
  rcases h with ⟨h1, cur, h2, h3⟩ | ⟨h1, _⟩
  · rcases h2 with ⟨_, rfl⟩ | ⟨k, e, _⟩
    · by_cases hl : j < s.length
      · refine .inl ⟨hl, [], .inl ⟨rfl, rfl⟩, ?_⟩
        rw [h3, drop_at (hc hl), wd_blank]; rfl
      · refine .inr ⟨by omega, ?_⟩
        rw [h3, List.drop_of_length_le (by omega)]; simp [wd]
    · omega
  · omega
/-- A blank, or the end, behind a word. -/
theorem Wds.word {s : B} {j k : Nat} {l : List B} (h : Wds s j (k : Int) l) (hj : j ≤ s.length) (hc : j < s.length → s[j]? = some 32) : k < j ∧ Wds s (j + 1) (-1) (l ++ [(s.take j).drop k]) := by
  rcases h with ⟨h1, cur, h2, h3⟩ | ⟨h1, _⟩
  · rcases h2 with ⟨e, _⟩ | ⟨k', e, hk, rfl⟩
    · omega
    · have : k' = k := by omega
      subst this
      have ne := Cur.ne hj hk
      refine ⟨hk, ?_⟩
      by_cases hl : j < s.length
      · refine .inl ⟨hl, [], .inl ⟨rfl, rfl⟩, ?_⟩
        rw [h3, drop_at (hc hl), wd_blank, if_neg ne]; simp
      · refine .inr ⟨by omega, ?_⟩
        rw [h3, show s.drop j = [] from List.drop_of_length_le (by omega), wd, if_neg ne]
  · omega
theorem Wds.form {s : B} {j : Nat} {f : Int} {l : List B} (h : Wds s j f l) (hj : j ≤ s.length) : f = -1 ∨ ∃ k : Nat, f = (k : Int) ∧ k < j := by
  rcases h with ⟨h1, cur, h2, h3⟩ | ⟨h1, _⟩
  · rcases h2 with ⟨e, _⟩ | ⟨k', e, hk, rfl⟩
    · exact .inl e
    · exact .inr ⟨k', e, hk⟩
  · omega
theorem Wds.len {s : B} {j : Nat} {f : Int} {l : List B} (h : Wds s j f l) : l.length ≤ s.length := by
  have := split_len s
  rcases h with ⟨_, cur, _, h3⟩ | ⟨_, h3⟩
  · rw [h3] at this; simp at this; omega
  · rw [← h3]; exact this
set_option maxRecDepth 100000 in
set_option maxHeartbeats 1000000 in
theorem rwords_any (s : ByteArray) (hs : s.size ≤ 100000) (w : World) : Calls Tryd.prog 71 #[.string s] w fun e w' => ∃ v, e = .returned v ∧ Strs w' v (split (L s)) ∧ Below w.heap.size w w' := by
  have HG0 := Lib.hid (Grow.start w)
  have HL := Lib.hid (L_len s)
  go_enter Tryd.func71, Tryd.ntmps71
  go_wp2_with fail
  go_loopw [3, 4, 5] (fun pv fv i wr => ∃ (j : Nat) (f : Int) (l : List B) (a : Option Addr) (n c : Nat) (o : Nat → Nat × Nat), j ≤ s.size + 1 ∧ i = .int .i64 (j : Int) ∧ fv = .int .i64 f ∧ pv = .slice a n c ∧ Hid (Wds (L s) j f l) ∧ Hid (Grow w wr l a n c o)) (fun _ _ i _ => s.size + 1 - (intOf i).toNat)
  case atStart => exact ⟨0, -1, [], none, 0, 0, o0, by omega, rfl, rfl, rfl, Lib.hid (Wds.start _), HG0⟩
  case round =>
    obtain ⟨j, f, l, a, n, c, o, hj, rfl, rfl, rfl, HW, HG⟩ := hrel
    have nz : n < 1000000 := by have := HW.out.len; have := HL.out; have := HG.out.len; omega
    by_cases hle : j ≤ s.size
    · have hi1 : (j : Int) ≤ (s.size : Int) := by omega
      have HF := HW.out.form (by rw [HL.out]; exact hle)
      by_cases hb : j < s.size ∧ (L s)[j]? ≠ some 32
      · obtain ⟨hlt, hb⟩ := hb
        have hi2 : (j : Int) < (s.size : Int) := by omega
        obtain ⟨ch, hch⟩ : ∃ ch, (L s)[j]? = some ch := ⟨_, List.getElem?_eq_getElem (by rw [L_len]; exact hlt)⟩
        have h32 : ch ≠ 32 := fun e => hb (by rw [hch, e])
        have ix := str_at hch
        obtain ⟨x, hx⟩ : ∃ x : Int, x = ((ch.toNat : Nat) : Int) := ⟨_, rfl⟩
        rw [← hx] at ix
        have hx2 : (x != 32) = true := by
          rw [hx]; simp only [bne_iff_ne, ne_eq]
          intro e
          exact h32 (UInt8.toNat_inj.1 (by have : (32 : UInt8).toNat = 32 := rfl; omega))
        rcases HF with rfl | ⟨k, rfl, hk⟩
        · have HW2 := Lib.hid (HW.out.first hch h32)
          clear hx hch hb h32
          go_wp2_with fail
          exact ⟨⟨j + 1, (j : Int), l, a, n, c, o, by omega, by go_num, rfl, rfl, HW2, HG⟩, by simp [intOf]; omega⟩
        · have HW2 := Lib.hid (HW.out.next hch h32)
          have k0 : decide ((k : Int) < 0) = false := decide_eq_false (by omega)
          clear hx hch hb h32
          go_wp2_with fail
          exact ⟨⟨j + 1, (k : Int), l, a, n, c, o, by omega, by go_num, rfl, rfl, HW2, HG⟩, by simp [intOf]; omega⟩
      · have HC : Hid (j < (L s).length → (L s)[j]? = some 32) := Lib.hid (fun h => Classical.byContradiction fun e => hb ⟨by rw [← HL.out]; exact h, e⟩)
        have TAIL : True := trivial
        rcases HF with rfl | ⟨k, rfl, hk⟩
        · have HW2 := Lib.hid (HW.out.skip (by rw [HL.out]; exact hle) HC.out)
          by_cases hlt : j < s.size
          · have hi2 : (j : Int) < (s.size : Int) := by omega
            have ix := str_at (HC.out (by rw [HL.out]; exact hlt))
            have ix2 : ∀ w : World, (Instr.index 9 (.string s) (.int .i64 (j : Int))).run Tryd.prog w = .ok (.int .u8 32) w := ix
            clear ix hb
            go_wp2_with fail
            exact ⟨⟨j + 1, -1, l, a, n, c, o, by omega, by go_num, rfl, rfl, HW2, HG⟩, by simp [intOf]; omega⟩
          · have hi2 : decide ((j : Int) < (s.size : Int)) = false := decide_eq_false (by omega)
            clear hb
            go_wp2_with fail
            exact ⟨⟨j + 1, -1, l, a, n, c, o, by omega, by go_num, rfl, rfl, HW2, HG⟩, by simp [intOf]; omega⟩
        · obtain ⟨_, hw2⟩ := HW.out.word (by rw [HL.out]; exact hle) HC.out
          have HW2 := Lib.hid hw2
          have k0 : (0 : Int) ≤ (k : Int) := by omega
          have kj : k ≤ j := by omega
          have kj' : (k : Int) ≤ (j : Int) := by omega
          obtain ⟨E, hE⟩ : ∃ E, s.extract k j = E := ⟨_, rfl⟩
          have hLE : L E = ((L s).take j).drop k := by rw [← hE, L_extract]
          obtain ⟨a5, c5, w5, o5, hr5, G5⟩ := HG.out.step nz E
          rw [hLE] at G5
          have HG5 := Lib.hid G5
          clear G5 hLE hw2
          by_cases hlt : j < s.size
          · have hi2 : (j : Int) < (s.size : Int) := by omega
            have ix := str_at (HC.out (by rw [HL.out]; exact hlt))
            have ix2 : ∀ w : World, (Instr.index 9 (.string s) (.int .i64 (j : Int))).run Tryd.prog w = .ok (.int .u8 32) w := ix
            clear ix hb
            go_wp2_with (at_builtin; refine wpList_append_run rfl (.tmp 27) (.tmp 32) 27 27 rfl _ _ _ rfl rfl hr5 ?_)
            exact ⟨⟨j + 1, -1, _, a5, n + 1, c5, o5, by omega, by go_num, rfl, rfl, HW2, HG5⟩, by simp [intOf]; omega⟩
          · have hi2 : decide ((j : Int) < (s.size : Int)) = false := decide_eq_false (by omega)
            clear hb
            go_wp2_with (at_builtin; refine wpList_append_run rfl (.tmp 27) (.tmp 32) 27 27 rfl _ _ _ rfl rfl hr5 ?_)
            exact ⟨⟨j + 1, -1, _, a5, n + 1, c5, o5, by omega, by go_num, rfl, rfl, HW2, HG5⟩, by simp [intOf]; omega⟩
    · have hi1 : decide ((j : Int) ≤ (s.size : Int)) = false := decide_eq_false (by omega)
      have HE : Hid (split (L s) = l) := Lib.hid (by
        rcases HW.out with ⟨h1, _⟩ | ⟨_, h2⟩
        · have := HL.out; omega
        · exact h2)
      go_wp2_with fail
      go_ret
      exact ⟨_, rfl, by rw [HE.out]; exact HG.out.strs, HG.out.below⟩
end Go.Proofs.YtedbklipbfbmoaaDoor
