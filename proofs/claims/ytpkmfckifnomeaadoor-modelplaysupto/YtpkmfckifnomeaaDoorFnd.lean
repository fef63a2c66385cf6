/-
  found: the entries of many keys that live.
-/
import Derived.Test.YtpkmfckifnomeaaDoorMp3
namespace Go.Proofs.YtpkmfckifnomeaaDoor
open Go.RowKit


/-- Texts that lie at a place, one behind the other. -/
def Ks (w : World) (a : Option Addr) (ks : List ByteArray) : Prop := ks = [] ∨ ∃ p off, a = some ⟨p, off, none⟩ ∧ ∀ i k, ks[i]? = some k → w.cell? ⟨p, off + i, none⟩ = some (.string k)
/-- They lie in a block whose mark is none of these. -/
def Off (o : Nat → Nat × Nat) (a : Option Addr) (T : Nat × Nat → Prop) : Prop := ∀ p off, a = some ⟨p, off, none⟩ → ¬ T (o p)
theorem Ks.fr {T : Nat × Nat → Prop} {w w' : World} {o o' : Nat → Nat × Nat} {a : Option Addr} {ks : List ByteArray} (h : Ks w a ks) (f : Fr T o o' w w') (ho : ks ≠ [] → Off o a T) : Ks w' a ks := by
  by_cases hks : ks = []
  · exact .inl hks
  rcases h with h | ⟨p, off, h1, h2⟩
  · exact .inl h
  · exact .inr ⟨p, off, h1, fun i k hk => f.cell (h2 i k hk) (ho hks p off h1)⟩
theorem Ks.below {w w' : World} {a : Option Addr} {ks : List ByteArray} (h : Ks w a ks) (f : Below w.heap.size w w') : Ks w' a ks := h.fr (Fr.ofBelow (fun _ => False) o0 f) (fun _ _ _ _ h => h)
/-- What is told of each: its cells. -/
def fc1 (e : En) : List Value := [.string e.key, .int .i64 e.fl, .string e.val, .int .i64 e.cas]
def fcs (l : List En) : List Value := l.flatMap fc1
theorem fcs_app (l : List En) (e : En) : fcs (l ++ [e]) = fcs l ++ fc1 e := by simp [fcs]
theorem fc1_one (e : En) : ∀ u ∈ fc1 e, u.oneCell' = true := by
  intro u hu
  simp only [fc1, List.mem_cons, List.not_mem_nil, or_false] at hu
  rcases hu with rfl | rfl | rfl | rfl <;> rfl
/-- Those of the keys that live. -/
def fnd (l : List En) (now : Int) (ks : List ByteArray) : List En := ks.filterMap fun k => if (liv l k now).2 then some (liv l k now).1 else none
theorem fnd_app (l : List En) (now : Int) (ks : List ByteArray) (k : ByteArray) : fnd l now (ks ++ [k]) = fnd l now ks ++ (if (liv l k now).2 then [(liv l k now).1] else []) := by
  unfold fnd
  rw [List.filterMap_append]
  congr 1
  cases h : (liv l k now).2 <;> simp [h]
theorem fnd_len (l : List En) (now : Int) (ks : List ByteArray) : (fnd l now ks).length ≤ ks.length := List.length_filterMap_le _ _
theorem under29 : Tryd.prog.underlying 29 = some (.slice 35) := by kernel_rfl
theorem info35 : (Tryd.prog.info? 35).map (fun i => (i.zero, i.size, i.bytes)) = some (some (.agg #[.string ⟨#[]⟩, .int .i64 0, .string ⟨#[]⟩, .int .i64 0]), 4, 48) := by kernel_rfl
/-- found on its way. -/
structure Fw (w : World) (o : Nat → Nat × Nat) (t : Nat × Nat) (l : List En) (now : Int) (ks : List ByteArray) (j : Nat) (wr : World) (a : Option Addr) (n c : Nat) (o1 : Nat → Nat × Nat) : Prop where
  own : OwnK wr o1 t 4 (.slice a n c) n (fcs (fnd l now (ks.take j)))
  len : n = (fnd l now (ks.take j)).length
  fr : Fr (· = t) o o1 w wr
theorem Fw.skip {w wr w1 : World} {o o1 : Nat → Nat × Nat} {t : Nat × Nat} {l : List En} {now : Int} {ks : List ByteArray} {j : Nat} {a : Option Addr} {n c : Nat} (h : Fw w o t l now ks j wr a n c o1) (b : Below wr.heap.size wr w1) {k : ByteArray} (hk : ks[j]? = some k) (hl : (liv l k now).2 = false) : Fw w o t l now ks (j + 1) w1 a n c o1 := by
  have e : fnd l now (ks.take (j + 1)) = fnd l now (ks.take j) := by
    rw [List.take_add_one, hk]
    show fnd l now (ks.take j ++ [k]) = _
    rw [fnd_app, hl]; simp
  exact ⟨by rw [e]; exact h.own.below b, by rw [e]; exact h.len, h.fr.trans (Fr.ofBelow _ _ b)⟩
theorem Fw.step {w wr w1 : World} {o o1 : Nat → Nat × Nat} {t : Nat × Nat} {l : List En} {now : Int} {ks : List ByteArray} {j : Nat} {a : Option Addr} {n c : Nat} (h : Fw w o t l now ks j wr a n c o1) (hz : ks.length ≤ 1000000) (b : Below wr.heap.size wr w1) {k : ByteArray} (hk : ks[j]? = some k) {e : En} (hl : liv l k now = (e, true)) :
    ∃ a' c' w' o', (Builtin.append_ #[29, 29] 29 #[.slice a n c, .slice (some ⟨w1.heap.size, 0, none⟩) 1 1]).run Tryd.prog (w1.alloc (.cells #[.string e.key, .int .i64 e.fl, .string e.val, .int .i64 e.cas] 35)) = .ok (.slice a' (n + 1) c') w' ∧ Fw w o t l now ks (j + 1) w' a' (n + 1) c' o' := by
  have e1 : fnd l now (ks.take (j + 1)) = fnd l now (ks.take j) ++ [e] := by
    rw [List.take_add_one, hk]
    show fnd l now (ks.take j ++ [k]) = _
    rw [fnd_app, hl]; rfl
  have hn : n ≤ 1000000 := by
    have := fnd_len l now (ks.take j)
    rw [← h.len] at this
    have := List.length_take_le j ks
    have := List.length_take_le' j ks
    omega
  obtain ⟨v', w', o', hr, h1, h2⟩ := app_one 29 35 _ 48 under29 info35 rfl (h.own.below b) (fc1 e) rfl (fc1_one e) (by omega) (by omega)
  obtain ⟨a', c', rfl, _⟩ := h1.form
  refine ⟨a', c', w', o', hr, by rw [e1, fcs_app]; exact h1, by rw [e1, List.length_append, ← h.len]; rfl, (h.fr.trans (Fr.ofBelow _ _ b)).trans h2⟩
set_option maxRecDepth 100000 in
set_option maxHeartbeats 2000000 in
theorem found_any (x : Nat) (t : Nat × Nat) {o : Nat → Nat × Nat} {P b n0 : Nat} {l : List En} (now : Int) (a : Option Addr) (kc : Nat) (ks : List ByteArray) (hz : ks.length ≤ 1000000) (hks : ∀ k ∈ ks, k.size ≤ 140737488355328) (h0 : t ≠ (x, 0)) (h1 : t ≠ (x, 1)) (w : World) (h : IsM w o x P b n0 l) (hK : Ks w a ks) (hoff : ks ≠ [] → Off o a (· = t)) :
    Calls Tryd.prog 24 #[.pointer (some ⟨P, 0, none⟩), .slice a ks.length kc, .int .i64 now] w fun e w' => ∃ a' n c o', e = .returned (.slice a' n c) ∧ OwnK w' o' t 4 (.slice a' n c) n (fcs (fnd l now ks)) ∧ n = (fnd l now ks).length ∧ Fr (· = t) o o' w w' := by
  have HM := Lib.hid (And.intro h (And.intro hK (And.intro hoff (And.intro h0.symm (And.intro h1.symm hks)))))
  clear h hK hoff h0 h1 hks
  obtain ⟨kl, hkl⟩ : ∃ kl, ks.length = kl := ⟨_, rfl⟩
  rw [hkl] at hz ⊢
  have HKL := Lib.hid hkl
  clear hkl
  go_enter Tryd.func24, Tryd.ntmps24
  go_wp2_with fail
  go_loopw [7, 14] (fun lv_ i wr => ∃ (j : Nat) (a' : Option Addr) (n c : Nat) (o1 : Nat → Nat × Nat), j ≤ kl ∧ i = .int .i64 (j : Int) ∧ lv_ = .slice a' n c ∧ Hid (Fw w o t l now ks j wr a' n c o1)) (fun _ i _ => kl - (intOf i).toNat)
  case atStart => exact ⟨0, none, 0, 0, o, by omega, rfl, rfl, Lib.hid ⟨OwnK.nil _ _ _ _, rfl, Fr.refl _ _ _⟩⟩
  case round =>
    obtain ⟨j, a', n, c, o1, hj, rfl, rfl, HF⟩ := hrel
    by_cases hlt : j < kl
    · have hi1 : (j : Int) < (kl : Int) := by omega
      obtain ⟨k, hk⟩ : ∃ k, ks[j]? = some k := ⟨_, List.getElem?_eq_getElem (by rw [HKL.out]; exact hlt)⟩
      obtain ⟨h, hK, hoff, h0, h1, hks⟩ := HM.out
      have hM := h.fr HF.out.fr h0 h1
      have hKr := hK.fr HF.out.fr hoff
      have hkz := hks k (List.mem_of_getElem? hk)
      obtain ⟨p, off, rfl, cc⟩ : ∃ p off, a = some ⟨p, off, none⟩ ∧ wr.cell? ⟨p, off + j, none⟩ = some (.string k) := by
        rcases hKr with h | ⟨p, off, h1, h2⟩
        · rw [h] at hk; cases hk
        · exact ⟨p, off, h1, h2 j k hk⟩
      have LV := Lib.hid (living_any x k hkz now wr hM)
      obtain ⟨⟨E, th⟩, hE⟩ : ∃ q, liv l k now = q := ⟨_, rfl⟩
      rw [hE] at LV
      replace LV : Hid (Calls Tryd.prog 46 #[.pointer (some ⟨P, 0, none⟩), .string k, .int .i64 now] wr fun e w' => e = .returned (.tuple #[.agg #[.string E.key, .int .i64 E.fl, .int .i64 E.dl, .string E.val, .int .i64 E.cas], .bool th]) ∧ Below wr.heap.size wr w') := LV
      have HE := Lib.hid hE
      have HKk := Lib.hid hk
      clear hE h hK hoff h0 h1 hks hM hKr hkz hk
      go_wp2_with fail
      refine LV.out.mono ?_
      rintro e1 w1 ⟨rfl, hb1⟩
      clear LV cc
      cases th with
      | false =>
        have HS : Hid (Fw w o t l now ks (j + 1) (w1.alloc (.cells #[.string E.key, .int .i64 E.fl, .int .i64 E.dl, .string E.val, .int .i64 E.cas] 49)) a' n c o1) := Lib.hid (HF.out.skip (hb1.trans ((below_alloc _ _).mono hb1.size)) HKk.out (by rw [HE.out]))
        clear hb1 HF
        go_wp2_with fail
        exact ⟨⟨j + 1, a', n, c, o1, by omega, by go_num, rfl, HS⟩, by simp [intOf]; omega⟩
      | true =>
        obtain ⟨a2, c2, w2, o2, hr, HS⟩ := HF.out.step (by rw [HKL.out]; exact hz) (hb1.trans ((below_alloc w1 (.cells #[.string E.key, .int .i64 E.fl, .int .i64 E.dl, .string E.val, .int .i64 E.cas] 49)).mono hb1.size)) HKk.out HE.out
        have HS2 := Lib.hid HS
        rw [World.size_alloc] at hr
        clear hb1 HF HS
        go_wp2_with (at_builtin; refine wpList_append_run rfl (.tmp 26) (.tmp 36) 29 29 rfl _ _ _ rfl rfl hr ?_)
        exact ⟨⟨j + 1, a2, n + 1, c2, o2, by omega, by go_num, rfl, HS2⟩, by simp [intOf]; omega⟩
    · have hi1 : decide ((j : Int) < (kl : Int)) = false := decide_eq_false (by omega)
      have HE : Hid (OwnK wr o1 t 4 (.slice a' n c) n (fcs (fnd l now ks)) ∧ n = (fnd l now ks).length ∧ Fr (· = t) o o1 w wr) := Lib.hid (by
        have e : ks.take j = ks := List.take_of_length_le (by rw [HKL.out]; omega)
        have := HF.out
        exact ⟨by have h := this.own; rwa [e] at h, by have h := this.len; rwa [e] at h, this.fr⟩)
      clear HF
      go_wp2_with fail
      go_ret
      exact ⟨a', n, c, o1, rfl, HE.out⟩
end Go.Proofs.YtpkmfckifnomeaaDoor
