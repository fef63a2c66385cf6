/-
  FENCES, plainly: what the law's slot answers, and what it doesn't.
-/
import Derived.Test.YtfinaichajbnkaaGreatSpl
namespace Go.Proofs.YtfinaichajbnkaaGreat
open Wi (F)

/-- A floor that goes up, above all that was told. -/
theorem take_hi {s : Sl} {f : F} (hm : s.may f = true) (h5 : f.kind ≠ 5) (ho : s.on = true) (hi : f.inc = s.inc) (hl : s.floor ≤ f.rid) (hf : s.floor < f.floor) (hr : f.floor ≤ f.rid) (hd : ∀ a ∈ s.done, a.rid < f.floor) :
    s.take f = (some (({ s with floor := f.floor, done := [] } : Sl).doo f).1, { s with floor := f.floor, done := [(({ s with floor := f.floor, done := [] } : Sl).doo f).1], z := (({ s with floor := f.floor, done := [] } : Sl).doo f).2 }) := by
  have e : s.low f = { s with floor := f.floor, done := [] } := by
    unfold Sl.low
    rw [if_pos hf]
    congr 1
    rw [List.filter_eq_nil_iff]
    intro a ha
    have := hd a ha
    simp; omega
  unfold Sl.take
  rw [if_neg (by simp [hm]), if_neg h5, if_neg (by simp [ho, hi, hl]), e, if_neg (by show ¬ f.rid < f.floor; omega)]
  rfl
/-- What is not heard changes nothing. -/
theorem take_out {s : Sl} {f : F} (h : f.slot ≠ s.id ∨ (f.kind = 5 ∧ f.inc < s.inc) ∨ (f.kind ≠ 5 ∧ (f.inc ≠ s.inc ∨ f.rid < s.floor))) : s.take f = (none, s) := by
  rcases h with h | ⟨h5, h⟩ | ⟨h5, h | h⟩
  · exact take_slot h
  · exact take_elder h5 h
  · exact take_inc h5 h
  · exact take_low h5 h
theorem fences_plain {n : Nat} (ok : OkSp ⟨St.new 4 1024 n, []⟩) : ∃ s1 s2 s3 s4 s5 : Sl,
    (Sl.new 1 4 1024 n).take ⟨5, 1, 3, 1, 0, 0, ⟨#[]⟩, 0, ⟨#[]⟩⟩ = (some ⟨6, 1, 3, 1, 0, 0, ⟨#[]⟩, 0, ⟨#[]⟩⟩, s1) ∧
    s1.take ⟨1, 1, 3, 50, 0, 1, ⟨#[107]⟩, 1, ⟨#[118]⟩⟩ = (some ⟨6, 1, 3, 50, 0, 1, ⟨#[107]⟩, 1, ⟨#[]⟩⟩, s2) ∧
    s2.take ⟨2, 1, 3, 60, 60, 1, ⟨#[107]⟩, 0, ⟨#[]⟩⟩ = (some ⟨6, 1, 3, 60, 0, 1, ⟨#[107]⟩, 1, ⟨#[118]⟩⟩, s3) ∧
    (s3.id = 1 ∧ s3.inc = 3 ∧ s3.floor = 60) ∧
    s3.take ⟨2, 1, 3, 70, 0, 1, ⟨#[107]⟩, 0, ⟨#[]⟩⟩ = (some ⟨6, 1, 3, 70, 0, 1, ⟨#[107]⟩, 1, ⟨#[118]⟩⟩, s4) ∧
    s4.z.l.length = 1 ∧
    s4.wipe.take ⟨2, 1, 3, 71, 0, 1, ⟨#[107]⟩, 0, ⟨#[]⟩⟩ = (none, s4.wipe) ∧
    s4.wipe.take ⟨5, 1, 4, 1, 0, 0, ⟨#[]⟩, 0, ⟨#[]⟩⟩ = (some ⟨6, 1, 4, 1, 0, 0, ⟨#[]⟩, 0, ⟨#[]⟩⟩, s5) ∧
    s5.take ⟨2, 1, 3, 72, 0, 1, ⟨#[107]⟩, 0, ⟨#[]⟩⟩ = (none, s5) ∧
    s5.inc = 4 ∧ s5.z.l.length = 0 ∧
    s1.done.length ≤ 90000 ∧ s2.done.length ≤ 90000 ∧ s3.done.length ≤ 90000 ∧ s4.done.length ≤ 90000 ∧ s5.done.length ≤ 90000 := by
  obtain ⟨D, hD⟩ : ∃ D : ByteArray → Int → ByteArray, D = fun _ _ => ⟨#[118]⟩ := ⟨_, rfl⟩
  obtain ⟨s1, e1, h1, d1, _⟩ := begin_take (by omega) ok D
  obtain ⟨k, hk⟩ : ∃ k : ByteArray, k = ⟨#[107]⟩ := ⟨_, rfl⟩
  have hsz : k.size = 1 := by rw [hk]; rfl
  have hsx : ∀ v, D k v = ⟨#[118]⟩ := fun v => by rw [hD]
  have hsx2 : ∀ v, (D k v).size = 1 := fun v => by rw [hsx]; rfl
  rw [← hk]
  clear hk hD
  obtain ⟨s2, e2, h2, d2⟩ := put_take h1 (fun _ => Int.le_refl _) (rid := 50) (ver := 1) (key := k) (by omega) (by omega) (by omega) (by rw [hsx2]; omega) (by rw [d1]; rfl)
  have hV : updV (fun _ => 0) k (max 0 1) k = 1 := by unfold updV; rw [if_pos rfl]; rfl
  obtain ⟨V, hVV⟩ : ∃ V, updV (fun _ => 0) k (max 0 1) = V := ⟨_, rfl⟩
  rw [hVV] at h2 hV
  rw [hsx] at e2
  have d2' : s2.done = [⟨6, 1, 3, 50, 0, 1, k, 1, ⟨#[]⟩⟩] := by rw [d2, d1]; rfl
  -- the floor goes up
  obtain ⟨t, ht⟩ : ∃ t : Sl, t = { s2 with floor := 60, done := [] } := ⟨_, rfl⟩
  have tsm : Sm t 1024 1 := by rw [ht]; exact ⟨h2.sm.rm, h2.sm.pg, h2.sm.len⟩
  have tsd : Std t.z V D := by rw [ht]; exact h2.sd
  have te : t.id = 1 ∧ t.inc = 3 ∧ t.on = true ∧ t.floor = 60 := by rw [ht]; exact ⟨h2.b.id, h2.b.inc, h2.b.on, rfl⟩
  obtain ⟨a1, a2, a3⟩ := std_get tsm tsd (rid := 60) (key := k) [(t.get (rq 2 60 k ⟨#[]⟩ 0)).1]
  have a3' : (t.get (rq 2 60 k ⟨#[]⟩ 0)).1 = ⟨6, 1, 3, 60, 0, 1, k, 1, ⟨#[118]⟩⟩ := by
    rw [a3]; unfold Sl.an; rw [te.1, te.2.1, hV, if_neg (by omega), hsx]; rfl
  rw [a3'] at a1
  obtain ⟨s3, hs3⟩ : ∃ s3 : Sl, s3 = { t with z := (t.get (rq 2 60 k ⟨#[]⟩ 0)).2, done := [⟨6, 1, 3, 60, 0, 1, k, 1, ⟨#[118]⟩⟩] } := ⟨_, rfl⟩
  rw [← hs3] at a1
  have a2' : Std s3.z V D := by rw [hs3]; exact a2
  have e3 : s2.take ⟨2, 1, 3, 60, 60, 1, k, 0, ⟨#[]⟩⟩ = (some ⟨6, 1, 3, 60, 0, 1, k, 1, ⟨#[118]⟩⟩, s3) := by
    have hd : t.doo ⟨2, 1, 3, 60, 60, 1, k, 0, ⟨#[]⟩⟩ = t.get (rq 2 60 k ⟨#[]⟩ 0) := by
      unfold Sl.doo; rw [if_neg (by show ¬ (2 : Int) = 1; omega)]; exact if_pos rfl
    have hm : s2.may ⟨2, 1, 3, 60, 60, 1, k, 0, ⟨#[]⟩⟩ = true := by
      have hr : Wi.rt (⟨2, 1, 3, 60, 60, 1, k, 0, ⟨#[]⟩⟩ : F) = true := by
        unfold Wi.rt Wi.fit
        simp only [Bool.and_eq_true, Wi.wi_iff, decide_eq_true_eq]
        refine ⟨by omega, by omega, by omega, by omega, by omega, by omega, by omega, ?_, ?_⟩
        · show ((0 : Nat) : Int) ≤ _; omega
        · rw [if_neg (by omega), if_neg (by omega), Wi.wi_iff]
          omega
      unfold Sl.may
      rw [hr, h2.b.id]; rfl
    rw [take_hi hm (by show (2 : Int) ≠ 5; omega) h2.b.on (by rw [h2.b.inc]) (by rw [h2.b.floor]; show (0 : Int) ≤ 60; omega) (by rw [h2.b.floor]; show (0 : Int) < 60; omega) (by show (60 : Int) ≤ 60; omega) (by
      rw [d2']
      intro a ha
      rw [List.mem_singleton.1 ha]
      show (50 : Int) < 60; omega)]
    show (some ((({ s2 with floor := 60, done := [] } : Sl).doo _).1), _) = _
    rw [← ht, hd, a3', hs3, ht]
  have s3e : s3.id = 1 ∧ s3.inc = 3 ∧ s3.on = true ∧ s3.floor = 60 := by rw [hs3]; exact te
  have d3 : s3.done = [⟨6, 1, 3, 60, 0, 1, k, 1, ⟨#[118]⟩⟩] := by rw [hs3]
  -- got once more
  obtain ⟨b1, b2, b3⟩ := std_get a1 a2' (rid := 70) (key := k) (s3.done ++ [(s3.get (rq 2 70 k ⟨#[]⟩ 0)).1])
  have b3' : (s3.get (rq 2 70 k ⟨#[]⟩ 0)).1 = ⟨6, 1, 3, 70, 0, 1, k, 1, ⟨#[118]⟩⟩ := by
    rw [b3]; unfold Sl.an; rw [s3e.1, s3e.2.1, hV, if_neg (by omega), hsx]; rfl
  have ha : Ask s3 (rq 2 70 k ⟨#[]⟩ 0) := by
    refine ⟨?_, by show (2 : Int) ≠ 5; omega, s3e.2.2.1, s3e.2.1.symm, by rw [s3e.2.2.2]; show (60 : Int) ≤ 70; omega, by rw [s3e.2.2.2]; show (0 : Int) ≤ 60; omega⟩
    unfold Sl.may
    rw [rq_rt (by omega) (by omega) (by omega) (by omega) (by show 0 ≤ _; omega), s3e.1]; rfl
  obtain ⟨s4, hs4⟩ : ∃ s4 : Sl, s4 = { s3 with z := (s3.get (rq 2 70 k ⟨#[]⟩ 0)).2, done := s3.done ++ [(s3.get (rq 2 70 k ⟨#[]⟩ 0)).1] } := ⟨_, rfl⟩
  have e4 : s3.take (rq 2 70 k ⟨#[]⟩ 0) = (some ⟨6, 1, 3, 70, 0, 1, k, 1, ⟨#[118]⟩⟩, s4) := by
    have hd : s3.doo (rq 2 70 k ⟨#[]⟩ 0) = s3.get (rq 2 70 k ⟨#[]⟩ 0) := by
      unfold Sl.doo; rw [if_neg (by show ¬ (2 : Int) = 1; omega)]; exact if_pos rfl
    rw [take_new ha (by rw [d3]; rfl), hd, hs4, b3']
  rw [← hs4] at b1
  have l4 : s4.z.l.length = 1 := by
    have h1 := b1.len
    have g := (show Std s4.z V D by rw [hs4]; exact b2) (rq 2 70 k ⟨#[]⟩ 0) rfl
    rw [show (rq 2 70 k ⟨#[]⟩ 0).key = k from rfl, hV, if_neg (by omega)] at g
    rcases hl : s4.z.l with _ | ⟨x, r⟩
    · unfold got at g
      rw [hl] at g
      exact absurd g (by simp [fnd])
    · rw [hl] at h1
      simp only [List.length_cons] at h1 ⊢
      omega
  have s4e : s4.id = 1 ∧ s4.inc = 3 := by rw [hs4]; exact ⟨s3e.1, s3e.2.1⟩
  have d4 : s4.done.length = 2 := by rw [hs4, d3]; rfl
  have hw : s4.wipe.inc = 3 := s4e.2
  have e5 : s4.wipe.take (r5 4 1) = (some ⟨6, 1, 4, 1, 0, 0, ⟨#[]⟩, 0, ⟨#[]⟩⟩, { s4.wipe.clear with on := true, inc := 4 }) := by
    rw [take_reset (r5_may (s := s4.wipe) s4e.1 (by omega) (by omega)) rfl, reset_new (by rw [hw]; show (3 : Int) < 4; omega)]
    rw [show s4.wipe.id = 1 from s4e.1]
    rfl
  refine ⟨s1, s2, s3, s4, { s4.wipe.clear with on := true, inc := 4 }, e1, e2, e3, ⟨s3e.1, s3e.2.1, s3e.2.2.2⟩, e4, l4, take_off (by show (2 : Int) ≠ 5; omega) rfl, e5, take_inc (by show (2 : Int) ≠ 5; omega) (by show (3 : Int) ≠ 4; omega), rfl, rfl, by rw [d1]; exact Nat.zero_le _, by rw [d2']; exact (by decide : 1 ≤ 90000), by rw [d3]; exact (by decide : 1 ≤ 90000), by rw [d4]; exact (by decide : 2 ≤ 90000), Nat.zero_le _⟩
end Go.Proofs.YtfinaichajbnkaaGreat
