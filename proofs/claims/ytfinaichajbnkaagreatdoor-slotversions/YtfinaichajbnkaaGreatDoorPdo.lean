/-
  do, of any request that is heard.
-/
import Derived.Test.YtfinaichajbnkaaGreatDoorPds
import Derived.Test.YtfinaichajbnkaaGreatDoorPdg
import Derived.Test.YtfinaichajbnkaaGreatDoorPdd
import Derived.Test.YtfinaichajbnkaaGreatDoorPdp
import Derived.Test.YtfinaichajbnkaaGreatDoorSma
namespace Go.Proofs.YtfinaichajbnkaaGreatDoor
open Go.RowKit
open Wi (F)

theorem rt_all {f : F} (h : Wi.rt f = true) : (1 ≤ f.kind ∧ f.kind ≤ 7) ∧ (0 ≤ f.slot ∧ f.slot ≤ 11) ∧ 0 ≤ f.ver ∧ f.ver ≤ 1099511627776 ∧ f.key.size ≤ 250 ∧ f.data.size ≤ 1049600 ∧ Wi.fit f.role f.kind = true := by
  unfold Wi.rt at h
  simp only [Bool.and_eq_true, Wi.wi_iff, decide_eq_true_eq] at h
  obtain ⟨h1, h2, _, _, _, h6, h7, h8, h9⟩ := h
  exact ⟨h1, h2, h6.1, h6.2, by omega, by omega, h9⟩
set_option maxRecDepth 100000 in
theorem pdo_any (X : Nat) (s : Sl) (C : Nat) (D : Value) (d : List F) (f : F) (hrt : Wi.rt f = true) (h5 : f.kind ≠ 5) (h6 : f.kind ≠ 6) (h7 : f.kind ≠ 7) (w : World) (o : Nat → Nat × Nat) (h : IsPl w o X s C D d) :
    Calls Tryz.prog 30 #[.pointer (some ⟨X, 0, none⟩), f.v] w fun e w' => e = .returned ((s.doo f).1).v ∧ ∃ o', IsPl w' o' X { s with z := (s.doo f).2 } C D d ∧ Fr TS o o' w w' := by
  obtain ⟨hk, _, v1, v2, k1, d1, ft⟩ := rt_all hrt
  by_cases e4 : f.kind = 4
  · have hr : f.role = 0 := by
      unfold Wi.fit at ft
      rw [if_pos (.inl e4)] at ft
      simpa using ft
    have e : s.doo f = s.scan f := by unfold Sl.doo; rw [if_neg (by omega), if_neg (by omega), if_neg (by omega)]
    rw [e]
    exact pdo_scan X s C D d f e4 hr (by omega) w o h
  · have hr : f.role = 1 ∨ f.role = 2 := by
      unfold Wi.fit at ft
      rw [if_neg (by omega), if_neg h6, Wi.wi_iff] at ft
      omega
    by_cases e1 : f.kind = 1
    · have e : s.doo f = s.put f := by unfold Sl.doo; rw [if_pos e1]
      rw [e]
      exact pdo_put X s C D d f e1 hr (by omega) (by omega) (by omega) (by omega) w o h
    · by_cases e2 : f.kind = 2
      · have e : s.doo f = s.get f := by unfold Sl.doo; rw [if_neg e1, if_pos e2]
        rw [e]
        exact pdo_get X s C D d f e2 hr (by omega) (by omega) (by omega) w o h
      · have e3 : f.kind = 3 := by omega
        have e : s.doo f = s.drop f := by unfold Sl.doo; rw [if_neg e1, if_neg e2, if_pos e3]
        rw [e]
        exact pdo_drop X s C D d f e3 hr (by omega) (by omega) (by omega) w o h
end Go.Proofs.YtfinaichajbnkaaGreatDoor
