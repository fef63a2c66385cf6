/-
  A VALUE'S OWN FRAGMENTS: any k of them tell it.
-/
import Derived.Test.YtmhhegkpkncebaaRebuild
namespace Go.Proofs.Ytmhhegkpkncebaa
open Go.RowKit

theorem dotN_xs (f g : Nat → Nat) (n : Nat) : Gf.dotN f g n = Gf.xs (fun i => Gf.mul (f i) (g i)) n := by
  induction n with
  | zero => rfl
  | succ n ih => show Gf.dotN f g n ^^^ _ = Gf.xs _ n ^^^ _; rw [ih]
theorem bt_piece {k : Nat} {v : ByteArray} {j x : Nat} (hx : x < szk k v.size) : bt (pieceS k v j) x = bt v (j * szk k v.size + x) :=
  bt_mkS (f := fun x => bt v (j * szk k v.size + x)) (bt_lt _ _) hx
theorem bt_frag {k : Nat} {v : ByteArray} {i x : Nat} (hx : x < szk k v.size) : bt (fragS k v i) x = Gf.mv k (Gf.cau k) (fun j => bt v (j * szk k v.size + x)) i := by
  unfold fragS
  rw [bt_mkS (mixF_lt _ _ _ _) hx]
  unfold mixF
  rw [dotN_xs]
  exact Gf.xs_congr (fun j _ => by rw [bt_piece hx])
theorem mv_id {k : Nat} {M : Nat → Nat → Nat} {p : Nat → Nat} (h : Gf.EqN k M Gf.idm) (hp : ∀ i, p i < 256) {j : Nat} (hj : j < k) : Gf.mv k M p j = p j := by
  unfold Gf.mv
  rw [Gf.xs_congr (g := fun l => Gf.mul (Gf.idm j l) (p l)) (fun l hl => by rw [h j hj l hl])]
  rw [Gf.xs_single hj (fun i _ hne => by unfold Gf.idm; rw [if_neg (fun e => hne e.symm), Gf.zero_mul])]
  unfold Gf.idm; rw [if_pos rfl, Gf.mul_comm, Gf.mul_one (hp j)]
theorem sol_own {k : Nat} {v : ByteArray} {X : Nat → Nat} {V : Nat → Nat → Nat} {D : Nat → ByteArray} (hV : IsInv k X V) (hD : ∀ i, i < k → D i = fragS k v (X i)) {y : Nat} (hy : y < k * szk k v.size) : solF V D k (szk k v.size) y = bt v y := by
  obtain ⟨h1, h2, _⟩ := hV
  obtain ⟨S, eS⟩ : ∃ S, S = szk k v.size := ⟨_, rfl⟩
  rw [← eS] at hy ⊢
  have hS : 0 < S := by
    rcases Nat.eq_zero_or_pos S with h | h
    · rw [h, Nat.mul_zero] at hy; omega
    · exact h
  have hx : y % S < S := Nat.mod_lt _ hS
  have hj : y / S < k := (Nat.div_lt_iff_lt_mul hS).2 hy
  have hyy : y / S * S + y % S = y := by rw [Nat.mul_comm]; exact Nat.div_add_mod y S
  unfold solF mixF
  rw [dotN_xs]
  have e1 : Gf.xs (fun i => Gf.mul (V (y / S) i) (bt (D i) (y % S))) k = Gf.mv k V (Gf.mv k (fun i j => Gf.cau k (X i) j) (fun j => bt v (j * S + y % S))) (y / S) := by
    refine Gf.xs_congr (fun i hi => ?_)
    rw [hD i hi, bt_frag (by rw [← eS]; exact hx), ← eS]
    rfl
  rw [e1, ← Gf.mv_mm h1 (fun i j => Gf.cau_lt _ _ _) (fun i => bt_lt _ _), mv_id h2 (fun i => bt_lt _ _) hj, hyy]

theorem dec_own {k N n : Nat} {A : Nat → Int} {D : Nat → ByteArray} {v s : ByteArray} {Z r : Int} (hk : 1 ≤ k) (hZ : Z = (v.size : Int)) (hv : v.size ≤ 1048576) (hA : ∀ i, i < n → 0 ≤ A i ∧ A i < (N : Int) ∧ D i = fragS k v (A i).toNat)
    (hl : (fst A k n).length = k) (h : DecR k N n A D Z s r) : s = v ∧ r = 0 := by
  subst hZ
  rcases h with ⟨h, _⟩ | ⟨z, hz, _, h⟩
  · exfalso; omega
  have ez : z = v.size := by omega
  subst ez
  have hS := szk_le k v.size hk
  rcases h with ⟨⟨i, hi, hno⟩, _⟩ | ⟨_, h, _⟩ | ⟨_, _, V, hV, h⟩
  · exact absurd ⟨(hA i hi).1, (hA i hi).2.1, by rw [(hA i hi).2.2]; exact fragS_size _ _ _⟩ hno
  · exfalso; omega
  · have hD : ∀ i, i < k → pD A D k n i = fragS k v (pX A k n i) := fun i hi => (hA _ (fst_lt A k n _ (getD_mem (by rw [hl]; exact hi)))).2.2
    rcases h with ⟨⟨y, h1, h2, h3⟩, _⟩ | ⟨_, hs, hr⟩
    · exact absurd (by rw [sol_own hV hD h2]; exact bt_out h1) h3
    · refine ⟨?_, hr⟩
      rw [hs, mkS_congr (g := bt v) (fun i hi => sol_own hV hD (by omega)), mkS_self]
theorem dec_few {k N n : Nat} {A : Nat → Int} {D : Nat → ByteArray} {v s : ByteArray} {Z r : Int} (hZ : Z = (v.size : Int)) (hv : v.size ≤ 1048576) (hA : ∀ i, i < n → 0 ≤ A i ∧ A i < (N : Int) ∧ D i = fragS k v (A i).toNat)
    (hl : (fst A k n).length < k) (h : DecR k N n A D Z s r) : r = 3 := by
  subst hZ
  rcases h with ⟨h, _⟩ | ⟨z, hz, _, h⟩
  · exfalso; omega
  have ez : z = v.size := by omega
  subst ez
  rcases h with ⟨⟨i, hi, hno⟩, _⟩ | ⟨_, _, _, h⟩ | ⟨_, h, _⟩
  · exact absurd ⟨(hA i hi).1, (hA i hi).2.1, by rw [(hA i hi).2.2]; exact fragS_size _ _ _⟩ hno
  · exact h
  · exfalso; omega
theorem reb_own {k N n : Nat} {A : Nat → Int} {D : Nat → ByteArray} {v s : ByteArray} {Z r x' : Int} {x : Nat} (hk : 1 ≤ k) (hZ : Z = (v.size : Int)) (hv : v.size ≤ 1048576) (hA : ∀ i, i < n → 0 ≤ A i ∧ A i < (N : Int) ∧ D i = fragS k v (A i).toNat)
    (hl : (fst A k n).length = k) (hx' : x' = (x : Int)) (hx : x < N) (h : RebR k N n A D Z x' s r) : s = fragS k v x ∧ r = 0 := by
  subst hx'
  rcases h with ⟨h, _⟩ | ⟨_, _, v', e, h1, h2⟩
  · exfalso; omega
  · obtain ⟨e1, e2⟩ := dec_own hk hZ hv hA hl h1
    subst e1 e2
    rcases h2 with ⟨h2, _⟩ | ⟨_, h2, h3⟩
    · exact absurd rfl h2
    · exact ⟨by rw [h2, Int.toNat_natCast], h3⟩
end Go.Proofs.Ytmhhegkpkncebaa
