/-
  hushed: the arguments without a noreply behind them.
-/
import Derived.Test.YtedbklipbfbmoaaDoorForm
namespace Go.Proofs.YtedbklipbfbmoaaDoor
open Go.RowKit

/-- '==' of a string and a constant, as the walk has it. -/
theorem beq_lit (x l : B) : ((S x).toList == l) = decide (x = l) := by
  have e : (S x).toList = x := by rw [ByteArray.toList_eq]; rfl
  rw [e]
  by_cases h : x = l
  · subst h; simp
  · rw [decide_eq_false h]; exact beq_eq_false_iff_ne.2 h
theorem Strs.take {w : World} {a : Option Addr} {n c : Nat} {l : List B} (h : Strs w (.slice a n c) l) (k : Nat) (hk : k ≤ l.length) : Strs w (.slice a k c) (l.take k) := by
  obtain ⟨a', c', h1, h2, h3⟩ := h
  injection h1 with e1 e2 e3
  subst e1 e3
  have hlen : (l.take k).length = k := by rw [List.length_take]; omega
  refine ⟨a, c, by rw [hlen], by omega, fun hl => ?_⟩
  obtain ⟨g, q, h4, h5⟩ := h3 (fun e => hl (by rw [e]; simp))
  refine ⟨g, q, h4, fun i x hx => h5 i x ?_⟩
  rw [List.getElem?_take] at hx
  split at hx
  · exact hx
  · cases hx
theorem Strs.len {w : World} {a : Option Addr} {n c : Nat} {l : List B} (h : Strs w (.slice a n c) l) : n = l.length ∧ n ≤ c := by
  obtain ⟨a', c', h1, h2, h3⟩ := h
  injection h1 with e1 e2 e3
  subst e1 e2 e3
  exact ⟨rfl, h2⟩
theorem Strs.at_ {w : World} {a : Option Addr} {n c : Nat} {l : List B} (h : Strs w (.slice a n c) l) {i : Nat} {x : B} (hx : l[i]? = some x) : ∃ g q, a = some ⟨g, q, none⟩ ∧ w.cell? ⟨g, q + i, none⟩ = some (.string (S x)) := by
  obtain ⟨a', c', h1, h2, h3⟩ := h
  injection h1 with e1 e2 e3
  subst e1 e2 e3
  obtain ⟨g, q, h4, h5⟩ := h3 (fun e => by subst e; simp at hx)
  exact ⟨g, q, h4, h5 i x hx⟩
set_option maxRecDepth 100000 in
set_option maxHeartbeats 1000000 in
theorem hush_any (f : Fm) (kv : Value) (hkv : ∃ a n, kv = .slice a n n) (l : List B) (a : Option Addr) (n c : Nat) (hl : l.length ≤ 100000) (w : World) (h : Strs w (.slice a n c) l) :
    Calls Tryd.prog 32 #[f.v kv, .slice a n c] w fun e w' => e = .returned (.tuple #[.slice a (args f l).length c, .bool (hushed f l)]) ∧ w' = w.alloc (.cells #[kv, .int .i64 ((f.least : Nat) : Int), .int .i64 ((f.most : Nat) : Int), .bool f.hush] 72) := by
  obtain ⟨hn, hc⟩ := h.len
  obtain ⟨ka, kn, rfl⟩ := hkv
  obtain ⟨ks, lo, hi, hu⟩ := f
  simp only [Fm.v]
  by_cases h1 : hu = true ∧ lo < n
  · obtain ⟨rfl, hlo⟩ := h1
    obtain ⟨x, hx⟩ : ∃ x, l[n - 1]? = some x := ⟨_, List.getElem?_eq_getElem (by omega)⟩
    obtain ⟨g, q, rfl, cx⟩ := h.at_ hx
    have hgd : l.getD (l.length - 1) [] = x := by rw [List.getD_eq_getElem?_getD, ← hn, hx]; rfl
    obtain ⟨p, rfl⟩ : ∃ p, n = p + 1 := ⟨n - 1, by omega⟩
    rw [show p + 1 - 1 = p from rfl] at cx
    have pb : p ≤ 100000 := by omega
    have hlo' : (lo : Int) < (p : Int) + 1 := by omega
    have cx2 := cell_up ((Below.refl _ _).alloc (Nat.le_refl _) (.cells #[.slice ka kn kn, .int .i64 ((lo : Nat) : Int), .int .i64 ((hi : Nat) : Int), .bool true] 72)) cx
    have pn : (p : Int) < (p : Int) + 1 := by omega
    have pc : p ≤ c := by omega
    by_cases hb : x = noreply
    · have e1 : hushed ⟨ks, lo, hi, true⟩ l = true := by
        unfold hushed; rw [hgd, hb]; simp; omega
      have e2 : (args ⟨ks, lo, hi, true⟩ l).length = p := by unfold args; rw [e1]; simp; omega
      rw [e1, e2]
      have eq : ((S x).toList == [110, 111, 114, 101, 112, 108, 121]) = true := by rw [beq_lit, hb]; rfl
      clear e1 e2 hb hgd hx h cx
      have HN := Lib.hid hn
      clear hn
      go_enter Tryd.func32, Tryd.ntmps32
      go_wp2_with fail
      exact bodyPost_ret (v := .tuple #[.slice (some ⟨g, q, none⟩) p c, .bool true]) (by simp [results, Tryd.results32, go_sem]) rfl ⟨rfl, rfl⟩
    · have e1 : hushed ⟨ks, lo, hi, true⟩ l = false := by
        unfold hushed; rw [hgd]; simp [hb]
      have e2 : (args ⟨ks, lo, hi, true⟩ l).length = p + 1 := by unfold args; rw [e1]; simp; omega
      rw [e1, e2]
      have eq : ((S x).toList == [110, 111, 114, 101, 112, 108, 121]) = false := by rw [beq_lit]; exact decide_eq_false hb
      clear e1 e2 hb hgd hx h cx
      have HN := Lib.hid hn
      clear hn
      go_enter Tryd.func32, Tryd.ntmps32
      go_wp2_with fail
      exact bodyPost_ret (v := .tuple #[.slice (some ⟨g, q, none⟩) (p + 1) c, .bool false]) (by simp [results, Tryd.results32, go_sem]) rfl ⟨rfl, rfl⟩
  · have e1 : hushed ⟨ks, lo, hi, hu⟩ l = false := by
      unfold hushed
      cases hu with
      | false => rfl
      | true =>
        have : ¬ lo < l.length := fun e => h1 ⟨rfl, by omega⟩
        simp [this]
    have e2 : (args ⟨ks, lo, hi, hu⟩ l).length = n := by unfold args; rw [e1]; simp; omega
    rw [e1, e2]
    have HN := Lib.hid hn
    clear e1 e2 h
    cases hu with
    | false =>
      clear h1 hn
      go_enter Tryd.func32, Tryd.ntmps32
      go_wp2_with fail
      exact bodyPost_ret (v := .tuple #[.slice a n c, .bool false]) (by simp [results, Tryd.results32, go_sem]) rfl ⟨rfl, rfl⟩
    | true =>
      have hlo : ¬ lo < n := fun e => h1 ⟨rfl, e⟩
      have hlo' : decide ((lo : Int) < (n : Int)) = false := decide_eq_false (by omega)
      clear h1 hn
      go_enter Tryd.func32, Tryd.ntmps32
      go_wp2_with fail
      exact bodyPost_ret (v := .tuple #[.slice a n c, .bool false]) (by simp [results, Tryd.results32, go_sem]) rfl ⟨rfl, rfl⟩
end Go.Proofs.YtedbklipbfbmoaaDoor
