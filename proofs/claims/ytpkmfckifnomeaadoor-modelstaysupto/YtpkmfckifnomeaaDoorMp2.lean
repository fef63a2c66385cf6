/-
  change: what a request of one key does.
-/
import Derived.Test.YtpkmfckifnomeaaDoorMp1
namespace Go.Proofs.YtpkmfckifnomeaaDoor
open Go.RowKit

open Go.Lib (TabIs pow10Tab)
/-- What the request of one key comes to. -/
def q1 (r : Rq) (k : ByteArray) (now ver : Int) (l : List En) : Q4 := nxt r (liv l k now).1 (liv l k now).2 now ver
/-- The entries then. -/
def stp (r : Rq) (k : ByteArray) (now ver : Int) (l : List En) : List En :=
  let l1 := if (q1 r k now ver l).2.2.1 then put (q1 r k now ver l).2.1 l else l
  if (q1 r k now ver l).2.2.2 then del (L k) l1 else l1
/-- No key and no value is too long. -/
def Ok (l : List En) : Prop := ∀ e ∈ l, e.key.size ≤ 140737488355328 ∧ e.val.size ≤ 140737488355328
theorem Ok.nil : Ok [] := fun _ h => by cases h
theorem Ok.del {l : List En} (h : Ok l) (k : B) : Ok (YtpkmfckifnomeaaDoor.del k l) := fun e he => h e (List.mem_filter.1 he).1
theorem mem_ins {e x : En} : ∀ {l : List En}, x ∈ ins e l → x = e ∨ x ∈ l
  | [], h => by simp [ins] at h; exact .inl h
  | y :: r, h => by
    rw [ins] at h
    split at h
    · rcases List.mem_cons.1 h with h | h
      · exact .inl h
      · exact .inr h
    · rcases List.mem_cons.1 h with h | h
      · exact .inr (by simp [h])
      · rcases mem_ins h with h | h
        · exact .inl h
        · exact .inr (by simp [h])
theorem Ok.put {l : List En} (h : Ok l) (e : En) (h1 : e.key.size ≤ 140737488355328) (h2 : e.val.size ≤ 140737488355328) : Ok (YtpkmfckifnomeaaDoor.put e l) := fun x hx => by
  rcases mem_ins hx with rfl | hx
  · exact ⟨h1, h2⟩
  · exact h.del _ x hx
theorem got_mem {l : List En} {k : B} (h : (look k l).isSome = true) : look k l = some (got l k) := by
  unfold got
  cases hl : look k l with
  | none => rw [hl] at h; cases h
  | some e => rfl
theorem liv_ok {l : List En} (h : Ok l) (k : ByteArray) (now : Int) : (liv l k now).1.key = k ∧ (liv l k now).1.val.size ≤ 140737488355328 := by
  unfold liv
  cases hs : (look (L k) l).isSome with
  | false => rw [if_neg (by simp)]; exact ⟨rfl, by show (ByteArray.mk #[]).size ≤ _; decide⟩
  | true =>
    have e := got_mem hs
    cases lv (got l (L k)).dl now with
    | false => rw [if_neg (by simp)]; exact ⟨rfl, by show (ByteArray.mk #[]).size ≤ _; decide⟩
    | true => rw [if_pos (by rfl)]; exact ⟨L_inj (look_key e), (h _ (look_mem e)).2⟩
/-- What is kept has the key, and is not too long. -/
theorem nxt_ok (r : Rq) (e : En) (b : Bool) (now ver : Int) (hv : e.val.size ≤ 140737488355328) (hd : r.data.size ≤ 140737488355328) (hk : (nxt r e b now ver).2.2.1 = true) : (nxt r e b now ver).2.1.key = e.key ∧ (nxt r e b now ver).2.1.val.size ≤ 140737488355328 := by
  have j : ∀ v, (joi e b v ver).2.2.1 = true → (joi e b v ver).2.1.key = e.key ∧ (joi e b v ver).2.1.val.size ≤ 140737488355328 := by
    intro v h
    unfold joi at h ⊢
    split at h
    · cases h
    · split at h
      · cases h
      · rename_i h1 h2
        rw [if_neg h1, if_neg h2]
        exact ⟨rfl, by show v.size ≤ _; omega⟩
  have c : ∀ u, (cou u e b r.delta ver).2.2.1 = true → (cou u e b r.delta ver).2.1.key = e.key ∧ (cou u e b r.delta ver).2.1.val.size ≤ 140737488355328 := by
    intro u h
    unfold cou at h ⊢
    split at h
    · cases h
    · split at h
      · cases h
      · rename_i h1 h2
        rw [if_neg h1, if_neg h2]
        refine ⟨rfl, ?_⟩
        show (S _).size ≤ _
        rw [S_size]
        have := (dec_len (cnt_lt u (nv 18446744073709551615 (L e.val)) r.delta (nv_lt _))).2
        omega
  unfold nxt at hk ⊢
  split
  · exact ⟨rfl, hd⟩
  split
  · rename_i h1 h2
    rw [if_neg h1, if_pos h2] at hk
    split at hk
    · rename_i h3; rw [if_pos h3]; exact ⟨rfl, hd⟩
    · cases hk
  split
  · rename_i h1 h2 h3
    rw [if_neg h1, if_neg h2, if_pos h3] at hk
    split at hk
    · cases hk
    · rename_i h4; rw [if_neg h4]; exact ⟨rfl, hd⟩
  split
  · rename_i h1 h2 h3 h4
    rw [if_neg h1, if_neg h2, if_neg h3, if_pos h4] at hk
    exact j _ hk
  split
  · rename_i h1 h2 h3 h4 h5
    rw [if_neg h1, if_neg h2, if_neg h3, if_neg h4, if_pos h5] at hk
    exact j _ hk
  split
  · rename_i h1 h2 h3 h4 h5 h6
    rw [if_neg h1, if_neg h2, if_neg h3, if_neg h4, if_neg h5, if_pos h6] at hk
    split at hk
    · cases hk
    · rename_i h7
      rw [if_neg h7]
      split at hk
      · rename_i h8; rw [if_pos h8]; exact ⟨rfl, hd⟩
      · cases hk
  split
  · rename_i h1 h2 h3 h4 h5 h6 h7
    rw [if_neg h1, if_neg h2, if_neg h3, if_neg h4, if_neg h5, if_neg h6, if_pos h7] at hk
    split at hk <;> cases hk
  split
  · rename_i h1 h2 h3 h4 h5 h6 h7 h8
    rw [if_neg h1, if_neg h2, if_neg h3, if_neg h4, if_neg h5, if_neg h6, if_neg h7, if_pos h8] at hk
    split at hk
    · cases hk
    · rename_i h9; rw [if_neg h9]; exact ⟨rfl, hv⟩
  split
  · rename_i h1 h2 h3 h4 h5 h6 h7 h8 h9
    rw [if_neg h1, if_neg h2, if_neg h3, if_neg h4, if_neg h5, if_neg h6, if_neg h7, if_neg h8, if_pos h9] at hk
    exact c _ hk
  split
  · rename_i h1 h2 h3 h4 h5 h6 h7 h8 h9 h10
    rw [if_neg h1, if_neg h2, if_neg h3, if_neg h4, if_neg h5, if_neg h6, if_neg h7, if_neg h8, if_neg h9, if_pos h10] at hk
    exact c _ hk
  · rename_i h1 h2 h3 h4 h5 h6 h7 h8 h9 h10
    rw [if_neg h1, if_neg h2, if_neg h3, if_neg h4, if_neg h5, if_neg h6, if_neg h7, if_neg h8, if_neg h9, if_neg h10] at hk
    cases hk
theorem stp_ok {r : Rq} {k : ByteArray} {now ver : Int} {l : List En} (h : Ok l) (hk : k.size ≤ 140737488355328) (hd : r.data.size ≤ 140737488355328) : Ok (stp r k now ver l) := by
  have hl := liv_ok h k now
  have ho : Ok (if (q1 r k now ver l).2.2.1 then put (q1 r k now ver l).2.1 l else l) := by
    split
    · rename_i h1
      have := nxt_ok r _ _ now ver hl.2 hd h1
      exact h.put _ (by unfold q1; rw [this.1, hl.1]; exact hk) this.2
    · exact h
  unfold stp
  simp only
  split
  · exact ho.del _
  · exact ho
end Go.Proofs.YtpkmfckifnomeaaDoor
