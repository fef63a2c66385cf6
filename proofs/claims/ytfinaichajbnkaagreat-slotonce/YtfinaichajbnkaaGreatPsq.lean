/-
  SCANS, plainly: records put one behind the other, told by scans; a scan's texts read back.
-/
import Derived.Test.YtfinaichajbnkaaGreatSpl
import Derived.Test.YtfinaichajbnkaaGreatSky
import Derived.Test.YtfinaichajbnkaaGreatPsn
namespace Go.Proofs.YtfinaichajbnkaaGreat
open Wi (F enc fold unf lf sb pk)

def D0 : ByteArray → Int → ByteArray := fun _ _ => ⟨#[]⟩
/-- A slot that keeps the records K, behind requests with numbers up to r. -/
structure Sq (s : Sl) (n : Nat) (K : List ByteArray) (r : Nat) : Prop where
  b : ∃ V m, Bgn s 16 8192 n m V D0 ∧ m ≤ r ∧ (∀ k, 0 ≤ V k) ∧ ∀ k, k ∈ K ↔ V k ≠ 0
  up : Rising K
  sz : ∀ k ∈ K, 1 ≤ k.size ∧ k.size ≤ 40
  dn : ∀ a ∈ s.done, a.rid ≤ (r : Int)
  dl : s.done.length ≤ r
theorem find_new {l : List F} {r r' : Int} (h : ∀ a ∈ l, a.rid ≤ r) (h2 : r < r') : l.find? (fun a => a.rid == r') = none := by
  rw [List.find?_eq_none]
  intro a ha
  have := h a ha
  simp; omega
theorem done_new {l : List F} {r : Nat} (h : ∀ a ∈ l, a.rid ≤ (r : Int)) {x : F} (hx : x.rid = (r : Int) + 1) : ∀ a ∈ l ++ [x], a.rid ≤ ((r + 1 : Nat) : Int) := by
  intro a ha
  rcases List.mem_append.1 ha with h1 | h1
  · have := h a h1; omega
  · rw [List.mem_singleton.1 h1, hx]; omega
theorem Sq.begin {n : Nat} (ok : OkSp ⟨St.new 16 8192 n, []⟩) : ∃ s1, (Sl.new 1 16 8192 n).take ⟨5, 1, 3, 1, 0, 0, ⟨#[]⟩, 0, ⟨#[]⟩⟩ = (some ⟨6, 1, 3, 1, 0, 0, ⟨#[]⟩, 0, ⟨#[]⟩⟩, s1) ∧ Sq s1 n [] 1 := by
  obtain ⟨s1, e1, h1, d1, _⟩ := begin_take (by omega) ok D0
  exact ⟨s1, e1, ⟨⟨_, 0, h1, by omega, fun _ => Int.le_refl _, fun k => by simp⟩, List.Pairwise.nil, fun k hk => by simp at hk, by rw [d1]; intro a ha; simp at ha, by rw [d1]; exact Nat.zero_le _⟩⟩
theorem Sq.put {s : Sl} {n : Nat} {K : List ByteArray} {r : Nat} (h : Sq s n K r) (hr : r ≤ 60) {k : ByteArray} (hk : 1 ≤ k.size ∧ k.size ≤ 40) :
    ∃ s' v, s.take ⟨1, 1, 3, (r : Int) + 1, 0, 1, k, 1, ⟨#[]⟩⟩ = (some ⟨6, 1, 3, (r : Int) + 1, 0, 1, k, v, ⟨#[]⟩⟩, s') ∧ Sq s' n (rput k K) (r + 1) := by
  obtain ⟨V, m, b, hm, hV, hK⟩ := h.b
  obtain ⟨s', e, b', d'⟩ := put_take b hV (rid := (r : Int) + 1) (ver := 1) (key := k) (by omega) (by omega) (by omega) (by show k.size + 2 + 0 ≤ 128; omega) (find_new h.dn (by omega))
  obtain ⟨u1, u2⟩ := rput_rising (k := k) h.up
  refine ⟨s', _, e, ⟨⟨_, m + 1, b', by omega, fun k' => ?_, fun k' => ?_⟩, u1, fun k' hk' => ?_, by rw [d']; exact done_new h.dn rfl, by rw [d', List.length_append]; have := h.dl; simp; omega⟩⟩
  · unfold updV
    have := hV k'
    split <;> omega
  · rw [u2, hK]
    unfold updV
    have := hV k
    split
    · rename_i e
      constructor
      · intro _; omega
      · intro _; exact .inl e
    · rename_i e
      constructor
      · rintro (h | h)
        · exact absurd h e
        · exact h
      · exact .inr
  · rcases (u2 k').1 hk' with rfl | hk'
    · exact hk
    · exact h.sz k' hk'
theorem Sq.ok {s : Sl} {n : Nat} {K : List ByteArray} {r : Nat} (h : Sq s n K r) : OkSp s.z := by
  obtain ⟨V, m, b, _⟩ := h.b
  exact b.sm.rm.ok
theorem Sq.scan {s : Sl} {n : Nat} {K : List ByteArray} {r : Nat} (h : Sq s n K r) (hr : r ≤ 1000) {k : ByteArray} (hk : k.size ≤ 40) :
    ∃ s', s.take ⟨4, 1, 3, (r : Int) + 1, 0, 0, k, 0, ⟨#[]⟩⟩ = (some ⟨6, 1, 3, (r : Int) + 1, 0, 0, k, 0, bs (txs ((K.filter fun y => bef k y).take 16))⟩, s') ∧ Sq s' n K (r + 1) := by
  obtain ⟨V, m, b, hm, hV, hK⟩ := h.b
  obtain ⟨f, hf⟩ : ∃ f : F, f = ⟨4, 1, 3, (r : Int) + 1, 0, 0, k, 0, ⟨#[]⟩⟩ := ⟨_, rfl⟩
  have ha : Ask s f := by
    have hrt : Wi.rt f = true := by
      rw [hf]
      unfold Wi.rt Wi.fit
      simp only [Bool.and_eq_true, Wi.wi_iff, decide_eq_true_eq]
      refine ⟨by omega, by omega, by omega, by omega, by omega, by omega, by omega, ?_, by decide⟩
      show ((0 : Nat) : Int) ≤ _; omega
    refine ⟨?_, by rw [hf]; show (4 : Int) ≠ 5; omega, b.b.on, by rw [hf, b.b.inc], by rw [hf, b.b.floor]; show (0 : Int) ≤ (r : Int) + 1; omega, by rw [hf, b.b.floor]; show (0 : Int) ≤ 0; omega⟩
    unfold Sl.may
    rw [hrt, b.b.id, hf]; rfl
  have hd : s.doo f = (⟨6, 1, 3, (r : Int) + 1, 0, 0, k, 0, bs (txs ((K.filter fun y => bef k y).take 16))⟩, s.z) := by
    have e1 : s.doo f = s.scan f := by
      unfold Sl.doo
      rw [hf, if_neg (by show ¬ (4 : Int) = 1; omega), if_neg (by show ¬ (4 : Int) = 2; omega), if_neg (by show ¬ (4 : Int) = 3; omega)]
    rw [e1]
    unfold Sl.scan Sl.an
    rw [hf]
    rw [scn_std h.ok b.sd h.up hK k, b.b.id, b.b.inc]
  refine ⟨{ s with z := s.z, done := s.done ++ [⟨6, 1, 3, (r : Int) + 1, 0, 0, k, 0, bs (txs ((K.filter fun y => bef k y).take 16))⟩] }, ?_, ⟨⟨V, m, ⟨⟨b.b.id, b.b.on, b.b.inc, b.b.floor⟩, ⟨b.sm.rm, b.sm.pg, b.sm.len⟩, b.sd, b.ps, b.pg, b.nn⟩, by omega, hV, hK⟩, h.up, h.sz, done_new h.dn rfl, by show (s.done ++ _).length ≤ _; rw [List.length_append]; have := h.dl; simp; omega⟩⟩
  rw [← hf, take_new ha (by rw [hf]; exact find_new (r' := (r : Int) + 1) h.dn (by omega)), hd]
/-- What stands behind the first p keys. -/
def atk (K : List ByteArray) (p : Nat) : ByteArray := if p = 0 then ⟨#[]⟩ else K.getD (p - 1) ⟨#[]⟩
theorem Sq.behind {s : Sl} {n : Nat} {K : List ByteArray} {r : Nat} (h : Sq s n K r) {p : Nat} (hp : p ≤ K.length) : (K.filter fun y => bef (atk K p) y) = K.drop p ∧ (atk K p).size ≤ 40 := by
  unfold atk
  by_cases h0 : p = 0
  · rw [if_pos h0, h0]
    exact ⟨rising_all (fun y hy => by have := (h.sz y hy).1; omega), Nat.zero_le _⟩
  · rw [if_neg h0]
    have e : K[p - 1]? = some (K.getD (p - 1) ⟨#[]⟩) := by
      rw [List.getD_eq_getElem?_getD, List.getElem?_eq_getElem (by omega)]; rfl
    refine ⟨?_, (h.sz _ (List.mem_of_getElem? e)).2⟩
    rw [rising_behind h.up e, show p - 1 + 1 = p by omega]
/-- A text of a row of texts read back. -/
theorem txt_at {L : List ByteArray} {i : Nat} {k : ByteArray} (hk : L[i]? = some k) (hz : k.size ≤ 250) :
    Wi.txt (Wi.bt (bs (txs L))) (bs (txs L)).size (txs (L.take i)).length 0 250 = (k, (txs (L.take (i + 1))).length, 0) := by
  obtain ⟨hi, hik⟩ := List.getElem?_eq_some_iff.1 hk
  have hs : L = L.take i ++ k :: L.drop (i + 1) := by
    rw [← hik, ← List.drop_eq_getElem_cons hi, List.take_append_drop]
  have e1 : txs L = txs (L.take i) ++ ((enc (k.size * 2) ++ sb k) ++ txs (L.drop (i + 1))) := by
    rw [← txs_one, ← txs_app, ← txs_app]; exact congrArg txs hs
  have e2 : txs (L.take (i + 1)) = txs (L.take i) ++ (enc (k.size * 2) ++ sb k) := by
    rw [List.take_add_one, hk, txs_app]
    show _ ++ txs [k] = _
    rw [txs_one]
  have hl := txs_lt L
  obtain ⟨A, hA⟩ : ∃ A, txs (L.take i) = A := ⟨_, rfl⟩
  obtain ⟨C, hC⟩ : ∃ C, txs (L.drop (i + 1)) = C := ⟨_, rfl⟩
  obtain ⟨T, hT⟩ : ∃ T, txs L = T := ⟨_, rfl⟩
  rw [hA, hC, hT] at e1
  rw [hA] at e2
  rw [hT] at hl
  rw [hA, e2, hT, bs_size]
  have hsb : (sb k).length = k.size := Wi.sb_length _
  have hlen : T.length = A.length + ((enc (k.size * 2)).length + k.size + C.length) := by
    rw [e1]; simp only [List.length_append, hsb]
  have b : ∀ j, j < (enc (k.size * 2)).length + k.size → Wi.bt (bs T) (A.length + j) = lf (enc (k.size * 2) ++ sb k) j := fun j hj => by
    rw [bt_bs hl (by omega), e1, Wi.lf_right, Wi.lf_left (by rw [List.length_append, hsb]; exact hj)]
  have hp : pk (Wi.bt (bs T)) T.length A.length 0 = (k.size * 2, (enc (k.size * 2)).length, 0) := by
    rw [Wi.pk_0]
    have := Wi.scan_of (fun j => Wi.bt (bs T) (A.length + j)) (k.size * 2) (T.length - A.length) 0 0 (by omega) (by omega) (fun h => absurd h (by omega)) (fun j hj => by
      rw [Nat.zero_add, b j (by omega), Wi.lf_left hj]; rfl) (by omega)
    simpa using this
  have hu : unf (k.size * 2) = ((k.size : Nat) : Int) := by
    rw [← Wi.fold_nat, Wi.unf_fold]
  rw [Wi.txt_ok hp hu (by omega) (by omega)]
  have em : Wi.mkS (fun j => Wi.bt (bs T) (A.length + (enc (k.size * 2)).length + j)) k.size = k := by
    refine (Wi.mkS_congr (fun j hj => ?_)).trans (Wi.mkS_self k)
    rw [Nat.add_assoc, b _ (by omega), Wi.lf_right]
    unfold lf Wi.sb Wi.tab
    rw [List.getD_eq_getElem?_getD, List.getElem?_map, List.getElem?_range hj]; rfl
  rw [em]
  simp only [List.length_append, hsb]
  rw [Nat.add_assoc]
theorem txs_at_lt {L : List ByteArray} {i : Nat} (hi : i < L.length) : (txs (L.take i)).length < (txs L).length := by
  have hk : L[i]? = some L[i] := List.getElem?_eq_getElem hi
  have e1 : txs L = txs (L.take i) ++ txs (L.drop i) := by rw [← txs_app, List.take_append_drop]
  have e2 : txs (L.drop i) = txs [L[i]] ++ txs (L.drop (i + 1)) := by
    rw [← txs_app]
    exact congrArg txs (List.drop_eq_getElem_cons hi)
  rw [e1, e2, txs_one]
  simp only [List.length_append]
  have := Wi.enc_ne (L[i].size * 2)
  omega
end Go.Proofs.YtfinaichajbnkaaGreat
