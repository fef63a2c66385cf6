/-
  change: what a request of one key does.
-/
import Derived.Test.YtpkmfckifnomeaaDoorMp1
namespace Go.Proofs.YtpkmfckifnomeaaDoor
open Go.RowKit

open Go.Lib (TabIs pow10Tab)
/-- What the request of one key comes to. -/
def q1 (r : Rq) (k : ByteArray) (now ver : Int) (l : List En) : Q4 := nxt r (liv l k now).1 (liv l k now).2 now ver
/-- The entries then. -/
def stp (r : Rq) (k : ByteArray) (now ver : Int) (l : List En) : List En :=
  let l1 := if (q1 r k now ver l).2.2.1 then put (q1 r k now ver l).2.1 l else l
  if (q1 r k now ver l).2.2.2 then del (L k) l1 else l1
/-- No key and no value is too long. -/
def Ok (l : List En) : Prop := ∀ e ∈ l, e.key.size ≤ 140737488355328 ∧ e.val.size ≤ 140737488355328
theorem Ok.nil : Ok [] := fun _ h => by cases h
theorem Ok.del {l : List En} (h : Ok l) (k : B) : Ok (YtpkmfckifnomeaaDoor.del k l) := fun e he => h e (List.mem_filter.1 he).1
theorem mem_ins {e x : En} : ∀ {l : List En}, x ∈ ins e l → x = e ∨ x ∈ l
  | [], h => by simp [ins] at h; exact .inl h
  | y :: r, h => by
    rw [ins] at h
    split at h
    · rcases List.mem_cons.1 h with h | h
      · exact .inl h
      · exact .inr h
    · rcases List.mem_cons.1 h with h | h
      · exact .inr (by simp [h])
      · rcases mem_ins h with h | h
        · exact .inl h
        · exact .inr (by simp [h])
theorem Ok.put {l : List En} (h : Ok l) (e : En) (h1 : e.key.size ≤ 140737488355328) (h2 : e.val.size ≤ 140737488355328) : Ok (YtpkmfckifnomeaaDoor.put e l) := fun x hx => by
  rcases mem_ins hx with rfl | hx
  · exact ⟨h1, h2⟩
  · exact h.del _ x hx
theorem got_mem {l : List En} {k : B} (h : (look k l).isSome = true) : look k l = some (got l k) := by
  unfold got
  cases hl : look k l with
  | none => rw [hl] at h; cases h
  | some e => rfl
theorem liv_ok {l : List En} (h : Ok l) (k : ByteArray) (now : Int) : (liv l k now).1.key = k ∧ (liv l k now).1.val.size ≤ 140737488355328 := by
  unfold liv
  cases hs : (look (L k) l).isSome with
  | false => rw [if_neg (by simp)]; exact ⟨rfl, by show (ByteArray.mk #[]).size ≤ _; decide⟩
  | true =>
    have e := got_mem hs
    cases lv (got l (L k)).dl now with
    | false => rw [if_neg (by simp)]; exact ⟨rfl, by show (ByteArray.mk #[]).size ≤ _; decide⟩
    | true => rw [if_pos (by rfl)]; exact ⟨L_inj (look_key e), (h _ (look_mem e)).2⟩
/-- What is kept has the key, and is not too long. -/
theorem nxt_ok (r : Rq) (e : En) (b : Bool) (now ver : Int) (hv : e.val.size ≤ 140737488355328) (hd : r.data.size ≤ 140737488355328) (hk : (nxt r e b now ver).2.2.1 = true) : (nxt r e b now ver).2.1.key = e.key ∧ (nxt r e b now ver).2.1.val.size ≤ 140737488355328 := by
  have j : ∀ v, (joi e b v ver).2.2.1 = true → (joi e b v ver).2.1.key = e.key ∧ (joi e b v ver).2.1.val.size ≤ 140737488355328 := by
    intro v h
    unfold joi at h ⊢
    split at h
    · cases h
    · split at h
      · cases h
      · rename_i h1 h2
        rw [if_neg h1, if_neg h2]
        exact ⟨rfl, by show v.size ≤ _; omega⟩
  have c : ∀ u, (cou u e b r.delta ver).2.2.1 = true → (cou u e b r.delta ver).2.1.key = e.key ∧ (cou u e b r.delta ver).2.1.val.size ≤ 140737488355328 := by
    intro u h
    unfold cou at h ⊢
    split at h
    · cases h
    · split at h
      · cases h
      · rename_i h1 h2
        rw [if_neg h1, if_neg h2]
        refine ⟨rfl, ?_⟩
        show (S _).size ≤ _
        rw [S_size]
        have := (dec_len (cnt_lt u (nv 18446744073709551615 (L e.val)) r.delta (nv_lt _))).2
        omega
  unfold nxt at hk ⊢
  split
  · exact ⟨rfl, hd⟩
  split
  · rename_i h1 h2
    rw [if_neg h1, if_pos h2] at hk
    split at hk
    · rename_i h3; rw [if_pos h3]; exact ⟨rfl, hd⟩
    · cases hk
  split
  · rename_i h1 h2 h3
    rw [if_neg h1, if_neg h2, if_pos h3] at hk
    split at hk
    · cases hk
    · rename_i h4; rw [if_neg h4]; exact ⟨rfl, hd⟩
  split
  · rename_i h1 h2 h3 h4
    rw [if_neg h1, if_neg h2, if_neg h3, if_pos h4] at hk
    exact j _ hk
  split
  · rename_i h1 h2 h3 h4 h5
    rw [if_neg h1, if_neg h2, if_neg h3, if_neg h4, if_pos h5] at hk
    exact j _ hk
  split
  · rename_i h1 h2 h3 h4 h5 h6
    rw [if_neg h1, if_neg h2, if_neg h3, if_neg h4, if_neg h5, if_pos h6] at hk
    split at hk
    · cases hk
    · rename_i h7
      rw [if_neg h7]
      split at hk
      · rename_i h8; rw [if_pos h8]; exact ⟨rfl, hd⟩
      · cases hk
  split
  · rename_i h1 h2 h3 h4 h5 h6 h7
    rw [if_neg h1, if_neg h2, if_neg h3, if_neg h4, if_neg h5, if_neg h6, if_pos h7] at hk
    split at hk <;> cases hk
  split
  · rename_i h1 h2 h3 h4 h5 h6 h7 h8
    rw [if_neg h1, if_neg h2, if_neg h3, if_neg h4, if_neg h5, if_neg h6, if_neg h7, if_pos h8] at hk
    split at hk
    · cases hk
    · rename_i h9; rw [if_neg h9]; exact ⟨rfl, hv⟩
  split
  · rename_i h1 h2 h3 h4 h5 h6 h7 h8 h9
    rw [if_neg h1, if_neg h2, if_neg h3, if_neg h4, if_neg h5, if_neg h6, if_neg h7, if_neg h8, if_pos h9] at hk
    exact c _ hk
  split
  · rename_i h1 h2 h3 h4 h5 h6 h7 h8 h9 h10
    rw [if_neg h1, if_neg h2, if_neg h3, if_neg h4, if_neg h5, if_neg h6, if_neg h7, if_neg h8, if_neg h9, if_pos h10] at hk
    exact c _ hk
  · rename_i h1 h2 h3 h4 h5 h6 h7 h8 h9 h10
    rw [if_neg h1, if_neg h2, if_neg h3, if_neg h4, if_neg h5, if_neg h6, if_neg h7, if_neg h8, if_neg h9, if_neg h10] at hk
    cases hk
theorem stp_ok {r : Rq} {k : ByteArray} {now ver : Int} {l : List En} (h : Ok l) (hk : k.size ≤ 140737488355328) (hd : r.data.size ≤ 140737488355328) : Ok (stp r k now ver l) := by
  have hl := liv_ok h k now
  have ho : Ok (if (q1 r k now ver l).2.2.1 then put (q1 r k now ver l).2.1 l else l) := by
    split
    · rename_i h1
      have := nxt_ok r _ _ now ver hl.2 hd h1
      exact h.put _ (by unfold q1; rw [this.1, hl.1]; exact hk) this.2
    · exact h
  unfold stp
  simp only
  split
  · exact ho.del _
  · exact ho
end Go.Proofs.YtpkmfckifnomeaaDoor


namespace Go.Proofs.YtpkmfckifnomeaaDoor
open Go.RowKit

open Go.Lib (TabIs pow10Tab)
theorem ch_fin {w W : World} {o : Nat → Nat × Nat} {x P b n : Nat} {st : List En} {A : List Value} (hA : A.length = 9) (hP : P < w.heap.size) (hb : b < w.heap.size) (hI : IsM W o x P b n st) (hF : Fr (TX x) o o w W) (ht : W.there (w.heap.size + 1) 0 9) :
    W.there (w.heap.size + 1) 0 A.length ∧ (W.setCells (w.heap.size + 1) 0 A).rangeAt (w.heap.size + 1) 0 A ∧ IsM (W.setCells (w.heap.size + 1) 0 A) o x P b n st ∧ Fr (TX x) o o w (W.setCells (w.heap.size + 1) 0 A) := by
  have t1 : W.there (w.heap.size + 1) 0 A.length := by rw [hA]; exact ht
  exact ⟨t1, World.rangeAt_setCells_same _ _ _ _ t1, hI.same (heap_setCells_other (by omega) _ _ _) (heap_setCells_other (by omega) _ _ _) (by rw [size_setCells]; exact Nat.le_refl _), hF.setsNew (by omega) _ _⟩
set_option maxRecDepth 100000 in
set_option maxHeartbeats 2000000 in
theorem change_any (x : Nat) {o : Nat → Nat × Nat} {P b n : Nat} {l : List En} (r : Rq) (ka : Option Addr) (kn kc : Nat) (k : ByteArray) (now ver : Int) (hn : n < 1000000) (hok : Ok l) (hk : k.size ≤ 140737488355328) (hd : r.data.size ≤ 140737488355328) (w : World) (h : IsM w o x P b n l) (htab : TabIs Tryd.prog w "internal/strconv.uint64pow10" .u64 pow10Tab) :
    Calls Tryd.prog 25 #[.pointer (some ⟨P, 0, none⟩), .agg (r.cs (.slice ka kn kc)).toArray, .string k, .int .i64 now, .int .i64 ver] w fun e w' => e = .returned (.agg (q1 r k now ver l).1.cs.toArray) ∧ IsM w' o x P b (n + 1) (stp r k now ver l) ∧ Fr (TX x) o o w w' := by
  obtain ⟨lk1, lk2⟩ := liv_ok hok k now
  have HQ : Hid (q1 r k now ver l = nxt r (liv l k now).1 (liv l k now).2 now ver) := Lib.hid rfl
  have LV := Lib.hid (fun W (hW : IsM W o x P b n l) => living_any x k hk now W hW)
  obtain ⟨E, hE⟩ : ∃ E, (liv l k now).1 = E := ⟨_, rfl⟩
  obtain ⟨th, hth⟩ : ∃ th, (liv l k now).2 = th := ⟨_, rfl⟩
  rw [hE] at lk1 lk2
  rw [hE, hth] at LV HQ
  replace LV : Hid (∀ W, IsM W o x P b n l → Calls Tryd.prog 46 #[.pointer (some ⟨P, 0, none⟩), .string k, .int .i64 now] W fun e w' => e = .returned (.tuple #[.agg #[.string E.key, .int .i64 E.fl, .int .i64 E.dl, .string E.val, .int .i64 E.cas], .bool th]) ∧ Below W.heap.size W w') := LV
  have NX := Lib.hid (fun W ht => next_any r E th now ver ka kn kc (by rw [lk1]; omega) lk2 hd W ht)
  have HXK : Hid ((q1 r k now ver l).2.2.1 = true → (q1 r k now ver l).2.1.key = k) := Lib.hid (fun h1 => by rw [HQ.out] at h1 ⊢; exact (nxt_ok r E th now ver lk2 hd h1).1.trans lk1)
  have HST : Hid (stp r k now ver l = if (q1 r k now ver l).2.2.2 then del (L k) (if (q1 r k now ver l).2.2.1 then put (q1 r k now ver l).2.1 l else l) else (if (q1 r k now ver l).2.2.1 then put (q1 r k now ver l).2.1 l else l)) := Lib.hid rfl
  obtain ⟨st, hst⟩ : ∃ st, stp r k now ver l = st := ⟨_, rfl⟩
  obtain ⟨q, hq⟩ : ∃ q, q1 r k now ver l = q := ⟨_, rfl⟩
  rw [hq] at HQ HXK HST ⊢
  rw [hst] at HST ⊢
  rw [← HQ.out] at NX
  clear hq hst HQ lk1 lk2 hE hth hd hok
  obtain ⟨qa, xx, kp, dr⟩ := q
  obtain ⟨A, hA⟩ : ∃ A, A = qa.cs := ⟨_, rfl⟩
  have HLA : Hid (A.length = 9) := Lib.hid (by rw [hA]; rfl)
  have HOA : Hid (∀ u ∈ A, u.oneCell' = true) := Lib.hid (by rw [hA]; exact Ab.one _)
  have NX2 : Hid (∀ W, TabIs Tryd.prog W "internal/strconv.uint64pow10" .u64 pow10Tab → Calls Tryd.prog 20 #[.agg (r.cs (.slice ka kn kc)).toArray, .agg #[.string E.key, .int .i64 E.fl, .int .i64 E.dl, .string E.val, .int .i64 E.cas], .bool th, .int .i64 now, .int .i64 ver] W fun e w' => e = .returned (.tuple #[.agg A.toArray, .agg #[.string xx.key, .int .i64 xx.fl, .int .i64 xx.dl, .string xx.val, .int .i64 xx.cas], .bool kp, .bool dr]) ∧ Below W.heap.size W w') := Lib.hid (fun W ht => by rw [hA]; exact NX.out W ht)
  show Calls Tryd.prog 25 _ w fun e w' => e = .returned (.agg qa.cs.toArray) ∧ _
  rw [← hA]
  clear NX hA
  obtain ⟨R, hR⟩ : ∃ R, R = r.cs (.slice ka kn kc) := ⟨_, rfl⟩
  have HLR : Hid (R.length = 9) := Lib.hid (by rw [hR]; rfl)
  rw [← hR] at NX2 ⊢
  clear hR
  simp only at HXK HST
  have H0 : Hid (IsM ((w.alloc (.cells R.toArray 27)).alloc (.cells zA.toArray 32)) o x P b n l ∧ ((w.alloc (.cells R.toArray 27)).alloc (.cells zA.toArray 32)).rangeAt w.heap.size 0 R ∧ ((w.alloc (.cells R.toArray 27)).alloc (.cells zA.toArray 32)).there (w.heap.size + 1) 0 9 ∧ Below w.heap.size w ((w.alloc (.cells R.toArray 27)).alloc (.cells zA.toArray 32))) := Lib.hid (by
    have b1 := below_alloc w (.cells R.toArray 27)
    have b2 := below_alloc (w.alloc (.cells R.toArray 27)) (.cells zA.toArray 32)
    have tz := there_new (w.alloc (.cells R.toArray 27)) zA 32
    rw [World.size_alloc] at tz
    exact ⟨(h.below b1).below b2, range_below (range_new w R 27) b2, tz, b1.trans (b2.mono (by simp))⟩)
  have HTB := Lib.hid htab
  have HPB : P < w.heap.size ∧ b < w.heap.size := ⟨h.lt, h.ltb⟩
  clear h htab
  go_enter Tryd.func25, Tryd.ntmps25
  go_wp2_with fail
  refine (LV.out _ H0.out.1).mono ?_
  rintro e1 w1 ⟨rfl, hb1⟩
  have H1 : Hid (IsM w1 o x P b n l ∧ w1.rangeAt w.heap.size 0 R ∧ w1.there (w.heap.size + 1) 0 9 ∧ Below w.heap.size w w1 ∧ w.heap.size + 2 ≤ w1.heap.size) := Lib.hid (by
    refine ⟨H0.out.1.below hb1, range_below H0.out.2.1 hb1, there_below H0.out.2.2.1 hb1, H0.out.2.2.2.trans (hb1.mono (by simp only [World.size_alloc]; omega)), ?_⟩
    have := hb1.size
    simpa only [World.size_alloc] using this)
  have HR1 : Hid ((w1.alloc (.cells #[.string E.key, .int .i64 E.fl, .int .i64 E.dl, .string E.val, .int .i64 E.cas] 49)).rangeAt w.heap.size 0 R) := Lib.hid (range_below H1.out.2.1 (below_alloc _ _))
  have HT1 : Hid (TabIs Tryd.prog (w1.alloc (.cells #[.string E.key, .int .i64 E.fl, .int .i64 E.dl, .string E.val, .int .i64 E.cas] 49)) "internal/strconv.uint64pow10" .u64 pow10Tab) := Lib.hid (tabIs_below (tabIs_below HTB.out H1.out.2.2.2.1) (below_alloc _ _))
  clear hb1 H0 LV HTB
  go_wp2_with ((with_reducible show wpList _ _ _ (Oper.mk (some _) (Op.load 27 (.tmp 6)) _ _ _ _ :: _) _ _); refine wpList_load_mid (by rfl) 27 (.tmp 6) (by rfl) w.heap.size 0 (by rfl) R _ HR1.out Tryd.underlying27 (by rfl) (by rw [HLR.out]; kernel_rfl) ?_)
  refine (NX2.out _ HT1.out).mono ?_
  rintro e1 w2 ⟨rfl, hb2⟩
  have H2 : Hid (IsM w2 o x P b n l ∧ w2.there (w.heap.size + 1) 0 9 ∧ Below w.heap.size w w2 ∧ w.heap.size + 2 ≤ w2.heap.size) := Lib.hid (by
    have f1 := below_alloc w1 (.cells #[.string E.key, .int .i64 E.fl, .int .i64 E.dl, .string E.val, .int .i64 E.cas] 49)
    have hz := H1.out.2.2.2.2
    refine ⟨(H1.out.1.below f1).below hb2, there_below (there_below H1.out.2.2.1 f1) hb2, H1.out.2.2.2.1.trans ((f1.trans (hb2.mono (by simp only [World.size_alloc]; omega))).mono (by omega)), ?_⟩
    have := hb2.size
    rw [World.size_alloc] at this
    omega)
  clear hb2 H1 HR1 HT1 NX2
  have HT1 : Hid (((w2.alloc (.cells zA.toArray 32)).alloc (.cells e0.cs.toArray 49)).there w2.heap.size 0 A.length) := Lib.hid (by rw [HLA.out]; exact (two_new w2 (X := zA.toArray) (Y := e0.cs.toArray) rfl rfl).1)
  obtain ⟨X, hX⟩ : ∃ X, X = xx.cs := ⟨_, rfl⟩
  have HX0 := Lib.hid hX
  have HLX : Hid (X.length = 5) := Lib.hid (by rw [hX]; rfl)
  have HOX : Hid (∀ u ∈ X, u.oneCell' = true) := Lib.hid (by rw [hX]; exact En.one _)
  clear hX
  obtain ⟨t1, t2, r1, r2, b2⟩ := two_fin (w := w2) (W := ((w2.alloc (.cells zA.toArray 32)).alloc (.cells e0.cs.toArray 49))) (b := w2.heap.size) HLA.out HLX.out (Nat.le_refl _) (two_new w2 (X := zA.toArray) (Y := e0.cs.toArray) rfl rfl).2.2 (two_new w2 (X := zA.toArray) (Y := e0.cs.toArray) rfl rfl).1 (two_new w2 (X := zA.toArray) (Y := e0.cs.toArray) rfl rfl).2.1
  obtain ⟨W3, hW3⟩ : ∃ W3, W3 = ((((w2.alloc (.cells zA.toArray 32)).alloc (.cells e0.cs.toArray 49)).setCells w2.heap.size 0 A).setCells (w2.heap.size + 1) 0 X) := ⟨_, rfl⟩
  rw [← hW3] at r1 r2 b2
  have H3 : Hid (IsM W3 o x P b n l ∧ W3.there (w.heap.size + 1) 0 9 ∧ Below w.heap.size w W3 ∧ w.heap.size + 2 ≤ w2.heap.size ∧ W3.rangeAt w2.heap.size 0 A) := Lib.hid ⟨H2.out.1.below b2, there_below H2.out.2.1 b2, H2.out.2.2.1.trans (b2.mono (by have := H2.out.2.2.2; omega)), H2.out.2.2.2, r1⟩
  have HT2 := Lib.hid t2
  have HW3 := Lib.hid hW3
  have d0 : W3.cell? ⟨w2.heap.size + 1, 0, none⟩ = some (.string xx.key) := by have := r2 0 (.string xx.key) (by rw [HX0.out]; rfl); rwa [Nat.zero_add] at this
  have d1 : W3.cell? ⟨w2.heap.size + 1, 1, none⟩ = some (.int .i64 xx.fl) := by have := r2 1 (.int .i64 xx.fl) (by rw [HX0.out]; rfl); rwa [Nat.zero_add] at this
  have d2 : W3.cell? ⟨w2.heap.size + 1, 2, none⟩ = some (.int .i64 xx.dl) := by have := r2 2 (.int .i64 xx.dl) (by rw [HX0.out]; rfl); rwa [Nat.zero_add] at this
  have d3 : W3.cell? ⟨w2.heap.size + 1, 3, none⟩ = some (.string xx.val) := by have := r2 3 (.string xx.val) (by rw [HX0.out]; rfl); rwa [Nat.zero_add] at this
  have d4 : W3.cell? ⟨w2.heap.size + 1, 4, none⟩ = some (.int .i64 xx.cas) := by have := r2 4 (.int .i64 xx.cas) (by rw [HX0.out]; rfl); rwa [Nat.zero_add] at this
  have cP := H3.out.1.cell
  clear t1 t2 r1 r2 b2 hW3 H2
  have HPb := Lib.hid HPB
  clear HPB
  cases kp with
  | true =>
    have hxk : xx.key = k := HXK.out rfl
    obtain ⟨W4, mu, h4, f4, m4⟩ := (show IsMp W3.drew b n l from H3.out.1.mp).put (o := o) H3.out.1.mb hn xx (by rw [hxk]; exact hk)
    have mu' : (Instr.mapUpdate 63 (.map (some b)) (.string xx.key) (.agg #[.string xx.key, .int .i64 xx.fl, .int .i64 xx.dl, .string xx.val, .int .i64 xx.cas])).run Tryd.prog W3.drew = .ok () W4 := mu
    have H4 : Hid (IsM W4 o x P b (n + 1) (put xx l) ∧ Fr (TX x) o o w W4 ∧ W4.there (w.heap.size + 1) 0 9 ∧ W4.rangeAt w2.heap.size 0 A) := Lib.hid (by
      have i3 : IsM W3.drew o x P b n l := H3.out.1.drew
      have hz := HPb.out
      have ht : W3.drew.there (w.heap.size + 1) 0 9 := H3.out.2.1
      have hr : W3.drew.rangeAt w2.heap.size 0 A := H3.out.2.2.2.2
      have f3 : Fr (TX x) o o w W3.drew := (Fr.ofBelow (TX x) o H3.out.2.2.1).trans (Fr.drew1 _ o W3)
      exact ⟨i3.turn m4 h4, f3.trans (f4.mono (fun t e => by show t.1 = x; rw [e])), turned_there m4 (by omega) ht, turned_range m4 (by have := H3.out.2.2.2.1; omega) hr⟩)
    clear mu h4 f4 m4 hxk
    cases dr with
    | true =>
      have HSE : Hid (del (L k) (put xx l) = st) := Lib.hid HST.out.symm
      have cQ := H4.out.1.cell
      obtain ⟨W5, rd, h5, f5, m5⟩ := H4.out.1.mp.del (o := o) H4.out.1.mb k hk 0
      have H5 : Hid (IsM W5 o x P b (n + 1) st ∧ Fr (TX x) o o w W5 ∧ W5.there (w.heap.size + 1) 0 9 ∧ W5.rangeAt w2.heap.size 0 A) := Lib.hid (by
        have hz := HPb.out
        rw [← HSE.out]
        exact ⟨H4.out.1.turn m5 h5, H4.out.2.1.trans (f5.mono (fun t e => by show t.1 = x; rw [e])), turned_there m5 (by omega) H4.out.2.2.1, turned_range m5 (by have := H3.out.2.2.2.1; omega) H4.out.2.2.2⟩)
      clear h5 f5 m5 HSE
      obtain ⟨HTz, HRz, HIz, HFz⟩ := ch_fin HLA.out HPb.out.1 HPb.out.2 H5.out.1 H5.out.2.1 H5.out.2.2.1
      have HTZ := Lib.hid HTz
      have HRZ := Lib.hid HRz
      have HOZ := Lib.hid (And.intro HIz HFz)
      have HRA := Lib.hid H5.out.2.2.2
      clear HTz HRz HIz HFz
      go_wp2_with (first
        | ((with_reducible show wpList _ _ _ (Oper.mk none (Op.store 32 (.tmp 13) _) _ _ _ _ :: _) _ _); refine wpList_store_mid (by rfl) 32 (.tmp 13) (.tmp 31) (by rfl) w2.heap.size 0 A.toArray (by rfl) (by rfl) HT1.out (by rw [List.size_toArray, HLA.out]; kernel_rfl) (all_oneCell_toArray HOA.out) ?_; rw [show A.toArray.toList = A from rfl])
        | ((with_reducible show wpList _ _ _ (Oper.mk none (Op.store 49 (.tmp 14) _) _ _ _ _ :: _) _ _); refine wpList_store_mid (by rfl) 49 (.tmp 14) (.tmp 32) (by rfl) (w2.heap.size + 1) 0 X.toArray (by rfl) (by rw [HX0.out]; rfl) HT2.out (by rw [List.size_toArray, HLX.out]; kernel_rfl) (all_oneCell_toArray HOX.out) ?_; rw [show X.toArray.toList = X from rfl]; rw [show ((((w2.alloc (.cells #[.int .i64 0, .slice none 0 0, .bool false, .int .u64 0, .string ⟨#[]⟩, .int .i64 0, .int .i64 0, .int .i64 0, .int .i64 0] 32)).alloc (.cells #[.string ⟨#[]⟩, .int .i64 0, .int .i64 0, .string ⟨#[]⟩, .int .i64 0] 49)).setCells w2.heap.size 0 A).setCells (w2.heap.size + 1) 0 X) = W3 from HW3.out.symm]))
      go_region_law (fail)
      all_goals
        (go_wp2_with (first
          | ((with_reducible show wpList _ _ _ (Oper.mk (some _) (Op.load 32 (.tmp 13)) _ _ _ _ :: _) _ _); refine wpList_load_mid (by rfl) 32 (.tmp 13) (by rfl) w2.heap.size 0 (by rfl) A _ HRA.out Tryd.underlying32 (by rfl) (by rw [HLA.out]; kernel_rfl) ?_)
          | ((with_reducible show wpList _ _ _ (Oper.mk none (Op.store 32 (.tmp 10) _) _ _ _ _ :: _) _ _); refine wpList_store_mid (by rfl) 32 (.tmp 10) (.tmp 49) (by rfl) (w.heap.size + 1) 0 A.toArray (by rfl) (by rfl) HTZ.out (by rw [List.size_toArray, HLA.out]; kernel_rfl) (all_oneCell_toArray HOA.out) ?_; rw [show A.toArray.toList = A from rfl]))
         refine bodyPost_ret (v := .agg A.toArray) (by simp [results, Tryd.results25]; exact load32 HRZ.out HLA.out) rfl ?_
         exact ⟨rfl, HOZ.out⟩)
    | false =>
      have H5 : Hid (IsM W4 o x P b (n + 1) st ∧ Fr (TX x) o o w W4 ∧ W4.there (w.heap.size + 1) 0 9 ∧ W4.rangeAt w2.heap.size 0 A) := Lib.hid (by
        rw [HST.out]; exact H4.out)
      obtain ⟨HTz, HRz, HIz, HFz⟩ := ch_fin HLA.out HPb.out.1 HPb.out.2 H5.out.1 H5.out.2.1 H5.out.2.2.1
      have HTZ := Lib.hid HTz
      have HRZ := Lib.hid HRz
      have HOZ := Lib.hid (And.intro HIz HFz)
      have HRA := Lib.hid H5.out.2.2.2
      clear HTz HRz HIz HFz
      go_wp2_with (first
        | ((with_reducible show wpList _ _ _ (Oper.mk none (Op.store 32 (.tmp 13) _) _ _ _ _ :: _) _ _); refine wpList_store_mid (by rfl) 32 (.tmp 13) (.tmp 31) (by rfl) w2.heap.size 0 A.toArray (by rfl) (by rfl) HT1.out (by rw [List.size_toArray, HLA.out]; kernel_rfl) (all_oneCell_toArray HOA.out) ?_; rw [show A.toArray.toList = A from rfl])
        | ((with_reducible show wpList _ _ _ (Oper.mk none (Op.store 49 (.tmp 14) _) _ _ _ _ :: _) _ _); refine wpList_store_mid (by rfl) 49 (.tmp 14) (.tmp 32) (by rfl) (w2.heap.size + 1) 0 X.toArray (by rfl) (by rw [HX0.out]; rfl) HT2.out (by rw [List.size_toArray, HLX.out]; kernel_rfl) (all_oneCell_toArray HOX.out) ?_; rw [show X.toArray.toList = X from rfl]; rw [show ((((w2.alloc (.cells #[.int .i64 0, .slice none 0 0, .bool false, .int .u64 0, .string ⟨#[]⟩, .int .i64 0, .int .i64 0, .int .i64 0, .int .i64 0] 32)).alloc (.cells #[.string ⟨#[]⟩, .int .i64 0, .int .i64 0, .string ⟨#[]⟩, .int .i64 0] 49)).setCells w2.heap.size 0 A).setCells (w2.heap.size + 1) 0 X) = W3 from HW3.out.symm]))
      go_region_law (fail)
      all_goals
        (go_wp2_with (first
          | ((with_reducible show wpList _ _ _ (Oper.mk (some _) (Op.load 32 (.tmp 13)) _ _ _ _ :: _) _ _); refine wpList_load_mid (by rfl) 32 (.tmp 13) (by rfl) w2.heap.size 0 (by rfl) A _ HRA.out Tryd.underlying32 (by rfl) (by rw [HLA.out]; kernel_rfl) ?_)
          | ((with_reducible show wpList _ _ _ (Oper.mk none (Op.store 32 (.tmp 10) _) _ _ _ _ :: _) _ _); refine wpList_store_mid (by rfl) 32 (.tmp 10) (.tmp 49) (by rfl) (w.heap.size + 1) 0 A.toArray (by rfl) (by rfl) HTZ.out (by rw [List.size_toArray, HLA.out]; kernel_rfl) (all_oneCell_toArray HOA.out) ?_; rw [show A.toArray.toList = A from rfl]))
         refine bodyPost_ret (v := .agg A.toArray) (by simp [results, Tryd.results25]; exact load32 HRZ.out HLA.out) rfl ?_
         exact ⟨rfl, HOZ.out⟩)
  | false =>
    have H4 : Hid (IsM W3 o x P b (n + 1) l ∧ Fr (TX x) o o w W3 ∧ W3.there (w.heap.size + 1) 0 9 ∧ W3.rangeAt w2.heap.size 0 A) := Lib.hid (by
      have i3 := H3.out.1
      exact ⟨⟨i3.cell, i3.fz, i3.mP, i3.mb, i3.mp.mono (by omega), i3.lt⟩, Fr.ofBelow (TX x) o H3.out.2.2.1, H3.out.2.1, H3.out.2.2.2.2⟩)
    cases dr with
    | true =>
      have HSE : Hid (del (L k) l = st) := Lib.hid HST.out.symm
      have cQ := H4.out.1.cell
      obtain ⟨W5, rd, h5, f5, m5⟩ := H4.out.1.mp.del (o := o) H4.out.1.mb k hk 0
      have H5 : Hid (IsM W5 o x P b (n + 1) st ∧ Fr (TX x) o o w W5 ∧ W5.there (w.heap.size + 1) 0 9 ∧ W5.rangeAt w2.heap.size 0 A) := Lib.hid (by
        have hz := HPb.out
        rw [← HSE.out]
        exact ⟨H4.out.1.turn m5 h5, H4.out.2.1.trans (f5.mono (fun t e => by show t.1 = x; rw [e])), turned_there m5 (by omega) H4.out.2.2.1, turned_range m5 (by have := H3.out.2.2.2.1; omega) H4.out.2.2.2⟩)
      clear h5 f5 m5 HSE
      obtain ⟨HTz, HRz, HIz, HFz⟩ := ch_fin HLA.out HPb.out.1 HPb.out.2 H5.out.1 H5.out.2.1 H5.out.2.2.1
      have HTZ := Lib.hid HTz
      have HRZ := Lib.hid HRz
      have HOZ := Lib.hid (And.intro HIz HFz)
      have HRA := Lib.hid H5.out.2.2.2
      clear HTz HRz HIz HFz
      go_wp2_with (first
        | ((with_reducible show wpList _ _ _ (Oper.mk none (Op.store 32 (.tmp 13) _) _ _ _ _ :: _) _ _); refine wpList_store_mid (by rfl) 32 (.tmp 13) (.tmp 31) (by rfl) w2.heap.size 0 A.toArray (by rfl) (by rfl) HT1.out (by rw [List.size_toArray, HLA.out]; kernel_rfl) (all_oneCell_toArray HOA.out) ?_; rw [show A.toArray.toList = A from rfl])
        | ((with_reducible show wpList _ _ _ (Oper.mk none (Op.store 49 (.tmp 14) _) _ _ _ _ :: _) _ _); refine wpList_store_mid (by rfl) 49 (.tmp 14) (.tmp 32) (by rfl) (w2.heap.size + 1) 0 X.toArray (by rfl) (by rw [HX0.out]; rfl) HT2.out (by rw [List.size_toArray, HLX.out]; kernel_rfl) (all_oneCell_toArray HOX.out) ?_; rw [show X.toArray.toList = X from rfl]; rw [show ((((w2.alloc (.cells #[.int .i64 0, .slice none 0 0, .bool false, .int .u64 0, .string ⟨#[]⟩, .int .i64 0, .int .i64 0, .int .i64 0, .int .i64 0] 32)).alloc (.cells #[.string ⟨#[]⟩, .int .i64 0, .int .i64 0, .string ⟨#[]⟩, .int .i64 0] 49)).setCells w2.heap.size 0 A).setCells (w2.heap.size + 1) 0 X) = W3 from HW3.out.symm])
        | ((with_reducible show wpList _ _ _ (Oper.mk (some _) (Op.load 32 (.tmp 13)) _ _ _ _ :: _) _ _); refine wpList_load_mid (by rfl) 32 (.tmp 13) (by rfl) w2.heap.size 0 (by rfl) A _ HRA.out Tryd.underlying32 (by rfl) (by rw [HLA.out]; kernel_rfl) ?_)
        | ((with_reducible show wpList _ _ _ (Oper.mk none (Op.store 32 (.tmp 10) _) _ _ _ _ :: _) _ _); refine wpList_store_mid (by rfl) 32 (.tmp 10) (.tmp 49) (by rfl) (w.heap.size + 1) 0 A.toArray (by rfl) (by rfl) HTZ.out (by rw [List.size_toArray, HLA.out]; kernel_rfl) (all_oneCell_toArray HOA.out) ?_; rw [show A.toArray.toList = A from rfl]))
      refine bodyPost_ret (v := .agg A.toArray) (by simp [results, Tryd.results25]; exact load32 HRZ.out HLA.out) rfl ?_
      exact ⟨rfl, HOZ.out⟩
    | false =>
      have H5 : Hid (IsM W3 o x P b (n + 1) st ∧ Fr (TX x) o o w W3 ∧ W3.there (w.heap.size + 1) 0 9 ∧ W3.rangeAt w2.heap.size 0 A) := Lib.hid (by
        rw [HST.out]; exact H4.out)
      obtain ⟨HTz, HRz, HIz, HFz⟩ := ch_fin HLA.out HPb.out.1 HPb.out.2 H5.out.1 H5.out.2.1 H5.out.2.2.1
      have HTZ := Lib.hid HTz
      have HRZ := Lib.hid HRz
      have HOZ := Lib.hid (And.intro HIz HFz)
      have HRA := Lib.hid H5.out.2.2.2
      clear HTz HRz HIz HFz
      go_wp2_with (first
        | ((with_reducible show wpList _ _ _ (Oper.mk none (Op.store 32 (.tmp 13) _) _ _ _ _ :: _) _ _); refine wpList_store_mid (by rfl) 32 (.tmp 13) (.tmp 31) (by rfl) w2.heap.size 0 A.toArray (by rfl) (by rfl) HT1.out (by rw [List.size_toArray, HLA.out]; kernel_rfl) (all_oneCell_toArray HOA.out) ?_; rw [show A.toArray.toList = A from rfl])
        | ((with_reducible show wpList _ _ _ (Oper.mk none (Op.store 49 (.tmp 14) _) _ _ _ _ :: _) _ _); refine wpList_store_mid (by rfl) 49 (.tmp 14) (.tmp 32) (by rfl) (w2.heap.size + 1) 0 X.toArray (by rfl) (by rw [HX0.out]; rfl) HT2.out (by rw [List.size_toArray, HLX.out]; kernel_rfl) (all_oneCell_toArray HOX.out) ?_; rw [show X.toArray.toList = X from rfl]; rw [show ((((w2.alloc (.cells #[.int .i64 0, .slice none 0 0, .bool false, .int .u64 0, .string ⟨#[]⟩, .int .i64 0, .int .i64 0, .int .i64 0, .int .i64 0] 32)).alloc (.cells #[.string ⟨#[]⟩, .int .i64 0, .int .i64 0, .string ⟨#[]⟩, .int .i64 0] 49)).setCells w2.heap.size 0 A).setCells (w2.heap.size + 1) 0 X) = W3 from HW3.out.symm])
        | ((with_reducible show wpList _ _ _ (Oper.mk (some _) (Op.load 32 (.tmp 13)) _ _ _ _ :: _) _ _); refine wpList_load_mid (by rfl) 32 (.tmp 13) (by rfl) w2.heap.size 0 (by rfl) A _ HRA.out Tryd.underlying32 (by rfl) (by rw [HLA.out]; kernel_rfl) ?_)
        | ((with_reducible show wpList _ _ _ (Oper.mk none (Op.store 32 (.tmp 10) _) _ _ _ _ :: _) _ _); refine wpList_store_mid (by rfl) 32 (.tmp 10) (.tmp 49) (by rfl) (w.heap.size + 1) 0 A.toArray (by rfl) (by rfl) HTZ.out (by rw [List.size_toArray, HLA.out]; kernel_rfl) (all_oneCell_toArray HOA.out) ?_; rw [show A.toArray.toList = A from rfl]))
      refine bodyPost_ret (v := .agg A.toArray) (by simp [results, Tryd.results25]; exact load32 HRZ.out HLA.out) rfl ?_
      exact ⟨rfl, HOZ.out⟩
end Go.Proofs.YtpkmfckifnomeaaDoor
