/-
  PUT of the reference's store.
-/
import Derived.Test.YtbflcnghpkmcoaaRGet
namespace Go.Proofs.Ytbflcnghpkmcoaa
open Go.RowKit

/-- append([]T{x}, l...), into new memory. -/
theorem cons_own {w : World} {o : (Nat → Nat × Nat)} {t : Nat × Nat} {k n : Nat} {v : Value} {cs hd : List Value} (T E : TypeId) (z : Value) (bz : Nat) (ht : Try.prog.underlying T = some (.slice E)) (hinfo : (Try.prog.info? E).map (fun i => (i.zero, i.size, i.bytes)) = some (some z, k, bz)) (hz : z.cells.size = k) (hhd : hd.length = k) (hh1 : ∀ u ∈ hd, u.oneCell' = true)
    (h : OwnK w o t k v n cs) (hb : (1 + n) * bz ≤ 140737488355328) (hb2 : 1 + n ≤ 140737488355328) :
    ∃ a1 c1 w1 o1, (Builtin.append_ #[T, T] T #[.slice (some ⟨w.heap.size, 0, none⟩) 1 1, v]).run Try.prog (w.alloc (.cells hd.toArray E)) = .ok (.slice a1 (1 + n) c1) w1 ∧ OwnK w1 o1 t k (.slice a1 (1 + n) c1) (1 + n) (hd ++ cs) ∧ ∀ U, Fr U o o1 w w1 := by
  have hq : OwnK w (fun _ => (0, 0)) (0, 0) k v n cs := by
    obtain ⟨h1, h2, h3⟩ := h
    refine ⟨h1, h2, ?_⟩
    rcases h3 with h3 | ⟨g, cap, e, _, h4⟩
    · exact .inl h3
    · exact .inr ⟨g, cap, e, rfl, h4⟩
  have A1 : Fr (fun _ => False) (fun _ => (0, 0)) (lab (fun _ => (0, 0)) w.heap.size (7, 7)) w (w.alloc (.cells hd.toArray E)) := Fr.new _ _ w _ _
  have d1 : OwnK (w.alloc (.cells hd.toArray E)) (lab (fun _ => (0, 0)) w.heap.size (7, 7)) (7, 7) k (.slice (some ⟨w.heap.size, 0, none⟩) 1 1) 1 hd := by
    have := own_new (w := w) (o := fun _ => (0, 0)) (t := (7, 7)) (k := k) (n := 1) (cap := 1) (e := E) hd #[] (by omega) hh1 (Nat.le_refl _) (by unfold maxLen; omega) (by simp)
    rw [Array.append_empty] at this
    exact this
  obtain ⟨v1, w1, q1, r1, O1, F1⟩ := app_own (t := (7, 7)) T T E z bz ht hinfo hz d1 ((hq.fr A1 (fun x => x)).src ht) hb hb2
  obtain ⟨a1, c1, rfl, _⟩ := O1.form
  have FF : Fr (fun t => t = (7, 7)) (fun _ => (0, 0)) q1 w w1 := (A1.mono (fun _ h => h.elim)).trans F1
  obtain ⟨o2, hO, hF⟩ := own_fresh (o := o) (t := t) O1 (fun b hb => by rw [FF.lab b hb]; decide) (FF.below (Nat.le_refl _) (fun b _ => by decide))
  exact ⟨a1, c1, w1, o2, r1, hO, hF⟩
/-- The last one that may go, among the first j. -/
def LastP (l : List It) (c j : Nat) (k : Int) : Prop := (k = -1 ∧ ∀ i ∈ l.take j, It.may c i = false) ∨ ∃ pre i post, l.take j = pre ++ i :: post ∧ k = ((pre.length : Nat) : Int) ∧ It.may c i = true ∧ ∀ q ∈ post, It.may c q = false
theorem LastP.yes {l : List It} {c j : Nat} {i : It} (h : l[j]? = some i) (hm : It.may c i = true) : LastP l c (j + 1) (j : Int) := by
  have hj := (List.getElem?_eq_some_iff.1 h).1
  refine .inr ⟨l.take j, i, [], by rw [List.take_add_one, h]; rfl, by rw [List.length_take]; congr 1; omega, hm, (fun q hq => by cases hq)⟩
theorem LastP.no {l : List It} {c j : Nat} {k : Int} {i : It} (hL : LastP l c j k) (h : l[j]? = some i) (hm : It.may c i = false) : LastP l c (j + 1) k := by
  rcases hL with ⟨h1, h2⟩ | ⟨pre, q, post, h1, h2, h3, h4⟩
  · refine .inl ⟨h1, fun q hq => ?_⟩
    rw [List.take_add_one, h] at hq
    simp only [Option.toList_some, List.mem_append, List.mem_singleton] at hq
    rcases hq with hq | rfl
    · exact h2 q hq
    · exact hm
  · refine .inr ⟨pre, q, post ++ [i], by rw [List.take_add_one, h, h1]; simp, h2, h3, fun x hx => ?_⟩
    rcases List.mem_append.1 hx with hx | hx
    · exact h4 x hx
    · rw [List.mem_singleton.1 hx]; exact hm
theorem LastP.vic {z : Sp} {c : Nat} {k : Int} (h : LastP z.l c z.l.length k) : (k = -1 ∧ z.vic c = none) ∨ ∃ pre i post, z.l = pre ++ i :: post ∧ k = ((pre.length : Nat) : Int) ∧ z.vic c = some i := by
  rcases h with ⟨h1, h2⟩ | ⟨pre, q, post, h1, h2, h3, h4⟩
  · rw [List.take_length] at h2
    refine .inl ⟨h1, ?_⟩
    unfold Sp.vic
    rw [List.filter_eq_nil_iff.2 (fun i hi => by rw [h2 i hi]; simp)]; rfl
  · rw [List.take_length] at h1
    refine .inr ⟨pre, q, post, h1, h2, ?_⟩
    unfold Sp.vic
    rw [h1, List.filter_append, List.filter_cons_of_pos h3, show post.filter (It.may c) = [] from List.filter_eq_nil_iff.2 (fun i hi => by rw [h4 i hi]; simp)]
    simp
/-- What Put of the reference leaves. -/
def RSPut (w : World) (o : Nat → Nat × Nat) (Y : Nat) (r : List ByteArray × Nat × Sp) (e : Ending) (w' : World) : Prop :=
  ∃ V o', e = .returned (.tuple #[V, .int .i64 ((r.2.1 : Nat) : Int)]) ∧ OwnK w' o' (7, 0) 1 V r.1.length (strc r.1) ∧ IsRef w' o' Y r.2.2 ∧ Fr TR o o' w w'
theorem nR7 : ¬ TR (7, 0) := fun h => absurd h.2 (by decide)
theorem nR0 : ¬ TR (0, 0) := fun h => absurd h.1 (by decide)
set_option maxRecDepth 100000 in
set_option maxHeartbeats 4000000 in
theorem rput_any (Y : Nat) (z : Sp) (key d : ByteArray) (pin : Bool) (hk : key.size ≤ 1000000000) (hd : d.size ≤ 1000000000) (w : World) (o : Nat → Nat × Nat) (h : IsRef w o Y z) :
    Calls Try.prog 17 #[.pointer (some ⟨Y, 0, none⟩), .string key, .string d, .bool pin] w fun e w' => RSPut w o Y (z.put key d pin) e w' := by
  have HI : Hid (IsRef w o Y z) := h
  clear h
  go_enter Try.func17, Try.ntmps17
  go_wp2_with fail
  refine (rfind_any Y z key _ o HI.out).mono ?_
  rintro e w2 ⟨r, rfl, hr, rfl⟩
  have HFR : Hid (FindR z.l key r) := hr
  clear hr
  go_upto_if 21 with fail
  go_cut [10] from 17 to 112 (fun _ wx => Hid (RefP w o Y (z.drop key) wx))
  case first =>
    rcases HFR.out with ⟨rfl, hn⟩ | ⟨pre, i, post, hl, rfl, hf, hk, _⟩
    · have HE : Hid (RefP w o Y (z.drop key) w) := ⟨o, by rw [show z.drop key = z by unfold Sp.drop; rw [hn]]; exact HI.out, Fr.refl _ _ _⟩
      clear hn
      go_wp2_with fail
      go_meet
      exact HE
    · have HD : Hid (z.drop key = z.rm i ∧ z.l = pre ++ i :: post) := ⟨by unfold Sp.drop; rw [hf], hl⟩
      clear hf hk hl
      go_wp2_with fail
      refine (rout_any Y z pre post i _ rfl HD.out.2 _ o HI.out).mono ?_
      rintro e w3 ⟨rfl, hP⟩
      have HE : Hid (RefP w o Y (z.drop key) w3) := by rw [HD.out.1]; exact hP
      clear hP
      go_wp2_with fail
      go_meet
      exact HE
  case rest =>
    obtain ⟨o1, I1, F1⟩ := hcut.out
    obtain ⟨z1, hz1⟩ : ∃ z1, z1 = z.drop key := ⟨_, rfl⟩
    rw [← hz1] at I1
    have HZ : Hid (z.put key d pin = z1.put1 key d pin ∧ ∀ i ∈ z1.l, i.key ≠ key) := ⟨by rw [hz1]; rfl, by rw [hz1]; exact z.drop_no key⟩
    have HI1 : Hid (IsRef wc o1 Y z1 ∧ Fr TR o o1 w wc) := ⟨I1, F1⟩
    obtain ⟨S1, v1, J1⟩ := I1
    have c0 := J1.c0
    have HS1 : Hid (RSlab wc o1 5 S1 z1.s) := J1.slab
    have HOK : Hid (OkSp z1) := J1.ok
    clear hcut hz1 HI HFR F1 J1
    go_wp2_with fail
    refine (rclass_any 5 S1 z1.s ((key.size : Int) + (d.size : Int)) _ o1 HS1.out).mono ?_
    rintro e w2 ⟨r2, rfl, hcls, B2⟩
    have HI2 : Hid (IsRef w2 o1 Y z1 ∧ Fr TR o o1 w w2) := ⟨HI1.out.1.below B2, HI1.out.2.trans (Fr.ofBelow _ o1 B2)⟩
    rw [show (key.size : Int) + (d.size : Int) = (((key ++ d).size : Nat) : Int) by rw [ba_size]; omega] at hcls
    clear B2 HI1 c0 HS1
    rcases clsOf_is hcls with ⟨rfl, hc⟩ | ⟨c, rfl, hcn, hc, hle⟩
    · have HA : Hid (z1.put1 key d pin = ([], 2, z1)) := by show _ = _; unfold Sp.put1; rw [hc]
      clear hcls hc
      go_wp2_with fail
      go_ret2
      exact ⟨.slice none 0 0, o1, by rw [HZ.out.1, HA.out]; rfl, by rw [HZ.out.1, HA.out]; exact OwnK.nil _ _ _ _, by rw [HZ.out.1, HA.out]; exact HI2.out.1, HI2.out.2⟩
    · have HC : Hid (clsOf z1.s (key ++ d).size = some c) := hc
      have hc0 : decide ((c : Int) < 0) = false := by simp
      have hc11 : c < 11 := by have := HOK.out.ok.n2; omega
      clear hcls hc
      have htz : key.size + d.size ≤ 2000000000 := by omega
      go_wp2_with fail
      go_loopw [12] (fun V wr => ∃ (o3 : Nat → Nat × Nat) (z2 : Sp) (va : Option Addr) (vn vc : Nat), V = .slice va vn vc ∧ Hid (Stg wr o3 z1 z2 c (key ++ d) (.slice va vn vc)) ∧ Hid (IsRef wr o3 Y z2) ∧ Hid (Fr TR o o3 w wr)) (fun V _ => 1 - lenV V)
      case atStart => exact ⟨o1, z1, none, 0, 0, rfl, .inl ⟨rfl, rfl⟩, HI2.out.1, HI2.out.2⟩
      case round =>
        clear HI2
        obtain ⟨o3, z2, va, vn, vc, rfl, HST, I3, F3⟩ := hrel
        obtain ⟨S, v, J3⟩ := I3.out
        have c0 := J3.c0
        have HJ3 : Hid (IsRS wr o3 Y z2 S v) := J3
        have hcl1 : clsOf z2.s (key ++ d).size = some c ∧ (∀ i ∈ z2.l, i.key ≠ key) ∧ ((Value.slice va vn vc = .slice none 0 0 ∧ z2 = z1) ∨ ¬ (z2.s.fr c = [] ∧ z2.s.left = 0)) := by
          rcases HST.out with ⟨hv, rfl⟩ | ⟨v, _, rfl, _, hv, _⟩
          · exact ⟨HC.out, HZ.out.2, .inl ⟨hv, rfl⟩⟩
          · obtain ⟨q1, q2, q3⟩ := vic_some hv
            subst q2
            obtain ⟨q4, q5⟩ := Sp.rm_room HOK.out q1 HC.out
            exact ⟨q4, but_no HZ.out.2, .inr q5⟩
        clear J3 I3
        rcases St.alloc_ways HJ3.out.ok.ok hcl1.1 with ⟨hf1, hl1, hA⟩ | ⟨hnf, k, s', hA, tk, _⟩
        · obtain ⟨hv0, hz1⟩ : Value.slice va vn vc = .slice none 0 0 ∧ z2 = z1 := by
            rcases hcl1.2.2 with h | h
            · exact h
            · exact absurd ⟨hf1, hl1⟩ h
          subst hz1
          injection hv0 with e1 e2 e3
          subst e1 e2 e3
          have HA : Hid (z2.s.alloc (key ++ d) = ((0, 0, 6), z2.s)) := hA
          clear hA hf1 hl1 hcl1
          go_wp2_with fail
          refine (ralloc_any 5 S (by decide) (by decide) z2.s (key ++ d) _ o3 HJ3.out.slab).mono ?_
          rintro e w4 ⟨rfl, o4, S4, F4⟩
          rw [HA.out] at S4
          have B5 : Below w4.heap.size w4 (w4.alloc (.cells #[.int .i64 0, .int .i64 0] 51)) := (Below.refl _ _).alloc (Nat.le_refl _) _
          have R5 := (HJ3.out.rb.slabs F4 S4).below B5
          obtain ⟨la, lc, hlv, _⟩ := R5.li.form
          subst hlv
          obtain ⟨W, hW⟩ : ∃ W, W = w4.alloc (.cells #[.int .i64 0, .int .i64 0] 51) := ⟨_, rfl⟩
          rw [← hW] at R5 B5
          have HR5 : Hid (RB W o4 Y z2.l z2.s S (.slice la z2.l.length lc)) := R5
          have HF5 : Hid (Fr TR o o4 w W) := (F3.out.trans (F4.mono (fun t e => ⟨by omega, by omega⟩))).trans (Fr.ofBelow _ o4 B5)
          have hfew := HOK.out.few
          have c1 := R5.c1
          rw [HA.out]
          unfold ansV
          clear S4 F4 R5 B5 c0 HJ3 F3 HST
          go_upto_region 12 with fail
          rw [← hW]
          clear hW
          go_wp2_with fail
          obtain ⟨W0, rfl⟩ : ∃ W0, W0 = wr := ⟨_, rfl⟩
          go_loopw [15, 16] (fun kv jv wx => ∃ (kk : Int) (jj : Nat), kv = .int .i64 kk ∧ jv = .int .i64 (jj : Int) ∧ jj ≤ z2.l.length ∧ -1 ≤ kk ∧ kk ≤ (jj : Int) ∧ Hid (LastP z2.l c jj kk) ∧ W = wx) (fun _ jv _ => z2.l.length - (intOf jv).toNat)
          case atStart => exact ⟨-1, 0, rfl, rfl, by omega, by omega, by omega, .inl ⟨rfl, (fun i hi => by simp at hi)⟩, rfl⟩
          case round =>
            obtain ⟨kk, jj, rfl, rfl, hjj, hk1, hk2, HLP, rfl⟩ := hrel
            by_cases hlt : jj < z2.l.length
            · have k1 : (jj : Int) < (z2.l.length : Int) := by omega
              obtain ⟨i, hi⟩ : ∃ i, z2.l[jj]? = some i := ⟨_, List.getElem?_eq_getElem hlt⟩
              obtain ⟨g, cap, e, _, _, _, _, h6, _⟩ := HR5.out.li.there (by omega)
              injection e with e1 e2 e3
              subst e1
              obtain ⟨_, d1, _, d3⟩ := itc_at _ _ _ hi
              replace d1 := h6 _ _ d1
              replace d3 := h6 _ _ d3
              have HIi : Hid (z2.l[jj]? = some i) := hi
              clear h6 hi e2 e3
              by_cases hic : i.c = c
              · have s1 : (((i.c : Nat) : Int) == (c : Int)) = true := by rw [hic]; simp
                cases hip : i.pin with
                | true =>
                  rw [hip] at d3
                  have HM : Hid (It.may c i = false) := by show _ = _; unfold It.may; rw [hip]; simp
                  clear hic
                  go_wp2_with fail
                  exact ⟨⟨kk, jj + 1, rfl, by go_num, by omega, by omega, by omega, HLP.out.no HIi.out HM.out, trivial⟩, by simp [intOf]; omega⟩
                | false =>
                  rw [hip] at d3
                  have HM : Hid (It.may c i = true) := by show _ = _; unfold It.may; rw [hip, hic]; simp
                  clear hic
                  go_wp2_with fail
                  exact ⟨⟨(jj : Int), jj + 1, rfl, by go_num, by omega, by omega, by omega, LastP.yes HIi.out HM.out, trivial⟩, by simp [intOf]; omega⟩
              · have s1 : (((i.c : Nat) : Int) == (c : Int)) = false := beq_eq_false_iff_ne.2 (by omega)
                have HM : Hid (It.may c i = false) := by show _ = _; unfold It.may; rw [decide_eq_false hic]; rfl
                clear hic
                go_wp2_with fail
                exact ⟨⟨kk, jj + 1, rfl, by go_num, by omega, by omega, by omega, HLP.out.no HIi.out HM.out, trivial⟩, by simp [intOf]; omega⟩
            · have k1 : decide ((jj : Int) < (z2.l.length : Int)) = false := by simp; omega
              have hv : (kk = -1 ∧ z2.vic c = none) ∨ ∃ pre i post, z2.l = pre ++ i :: post ∧ kk = ((pre.length : Nat) : Int) ∧ z2.vic c = some i := by
                have := HLP.out
                rw [show jj = z2.l.length by omega] at this
                exact this.vic
              rcases hv with ⟨rfl, hv⟩ | ⟨pre, i, post, hl, rfl, hv⟩
              · have HP1 : Hid (z2.put1 key d pin = ([], 6, z2)) := by show _ = _; unfold Sp.put1; rw [HC.out]; simp only [HA.out, hv, if_true]
                have HE : Hid (IsRef W o4 Y z2) := HR5.out.is HOK.out
                clear hv
                go_wp2_with fail
                go_ret2
                exact ⟨.slice none 0 0, o4, by rw [HZ.out.1, HP1.out]; rfl, by rw [HZ.out.1, HP1.out]; exact OwnK.nil _ _ _ _, by rw [HZ.out.1, HP1.out]; exact HE.out, HF5.out⟩
              · have hlen : z2.l.length = pre.length + (post.length + 1) := by rw [hl]; simp
                obtain ⟨g, cap, e, _, _, _, _, h6, _⟩ := HR5.out.li.there (by omega)
                injection e with e1 e2 e3
                subst e1
                have hat : z2.l[pre.length]? = some i := by rw [hl]; simp
                have d0 := h6 _ _ (itc_at _ _ _ hat).1
                obtain ⟨v6, w6, hrun, O6, F6⟩ := app_first W o4 (7, 0) (by decide) i.key
                obtain ⟨a6, b6, rfl, _⟩ := O6.form
                have HO6 : Hid (OwnK w6 (mix o4 W.heap.size (7, 0)) (7, 0) 1 (.slice a6 1 b6) 1 (strc [i.key]) ∧ IsRef w6 (mix o4 W.heap.size (7, 0)) Y z2 ∧ Fr TR o (mix o4 W.heap.size (7, 0)) w w6) := ⟨O6, (HR5.out.is HOK.out).fr F6 (fun _ _ x => x), HF5.out.trans (F6.mono (fun _ h => h.elim))⟩
                have HV : Hid (z2.vic c = some i ∧ z2.l = pre ++ i :: post) := ⟨hv, hl⟩
                obtain ⟨pp, hpp⟩ : ∃ pp, pp = pre.length := ⟨_, rfl⟩
                rw [← hpp] at d0 ⊢
                have k3 : (pp : Int) < (z2.l.length : Int) := by omega
                have k4 : pp < z2.l.length := by omega
                have HPP : Hid (pp = pre.length) := hpp
                clear O6 F6 h6 hat hl hv hlen e2 e3 hk1 hk2 hpp
                go_wp2_with (at_builtin; refine wpList_append_run rfl (.tmp 99) (.tmp 108) 26 26 rfl _ _ _ rfl rfl hrun ?_)
                refine (rout_any Y z2 pre post i _ (by rw [HPP.out]) HV.out.2 _ _ HO6.out.2.1).mono ?_
                rintro e w7 ⟨rfl, o7, I7, F7⟩
                have HEND : Hid (Stg w7 o7 z2 (z2.rm i) c (key ++ d) (.slice a6 1 b6) ∧ IsRef w7 o7 Y (z2.rm i) ∧ Fr TR o o7 w w7) := ⟨.inr ⟨i, rfl, rfl, by rw [HA.out], HV.out.1, HO6.out.1.fr F7 nR7⟩, I7, HO6.out.2.2.trans F7⟩
                clear I7 F7 HO6
                go_wp2_with fail
                exact ⟨⟨o7, z2.rm i, a6, 1, b6, rfl, HEND.out.1, HEND.out.2.1, HEND.out.2.2⟩, by simp [lenV]⟩
        · have HA : Hid (z2.s.alloc (key ++ d) = ((c, k, 0), s')) := hA
          obtain ⟨wl, hput, hwo⟩ : ∃ wl, z1.put1 key d pin = (wl, 0, z2.add key d pin) ∧ OwnK wr o3 (7, 0) 1 (.slice va vn vc) wl.length (strc wl) := by
            rcases HST.out with ⟨hv, rfl⟩ | ⟨v9, hl9, rfl, h6, hv, hO⟩
            · refine ⟨[], ?_, by rw [hv]; exact OwnK.nil _ _ _ _⟩
              unfold Sp.put1; rw [HC.out]; simp only [hA]; rfl
            · refine ⟨[v9.key], ?_, hO⟩
              unfold Sp.put1; rw [HC.out]; simp only [h6, hv, if_true]
          have hAA : (z2.s.alloc (key ++ d)).1 = (c, k, 0) := by rw [hA]
          rw [add_eq hAA, hA] at hput
          have hokA := HJ3.out.ok.add (pin := pin) hcl1.1 hcl1.2.1 hnf
          rw [add_eq hAA, hA] at hokA
          have HPUT : Hid (z1.put1 key d pin = (wl, 0, ⟨s', ⟨key, c, k, pin, d⟩ :: z2.l⟩) ∧ OkSp ⟨s', ⟨key, c, k, pin, d⟩ :: z2.l⟩ ∧ OwnK wr o3 (7, 0) 1 (.slice va vn vc) wl.length (strc wl)) := ⟨hput, hokA, hwo⟩
          have hfew := HJ3.out.ok.few
          clear hA hput hwo hokA hnf tk hcl1 hAA HST
          go_wp2_with fail
          refine (ralloc_any 5 S (by decide) (by decide) z2.s (key ++ d) _ o3 HJ3.out.slab).mono ?_
          rintro e w4 ⟨rfl, o4, S4, F4⟩
          rw [HA.out] at S4
          have R4 := HJ3.out.rb.slabs F4 S4
          have OG := HPUT.out.2.2.fr F4 (by decide)
          have F04 : Fr TR o o4 w w4 := F3.out.trans (F4.mono (fun t e => ⟨by omega, by omega⟩))
          obtain ⟨H, hH⟩ : ∃ H, H = w4.heap.size := ⟨_, rfl⟩
          obtain ⟨W, hW⟩ : ∃ W, W = w4.alloc (.cells #[.int .i64 ((c : Nat) : Int), .int .i64 ((k : Nat) : Int)] 51) := ⟨_, rfl⟩
          obtain ⟨oW, hoW⟩ : ∃ oW, oW = lab o4 H (0, 0) := ⟨_, rfl⟩
          have FW : ∀ T, Fr T o4 oW w4 W := fun T => by rw [hW, hoW, hH]; exact Fr.new T o4 w4 _ _
          have e0 : W.cell? ⟨H, 0, none⟩ = some (.int .i64 ((c : Nat) : Int)) := by rw [hW, hH, World.cell?_alloc_new]; rfl
          have e1 : W.cell? ⟨H, 1, none⟩ = some (.int .i64 ((k : Nat) : Int)) := by rw [hW, hH, World.cell?_alloc_new]; rfl
          have RW := R4.fr (FW (fun _ => False)) (fun _ _ x => x)
          obtain ⟨la, lc, hlv, _⟩ := RW.li.form
          subst hlv
          have HLI := (RW.below (below_drewN (Below.refl _ _) 1)).li
          obtain ⟨a7, q7, w7, o7, run1, O7, F7⟩ := cons_own (hd := [.string key, .int .i64 ((c : Nat) : Int), .int .i64 ((k : Nat) : Int), .bool pin]) 47 53 (.agg #[.string ⟨#[]⟩, .int .i64 0, .int .i64 0, .bool false]) 40 under47 info53 (by kernel_rfl) rfl (fun u hu => by simp at hu; rcases hu with rfl | rfl | rfl | rfl <;> rfl) HLI (by omega) (by omega)
          have FW7 : ∀ U, Fr U oW o7 W w7 := fun U => (Fr.drew1 U oW W).trans (F7 U)
          have O7' : OwnK w7 o7 (4, 1) 4 (.slice a7 (1 + z2.l.length) q7) (⟨key, c, k, pin, d⟩ :: z2.l : List It).length (itc (⟨key, c, k, pin, d⟩ :: z2.l)) := by
            rw [List.length_cons, Nat.add_comm z2.l.length 1]; exact O7
          obtain ⟨R8, F8⟩ := RW.set FW7 O7'
          have HEND : Hid (RSPut w o Y (z.put key d pin) (.returned (.tuple #[.slice va vn vc, .int .i64 0])) (w7.setCell ⟨Y, 1, none⟩ (.slice a7 (1 + z2.l.length) q7))) := by
            refine ⟨.slice va vn vc, o7, ?_, ?_, ?_, (F04.trans (FW TR)).trans F8⟩
            · rw [HZ.out.1, HPUT.out.1]; rfl
            · rw [HZ.out.1, HPUT.out.1]; exact ((OG.fr (FW (fun _ => False)) (fun x => x)).fr F8 nR7)
            · rw [HZ.out.1, HPUT.out.1]; exact RB.is (z := ⟨s', ⟨key, c, k, pin, d⟩ :: z2.l⟩) R8 HPUT.out.2.1
          have t0 : W.cell? ⟨Y, 1, none⟩ = some (.slice la z2.l.length lc) := RW.c1
          have t1 : (W.alloc (.cells #[.string key, .int .i64 ((c : Nat) : Int), .int .i64 ((k : Nat) : Int), .bool pin] 53)).cell? ⟨Y, 1, none⟩ = some (.slice la z2.l.length lc) := cell_up ((Below.refl _ _).alloc (Nat.le_refl _) _) RW.c1
          have t3 : w7.cell? ⟨Y, 1, none⟩ = some (.slice la z2.l.length lc) := (FW7 (fun _ => False)).cell RW.c1 (fun h => h)
          have t4 : w7.frozen? ⟨Y, 1, none⟩ = false := ((FW7 (fun _ => False)).frozen RW.lt (fun h => h)).trans (RW.fz 1)
          rw [HA.out]
          unfold ansV
          clear S4 F4 R4 OG F04 hoW FW RW HLI O7 F7 FW7 O7' R8 F8 c0 HJ3 F3 HPUT
          go_upto_region 9 with fail
          rw [← hW, ← hH]
          clear hW hH
          go_upto_region 10 with fail
          go_region_law (refine step_app rfl (.tmp 55) (.tmp 59) 47 47 rfl _ _ _ rfl rfl run1 ?_)
          all_goals
            go_wp2_with fail
            go_ret2
            exact HEND.out
end Go.Proofs.Ytbflcnghpkmcoaa
