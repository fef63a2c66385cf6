/-
  PUT of a store.
-/
import Derived.Test.YtfinaichajbnkaaGreatDoorAddI
namespace Go.Proofs.YtfinaichajbnkaaGreatDoor
open Go.RowKit

/-- What Put leaves. -/
def SPut (w : World) (o : Nat → Nat × Nat) (X : Nat) (r : List ByteArray × Nat × Sp) (e : Ending) (w' : World) : Prop :=
  ∃ V o', e = .returned (.tuple #[V, .int .i64 ((r.2.1 : Nat) : Int)]) ∧ OwnK w' o' (7, 0) 1 V r.1.length (strc r.1) ∧ IsSt w' o' X r.2.2 ∧ Fr TS o o' w w'
theorem IsA.below {w w' : World} {o : Nat → Nat × Nat} {X : Nat} {z : Sp} {s : St} {h : Gh} (I : IsA w o X z s h) (hb : Below w.heap.size w w') : IsA w' o X z s h := I.fr (Fr.ofBelow (fun _ => False) o hb) (fun _ _ x => x)
theorem nT0 : ¬ TS (0, 0) := fun h => absurd h.1 (by decide)
theorem nT7 : ¬ TS (7, 0) := fun h => absurd h.2 (by decide)
theorem took_of {s : St} (h : Ok s) {d : ByteArray} {c k : Nat} (hc : clsOf s d.size = some c) (hA : (s.alloc d).1 = (c, k, 0)) : Took s (s.alloc d).2 c k d ∧ ¬ (s.fr c = [] ∧ s.left = 0) := by
  rcases St.alloc_ways h hc with ⟨_, _, h3⟩ | ⟨h3, k', s', h4, tk, _⟩
  · rw [h3] at hA; injection hA with _ hA; injection hA with _ hA; cases hA
  · rw [h4] at hA ⊢
    injection hA with _ hA
    injection hA with hA _
    have hA : k' = k := hA
    subst hA
    exact ⟨tk, h3⟩
theorem add_eq {z : Sp} {key d : ByteArray} {pin : Bool} {c k : Nat} (hA : (z.s.alloc (key ++ d)).1 = (c, k, 0)) : z.add key d pin = ⟨(z.s.alloc (key ++ d)).2, ⟨key, c, k, pin, d⟩ :: z.l⟩ := by
  unfold Sp.add; rw [hA]
set_option maxRecDepth 100000 in
set_option maxHeartbeats 2000000 in
theorem sput_any (X : Nat) (z : Sp) (key d : ByteArray) (pin : Bool) (hk : key.size ≤ 1000000000) (hd : d.size ≤ 1000000000) (w : World) (o : Nat → Nat × Nat) (I : IsSt w o X z) :
    Calls Tryz.prog 47 #[.pointer (some ⟨X, 0, none⟩), .string key, .string d, .bool pin] w fun e w' => SPut w o X (z.put key d pin) e w' := by
  have HI : Hid (IsSt w o X z) := I
  clear I
  go_enter Tryz.func47, Tryz.ntmps47
  go_wp2_with fail
  refine (sdrop_any X z key (by omega) _ o HI.out).mono ?_
  rintro e w1 ⟨rfl, o1, ⟨h1, I1⟩, F1⟩
  obtain ⟨z1, hz1⟩ : ∃ z1, z1 = z.drop key := ⟨_, rfl⟩
  rw [← hz1] at I1
  have HZ : Hid (z.put key d pin = z1.put1 key d pin ∧ ∀ i ∈ z1.l, i.key ≠ key) := ⟨by rw [hz1]; rfl, by rw [hz1]; exact z.drop_no key⟩
  have HI1 : Hid (IsG w1 o1 X z1 h1) := I1
  have HF1 : Hid (Fr TS o o1 w w1) := F1
  have c0 := I1.mem.c0
  obtain ⟨bk, hbk⟩ : ∃ bk, bk = (fnd z.l key).isSome := ⟨_, rfl⟩
  rw [← hbk]
  clear I1 F1 hz1 hbk HI
  go_wp2_with fail
  refine (class_any 2 h1.S z1.s ((key.size : Int) + (d.size : Int)) _ o1 HI1.out.slab).mono ?_
  rintro e w2 ⟨r, rfl, hcls, B2⟩
  have HI2 : Hid (IsG w2 o1 X z1 h1) := HI1.out.below B2
  have HF2 : Hid (Fr TS o o1 w w2) := HF1.out.trans (Fr.ofBelow _ o1 B2)
  rw [show (key.size : Int) + (d.size : Int) = (((key ++ d).size : Nat) : Int) by rw [ba_size]; omega] at hcls
  clear B2 HI1 HF1 c0
  rcases clsOf_is hcls with ⟨rfl, hc⟩ | ⟨c, rfl, hcn, hc, hle⟩
  · have HA : Hid (z1.put1 key d pin = ([], 2, z1)) := by show _ = _; unfold Sp.put1; rw [hc]
    clear hcls hc
    go_wp2_with fail
    go_ret2
    exact ⟨.slice none 0 0, o1, by rw [HZ.out.1, HA.out]; rfl, by rw [HZ.out.1, HA.out]; exact OwnK.nil _ _ _ _, by rw [HZ.out.1, HA.out]; exact ⟨h1, HI2.out⟩, HF2.out⟩
  · have HC : Hid (clsOf z1.s (key ++ d).size = some c) := hc
    have hc0 : decide ((c : Int) < 0) = false := by simp
    have htz : (key ++ d).size ≤ 281474976710656 := by rw [ba_size]; omega
    clear hcls hc
    go_wp2_with fail
    refine (salloc_any X z1 c _ rfl (key ++ d) htz HC.out _ o1 ⟨h1, HI2.out⟩).mono ?_
    rintro e w3 hroom
    rcases hroom with ⟨o3, h6, hv, rfl, I3, F3⟩ | ⟨o3, k, h3, hA, rfl, I3, F3⟩ | ⟨o3, k, h3, v, V, h6, hv, hA, rfl, O3, I3, F3⟩
    · have HA : Hid (z1.put1 key d pin = ([], 6, z1)) := by show _ = _; unfold Sp.put1; rw [HC.out]; simp only [h6, hv, if_true]
      have B4 : Below w3.heap.size w3 (w3.alloc (.cells #[.int .i64 0, .int .i64 0] 56)) := (Below.refl _ _).alloc (Nat.le_refl _) _
      have HI4 : Hid (IsSt (w3.alloc (.cells #[.int .i64 0, .int .i64 0] 56)) o3 X z1 ∧ Fr TS o o3 w (w3.alloc (.cells #[.int .i64 0, .int .i64 0] 56))) := ⟨I3.below B4, (HF2.out.trans F3).trans (Fr.ofBelow _ o3 B4)⟩
      clear h6 hv I3 F3 B4
      go_wp2_with fail
      go_ret2
      exact ⟨.slice none 0 0, o3, by rw [HZ.out.1, HA.out]; rfl, by rw [HZ.out.1, HA.out]; exact OwnK.nil _ _ _ _, by rw [HZ.out.1, HA.out]; exact HI4.out.1, HI4.out.2⟩
    · have HC2 := HC.out
      have HN2 := HZ.out.2
      have HPQ : z1.put1 key d pin = ([], 0, z1.add key d pin) := by
        unfold Sp.put1; rw [HC.out]; simp only [hA]; rfl
      have O3 : OwnK w3 o3 (7, 0) 1 (.slice none 0 0) 0 (strc []) := OwnK.nil _ _ _ _
      obtain ⟨z2, hz2⟩ : ∃ z2, z2 = z1 := ⟨_, rfl⟩
      obtain ⟨V, hV⟩ : ∃ V, V = Value.slice none 0 0 := ⟨_, rfl⟩
      obtain ⟨wl, hwl⟩ : ∃ wl : List ByteArray, wl = [] := ⟨_, rfl⟩
      rw [← hV] at O3 ⊢
      replace O3 : OwnK w3 o3 (7, 0) 1 V wl.length (strc wl) := by rw [hwl]; exact O3
      rw [← hwl] at HPQ
      rw [show z1.add key d pin = z2.add key d pin by rw [hz2]] at HPQ
      rw [← hz2] at HC2 HN2 I3 hA
      clear hz2 hwl hV
      obtain ⟨tk, hnf⟩ := took_of I3.ok.ok HC2 hA
      have hok := I3.ok.add (pin := pin) HC2 HN2 hnf
      rw [add_eq hA] at hok HPQ
      obtain ⟨s2, hs2⟩ : ∃ s2, s2 = (z2.s.alloc (key ++ d)).2 := ⟨_, rfl⟩
      rw [← hs2] at tk hok HPQ I3
      have htx : (key ++ d).size ≤ 65536 := Nat.le_trans (clsOf_some HC2).2.1 (I3.ok.ok.sz2 tk.hc)
      obtain ⟨H, hH⟩ : ∃ H, H = w3.heap.size := ⟨_, rfl⟩
      obtain ⟨w4, hw4⟩ : ∃ w4, w4 = w3.alloc (.cells #[.int .i64 ((c : Nat) : Int), .int .i64 ((k : Nat) : Int)] 56) := ⟨_, rfl⟩
      obtain ⟨o4, ho4⟩ : ∃ o4, o4 = lab o3 H (0, 0) := ⟨_, rfl⟩
      have F4 : ∀ T, Fr T o3 o4 w3 w4 := fun T => by rw [hw4, ho4, hH]; exact Fr.new T o3 w3 _ _
      have oH : o4 H = (0, 0) := by rw [ho4]; exact lab_same _ _ _
      have e0 : w4.cell? ⟨H, 0, none⟩ = some (.int .i64 ((c : Nat) : Int)) := by rw [hw4, hH, World.cell?_alloc_new]; rfl
      have e1 : w4.cell? ⟨H, 1, none⟩ = some (.int .i64 ((k : Nat) : Int)) := by rw [hw4, hH, World.cell?_alloc_new]; rfl
      have HI4 : Hid (IsA w4 o4 X z2 s2 h3) := I3.fr (F4 (fun _ => False)) (fun _ _ x => x)
      have HO4 : Hid (OwnK w4 o4 (7, 0) 1 V wl.length (strc wl)) := O3.fr (F4 (fun _ => False)) (fun x => x)
      have HF4 : Hid (Fr TS o o4 w w4) := (HF2.out.trans F3).trans (F4 TS)
      have HT : Hid (Took z2.s s2 c k (key ++ d) ∧ OkSp ⟨s2, ⟨key, c, k, pin, d⟩ :: z2.l⟩ ∧ (key ++ d).size ≤ 65536 ∧ ∀ i ∈ z2.l, i.key ≠ key) := ⟨tk, hok, htx, HN2⟩
      have HPQ' : Hid (z1.put1 key d pin = (wl, 0, ⟨s2, ⟨key, c, k, pin, d⟩ :: z2.l⟩)) := HPQ
      have HOH : Hid (o4 H = (0, 0)) := oH
      obtain ⟨va, vc, hVf, _⟩ := O3.form
      subst hVf
      have hkz : key.size ≤ 281474976710656 := by omega
      clear I3 F3 tk hnf hok hA hs2 htx F4 oH ho4 HPQ O3 HC2 HN2 HI2
      go_upto_region 6 with fail
      rw [← hw4, ← hH]
      clear hw4 hH
      go_wp2_with fail
      go_region_held3 (fun w' => w'.cell? ⟨H, 0, none⟩ = some (.int .i64 ((c : Nat) : Int)) ∧ w'.cell? ⟨H, 1, none⟩ = some (.int .i64 ((k : Nat) : Int))) (first | exact ⟨e0, e1⟩ | exact D5 | exact D6)
        (first
          | (go_at_call 35; refine (clone_any key hkz w4.drew).mono ?_; rintro e w5 ⟨rfl, B5⟩; have D5 : w5.cell? ⟨H, 0, none⟩ = some (.int .i64 ((c : Nat) : Int)) ∧ w5.cell? ⟨H, 1, none⟩ = some (.int .i64 ((k : Nat) : Int)) := ⟨cell_up B5 e0, cell_up B5 e1⟩)
          | (go_at_call 68; refine (sadd_any X z2 s2 h3 ⟨key, c, k, pin, d⟩ HT.out.1 HT.out.2.2.1 HT.out.2.2.2 HT.out.2.1 w5 o4 ((HI4.out.fr (Fr.drew1 (fun _ => False) o4 w4) (fun _ _ x => x)).below B5)).mono ?_; rintro e w6 ⟨rfl, o6, I6, F6⟩; have D6 : w6.cell? ⟨H, 0, none⟩ = some (.int .i64 ((c : Nat) : Int)) ∧ w6.cell? ⟨H, 1, none⟩ = some (.int .i64 ((k : Nat) : Int)) := ⟨F6.cell D5.1 (by rw [HOH.out]; exact nT0), F6.cell D5.2 (by rw [HOH.out]; exact nT0)⟩))
      all_goals
        have F46 : Fr TS o4 o6 w4 w6 := ((Fr.drew1 _ o4 w4).trans (Fr.ofBelow _ o4 B5)).trans F6
        have HE : Hid (OwnK w6 o6 (7, 0) 1 (.slice va wl.length vc) wl.length (strc wl) ∧ IsSt w6 o6 X ⟨s2, ⟨key, c, k, pin, d⟩ :: z2.l⟩ ∧ Fr TS o o6 w w6) := ⟨HO4.out.fr F46 nT7, I6, HF4.out.trans F46⟩
        clear F46 I6 F6 D5 D6 B5
        go_wp2_with fail
        go_ret2
        exact ⟨.slice va wl.length vc, o6, by rw [HZ.out.1, HPQ'.out]; rfl, by rw [HZ.out.1, HPQ'.out]; exact HE.out.1, by rw [HZ.out.1, HPQ'.out]; exact HE.out.2.1, HE.out.2.2⟩
    · obtain ⟨v1, v2, v3⟩ := vic_some hv
      have hrr := Sp.rm_room HI2.out.ok v1 (by rw [v2]; exact HC.out)
      rw [v2] at hrr
      have HC2 := hrr.1
      have HN2 := but_no (v := v) HZ.out.2
      have HPQ : z1.put1 key d pin = ([v.key], 0, (z1.rm v).add key d pin) := by
        unfold Sp.put1; rw [HC.out]; simp only [h6, hv, if_true]
      obtain ⟨z2, hz2⟩ : ∃ z2, z2 = z1.rm v := ⟨_, rfl⟩
      obtain ⟨wl, hwl⟩ : ∃ wl : List ByteArray, wl = [v.key] := ⟨_, rfl⟩
      replace O3 : OwnK w3 o3 (7, 0) 1 V wl.length (strc wl) := by rw [hwl]; exact O3
      rw [← hwl] at HPQ
      rw [← hz2] at HC2 HN2 I3 hA HPQ
      clear hz2 hwl v1 v2 v3 hv h6 hrr
      obtain ⟨tk, hnf⟩ := took_of I3.ok.ok HC2 hA
      have hok := I3.ok.add (pin := pin) HC2 HN2 hnf
      rw [add_eq hA] at hok HPQ
      obtain ⟨s2, hs2⟩ : ∃ s2, s2 = (z2.s.alloc (key ++ d)).2 := ⟨_, rfl⟩
      rw [← hs2] at tk hok HPQ I3
      have htx : (key ++ d).size ≤ 65536 := Nat.le_trans (clsOf_some HC2).2.1 (I3.ok.ok.sz2 tk.hc)
      obtain ⟨H, hH⟩ : ∃ H, H = w3.heap.size := ⟨_, rfl⟩
      obtain ⟨w4, hw4⟩ : ∃ w4, w4 = w3.alloc (.cells #[.int .i64 ((c : Nat) : Int), .int .i64 ((k : Nat) : Int)] 56) := ⟨_, rfl⟩
      obtain ⟨o4, ho4⟩ : ∃ o4, o4 = lab o3 H (0, 0) := ⟨_, rfl⟩
      have F4 : ∀ T, Fr T o3 o4 w3 w4 := fun T => by rw [hw4, ho4, hH]; exact Fr.new T o3 w3 _ _
      have oH : o4 H = (0, 0) := by rw [ho4]; exact lab_same _ _ _
      have e0 : w4.cell? ⟨H, 0, none⟩ = some (.int .i64 ((c : Nat) : Int)) := by rw [hw4, hH, World.cell?_alloc_new]; rfl
      have e1 : w4.cell? ⟨H, 1, none⟩ = some (.int .i64 ((k : Nat) : Int)) := by rw [hw4, hH, World.cell?_alloc_new]; rfl
      have HI4 : Hid (IsA w4 o4 X z2 s2 h3) := I3.fr (F4 (fun _ => False)) (fun _ _ x => x)
      have HO4 : Hid (OwnK w4 o4 (7, 0) 1 V wl.length (strc wl)) := O3.fr (F4 (fun _ => False)) (fun x => x)
      have HF4 : Hid (Fr TS o o4 w w4) := (HF2.out.trans F3).trans (F4 TS)
      have HT : Hid (Took z2.s s2 c k (key ++ d) ∧ OkSp ⟨s2, ⟨key, c, k, pin, d⟩ :: z2.l⟩ ∧ (key ++ d).size ≤ 65536 ∧ ∀ i ∈ z2.l, i.key ≠ key) := ⟨tk, hok, htx, HN2⟩
      have HPQ' : Hid (z1.put1 key d pin = (wl, 0, ⟨s2, ⟨key, c, k, pin, d⟩ :: z2.l⟩)) := HPQ
      have HOH : Hid (o4 H = (0, 0)) := oH
      obtain ⟨va, vc, hVf, _⟩ := O3.form
      subst hVf
      have hkz : key.size ≤ 281474976710656 := by omega
      clear I3 F3 tk hnf hok hA hs2 htx F4 oH ho4 HPQ O3 HC2 HN2 HI2
      go_upto_region 6 with fail
      rw [← hw4, ← hH]
      clear hw4 hH
      go_wp2_with fail
      go_region_held3 (fun w' => w'.cell? ⟨H, 0, none⟩ = some (.int .i64 ((c : Nat) : Int)) ∧ w'.cell? ⟨H, 1, none⟩ = some (.int .i64 ((k : Nat) : Int))) (first | exact ⟨e0, e1⟩ | exact D5 | exact D6)
        (first
          | (go_at_call 35; refine (clone_any key hkz w4.drew).mono ?_; rintro e w5 ⟨rfl, B5⟩; have D5 : w5.cell? ⟨H, 0, none⟩ = some (.int .i64 ((c : Nat) : Int)) ∧ w5.cell? ⟨H, 1, none⟩ = some (.int .i64 ((k : Nat) : Int)) := ⟨cell_up B5 e0, cell_up B5 e1⟩)
          | (go_at_call 68; refine (sadd_any X z2 s2 h3 ⟨key, c, k, pin, d⟩ HT.out.1 HT.out.2.2.1 HT.out.2.2.2 HT.out.2.1 w5 o4 ((HI4.out.fr (Fr.drew1 (fun _ => False) o4 w4) (fun _ _ x => x)).below B5)).mono ?_; rintro e w6 ⟨rfl, o6, I6, F6⟩; have D6 : w6.cell? ⟨H, 0, none⟩ = some (.int .i64 ((c : Nat) : Int)) ∧ w6.cell? ⟨H, 1, none⟩ = some (.int .i64 ((k : Nat) : Int)) := ⟨F6.cell D5.1 (by rw [HOH.out]; exact nT0), F6.cell D5.2 (by rw [HOH.out]; exact nT0)⟩))
      all_goals
        have F46 : Fr TS o4 o6 w4 w6 := ((Fr.drew1 _ o4 w4).trans (Fr.ofBelow _ o4 B5)).trans F6
        have HE : Hid (OwnK w6 o6 (7, 0) 1 (.slice va wl.length vc) wl.length (strc wl) ∧ IsSt w6 o6 X ⟨s2, ⟨key, c, k, pin, d⟩ :: z2.l⟩ ∧ Fr TS o o6 w w6) := ⟨HO4.out.fr F46 nT7, I6, HF4.out.trans F46⟩
        clear F46 I6 F6 D5 D6 B5
        go_wp2_with fail
        go_ret2
        exact ⟨.slice va wl.length vc, o6, by rw [HZ.out.1, HPQ'.out]; rfl, by rw [HZ.out.1, HPQ'.out]; exact HE.out.1, by rw [HZ.out.1, HPQ'.out]; exact HE.out.2.1, HE.out.2.2⟩
end Go.Proofs.YtfinaichajbnkaaGreatDoor
