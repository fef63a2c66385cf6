/-
  PUT and DROP of the program.
-/
import Derived.Test.YtfinaichajbnkaaGreatDoorLink
namespace Go.Proofs.YtfinaichajbnkaaGreatDoor
open Go.RowKit

set_option maxRecDepth 100000 in
theorem cclone_any (d : ByteArray) (hd : d.size ≤ 281474976710656) (w : World) : Calls Tryz.prog 35 #[.string d] w fun e w' => e = .returned (.string d) ∧ Below w.heap.size w w' := by
  go_enter Tryz.func35, Tryz.ntmps35
  go_wp2_with fail
  refine (Tryz.stringslite_Clone d _ hd).mono ?_
  rintro e w2 ⟨rfl, B2⟩
  go_wp2_with fail
  go_ret
  exact ⟨rfl, B2⟩
/-- What Put leaves. -/
def PutP (w : World) (o : Nat → Nat × Nat) (x C : Nat) (a' : A) (w' : World) : Prop := ∃ o', IsChain w' o' x C a' ∧ Fr (fun t => t.1 = x) o o' w w'
/-- A key's bucket with one entry more. -/
theorem IsC.append {w w' : World} {o : Nat → Nat × Nat} {x C : Nat} {a : A} {E : Bool → Nat → List Ent} {G : Bool → Nat} (h : IsC w o x C a E G) {k : ByteArray} {pre : List Ent} {B : Nat} {v q : Int} (hks : k.size ≤ 140737488355328) (he : E (a.row k) (a.at_ k) = pre ++ []) (hpre : ∀ e ∈ pre, e.k ≠ k)
    (hB : w.heap.size ≤ B) (hb : ∀ b, b < w.heap.size → w'.heap[b]? = w.heap[b]?) (d0 : w'.cell? ⟨B, 0, none⟩ = some (.string k)) (d1 : w'.cell? ⟨B, 1, none⟩ = some (.int .i64 v)) (d2 : w'.cell? ⟨B, 2, none⟩ = some (.pointer none)) (z1 : w'.frozen? ⟨B, 1, none⟩ = false) (z2 : w'.frozen? ⟨B, 2, none⟩ = false) :
    IsC ((w'.setCell (lnk (G (a.row k)) (a.at_ k) pre) (.pointer (some ⟨B, 0, none⟩))).setCell ⟨C, 4, none⟩ (.int .i64 q)) (lab o B (x, 2)) x C (a.set k (some v) q) (updB E (a.row k) (a.at_ k) (pre ++ [⟨B, k, v⟩])) G := by
  have hC : IsC w' (lab o B (x, 2)) x C a E G := by
    have lo : ∀ b, b < w.heap.size → lab o B (x, 2) b = o b := fun b h => lab_other _ _ _ (by omega)
    have hlt := World.block_lt_of_cell? _ _ h.c0
    refine ⟨h.has, (lo C hlt).trans h.oC, (World.cell?_of_block (a := ⟨C, 0, none⟩) (hb C hlt)).trans h.c0, (World.cell?_of_block (a := ⟨C, 1, none⟩) (hb C hlt)).trans h.c1, (World.cell?_of_block (a := ⟨C, 2, none⟩) (hb C hlt)).trans h.c2, (World.cell?_of_block (a := ⟨C, 3, none⟩) (hb C hlt)).trans h.c3, (World.cell?_of_block (a := ⟨C, 4, none⟩) (hb C hlt)).trans h.c4, fun j => (World.frozen?_of_block (a := ⟨C, j, none⟩) (hb C hlt)).trans (h.fz j), fun r hr => ?_, h.gne⟩
    have rr := h.row r hr
    have hg := World.block_lt_of_cell? _ _ (rr.cl 0 hr)
    refine rr.cg (hb _ hg) (lo _ hg) (fun i hi q hq => ?_)
    obtain ⟨_, hq'⟩ := (rr.ch i hi).mem hq
    exact ⟨hb _ hq'.lt, lo _ hq'.lt⟩
  refine hC.relink (post' := [⟨B, k, v⟩]) he ⟨⟨lab_same _ _ _, d0, d1, d2, z1, z2, hks⟩, trivial⟩ (fun q hq e he' => ?_) ?_
  · rw [List.mem_singleton.1 hq]
    obtain ⟨rr, hat⟩ := h.bucket k
    obtain ⟨_, f⟩ := (rr.ch _ hat).mem (e := e) (by rw [he, List.append_nil]; exact he')
    intro hb
    have := f.lt
    have hb : B = e.b := hb
    omega
  · have := hC.has.setNew k v q (fun p hp => ?_)
    · have e2 : (E (a.row k) (a.at_ k)).map Ent.kv = pre.map Ent.kv := by rw [he, List.append_nil]
      simp only [e2] at this
      rw [List.map_append]
      exact this
    · obtain ⟨e, h1, rfl⟩ := List.mem_map.1 hp
      rw [he, List.append_nil] at h1
      exact hpre e h1
set_option maxRecDepth 100000 in
set_option maxHeartbeats 2000000 in
theorem put_any (x C : Nat) (a : A) (k : ByteArray) (v : Int) (hk : k.size ≤ 140737488355328) (hk1 : -1000000000 ≤ a.keys) (hk2 : a.keys ≤ 1000000000) (w : World) (o : Nat → Nat × Nat) (h : IsChain w o x C a) :
    Calls Tryz.prog 86 #[.pointer (some ⟨C, 0, none⟩), .string k, .int .i64 v] w fun e w' => e = .returned (.bool (!(a.F k).isSome)) ∧ PutP w o x C (a.put k v) w' := by
  go_enter Tryz.func86, Tryz.ntmps86
  go_wp2_with fail
  refine (step_any x C a _ o h).mono ?_
  rintro e w1 ⟨rfl, ⟨E, G, h1⟩, F1⟩
  have HC : Hid (IsC w1 o x C a.step E G) := h1
  have HF1 : Hid (Fr (fun t => t.1 = x) o o w w1) := F1
  clear h h1 F1
  go_wp2_with fail
  refine (find_any x C a.step k hk _ o E G HC.out).mono ?_
  rintro e w2 ⟨p, rfl, pre, post, he, hp, hpre, hpost, B2⟩
  have I2 := HC.out.below B2
  obtain ⟨RR, hat⟩ := I2.bucket k
  obtain ⟨l1, l2⟩ := RR.link hat he
  have hch := RR.ch _ hat
  rw [he] at hch
  rw [← hp] at l1 l2
  obtain ⟨pb, po, hpf⟩ := lnk_form (G (a.step.row k)) (a.step.at_ k) pre
  have HP : Hid (lnk (G (a.step.row k)) (a.step.at_ k) pre = ⟨pb, po, none⟩) := hpf
  rw [hpf] at hp
  subst hp
  have HF2 : Hid (Fr (fun t => t.1 = x) o o w w2) := HF1.out.trans (Fr.ofBelow _ o B2)
  have HI2 : Hid (IsC w2 o x C a.step E G) := I2
  have HFS := a.step_F
  have oL : Hid ((o pb).1 = x) := by
    show _ = _
    have hpf' := hpf
    rcases List.eq_nil_or_concat pre with rfl | ⟨p, e, rfl⟩
    · rw [lnk_nil] at hpf; injection hpf with hpf; rw [← hpf, RR.og]
    · simp only [List.concat_eq_append] at hpf hch
      rw [lnk_end] at hpf; injection hpf with hpf
      obtain ⟨_, f⟩ := hch.mem (e := e) (by simp)
      rw [← hpf, f.ob]
  rcases hpost with rfl | ⟨e, t, rfl, hek⟩
  · replace l1 : w2.cell? ⟨pb, po, none⟩ = some (.pointer none) := l1
    have hF : a.F k = none := by rw [← HFS]; exact I2.miss he hpre
    have HE : Hid (E (a.step.row k) (a.step.at_ k) = pre ++ []) := he
    have HPre : Hid (∀ e ∈ pre, e.k ≠ k) := hpre
    have HQ1 : Hid ((!(a.F k).isSome) = true) := by show _ = _; rw [hF]; rfl
    have HQ2 : Hid (a.put k v = (a.step.set k (some v) (a.keys + 1)).grow) := by show _ = _; unfold A.put; rw [hF]; rfl
    have HKS : Hid (a.step.keys = a.keys) := a.step_keys
    clear hch hpre he hpf RR hat B2 HF1 HC I2 HFS hF
    go_wp2_with fail
    refine (cclone_any k (by omega) _).mono ?_
    rintro e w3 ⟨rfl, B3⟩
    obtain ⟨W, hW⟩ : ∃ W, W = w3.alloc (.cells #[.string k, .int .i64 v, .pointer none] 141) := ⟨_, rfl⟩
    obtain ⟨B, hB⟩ : ∃ B, B = w3.heap.size := ⟨_, rfl⟩
    have hsz := B3.size
    have hb : ∀ b, b < w2.heap.size → W.heap[b]? = w2.heap[b]? := fun b hb => by rw [hW]; exact (Below.heap_alloc _ _ _ (by omega)).trans (B3.block b hb)
    have HA : Hid (IsC ((W.setCell ⟨pb, po, none⟩ (.pointer (some ⟨B, 0, none⟩))).setCell ⟨C, 4, none⟩ (.int .i64 (a.keys + 1))) (lab o B (x, 2)) x C (a.step.set k (some v) (a.keys + 1)) (updB E (a.step.row k) (a.step.at_ k) (pre ++ [⟨B, k, v⟩])) G) := by
      have := HI2.out.append (w' := W) (B := B) (v := v) (q := a.keys + 1) hk HE.out HPre.out (by omega) hb (by rw [hW, hB, World.cell?_alloc_new]; rfl) (by rw [hW, hB, World.cell?_alloc_new]; rfl) (by rw [hW, hB, World.cell?_alloc_new]; rfl) (by rw [hW, hB]; exact World.frozen?_alloc_new _ _ _ _) (by rw [hW, hB]; exact World.frozen?_alloc_new _ _ _ _)
      rw [HP.out] at this; exact this
    have hCl := World.block_lt_of_cell? _ _ HI2.out.c4
    have hpl := World.block_lt_of_cell? _ _ l1
    have p1 : W.cell? ⟨pb, po, none⟩ = some (.pointer none) := (World.cell?_of_block (a := ⟨pb, po, none⟩) (hb pb hpl)).trans l1
    have p2 : W.frozen? ⟨pb, po, none⟩ = false := (World.frozen?_of_block (a := ⟨pb, po, none⟩) (hb pb hpl)).trans l2
    have q1 : W.cell? ⟨C, 4, none⟩ = some (.int .i64 a.keys) := (World.cell?_of_block (a := ⟨C, 4, none⟩) (hb C hCl)).trans (by rw [← HKS.out]; exact HI2.out.c4)
    have q2 : W.frozen? ⟨C, 4, none⟩ = false := (World.frozen?_of_block (a := ⟨C, 4, none⟩) (hb C hCl)).trans (HI2.out.fz 4)
    have HFW : Hid (Fr (fun t => t.1 = x) o (lab o B (x, 2)) w W) := by
      have f := Fr.new (fun t => t.1 = x) o w3 (.cells #[.string k, .int .i64 v, .pointer none] 141) (x, 2)
      rw [← hW, ← hB] at f
      exact (HF2.out.trans (Fr.ofBelow _ o B3)).trans f
    have oL2 : Hid ((lab o B (x, 2) pb).1 = x) := by show _ = _; rw [lab_other _ _ _ (by have : pb < w2.heap.size := hpl; omega)]; exact oL.out
    have oC2 : Hid ((lab o B (x, 2) C).1 = x) := by show _ = _; rw [lab_other _ _ _ (by have : C < w2.heap.size := hCl; omega), HI2.out.oC]
    have hpC : pb ≠ C := fun e => by
      have hpf := HP.out
      rcases List.eq_nil_or_concat pre with rfl | ⟨p, e', rfl⟩
      · rw [lnk_nil] at hpf; injection hpf with hpf
        exact HI2.out.gC (A.cnt_row HI2.out.has.ok k) (hpf.trans e)
      · have hpf := hpf
        have hE := HE.out
        simp only [List.concat_eq_append] at hpf hE
        rw [lnk_end] at hpf; injection hpf with hpf
        obtain ⟨RR, hat⟩ := HI2.out.bucket k
        obtain ⟨_, f⟩ := (RR.ch _ hat).mem (e := e') (by rw [hE]; simp)
        exact f.nC HI2.out.oC (hpf.trans e)
    have HWe : Hid (W = w3.alloc (.cells #[.string k, .int .i64 v, .pointer none] 141)) := hW
    have HBe : Hid (B = w3.heap.size) := hB
    rw [hW] at p1 p2 q1 q2
    clear hb hsz hCl hpl HF2 HI2 HE HPre HP oL l1 l2 hW hB B3
    go_wp2_with fail
    rw [← HWe.out, ← HBe.out]
    refine (cgrow_any x C (a.step.set k (some v) (a.keys + 1)) _ (lab o B (x, 2)) ⟨_, _, HA.out⟩).mono ?_
    rintro e w4 ⟨rfl, o4, I4, F4⟩
    have HR : Hid (IsChain w4 o4 x C (a.put k v)) := by rw [HQ2.out]; exact I4
    have HF4 : Hid (Fr (fun t => t.1 = x) o o4 w w4) := ((HFW.out.trans (Fr.set (a := ⟨pb, po, none⟩) oL2.out _)).trans (Fr.set (a := ⟨C, 4, none⟩) oC2.out _)).trans F4
    clear I4 F4 HA HFW
    go_wp2_with fail
    go_ret
    exact ⟨by rw [HQ1.out]; rfl, o4, HR.out, HF4.out⟩
  · replace l1 : w2.cell? ⟨pb, po, none⟩ = some (.pointer (some ⟨e.b, 0, none⟩)) := l1
    have hF : a.F k = some e.v := by rw [← HFS]; exact I2.hit he hek
    have HR : Hid (IsC (w2.setCell ⟨e.b, 1, none⟩ (.int .i64 v)) o x C (a.step.set k (some v) a.step.keys) (updB E (a.step.row k) (a.step.at_ k) (pre ++ ⟨e.b, e.k, v⟩ :: t)) G) := I2.renum v he hek
    have e1 := hch.tail.1.c1
    have f1 := hch.tail.1.f1
    have oe : Hid ((o e.b).1 = x) := by show _ = _; rw [hch.tail.1.ob]
    have HQ1 : Hid ((!(a.F k).isSome) = false) := by show _ = _; rw [hF]; rfl
    have HQ2 : Hid (a.put k v = a.step.set k (some v) a.step.keys) := by show _ = _; unfold A.put; rw [hF, a.step_keys]; rfl
    clear hch hpre he hpf RR hat hek B2 HF1 HC I2 HFS hF
    go_wp2_with fail
    go_ret
    exact ⟨by rw [HQ1.out]; rfl, o, ⟨_, _, by rw [HQ2.out]; exact HR.out⟩, HF2.out.trans (Fr.set (a := ⟨e.b, 1, none⟩) oe.out _)⟩
set_option maxRecDepth 100000 in
set_option maxHeartbeats 2000000 in
theorem drop_any (x C : Nat) (a : A) (k : ByteArray) (hk : k.size ≤ 140737488355328) (hk1 : -1000000000 ≤ a.keys) (hk2 : a.keys ≤ 1000000000) (w : World) (o : Nat → Nat × Nat) (h : IsChain w o x C a) :
    Calls Tryz.prog 92 #[.pointer (some ⟨C, 0, none⟩), .string k] w fun e w' => e = .returned (.bool (a.F k).isSome) ∧ PutP w o x C (a.drop k) w' := by
  go_enter Tryz.func92, Tryz.ntmps92
  go_wp2_with fail
  refine (step_any x C a _ o h).mono ?_
  rintro e w1 ⟨rfl, ⟨E, G, h1⟩, F1⟩
  have HC : Hid (IsC w1 o x C a.step E G) := h1
  have HF1 : Hid (Fr (fun t => t.1 = x) o o w w1) := F1
  clear h h1 F1
  go_wp2_with fail
  refine (find_any x C a.step k hk _ o E G HC.out).mono ?_
  rintro e w2 ⟨p, rfl, pre, post, he, hp, hpre, hpost, B2⟩
  have I2 := HC.out.below B2
  obtain ⟨RR, hat⟩ := I2.bucket k
  obtain ⟨l1, l2⟩ := RR.link hat he
  have hch := RR.ch _ hat
  rw [he] at hch
  rw [← hp] at l1 l2
  obtain ⟨pb, po, hpf⟩ := lnk_form (G (a.step.row k)) (a.step.at_ k) pre
  have HP : Hid (lnk (G (a.step.row k)) (a.step.at_ k) pre = ⟨pb, po, none⟩) := hpf
  rw [hpf] at hp
  subst hp
  have HF2 : Hid (Fr (fun t => t.1 = x) o o w w2) := HF1.out.trans (Fr.ofBelow _ o B2)
  have HI2 : Hid (IsC w2 o x C a.step E G) := I2
  have HFS := a.step_F
  have HKS := a.step_keys
  have oL : Hid ((o pb).1 = x ∧ pb ≠ C) := by
    rcases List.eq_nil_or_concat pre with rfl | ⟨p, e, rfl⟩
    · rw [lnk_nil] at hpf; injection hpf with hpf; rw [← hpf]; exact ⟨by rw [RR.og], I2.gC (A.cnt_row I2.has.ok k)⟩
    · simp only [List.concat_eq_append] at hpf hch
      rw [lnk_end] at hpf; injection hpf with hpf
      obtain ⟨_, f⟩ := hch.mem (e := e) (by simp)
      rw [← hpf]; exact ⟨by rw [f.ob], f.nC I2.oC⟩
  rcases hpost with rfl | ⟨e, t, rfl, hek⟩
  · replace l1 : w2.cell? ⟨pb, po, none⟩ = some (.pointer none) := l1
    have hF : a.F k = none := by rw [← HFS]; exact I2.miss he hpre
    have HQ1 : Hid ((a.F k).isSome = false) := by show _ = _; rw [hF]; rfl
    have HQ2 : Hid (a.drop k = a.step) := by show _ = _; unfold A.drop; rw [hF]; rfl
    clear hch hpre he hpf RR hat B2 HF1 HC I2 HFS hF HKS
    go_wp2_with fail
    go_ret
    exact ⟨by rw [HQ1.out]; rfl, o, ⟨_, _, by rw [HQ2.out]; exact HI2.out⟩, HF2.out⟩
  · replace l1 : w2.cell? ⟨pb, po, none⟩ = some (.pointer (some ⟨e.b, 0, none⟩)) := l1
    have hF : a.F k = some e.v := by rw [← HFS]; exact I2.hit he hek
    have HQ1 : Hid ((a.F k).isSome = true) := by show _ = _; rw [hF]; rfl
    have HQ2 : Hid (a.drop k = a.step.set k none (a.keys - 1)) := by show _ = _; unfold A.drop; rw [hF]; rfl
    have hnd := I2.has.nd _ _ hat
    simp only [he] at hnd
    have hnd2 : (List.map (fun x => x.fst) (List.map Ent.kv pre ++ (e.k, e.v) :: List.map Ent.kv t)).Nodup := by
      rw [List.map_append, List.map_cons] at hnd; exact hnd
    obtain ⟨a1, a2⟩ := hch.apart hnd
    have HR : Hid (IsC ((w2.setCell ⟨pb, po, none⟩ (hd t)).setCell ⟨C, 4, none⟩ (.int .i64 (a.keys - 1))) o x C (a.step.set k none (a.keys - 1)) (updB E (a.step.row k) (a.step.at_ k) (pre ++ t)) G) := by
      have := I2.relink (v := none) (q := a.keys - 1) (post' := t) he hch.tail.2 (fun q hq e' he' hb => ?_) ?_
      · rw [HP.out] at this; exact this
      · obtain ⟨_, f⟩ := hch.mem (e := q) (by simp [hq])
        obtain ⟨_, f'⟩ := hch.mem (e := e') (by simp [he'])
        have hkk := f.key f' hb
        rw [List.map_append, List.map_cons, List.map_append, List.map_cons] at hnd
        exact (List.nodup_append.1 hnd).2.2 e'.k (List.mem_map.2 ⟨e'.kv, List.mem_map_of_mem he', rfl⟩) q.k (List.mem_cons_of_mem _ (List.mem_map.2 ⟨q.kv, List.mem_map_of_mem hq, rfl⟩)) hkk.symm
      · have := I2.has.cut k e.v (a.keys - 1) (pre.map Ent.kv) (t.map Ent.kv) (by
          show List.map Ent.kv (E _ _) = _
          rw [he, List.map_append, List.map_cons]; unfold Ent.kv; rw [hek])
        rw [List.map_append]; exact this
    have e2 := hch.tail.1.c2
    have c4 := I2.c4
    have z4 := I2.fz 4
    rw [HKS] at c4
    rw [hd_eq] at e2 HR
    have hpC := oL.out.2
    clear hch hpre he hpf RR hat hek B2 HF1 HC I2 HFS hF HKS hnd hnd2 a1 a2
    go_wp2_with fail
    go_ret
    have oC1 : (o C).1 = x := by rw [HI2.out.oC]
    exact ⟨by rw [HQ1.out]; rfl, o, ⟨_, _, by rw [HQ2.out]; exact HR.out⟩, (HF2.out.trans (Fr.set (a := ⟨pb, po, none⟩) oL.out.1 _)).trans (Fr.set (a := ⟨C, 4, none⟩) oC1 _)⟩
end Go.Proofs.YtfinaichajbnkaaGreatDoor
