/-
  strings.Clone of the library: what it calls, by its contract, laid at this program.
-/
import Derived.Shelf.LaysM
import Derived.Shelf.Strconv.Clone
import Derived.Test.YtfinaichajbnkaaGreatDoorProg
import Derived.Test.YtfinaichajbnkaaGreatDoorSlab
import Derived.Deep.RegionHeld3
import Derived.Deep.RegionWith
namespace Go.Proofs
open Go.Shelf
def Tryz.laysM316_ren : Go.Shelf.Ren := ⟨fun | 316 => 45 | n => n, fun | 9 => 9 | 3 => 3 | 4 => 4 | 37 => 95 | 0 => 0 | 127 => 120 | 5 => 5 | n => n, fun | n => n⟩
theorem Tryz.laysM316 : Go.Proofs.LaysM.n316 Tryz.prog Tryz.laysM316_ren := {
  mixed := by kernel_rfl
  f316 := Tryz.func45.trans (congrArg some (by kernel_rfl))
  t0 := Tryz.underlying0
  a0 := Tryz.isAgg0
  z0 := Tryz.sizeOf0
  v0 := Tryz.zeroValue0
  t3 := Tryz.underlying3
  a3 := Tryz.isAgg3
  z3 := Tryz.sizeOf3
  v3 := Tryz.zeroValue3
  t4 := Tryz.underlying4
  a4 := Tryz.isAgg4
  z4 := Tryz.sizeOf4
  v4 := Tryz.zeroValue4
  t9 := Tryz.underlying9
  a9 := Tryz.isAgg9
  z9 := Tryz.sizeOf9
  v9 := Tryz.zeroValue9
  t37 := Tryz.underlying95
  a37 := Tryz.isAgg95
  z37 := Tryz.sizeOf95
  v37 := Tryz.zeroValue95
  t127 := Tryz.underlying120
  a127 := Tryz.isAgg120
  z127 := Tryz.sizeOf120
  v127 := Tryz.zeroValue120
  t5 := Tryz.underlying5
  a5 := Tryz.isAgg5
  z5 := Tryz.sizeOf5
  v5 := Tryz.zeroValue5
  i0 := by kernel_rfl
  i3 := by kernel_rfl
  i4 := by kernel_rfl
  i5 := by kernel_rfl
  i9 := by kernel_rfl
  i37 := by kernel_rfl
  i127 := by kernel_rfl }
open Go.RowKit in
set_option maxRecDepth 100000 in
/-- The same bytes. -/
theorem Tryz.stringslite_Clone (s : ByteArray) (w : World) (hlim : s.size ≤ 281474976710656) :
    Calls Tryz.prog 45 #[.string s] w fun e w' => e = .returned (.string s) ∧ Below w.heap.size w w' := Any.stringslite_Clone Tryz.laysM316 s w hlim
end Go.Proofs


namespace Go.Proofs.YtfinaichajbnkaaGreatDoor
open Go.RowKit

set_option maxRecDepth 100000 in
theorem clone_any (d : ByteArray) (hd : d.size ≤ 281474976710656) (w : World) : Calls Tryz.prog 35 #[.string d] w fun e w' => e = .returned (.string d) ∧ Below w.heap.size w w' := by
  go_enter Tryz.func35, Tryz.ntmps35
  go_wp2_with fail
  refine (Tryz.stringslite_Clone d _ hd).mono ?_
  rintro e w2 ⟨rfl, B2⟩
  go_wp2_with fail
  go_ret
  exact ⟨rfl, B2⟩
theorem slice_hi (g len cap h : Nat) (hh : h ≤ cap) (w : World) : (Instr.sliceAt 22 (.slice (some ⟨g, 0, none⟩) len cap) none (some (.int .i64 (h : Int))) none).run Tryz.prog w = .ok (.slice (some ⟨g, 0, none⟩) h cap) w := by
  have el : Tryz.prog.underlying 22 = some (.slice (Tryz.prog.elem 22)) := by kernel_rfl
  have e3 : Tryz.prog.elem 22 = 3 := by kernel_rfl
  have sz3 : ∀ w : World, (sizeOf 3).run Tryz.prog w = .ok 1 w := fun w => by kernel_rfl
  rw [run_sliceAt_slice _ _ _ _ _ _ el, run_slice_h _ _ _ _ _ el _ _ (by omega) (by omega), e3, sz3]
  have ea : (⟨g, 0, none⟩ : Addr).add 0 = ⟨g, 0, none⟩ := by unfold Addr.add; split <;> simp_all
  simp [sliced, ea]
/-- What a turn of one class leaves: its own row's two cells, its chunks, its free numbers apart. -/
theorem ClsF.turn {w w' : World} {o o' : (Nat → Nat × Nat)} {x C i : Nat} {s s' : St} {kv fv : Nat → Value} {v1 v2 : Value} (h : ClsF w o x C s kv fv) (hi : i < s.n) (hn : s'.n = s.n)
    (hC : o' C = o C) (hch : ∀ j, j ≠ i → s'.ch j = s.ch j) (hfr : ∀ j, j ≠ i → s'.fr j = s.fr j)
    (d : ∀ j, j ≠ i * 3 + 1 → j ≠ i * 3 + 2 → w'.cell? ⟨C, j, none⟩ = w.cell? ⟨C, j, none⟩) (f : ∀ j, w'.frozen? ⟨C, j, none⟩ = w.frozen? ⟨C, j, none⟩)
    (d1 : w'.cell? ⟨C, i * 3 + 1, none⟩ = some v1) (d2 : w'.cell? ⟨C, i * 3 + 2, none⟩ = some v2)
    (k1 : OwnK w' o' (x, 2 * i + 2) 2 v1 (s'.ch i).length (ckc (s'.ch i))) (k2 : OwnK w' o' (x, 2 * i + 3) 1 v2 (s'.fr i).length (frc (s'.fr i)))
    (F : Fr (fun t => t = (x, 1) ∨ t = (x, 2 * i + 2) ∨ t = (x, 2 * i + 3)) o o' w w') : ClsF w' o' x C s' (upd kv i v1) (upd fv i v2) := by
  refine ⟨hC.trans h.oC, fun j hj => ?_, fun j hj => ?_, fun j hj => ?_, fun j hj => ?_, fun j hj => ?_, fun j hj => ?_, fun j hj => ?_⟩
  · rw [d _ (by omega) (by omega)]; exact h.c0 j (by omega)
  · by_cases e : j = i
    · subst e; rw [upd_same]; exact d1
    · rw [upd_other _ _ _ e, d _ (by omega) (by omega)]; exact h.c1 j (by omega)
  · by_cases e : j = i
    · subst e; rw [upd_same]; exact d2
    · rw [upd_other _ _ _ e, d _ (by omega) (by omega)]; exact h.c2 j (by omega)
  · rw [f]; exact h.f1 j (by omega)
  · rw [f]; exact h.f2 j (by omega)
  · by_cases e : j = i
    · subst e; rw [upd_same]; exact k1
    · rw [upd_other _ _ _ e, hch j e]
      exact (h.kk j (by omega)).fr F (fun t => by rcases t with t | t | t <;> injection t with t1 t2 <;> omega)
  · by_cases e : j = i
    · subst e; rw [upd_same]; exact k2
    · rw [upd_other _ _ _ e, hfr j e]
      exact (h.ff j (by omega)).fr F (fun t => by rcases t with t | t | t <;> injection t with t1 t2 <;> omega)
set_option maxRecDepth 100000 in
set_option maxHeartbeats 1000000 in
theorem take_any (x C i : Nat) (s : St) (d : ByteArray) (hd : d.size ≤ 281474976710656) (w : World) (o : (Nat → Nat × Nat)) (kv fv : Nat → Value) (hok : Ok s) (hi : i < s.n) (hf : s.fr i ≠ []) (h : ClsF w o x C s kv fv) :
    Calls Tryz.prog 106 #[.pointer (some ⟨C, i * 3, none⟩), .string d] w fun e w' => e = .returned (.int .i64 ((s.nxt i : Nat) : Int)) ∧ (∃ kv' fv', ClsF w' o x C (s.take i d) kv' fv') ∧ Fr (fun t => t = (x, 1) ∨ t = (x, 2 * i + 2) ∨ t = (x, 2 * i + 3)) o o w w' := by
  have d1 := h.c1 i hi
  have d2 := h.c2 i hi
  have z1 := h.f1 i hi
  have z2 := h.f2 i hi
  have hl : 0 < (s.fr i).length := List.length_pos_iff.2 hf
  obtain ⟨g, cap, e2, og, hg, hcap, hm, gc, gf⟩ := (h.ff i hi).there hl
  obtain ⟨hmem, hlast⟩ := s.nxt_mem hf
  have hx : (s.fr i)[(s.fr i).length - 1]? = some (s.nxt i) := by
    rw [hlast, List.getElem?_append_right (by simp)]; simp
  have y1 := gc _ _ (frc_at _ _ _ hx)
  obtain ⟨dd, hp⟩ := hok.nxt hi hf
  obtain ⟨gk, ck, e1, ok1, hck, k0, k1, zk0, zk1⟩ := h.chunk hi hp
  rw [e1] at d1
  rw [e2] at d2
  have q1 := hok.ch2 hi
  have q2 := hok.fr2 hi
  obtain ⟨m, hm0⟩ : ∃ m, (s.fr i).length = m + 1 := ⟨(s.fr i).length - 1, by omega⟩
  have HH : Hid (ClsF w o x C s kv fv) := h
  have hlt := hok.frlt hi hmem
  obtain ⟨a, ha⟩ : ∃ a, s.nxt i = a := ⟨_, rfl⟩
  rw [ha] at y1 k0 k1 zk0 zk1 hlt ⊢
  rw [hm0] at d2 y1 hcap
  simp only [Nat.add_sub_cancel] at y1
  have i1 : (m : Int) < (m : Int) + 1 := by omega
  have sl := slice_hi g (m + 1) cap m (by omega)
  have hne1 : g ≠ C := fun e => by rw [e, h.oC] at og; injection og with _ e; omega
  have hne2 : gk ≠ C := fun e => by rw [e, h.oC] at ok1; injection ok1 with _ e; omega
  have i2 : (a : Int) < ((s.ch i).length : Int) := by omega
  clear h gc gf hlast hx hp
  go_enter Tryz.func106, Tryz.ntmps106
  go_wp2_with fail
  obtain ⟨W, hW⟩ : ∃ W, W = w.setCell ⟨C, i * 3 + 2, none⟩ (.slice (some ⟨g, 0, none⟩) m cap) := ⟨_, rfl⟩
  have D1 : W.cell? ⟨C, i * 3 + 1, none⟩ = some (.slice (some ⟨gk, 0, none⟩) (s.ch i).length ck) := by rw [hW, World.cell?_setCell_other _ _ _ _ (fun e => by injection e with _ e _; omega)]; exact d1
  have K0 : W.cell? ⟨gk, a * 2, none⟩ = some (.bool false) := by rw [hW, World.cell?_setCell_other _ _ _ _ (fun e => hne2 (by injection e with e; exact e.symm))]; exact k0
  have K1 : W.cell? ⟨gk, a * 2 + 1, none⟩ = some (.string dd) := by rw [hW, World.cell?_setCell_other _ _ _ _ (fun e => hne2 (by injection e with e; exact e.symm))]; exact k1
  have hgk : gk < W.heap.size := World.block_lt_of_cell? _ _ K0
  have Z0 : W.frozen? ⟨gk, a * 2, none⟩ = false := by rw [hW, World.frozen?_setCell]; exact zk0
  have Z1 : W.frozen? ⟨gk, a * 2 + 1, none⟩ = false := by rw [hW, World.frozen?_setCell]; exact zk1
  have HW : Hid (W = w.setCell ⟨C, i * 3 + 2, none⟩ (.slice (some ⟨g, 0, none⟩) m cap)) := hW
  rw [← hW]
  have D2' : Hid (w.cell? ⟨C, i * 3 + 2, none⟩ = some (.slice (some ⟨g, 0, none⟩) (m + 1) cap)) := d2
  clear hW d1 d2 k0 k1 zk0 zk1 y1 z1 z2
  go_region_held3 (fun w' => w'.cell? ⟨C, i * 3 + 1, none⟩ = some (.slice (some ⟨gk, 0, none⟩) (s.ch i).length ck)) (first | exact D1 | exact D2 | (rw [World.cell?_setCell_other _ _ _ _ (fun e => hne2 (by injection e)), World.cell?_setCell_other _ _ _ _ (fun e => hne2 (by injection e))]; exact D2))
    ((go_at_call 35; refine (clone_any d hd W.drew).mono ?_; rintro e w2 ⟨rfl, B2⟩; have D2 := cell_up B2 D1; have K0' := cell_up B2 K0; have K1' := cell_up B2 K1; have Z0' := (B2.frozen (p := ⟨gk, a * 2, none⟩) hgk).trans Z0; have Z1' := (B2.frozen (p := ⟨gk, a * 2 + 1, none⟩) hgk).trans Z1))
  go_wp2_with fail
  go_ret
  have T1 : Fr (· = (x, 1)) o o w w2 := by
    have f1 : Fr (· = (x, 1)) o o w W := by rw [HW.out]; exact Fr.set (a := ⟨C, i * 3 + 2, none⟩) HH.out.oC _
    exact (f1.trans (Fr.drew1 _ o W)).trans (Fr.ofBelow _ o B2)
  have T2 : Fr (· = (x, 2 * i + 2)) o o w2 ((w2.setCell ⟨gk, a * 2, none⟩ (.bool true)).setCell ⟨gk, a * 2 + 1, none⟩ (.string d)) := (Fr.set (a := ⟨gk, a * 2, none⟩) ok1 _).trans (Fr.set (a := ⟨gk, a * 2 + 1, none⟩) ok1 _)
  have TT := (T1.mono (T' := fun t => t = (x, 1) ∨ t = (x, 2 * i + 2) ∨ t = (x, 2 * i + 3)) (fun t h => .inl h)).trans (T2.mono (T' := fun t => t = (x, 1) ∨ t = (x, 2 * i + 2) ∨ t = (x, 2 * i + 3)) (fun t h => .inr (.inl h)))
  have hCW : C < W.heap.size := World.block_lt_of_cell? _ _ D1
  have nC : ¬ (o C = (x, 2 * i + 2)) := by rw [HH.out.oC]; intro e; injection e with _ e; omega
  have hC2 := T2.block C (Nat.lt_of_lt_of_le hCW B2.size) nC
  have hC1 : w2.heap[C]? = W.heap[C]? := B2.block C hCW
  refine ⟨rfl, ⟨_, _, HH.out.turn (i := i) (s' := s.take i d) (v1 := .slice (some ⟨gk, 0, none⟩) (s.ch i).length ck) (v2 := .slice (some ⟨g, 0, none⟩) m cap) hi rfl rfl (fun j e => upd_other _ _ _ e) (fun j e => upd_other _ _ _ e) (fun j j1 j2 => ?_) (fun j => ?_) ?_ ?_ ?_ ?_ TT⟩, TT⟩
  · rw [World.cell?_of_block (a := ⟨C, j, none⟩) hC2, World.cell?_of_block (a := ⟨C, j, none⟩) hC1, HW.out, World.cell?_setCell_other _ _ _ _ (fun e => j2 (by injection e with _ e; exact e.symm))]
  · rw [World.frozen?_of_block (a := ⟨C, j, none⟩) hC2, World.frozen?_of_block (a := ⟨C, j, none⟩) hC1, HW.out, World.frozen?_setCell]
  · rw [World.cell?_of_block (a := ⟨C, i * 3 + 1, none⟩) hC2]; exact D2
  · rw [World.cell?_of_block (a := ⟨C, i * 3 + 2, none⟩) hC2, World.cell?_of_block (a := ⟨C, i * 3 + 2, none⟩) hC1, HW.out]; exact World.cell?_setCell_same _ _ _ D2'.out
  · have kk := (HH.out.kk i hi).fr T1 (fun e => by injection e with _ e; omega)
    rw [e1] at kk
    have k2 := (kk.set (a * 2) (.bool true) rfl (by omega)).set (a * 2 + 1) (.string d) rfl (by omega)
    rw [ckc_set (s.ch i) a (true, d)] at k2
    show OwnK _ _ _ _ _ (upd s.ch i _ i).length (ckc (upd s.ch i _ i))
    rw [upd_same, List.length_set, ha]; exact k2
  · have ff := (HH.out.ff i hi).fr T1 (fun e => by injection e with _ e; omega)
    rw [e2] at ff
    have f2 := (ff.cut m (by omega)).fr T2 (fun e => by injection e with _ e; omega)
    show OwnK _ _ _ _ _ (upd s.fr i _ i).length (frc (upd s.fr i _ i))
    rw [upd_same, List.length_dropLast, hm0, List.dropLast_eq_take, hm0, ← frc_take]; exact f2
theorem under74 : Tryz.prog.underlying 74 = some (.slice 161) := by kernel_rfl
theorem under3 : Tryz.prog.underlying 3 = some (.int .i64) := by kernel_rfl
theorem info161 : (Tryz.prog.info? 161).map (fun i => (i.zero, i.size, i.bytes)) = some (some (.agg #[.bool false, .string ⟨#[]⟩]), 2, 24) := by kernel_rfl
theorem zero_ck (q : Nat) : (Builtin.zeroCells (Value.agg #[.bool false, .string ⟨#[]⟩]).cells q).toList = ckc (List.replicate q noChunk) := by
  have hz : (Value.agg #[.bool false, .string ⟨#[]⟩]).cells = #[.bool false, .string ⟨#[]⟩] := by kernel_rfl
  rw [hz]
  apply List.ext_getElem?
  intro j
  unfold Builtin.zeroCells
  by_cases hj : j < q * 2
  · have hm : (List.replicate q noChunk)[j / 2]? = some noChunk := by rw [List.getElem?_replicate, if_pos (by omega)]
    obtain ⟨h1, h2⟩ := ckc_at _ _ _ hm
    rcases Nat.mod_two_eq_zero_or_one j with e | e
    · rw [show j / 2 * 2 = j by omega] at h1
      rw [h1]; simp [hj, e, noChunk]
    · rw [show j / 2 * 2 + 1 = j by omega] at h2
      rw [h2]; simp [hj, e, noChunk]
  · rw [List.getElem?_eq_none (by simp; omega), List.getElem?_eq_none (by rw [ckc_length, List.length_replicate]; omega)]
set_option maxRecDepth 100000 in
set_option maxHeartbeats 1000000 in
theorem grow_any (x C i : Nat) (s : St) (w : World) (o : (Nat → Nat × Nat)) (kv fv : Nat → Value) (hok : Ok s) (hi : i < s.n) (Q : Int) (hQ : Q = ((s.per i : Nat) : Int)) (h : ClsF w o x C s kv fv) :
    Calls Tryz.prog 105 #[.pointer (some ⟨C, i * 3, none⟩), .int .i64 Q] w fun e w' => e = .returned (.tuple #[]) ∧ ∃ o' kv' fv', ClsF w' o' x C (s.grow i) kv' fv' ∧ Fr (fun t => t = (x, 1) ∨ t = (x, 2 * i + 2) ∨ t = (x, 2 * i + 3)) o o' w w' := by
  subst hQ
  have d1 := h.c1 i hi
  have d2 := h.c2 i hi
  have z1 := h.f1 i hi
  have z2 := h.f2 i hi
  have q1 := hok.ch2 hi
  have q2 := hok.fr2 hi
  have p1 := hok.per1 hi
  have p2 := hok.per2 i
  have hC := World.block_lt_of_cell? _ _ d1
  have HH : Hid (ClsF w o x C s kv fv) := h
  obtain ⟨q, hq⟩ : ∃ q, s.per i = q := ⟨_, rfl⟩
  have HQ : Hid (s.per i = q) := hq
  rw [hq] at p1 p2 ⊢
  obtain ⟨v1, w1, o1, hrun, O1, F1⟩ := app_zeros (q := q) 74 161 (.agg #[.bool false, .string ⟨#[]⟩]) 24 under74 under3 info161 (by kernel_rfl) (fun u hu => by rw [zero_ck] at hu; exact ckc_one _ u hu) (by omega) (h.kk i hi) (by omega) (by omega) (by omega)
  rw [zero_ck, ← ckc_append] at O1
  obtain ⟨a1, b1, e1, _⟩ := (h.kk i hi).form
  obtain ⟨a2, b2, e2, _⟩ := (h.ff i hi).form
  obtain ⟨a1', b1', rfl, _⟩ := O1.form
  rw [e1] at d1 hrun
  have nC : ¬ (o C = (x, 2 * i + 2)) := by rw [h.oC]; intro e; injection e with _ e; omega
  have D1 := F1.cell d1 nC
  have D2 := F1.cell d2 nC
  have Z1 := (F1.frozen (off := i * 3 + 1) hC nC).trans z1
  have Z2 := (F1.frozen (off := i * 3 + 2) hC nC).trans z2
  have HO1 : Hid (OwnK w1 o1 (x, 2 * i + 2) 2 (.slice a1' ((s.ch i).length + q) b1') ((s.ch i).length + q) (ckc (s.ch i ++ List.replicate q noChunk))) := O1
  have HF1 : Hid (Fr (· = (x, 2 * i + 2)) o o1 w w1) := F1
  obtain ⟨n1, hn1⟩ : ∃ n1, (s.ch i).length = n1 := ⟨_, rfl⟩
  have HN1 : Hid ((s.ch i).length = n1) := hn1
  rw [hn1] at hrun D1 d1 q1 q2 HO1
  rw [e2] at D2
  clear h O1 F1 z1 z2 e1 hq d2
  have E2V : Hid (fv i = .slice a2 (s.fr i).length b2) := e2
  clear e2
  go_enter Tryz.func105, Tryz.ntmps105
  go_wp2_with (at_builtin; refine wpList_append_run rfl (.tmp 15) (.tmp 16) 74 3 rfl _ _ _ rfl rfl hrun ?_)
  obtain ⟨W, hW⟩ : ∃ W, W = w1.setCell ⟨C, i * 3 + 1, none⟩ (.slice a1' (n1 + q) b1') := ⟨_, rfl⟩
  have HW : Hid (W = w1.setCell ⟨C, i * 3 + 1, none⟩ (.slice a1' (n1 + q) b1')) := hW
  rw [← hW]
  have FW : Fr (fun t => t = (x, 1) ∨ t = (x, 2 * i + 2)) o o1 w W := by
    rw [hW]
    exact (HF1.out.mono (fun t h => .inr h)).trans (Fr.set (T := fun t => t = (x, 1) ∨ t = (x, 2 * i + 2)) (a := ⟨C, i * 3 + 1, none⟩) (.inl ((HF1.out.lab C hC).trans HH.out.oC)) _)
  have HFW : Hid (Fr (fun t => t = (x, 1) ∨ t = (x, 2 * i + 2)) o o1 w W) := FW
  have oC1 : Hid (o1 C = (x, 1)) := (HF1.out.lab C hC).trans HH.out.oC
  have E1 : Hid (W.cell? ⟨C, i * 3 + 1, none⟩ = some (.slice a1' (n1 + q) b1')) := by show _ = _; rw [hW]; exact World.cell?_setCell_same _ _ _ D1
  have E2 : Hid (W.cell? ⟨C, i * 3 + 2, none⟩ = some (.slice a2 (s.fr i).length b2)) := by show _ = _; rw [hW, World.cell?_setCell_other _ _ _ _ (fun e => by injection e with _ e; omega)]; exact D2
  have EO : Hid (∀ j, j ≠ i * 3 + 1 → j ≠ i * 3 + 2 → W.cell? ⟨C, j, none⟩ = w.cell? ⟨C, j, none⟩) := fun j j1 j2 => by
    rw [hW, World.cell?_setCell_other _ _ _ _ (fun e => j1 (by injection e with _ e; exact e.symm))]
    exact World.cell?_of_block (a := ⟨C, j, none⟩) (HF1.out.block C hC nC)
  have EF : Hid (∀ j, W.frozen? ⟨C, j, none⟩ = w.frozen? ⟨C, j, none⟩) := fun j => by
    rw [hW, World.frozen?_setCell]; exact World.frozen?_of_block (a := ⟨C, j, none⟩) (HF1.out.block C hC nC)
  have OF : Hid (OwnK W o1 (x, 2 * i + 3) 1 (.slice a2 (s.fr i).length b2) (s.fr i).length (frc (s.fr i))) := by
    have := (HH.out.ff i hi).fr FW (fun e => by rcases e with e | e <;> injection e with _ e <;> omega)
    rw [E2V.out] at this; exact this
  have OK1 : Hid (OwnK W o1 (x, 2 * i + 2) 2 (.slice a1' (n1 + q) b1') (n1 + q) (ckc (s.ch i ++ List.replicate q noChunk))) := by
    have f : Fr (· = (x, 1)) o1 o1 w1 W := by rw [hW]; exact Fr.set (a := ⟨C, i * 3 + 1, none⟩) oC1.out _
    exact HO1.out.fr f (fun e => by injection e with _ e; omega)
  have hCW : Hid (C < W.heap.size) := World.block_lt_of_cell? _ _ E1.out
  clear hW FW D1 D2 Z1 Z2 HO1 HF1 HW d1
  go_loopw [5] (fun y wr => ∃ (z : Int) (r m : Nat) (l : List Nat) (o2 : (Nat → Nat × Nat)) (a2 : Option Addr) (b2 : Nat), y = .int .i64 z ∧ z + 1 = (r : Int) ∧ r ≤ q ∧ m + r = (s.fr i).length + q ∧ Hid (m = l.length) ∧ Hid (l ++ down n1 r = s.fr i ++ down n1 q) ∧ Hid (OwnK wr o2 (x, 2 * i + 3) 1 (.slice a2 m b2) m (frc l)) ∧ Hid (wr.cell? ⟨C, i * 3 + 2, none⟩ = some (.slice a2 m b2)) ∧
    Hid (∀ j, j ≠ i * 3 + 2 → wr.cell? ⟨C, j, none⟩ = W.cell? ⟨C, j, none⟩) ∧ Hid (∀ j, wr.frozen? ⟨C, j, none⟩ = W.frozen? ⟨C, j, none⟩) ∧ Hid (Fr (fun t => t = (x, 1) ∨ t = (x, 2 * i + 3)) o1 o2 W wr)) (fun y _ => (intOf y + 1).toNat)
  case atStart => exact ⟨(q : Int) - 1, q, (s.fr i).length, s.fr i, o1, a2, b2, rfl, by omega, by omega, rfl, rfl, rfl, OF, E2, fun _ _ => rfl, fun _ => rfl, Fr.refl _ _ _⟩
  case round =>
    clear OF E2
    obtain ⟨z, r, m, l, o2, a2', b2', rfl, hz, hr, hm, HM, HL, OF, E2, EC, EFr, FF⟩ := hrel
    have e2r := E2.out
    have z2r : wr.frozen? ⟨C, i * 3 + 2, none⟩ = false := by rw [EFr.out, EF.out]; exact HH.out.f2 i hi
    by_cases hz0 : 0 ≤ z
    · obtain ⟨k, rfl⟩ : ∃ k : Nat, z = k := ⟨z.toNat, by omega⟩
      have hrk : r = k + 1 := by omega
      obtain ⟨u, hu⟩ : ∃ u, u = n1 + k := ⟨_, rfl⟩
      have e3 : (n1 : Int) + (k : Int) = (u : Int) := by omega
      obtain ⟨v3, w3, o3, hrun, O3, F3⟩ := app_one 22 3 (.int .i64 0) 8 under22 info3 (by kernel_rfl) OF.out [.int .i64 ((u : Nat) : Int)] rfl (fun x hx => by simp at hx; subst hx; rfl) (by omega) (by omega)
      obtain ⟨a3, b3, rfl, _⟩ := O3.form
      have nC2 : ¬ (o2 C = (x, 2 * i + 3)) := by rw [FF.out.lab C hCW.out, oC1.out]; intro e; injection e with _ e; omega
      have hCr : C < wr.heap.size := World.block_lt_of_cell? _ _ e2r
      have E3 := F3.cell e2r nC2
      have Z3 := (F3.frozen (off := i * 3 + 2) hCr nC2).trans z2r
      have HF3 : Hid (Fr (· = (x, 2 * i + 3)) o2 o3 wr w3) := F3
      have HO3 : Hid (OwnK w3 o3 (x, 2 * i + 3) 1 (.slice a3 (m + 1) b3) (m + 1) (frc (l ++ [u]))) := by
        show OwnK _ _ _ _ _ _ _; rw [frc_append]; exact O3
      have HL3 : Hid ((l ++ [u]) ++ down n1 k = s.fr i ++ down n1 q) := by
        show _ = _; rw [← HL.out, hrk, down, hu]; simp
      have HM3 : Hid (m + 1 = (l ++ [u]).length) := by show _ = _; rw [HM.out]; simp
      clear O3 F3 OF hu
      go_wp2_with (at_builtin; refine wpList_append_run rfl (.tmp 30) (.tmp 34) 22 22 rfl _ _ _ rfl rfl hrun ?_)
      have o3C : o3 C = (x, 1) := by rw [HF3.out.lab C hCr, FF.out.lab C hCW.out]; exact oC1.out
      refine ⟨⟨(k : Int) - 1, k, m + 1, l ++ [u], o3, a3, b3, rfl, by omega, by omega, by omega, HM3, HL3, ?_, World.cell?_setCell_same _ _ _ E3, fun j hj => ?_, fun j => ?_, ?_⟩, by simp [intOf] <;> omega⟩
      · exact HO3.out.fr (Fr.set (T := (· = (x, 1))) (a := ⟨C, i * 3 + 2, none⟩) o3C _) (fun e => by injection e with _ e; omega)
      · rw [World.cell?_setCell_other _ _ _ _ (fun e => hj (by injection e with _ e; exact e.symm)), World.cell?_of_block (a := ⟨C, j, none⟩) (HF3.out.block C hCr nC2)]; exact EC.out j hj
      · rw [World.frozen?_setCell, World.frozen?_of_block (a := ⟨C, j, none⟩) (HF3.out.block C hCr nC2)]; exact EFr.out j
      · exact (FF.out.trans (HF3.out.mono (fun t h => .inr h))).trans (Fr.set (a := ⟨C, i * 3 + 2, none⟩) (.inl o3C) _)
    · have hz' : decide (0 ≤ z) = false := by simp; omega
      go_wp2_with fail
      have hr0 : r = 0 := by omega
      have HL0 : l = s.fr i ++ down n1 q := by have := HL.out; rw [hr0, down, List.append_nil] at this; exact this
      have TT : Fr (fun t => t = (x, 1) ∨ t = (x, 2 * i + 2) ∨ t = (x, 2 * i + 3)) o o2 w wr := (HFW.out.mono (fun t h => by rcases h with h | h; exact .inl h; exact .inr (.inl h))).trans (FF.out.mono (fun t h => by rcases h with h | h; exact .inl h; exact .inr (.inr h)))
      refine bodyPost_end (v := .tuple #[]) (by simp [results, Tryz.results105, go_sem]) rfl ⟨rfl, o2, ⟨_, _, HH.out.turn (i := i) (s' := s.grow i) (v1 := .slice a1' (n1 + q) b1') (v2 := .slice a2' m b2') hi rfl (TT.lab C hC) (fun j e => upd_other _ _ _ e) (fun j e => upd_other _ _ _ e) (fun j j1 j2 => ?_) (fun j => ?_) ?_ E2.out ?_ ?_ TT⟩, TT⟩
      · rw [EC.out j j2]; exact EO.out j j1 j2
      · rw [EFr.out j]; exact EF.out j
      · rw [EC.out _ (by omega)]; exact E1.out
      · show OwnK _ _ _ _ _ (upd s.ch i _ i).length (ckc (upd s.ch i _ i))
        rw [upd_same, List.length_append, List.length_replicate, HQ.out, HN1.out]
        exact OK1.out.fr FF.out (fun e => by rcases e with e | e <;> injection e with _ e <;> omega)
      · show OwnK _ _ _ _ _ (upd s.fr i _ i).length (frc (upd s.fr i _ i))
        rw [upd_same, HQ.out, HN1.out, ← HL0, ← HM.out]; exact OF.out
end Go.Proofs.YtfinaichajbnkaaGreatDoor
