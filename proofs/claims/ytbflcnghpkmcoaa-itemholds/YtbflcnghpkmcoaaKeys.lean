/-
  KEYS of a store.
-/
import Derived.Test.YtbflcnghpkmcoaaPutI
namespace Go.Proofs.Ytbflcnghpkmcoaa
open Go.RowKit

/-- make([]string, 0, n). -/
theorem make_strs (w : World) (o : Nat → Nat × Nat) (t : Nat × Nat) (n : Nat) (N : Int) (hN : N = (n : Int)) (hn : n ≤ 1000000) : ∃ ob, (Instr.makeSlice 26 (.int .i64 0) (.int .i64 N)).run Try.prog w = .ok (.slice (some ⟨w.heap.size, 0, none⟩) 0 n) (w.alloc ob) ∧
    OwnK (w.alloc ob) (lab o w.heap.size t) t 1 (.slice (some ⟨w.heap.size, 0, none⟩) 0 n) 0 [] := by
  subst hN
  obtain ⟨i0, hi, hz0, hz1, hz2⟩ := info_parts infoS
  have hr := run_make (P := Try.prog) w 26 9 i0 (.string ⟨#[]⟩) underS hi hz0 .i64 .i64 0 (n : Int) (by omega) (by omega) (by rw [hz2]; omega) (by omega)
  simp only [Int.toNat_natCast] at hr
  refine ⟨_, hr, by simp, (fun _ h => by cases h), .inr ⟨_, n, rfl, lab_same _ _ _, by simp, by omega, by unfold maxLen; omega, fun j u hu => by simp at hu, fun j hj => ⟨?_, World.frozen?_alloc_new _ _ _ _⟩⟩⟩
  rw [World.cell?_alloc_new, hz1]
  have hj : j < n := by omega
  simp [madeCells, hj, Value.cells, Nat.mod_one]
/-- Where only what is new turns. -/
theorem Fr.only {t s : Nat × Nat} {o1 : Nat → Nat × Nat} {w w' : World} (f : Fr (· = t) (fun _ => s) o1 w w') (hs : s ≠ t) : Below w.heap.size w w' :=
  ⟨f.os, f.tape, f.output, f.size, fun b hb => f.block b hb hs⟩
def KeysP (w : World) (o : Nat → Nat × Nat) (X : Nat) (z : Sp) (e : Ending) (w' : World) : Prop :=
  ∃ V o', e = .returned V ∧ OwnK w' o' (7, 0) 1 V z.keys.length (strc z.keys) ∧ IsSt w' o' X z ∧ Fr (fun _ => False) o o' w w'
set_option maxRecDepth 100000 in
set_option maxHeartbeats 1000000 in
theorem keys_any (X : Nat) (z : Sp) (w : World) (o : Nat → Nat × Nat) (I : IsSt w o X z) :
    Calls Try.prog 11 #[.pointer (some ⟨X, 0, none⟩)] w fun e w' => KeysP w o X z e w' := by
  obtain ⟨h, I⟩ := I
  have HI : Hid (IsG w o X z h) := I
  have hfew := I.ok.few
  have n1 := I.mem.n1
  have n0 := I.mem.n0
  have HLN : Hid (h.L.length = z.l.length) := by show _ = _; rw [← I.ll, List.length_map]
  have HRG : Hid (Ring (h.nw 0) (h.od 0) 0 (h.L.map (·.1))) := I.rg.r0
  have HBD : Hid (∀ x ∈ h.L, 1 ≤ x.1 ∧ x.1 < h.N) := fun x hx => by have := I.pl.bdL hx; omega
  have HND : Hid ((h.L.map (·.1)).Nodup) := I.pl.ndL
  clear I
  go_enter Try.func11, Try.ntmps11
  go_wp2_with fail
  refine (slen_any X z _ o ⟨h, HI.out⟩).mono ?_
  rintro e w2 ⟨rfl, rfl⟩
  obtain ⟨ob, hmk, O0⟩ := make_strs w (fun _ => (0, 0)) (7, 0) z.l.length _ rfl (by omega)
  have F0 : Hid (Fr (· = (7, 0)) (fun _ => (0, 0)) (lab (fun _ => (0, 0)) w.heap.size (7, 0)) w (w.alloc ob)) := Fr.new _ _ w ob _
  have HO0 : Hid (OwnK (w.alloc ob) (lab (fun _ => (0, 0)) w.heap.size (7, 0)) (7, 0) 1 (.slice (some ⟨w.heap.size, 0, none⟩) 0 z.l.length) 0 (strc [])) := O0
  clear O0
  have HI1 : Hid (IsG (w.alloc ob) o X z h) := HI.out.below (F0.out.only (by decide))
  obtain ⟨w1, hw1⟩ : ∃ w1, w1 = w.alloc ob := ⟨_, rfl⟩
  obtain ⟨g0, hg0⟩ : ∃ g0, g0 = w.heap.size := ⟨_, rfl⟩
  rw [← hw1, ← hg0] at hmk
  rw [← hw1] at F0 HO0 HI1
  have HO1 : Hid (OwnK w1 (lab (fun _ => (0, 0)) w.heap.size (7, 0)) (7, 0) 1 (.slice (some ⟨g0, 0, none⟩) 0 z.l.length) 0 (strc [])) := by rw [hg0]; exact HO0.out
  clear HO0 hw1 hg0
  go_wp2_with fail
  refine (older_any (nw := h.nw) (od := h.od) 0 0 0 0 rfl rfl (by omega) (by omega) _ o HI1.out.mem HI1.out.lk).mono ?_
  rintro e w2 ⟨rfl, rfl⟩
  obtain ⟨a0, ha0⟩ : ∃ a0, a0 = h.od 0 0 := ⟨_, rfl⟩
  have HA0 : Hid (a0 = (h.L.map (·.1)).headD 0) := by show _ = _; rw [ha0]; exact HRG.out.first
  rw [← ha0]
  clear ha0
  go_wp2_with fail
  go_loopw [3, 4] (fun V y wr => ∃ (pre post : List PI) (q : Nat) (oL : Nat → Nat × Nat) (a : Option Addr) (c : Nat), V = .slice a pre.length c ∧ y = .int .i64 (q : Int) ∧ Hid (h.L = pre ++ post) ∧ Hid (q = (post.map (·.1)).headD 0) ∧ Hid (OwnK wr oL (7, 0) 1 (.slice a pre.length c) pre.length (strc (pre.map (·.2.key)))) ∧ Hid (Fr (· = (7, 0)) (fun _ => (0, 0)) oL w wr)) (fun _ y _ => (h.L.map (·.1)).length - (h.L.map (·.1)).idxOf (intOf y).toNat)
  case atStart => exact ⟨[], h.L, a0, _, _, _, rfl, rfl, rfl, HA0, HO1, F0⟩
  case round =>
    clear HA0 HO1 F0 HI1 hmk
    obtain ⟨pre, post, q, oL, a, c, rfl, rfl, HLP, HQ, HO, HF⟩ := hrel
    have HIr : Hid (IsG wr o X z h) := HI.out.below (HF.out.only (by decide))
    cases post with
    | nil =>
      have hq : q = 0 := HQ.out
      subst hq
      have HEQ : Hid (z.keys = pre.map (·.2.key)) := by
        show _ = _
        have := HLP.out
        rw [List.append_nil] at this
        unfold Sp.keys; rw [← HI.out.ll, this, List.map_map]; rfl
      rw [show ((0 : Nat) : Int) = 0 from rfl]
      go_wp2_with fail
      go_ret
      obtain ⟨q1, q2⟩ := HO.out.fresh HF.out (by decide) o
      exact ⟨_, _, rfl, by rw [HEQ.out, List.length_map]; exact q1, ⟨h, HI.out.fr q2 (fun _ _ x => x)⟩, q2⟩
    | cons x post =>
      have hxm : x ∈ h.L := by rw [HLP.out]; simp
      have hqx : q = x.1 := HQ.out
      have hb := HBD.out x hxm
      have hqe : ((q : Int) != 0) = true := by simp; omega
      have hqN : q < h.N := by omega
      have hq1 : (q : Int) < (h.N : Int) := by omega
      have c2 := HIr.out.mem.c2
      have d0 := (HIr.out.mem.at_ (q := q * 8) (by omega)).1
      have hcl := (HIr.out.it x hxm).1
      rw [← hqx] at hcl
      rw [hcl] at d0
      have hlen : pre.length < 720897 := by have := HLN.out; rw [HLP.out] at this; simp at this; omega
      obtain ⟨v3, w3, o3, hrun, O3, F3⟩ := app_one 26 9 (.string ⟨#[]⟩) 16 underS infoS (by kernel_rfl) HO.out [.string x.2.key] rfl (fun u hu => by simp at hu; rw [hu]; rfl) (by omega) (by omega)
      obtain ⟨a3, b3, rfl, _⟩ := O3.form
      have HO3 : Hid (OwnK w3 o3 (7, 0) 1 (.slice a3 (pre.length + 1) b3) (pre.length + 1) (strc ((pre ++ [x]).map (·.2.key)))) := by show OwnK _ _ _ _ _ _ _; rw [List.map_append, strc_append]; exact O3
      have HF3 : Hid (Fr (· = (7, 0)) (fun _ => (0, 0)) o3 w w3) := HF.out.trans F3
      have HIr3 : Hid (IsG w3 o X z h) := HI.out.below (HF3.out.only (by decide))
      have HQX : Hid (q = x.1) := hqx
      have hnx : Hid (h.od 0 q = (post.map (·.1)).headD 0) := by
        have r := HRG.out
        rw [HLP.out, List.map_append, List.map_cons] at r
        rw [HQX.out]; exact r.next
      have hmem : Hid ((h.L.map (·.1)).idxOf q = pre.length) := by
        show _ = _
        have nd := HND.out
        rw [HLP.out, List.map_append, List.map_cons] at nd
        have q1 := List.nodup_append.1 nd
        rw [HLP.out, List.map_append, List.map_cons, hqx, idxOf_mid (fun hm => q1.2.2 _ hm _ List.mem_cons_self rfl), List.length_map]
      clear O3 F3 hqx hcl HIr HF HO
      go_wp2_with (at_builtin; refine wpList_append_run rfl (.tmp 15) (.tmp 24) 26 26 rfl _ _ _ rfl rfl hrun ?_)
      refine (older_any (nw := h.nw) (od := h.od) 0 q 0 _ rfl rfl (by omega) hqN _ o HIr3.out.mem HIr3.out.lk).mono ?_
      rintro e w4 ⟨rfl, rfl⟩
      obtain ⟨q', hq'⟩ : ∃ q', q' = h.od 0 q := ⟨_, rfl⟩
      have HQ' : Hid (q' = (post.map (·.1)).headD 0) := by rw [hq']; exact hnx.out
      rw [← hq']
      clear hq' hnx hrun
      go_wp2_with fail
      refine ⟨⟨pre ++ [x], post, q', o3, a3, b3, by simp, rfl, by show _ = _; rw [HLP.out]; simp, HQ', ?_, HF3⟩, ?_⟩
      · show OwnK _ _ _ _ _ _ _
        rw [List.length_append]; exact HO3.out
      · show (h.L.map (·.1)).length - (h.L.map (·.1)).idxOf (intOf (.int .i64 (q' : Int))).toNat < (h.L.map (·.1)).length - (h.L.map (·.1)).idxOf (intOf (.int .i64 (q : Int))).toNat
        simp only [intOf, Int.toNat_natCast]
        rw [hmem.out]
        have hl : pre.length < (h.L.map (·.1)).length := by rw [HLP.out]; simp
        have : pre.length < (h.L.map (·.1)).idxOf q' := by
          cases post with
          | nil =>
            have hq0 : q' = 0 := HQ'.out
            have : q' ∉ h.L.map (·.1) := fun hm => by
              obtain ⟨y, hy, ey⟩ := List.mem_map.1 hm
              have := HBD.out y hy
              omega
            rw [List.idxOf_eq_length this]; exact hl
          | cons y post =>
            have hqy : q' = y.1 := HQ'.out
            have e3 : h.L.map (·.1) = (pre ++ [x]).map (·.1) ++ y.1 :: post.map (·.1) := by rw [HLP.out]; simp
            have nd := HND.out
            rw [e3] at nd ⊢
            have q1 := List.nodup_append.1 nd
            rw [hqy, idxOf_mid (fun hm => q1.2.2 _ hm _ List.mem_cons_self rfl)]
            simp
        omega
end Go.Proofs.Ytbflcnghpkmcoaa
