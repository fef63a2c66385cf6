/-
  PIN and OLDEST of a store.
-/
import Derived.Test.YtbflcnghpkmcoaaRem
import Derived.WalkMore
namespace Go.Proofs.Ytbflcnghpkmcoaa
open Go.RowKit

def pinL (L : List PI) (key : ByteArray) (b : Bool) : List PI := L.map fun x => (x.1, x.2.pinned key b)
theorem pinL_pl (L : List PI) (key : ByteArray) (b : Bool) : (pinL L key b).map (·.1) = L.map (·.1) := by unfold pinL; rw [List.map_map]; rfl
theorem pinL_it (L : List PI) (key : ByteArray) (b : Bool) : (pinL L key b).map (·.2) = (L.map (·.2)).map fun i => i.pinned key b := by unfold pinL; rw [List.map_map, List.map_map]; rfl
theorem pinL_ofc (L : List PI) (key : ByteArray) (b : Bool) (c : Nat) : ofc c (pinL L key b) = pinL (ofc c L) key b := by
  unfold ofc pinL
  rw [List.filter_map]
  congr 1
  apply List.filter_congr
  intro x _
  simp [It.pinned_c]
theorem Rings.pin {n : Nat} {nw od : Nat → Nat → Nat} {L : List PI} (h : Rings n nw od L) (key : ByteArray) (b : Bool) : Rings n nw od (pinL L key b) :=
  ⟨by rw [pinL_pl]; exact h.r0, fun c hc => by rw [pinL_ofc, pinL_pl]; exact h.r1 c hc⟩
theorem pin_none {l : List It} {key : ByteArray} (b : Bool) (h : ∀ i ∈ l, i.key ≠ key) : (l.map fun i => i.pinned key b) = l := by
  refine (List.map_congr_left (g := id) fun i hi => ?_).trans (List.map_id l)
  unfold It.pinned; rw [if_neg (h i hi)]; rfl
set_option maxHeartbeats 1000000 in
theorem spin_any (X : Nat) (z : Sp) (key : ByteArray) (b : Bool) (hk : key.size ≤ 140737488355328) (w : World) (o : Nat → Nat × Nat) (I : IsSt w o X z) :
    Calls Try.prog 12 #[.pointer (some ⟨X, 0, none⟩), .string key, .bool b] w fun e w' => e = .returned (.bool (fnd z.l key).isSome) ∧ IsSt w' o X (z.pin key b) ∧ Fr TS o o w w' := by
  obtain ⟨h, I⟩ := I
  have c1 := I.mem.c1
  have HI : Hid (IsG w o X z h) := I
  clear I
  go_enter Try.func12, Try.ntmps12
  go_wp2_with fail
  refine (get_any 3 h.C h.a key hk _ o HI.out.chn).mono ?_
  rintro e w2 ⟨rfl, B2⟩
  have I2 : Hid (IsG w2 o X z h) := HI.out.below B2
  have HB : Hid (Fr TS o o w w2) := Fr.ofBelow _ o B2
  clear B2
  cases hf : fnd z.l key with
  | none =>
    have HT : Hid (z.pin key b = z) := by show _ = _; unfold Sp.pin; rw [pin_none b (fnd_none hf)]
    rw [HI.out.place.2 hf]
    have HN : Hid (fnd z.l key = none) := hf
    clear hf
    go_wp2_with fail
    go_ret
    exact ⟨by rw [HN.out]; rfl, by rw [HT.out]; exact ⟨h, I2.out⟩, HB.out⟩
  | some i =>
    obtain ⟨x, hx, hxi, hF⟩ := HI.out.place.1 i hf
    have hik := (fnd_some hf).2
    obtain ⟨p, i'⟩ := x
    simp only at hxi hF
    subst hxi
    rw [hF]
    have hb := HI.out.pl.bdL hx
    simp only at hb
    have hp1 : (p : Int) < (h.N : Int) := by omega
    have n1 := I2.out.mem.n1
    have c2 := I2.out.mem.c2
    obtain ⟨d3, y3⟩ := I2.out.mem.at_ (q := p * 8 + 3) (by omega)
    rw [(I2.out.it _ hx).2.2.2] at d3
    have M3 := I2.out.mem.set (p * 8 + 3) (.bool b) rfl (by omega)
    have oG := I2.out.mem.oG.1
    have F3 : Fr (fun t => t = (1, 1)) o o w2 (w2.setCell ⟨h.G, p * 8 + 3, none⟩ (.bool b)) := Fr.set (a := ⟨h.G, p * 8 + 3, none⟩) oG _
    have okP := HI.out.ok.pin key b
    have I3 : Hid (IsG (w2.setCell ⟨h.G, p * 8 + 3, none⟩ (.bool b)) o X (z.pin key b) { h with g := upd h.g (p * 8 + 3) (.bool b), L := pinL h.L key b }) := by
      have hup : ∀ q, q ≠ p * 8 + 3 → upd h.g (p * 8 + 3) (.bool b) q = h.g q := fun q hq => upd_other _ _ _ hq
      refine ⟨M3, I2.out.spr.fr F3 (by decide), I2.out.slab.fr F3 (fun _ e => by cases e), I2.out.chn.fr F3 (fun _ e => by cases e), ⟨fun q r hq hr => (hup _ (by omega)).trans (I2.out.lk.rn q r hq hr), fun q r hq hr => (hup _ (by omega)).trans (I2.out.lk.ro q r hq hr), I2.out.lk.bn, I2.out.lk.bo⟩, fun y hy => ?_, I2.out.rg.pin key b, ⟨by rw [pinL_pl]; exact I2.out.pl.nd, by rw [pinL_pl]; exact I2.out.pl.bd, by show _ = z.s.n + 1 + ((pinL h.L key b).length + _); unfold pinL; rw [List.length_map]; exact I2.out.pl.nn⟩, ⟨fun k v => (I2.out.mp.ff k v).trans ⟨fun ⟨y, hy, hk, hv⟩ => ⟨(y.1, y.2.pinned key b), List.mem_map_of_mem hy, by show (y.2.pinned key b).key = k; rw [It.pinned_key]; exact hk, hv⟩, fun ⟨y, hy, hk, hv⟩ => ?_⟩, by show _ = (((pinL h.L key b).length : Nat) : Int); unfold pinL; rw [List.length_map]; exact I2.out.mp.ks⟩, by rw [pinL_it, I2.out.ll]; rfl, okP⟩
      · obtain ⟨y', hy', rfl⟩ := List.mem_map.1 hy
        have cy := I2.out.it y' hy'
        by_cases e : y'.2.key = key
        · have ey : y' = (p, i') := by
            refine pl_inj I2.out.pl.ndL hy' hx ?_
            have q1 := (I2.out.mp.ff key (y'.1 : Int)).2 ⟨y', hy', e, rfl⟩
            rw [hF] at q1
            injection q1 with q1
            show y'.1 = p
            omega
          subst ey
          show CellsOf (upd h.g (p * 8 + 3) (.bool b)) p (i'.pinned key b)
          have cy : CellsOf h.g p i' := cy
          refine ⟨by rw [hup _ (by omega), It.pinned_key]; exact cy.1, by rw [hup _ (by omega), It.pinned_c]; exact cy.2.1, by rw [hup _ (by omega), It.pinned_k]; exact cy.2.2.1, ?_⟩
          show upd h.g (p * 8 + 3) (.bool b) (p * 8 + 3) = .bool (i'.pinned key b).pin
          rw [upd_same]
          unfold It.pinned; rw [if_pos e]
        · have ne : y'.1 ≠ p := fun ep => e (by
            have : y' = (p, i') := pl_inj I2.out.pl.ndL hy' hx ep
            rw [this]; exact hik)
          have e2 : y'.2.pinned key b = y'.2 := by unfold It.pinned; rw [if_neg e]
          show CellsOf _ y'.1 (y'.2.pinned key b)
          rw [e2]
          exact ⟨(hup _ (by omega)).trans cy.1, (hup _ (by omega)).trans cy.2.1, (hup _ (by omega)).trans cy.2.2.1, (hup _ (by omega)).trans cy.2.2.2⟩
      · obtain ⟨y', hy', rfl⟩ := List.mem_map.1 hy
        exact ⟨y', hy', by have hk : (y'.2.pinned key b).key = k := hk; rw [It.pinned_key] at hk; exact hk, hv⟩
    have HF3 : Hid (Fr TS o o w (w2.setCell ⟨h.G, p * 8 + 3, none⟩ (.bool b))) := HB.out.trans (F3.mono (fun t e => by rw [e]; exact TS.mk1 1))
    have HN : Hid (fnd z.l key = some i') := hf
    clear hf hx hF M3 F3 okP oG hik
    go_wp2_with fail
    go_ret
    exact ⟨by rw [HN.out]; rfl, ⟨_, I3.out⟩, HF3.out⟩
/-- The place of the one that goes, or none. -/
def vicP (L : List PI) (c : Nat) : Option PI := ((ofc c L).filter fun x => !x.2.pin).getLast?
def vicN : Option PI → Int
  | none => -1
  | some x => ((x.1 : Nat) : Int)
/-- How many are behind a place in a row of places. -/
def upto (l : List Nat) (n : Nat) : Nat := if n ∈ l then l.idxOf n + 1 else 0
theorem idxOf_mid : ∀ {pre post : List Nat} {a : Nat}, a ∉ pre → (pre ++ a :: post).idxOf a = pre.length
  | [], _, a, _ => by simp
  | b :: pre, post, a, h => by
    have hb : b ≠ a := fun e => h (by simp [e])
    rw [List.cons_append, List.idxOf_cons, beq_eq_false_iff_ne.2 hb, idxOf_mid (fun hm => h (List.mem_cons_of_mem _ hm)), List.length_cons]; rfl
set_option maxHeartbeats 1000000 in
theorem oldest_any (X : Nat) (z : Sp) (h : Gh) (c : Nat) (K : Int) (hK : K = (c : Int)) (hc : c < z.s.n) (w : World) (o : Nat → Nat × Nat) (I : IsG w o X z h) :
    Calls Try.prog 51 #[.pointer (some ⟨X, 0, none⟩), .int .i64 K] w fun e w' => e = .returned (.int .i64 (vicN (vicP h.L c))) ∧ w = w' := by
  subst hK
  have HI : Hid (IsG w o X z h) := I
  have hn2 := I.ok.ok.n2
  have n1 := I.mem.n1
  have nn := I.pl.nn
  clear I
  have hring := HI.out.rg.r1 c hc
  obtain ⟨l, hl⟩ : ∃ l, l = ofc c h.L := ⟨_, rfl⟩
  have HL : Hid (l = ofc c h.L) := hl
  have HRG : Hid (Ring (h.nw 1) (h.od 1) (c + 1) (l.map (·.1))) := by rw [hl]; exact hring
  have HBD : Hid (∀ x ∈ l, z.s.n + 1 ≤ x.1 ∧ x.1 < h.N) := fun x hx => HI.out.pl.bdL (mem_ofc.1 (by rw [← hl]; exact hx)).1
  have HND : Hid ((l.map (·.1)).Nodup) := by rw [hl]; exact HI.out.pl.ndL.sublist (sub_ofc _ _)
  have HIT : Hid (∀ x ∈ l, CellsOf h.g x.1 x.2) := fun x hx => HI.out.it x (mem_ofc.1 (by rw [← hl]; exact hx)).1
  have HV : Hid (vicP h.L c = (l.filter fun x => !x.2.pin).getLast?) := by rw [hl]; rfl
  clear hl hring
  obtain ⟨E, hE⟩ : ∃ E : Int, E = (c : Int) + 1 := ⟨_, rfl⟩
  go_enter Try.func51, Try.ntmps51
  go_wp2_with fail
  go_step3
  go_wp2_with fail
  refine (endOf_any (c : Int) (by omega) (by omega) _).mono ?_
  rintro e w2 ⟨rfl, rfl⟩
  rw [← hE]
  have HEE : Hid (E = (c : Int) + 1) := hE
  clear hE
  go_wp2_with fail
  go_step3
  go_wp2_with fail
  refine (newer_any (nw := h.nw) (od := h.od) 1 (c + 1) 1 E rfl HEE.out (by omega) (by omega) _ o HI.out.mem HI.out.lk).mono ?_
  rintro e w2 ⟨rfl, rfl⟩
  have hlast : h.nw 1 (c + 1) = (l.map (·.1)).getLastD (c + 1) := HRG.out.last
  have HLA : Hid (h.nw 1 (c + 1) = (l.map (·.1)).getLastD (c + 1)) := hlast
  clear hlast
  go_wp2_with fail
  go_loopw [5, 7] (fun f y wr => ∃ (pre post : List PI) (q : Nat), f = .int .i64 (-1) ∧ y = .int .i64 (q : Int) ∧ Hid (l = pre ++ post) ∧ Hid (∀ x ∈ post, x.2.pin = true) ∧ Hid (q = (pre.map (·.1)).getLastD (c + 1)) ∧ w = wr) (fun _ y _ => upto (l.map (·.1)) (intOf y).toNat)
  case atStart => exact ⟨l, [], _, rfl, rfl, by show l = l ++ []; simp, (fun x hx => by cases hx), HLA, rfl⟩
  case round =>
    clear HLA
    obtain ⟨pre, post, q, rfl, rfl, HLP, HPP, HQ, rfl⟩ := hrel
    rcases List.eq_nil_or_concat pre with rfl | ⟨pre', x, rfl⟩
    · have hq : q = c + 1 := HQ.out
      have hqe : ((q : Int) != E) = false := by have := HEE.out; simp; omega
      have HQE : Hid (q = c + 1) := hq
      clear hq
      have HE : Hid (vicP h.L c = none) := by
        show _ = _
        rw [HV.out, HLP.out, List.nil_append, List.filter_eq_nil_iff.2 (fun x hx => by rw [HPP.out x hx]; simp)]; rfl
      go_wp2_with fail
      simp only [Exit.noGoto_ret]
      go_ret
      exact ⟨by rw [HE.out]; rfl, rfl⟩
    · simp only [List.concat_eq_append] at HLP HQ
      have hlx : l = pre' ++ x :: post := by rw [HLP.out, List.append_assoc]; rfl
      have HLX : Hid (l = pre' ++ x :: post) := hlx
      have hxl : x ∈ l := by rw [hlx]; simp
      have hqx : q = x.1 := by rw [HQ.out]; simp
      have hbd := HBD.out x hxl
      have hqe : ((q : Int) != E) = true := by have := HEE.out; simp; omega
      have c2 := HI.out.mem.c2
      have d3 := (HI.out.mem.at_ (q := q * 8 + 3) (by omega)).1
      have hq1 : (q : Int) < (h.N : Int) := by omega
      have hqN : q < h.N := by omega
      have hcl := (HIT.out x hxl).2.2.2
      rw [← hqx] at hcl
      rw [hcl] at d3
      have HQX : Hid (q = x.1) := hqx
      have hmem : Hid (upto (l.map (·.1)) q = pre'.length + 1) := by
        show _ = _
        have nd := HND.out
        rw [hlx, List.map_append, List.map_cons] at nd
        have q1 := List.nodup_append.1 nd
        unfold upto
        rw [hlx, List.map_append, List.map_cons, hqx, if_pos (by simp), idxOf_mid (fun hm => q1.2.2 _ hm _ List.mem_cons_self rfl), List.length_map]
      clear hlx hcl hqx hbd
      by_cases hpin : x.2.pin = true
      · rw [hpin] at d3
        have hprev : Hid (h.nw 1 q = (pre'.map (·.1)).getLastD (c + 1)) := by
          have r := HRG.out
          rw [HLX.out, List.map_append, List.map_cons] at r
          rw [HQX.out]; exact r.prev
        go_wp2_with fail
        refine (newer_any (nw := h.nw) (od := h.od) 1 q 1 _ rfl rfl (by omega) hqN _ o HI.out.mem HI.out.lk).mono ?_
        rintro e w2 ⟨rfl, rfl⟩
        obtain ⟨q', hq'⟩ : ∃ q', q' = h.nw 1 q := ⟨_, rfl⟩
        have HQ' : Hid (q' = (pre'.map (·.1)).getLastD (c + 1)) := by rw [hq']; exact hprev.out
        rw [← hq']
        clear hq'
        go_wp2_with fail
        refine ⟨⟨pre', x :: post, q', rfl, rfl, HLX, fun y hy => ?_, HQ', trivial⟩, ?_⟩
        · rcases List.mem_cons.1 hy with rfl | hy
          · exact hpin
          · exact HPP.out y hy
        · show upto (l.map (·.1)) (intOf (.int .i64 (q' : Int))).toNat < upto (l.map (·.1)) (intOf (.int .i64 (q : Int))).toNat
          simp only [intOf, Int.toNat_natCast]
          rw [hmem.out]
          rcases List.eq_nil_or_concat pre' with rfl | ⟨p2, x2, rfl⟩
          · have : q' = c + 1 := HQ'.out
            unfold upto
            rw [if_neg (fun hm => ?_)]
            · omega
            · obtain ⟨y, hy, ey⟩ := List.mem_map.1 hm
              have := HBD.out y hy
              omega
          · simp only [List.concat_eq_append] at HLX HQ' ⊢
            have hq2 : q' = x2.1 := by rw [HQ'.out]; simp
            have nd := HND.out
            have e3 : l.map (·.1) = p2.map (·.1) ++ x2.1 :: (x :: post).map (·.1) := by rw [HLX.out]; simp
            rw [e3] at nd ⊢
            have q1 := List.nodup_append.1 nd
            unfold upto
            rw [hq2, if_pos (by simp), idxOf_mid (fun hm => q1.2.2 _ hm _ List.mem_cons_self rfl), List.length_map]
            simp
      · have hpf : x.2.pin = false := by simpa using hpin
        rw [hpf] at d3
        have HE : Hid (vicP h.L c = some x) := by
          show _ = _
          rw [HV.out, HLX.out, List.filter_append, List.filter_cons_of_pos (by rw [hpf]; rfl), show (post.filter fun x => !x.2.pin) = [] from List.filter_eq_nil_iff.2 (fun y hy => by rw [HPP.out y hy]; simp)]
          simp
        clear hpf hpin
        go_wp2_with fail
        simp only [Exit.noGoto_ret]
        go_ret
        exact ⟨by rw [HE.out, HQX.out]; rfl, rfl⟩
end Go.Proofs.Ytbflcnghpkmcoaa
