/-
  LEN, PAGES, DATA, PEEK of a store.
-/
import Derived.Test.YtbflcnghpkmcoaaInv
namespace Go.Proofs.Ytbflcnghpkmcoaa
open Go.RowKit

theorem slen_any (X : Nat) (z : Sp) (w : World) (o : Nat → Nat × Nat) (h : IsSt w o X z) :
    Calls Try.prog 25 #[.pointer (some ⟨X, 0, none⟩)] w fun e w' => e = .returned (.int .i64 ((z.l.length : Nat) : Int)) ∧ w = w' := by
  obtain ⟨h, I⟩ := h
  have c1 := I.mem.c1
  have HC : Hid (IsChain w o 3 h.C h.a) := I.chn
  have HL : Hid (h.a.keys = ((z.l.length : Nat) : Int)) := by show _ = _; rw [← I.ll, List.length_map]; exact I.mp.ks
  clear I
  go_enter Try.func25, Try.ntmps25
  go_wp2_with fail
  refine (len_any 3 h.C h.a _ o HC.out).mono ?_
  rintro e w2 ⟨rfl, rfl⟩
  rw [HL.out]
  go_wp2_with fail
  go_ret
  exact ⟨rfl, rfl⟩
theorem spages_any (X : Nat) (z : Sp) (w : World) (o : Nat → Nat × Nat) (h : IsSt w o X z) :
    Calls Try.prog 23 #[.pointer (some ⟨X, 0, none⟩)] w fun e w' => e = .returned (.tuple #[.int .i64 (((z.s.pages - z.s.left : Nat)) : Int), .int .i64 ((z.s.left : Nat) : Int)]) ∧ Below w.heap.size w w' := by
  obtain ⟨h, I⟩ := h
  have c0 := I.mem.c0
  have HC : Hid (IsSlab w o 2 h.S z.s) := I.slab
  clear I
  go_enter Try.func23, Try.ntmps23
  go_wp2_with fail
  refine (pages_any 2 h.S z.s _ o HC.out).mono ?_
  rintro e w2 ⟨rfl, B2⟩
  go_wp2_with fail
  go_ret2
  exact ⟨rfl, B2⟩
theorem ba_back (a b : ByteArray) : (a ++ b).extract a.size (a ++ b).size = b := by
  rw [ByteArray.size_append]
  exact ByteArray.extract_append_eq_right rfl rfl
set_option maxHeartbeats 1000000 in
theorem data_any (X : Nat) (z : Sp) (h : Gh) (x : PI) (P : Int) (hP : P = ((x.1 : Nat) : Int)) (hx : x ∈ h.L) (w : World) (o : Nat → Nat × Nat) (I : IsG w o X z h) :
    Calls Try.prog 39 #[.pointer (some ⟨X, 0, none⟩), .int .i64 P] w fun e w' => e = .returned (.string x.2.d) ∧ Below w.heap.size w w' := by
  obtain ⟨p, i⟩ := x
  subst hP
  have hb := I.pl.bdL hx
  have n1 := I.mem.n1
  obtain ⟨k0, k1, k2, k3⟩ := I.it _ hx
  obtain ⟨hz, hc⟩ := I.cl hx
  have hlv := I.ok.live _ hz
  have hfit := I.ok.fit _ hz
  have c0 := I.mem.c0
  have c2 := I.mem.c2
  have d0 := (I.mem.at_ (q := p * 8) (by have := hb.2; simp at this; omega)).1
  have d1 := (I.mem.at_ (q := p * 8 + 1) (by have := hb.2; simp at this; omega)).1
  have d2 := (I.mem.at_ (q := p * 8 + 2) (by have := hb.2; simp at this; omega)).1
  simp only at k0 k1 k2 k3 hz hc hlv hb hfit
  rw [k0] at d0
  rw [k1] at d1
  rw [k2] at d2
  have HS : Hid (IsSlab w o 2 h.S z.s) := I.slab
  have hr : z.s.rd i.c i.k = i.key ++ i.d := by unfold St.rd; rw [if_pos (St.has_mk hlv.1 hlv.2).1]; exact (St.has_mk hlv.1 hlv.2).2
  have hh : z.s.has i.c i.k = true := (St.has_mk hlv.1 hlv.2).1
  have HR : Hid (z.s.rd i.c i.k = i.key ++ i.d ∧ z.s.has i.c i.k = true) := ⟨hr, hh⟩
  have hp1 : (p : Int) < (h.N : Int) := by omega
  have HD : Hid (w.cell? ⟨X, 2, none⟩ = some (.slice (some ⟨h.G, 0, none⟩) h.N h.cap) ∧ w.cell? ⟨h.G, p * 8, none⟩ = some (.string i.key)) := ⟨c2, d0⟩
  clear I k0 k1 k2 k3 hlv hr hh hx d0
  go_enter Try.func39, Try.ntmps39
  go_wp2_with fail
  go_region_held3 (fun w' => w'.cell? ⟨X, 0, none⟩ = some (.pointer (some ⟨h.S, 0, none⟩)) ∧ w'.cell? ⟨X, 2, none⟩ = some (.slice (some ⟨h.G, 0, none⟩) h.N h.cap) ∧ w'.cell? ⟨h.G, p * 8 + 1, none⟩ = some (.int .i64 ((i.c : Nat) : Int)) ∧ w'.cell? ⟨h.G, p * 8 + 2, none⟩ = some (.int .i64 ((i.k : Nat) : Int))) (first | exact ⟨c0, c2, d1, d2⟩ | exact D3)
    ((go_at_call 56; refine (read_any 2 h.S z.s i.c i.k w.drew o (HS.out.fr (Fr.drew1 (fun _ => False) o w) (fun _ x => x))).mono ?_; rintro e w3 ⟨rfl, B3⟩; have D3 : w3.cell? ⟨X, 0, none⟩ = some (.pointer (some ⟨h.S, 0, none⟩)) ∧ w3.cell? ⟨X, 2, none⟩ = some (.slice (some ⟨h.G, 0, none⟩) h.N h.cap) ∧ w3.cell? ⟨h.G, p * 8 + 1, none⟩ = some (.int .i64 ((i.c : Nat) : Int)) ∧ w3.cell? ⟨h.G, p * 8 + 2, none⟩ = some (.int .i64 ((i.k : Nat) : Int)) := ⟨cell_up B3 c0, cell_up B3 c2, cell_up B3 d1, cell_up B3 d2⟩))
  have BB : Hid (Below w.heap.size w w3) := ((Below.refl _ _).trans (below_drewN (Below.refl _ _) 1)).trans B3
  have c2' := D3.2.1
  have d0' : w3.cell? ⟨h.G, p * 8, none⟩ = some (.string i.key) := cell_up B3 HD.out.2
  rw [HR.out.1, HR.out.2]
  obtain ⟨t, ht⟩ : ∃ t, t = i.key ++ i.d := ⟨_, rfl⟩
  have hd : t.extract i.key.size t.size = i.d := by rw [ht]; exact ba_back _ _
  have hsz : (i.key.size : Int) ≤ (t.size : Int) := by rw [ht, ba_size]; omega
  have hsz2 : i.key.size ≤ t.size := by omega
  have hsz3 : t.size ≤ 65536 := by rw [ht]; exact hfit
  rw [← ht]
  clear ht D3 c0 c2 d1 d2 B3 HD HR HS hfit
  go_wp2_with fail
  go_ret
  exact ⟨rfl, BB.out⟩
/-- What is told of an item that may be there. -/
def tel : Option It → ByteArray
  | none => ⟨#[]⟩
  | some i => i.d
set_option maxHeartbeats 1000000 in
theorem peek_any (X : Nat) (z : Sp) (key : ByteArray) (hk : key.size ≤ 140737488355328) (w : World) (o : Nat → Nat × Nat) (I : IsSt w o X z) :
    Calls Try.prog 19 #[.pointer (some ⟨X, 0, none⟩), .string key] w fun e w' => e = .returned (.tuple #[.string (tel (fnd z.l key)), .bool (fnd z.l key).isSome]) ∧ Below w.heap.size w w' := by
  obtain ⟨h, I⟩ := I
  have c1 := I.mem.c1
  have HI : Hid (IsG w o X z h) := I
  clear I
  go_enter Try.func19, Try.ntmps19
  go_wp2_with fail
  refine (get_any 3 h.C h.a key hk _ o HI.out.chn).mono ?_
  rintro e w2 ⟨rfl, B2⟩
  have I2 : Hid (IsG w2 o X z h) := HI.out.below B2
  have HB : Hid (Below w.heap.size w w2) := B2
  clear B2
  cases hf : fnd z.l key with
  | none =>
    rw [HI.out.place.2 hf]
    have HN : Hid (fnd z.l key = none) := hf
    clear hf
    go_wp2_with fail
    go_ret2
    exact ⟨by rw [HN.out]; rfl, HB.out⟩
  | some i =>
    obtain ⟨x, hx, hxi, hF⟩ := HI.out.place.1 i hf
    rw [hF]
    have HX : Hid (x ∈ h.L ∧ x.2 = i) := ⟨hx, hxi⟩
    have HN : Hid (fnd z.l key = some i) := hf
    clear hf hx hxi hF
    go_wp2_with fail
    refine (data_any X z h x _ rfl HX.out.1 _ o I2.out).mono ?_
    rintro e w3 ⟨rfl, B3⟩
    have HB3 : Hid (Below w.heap.size w w3) := HB.out.trans (B3.mono HB.out.size)
    rw [HX.out.2]
    clear B3
    go_wp2_with fail
    go_ret2
    exact ⟨by rw [HN.out]; rfl, HB3.out⟩
/-- The same items in another order. -/
theorem Plc.perm {n N : Nat} {L L' : List PI} {sp : List Nat} (h : Plc n N L sp) (e : L'.Perm L) : Plc n N L' sp :=
  ⟨((e.map (·.1)).append_right sp).nodup_iff.2 h.nd, fun p hp => h.bd p (((e.map (·.1)).append_right sp).mem_iff.1 hp), by rw [e.length_eq]; exact h.nn⟩
theorem MapOf.perm {a : A} {L L' : List PI} (h : MapOf a L) (e : L'.Perm L) : MapOf a L' :=
  ⟨fun k v => (h.ff k v).trans ⟨fun ⟨x, hx, r⟩ => ⟨x, e.mem_iff.2 hx, r⟩, fun ⟨x, hx, r⟩ => ⟨x, e.mem_iff.1 hx, r⟩⟩, by rw [e.length_eq]; exact h.ks⟩
theorem IsG.ndL {w : World} {o : Nat → Nat × Nat} {X : Nat} {z : Sp} {h : Gh} (I : IsG w o X z h) {pre post : List PI} {x : PI} (e : h.L = pre ++ x :: post) : but z.l x.2.key = (pre ++ post).map (·.2) := by
  have h1 := I.ok.ndk
  have h2 := I.ll
  rw [e, List.map_append, List.map_cons] at h2
  rw [← h2] at h1 ⊢
  rw [but_split h1, List.map_append]
theorem fnd_of {w : World} {o : Nat → Nat × Nat} {X : Nat} {z : Sp} {h : Gh} (I : IsG w o X z h) {x : PI} (hx : x ∈ h.L) : fnd z.l x.2.key = some x.2 := fnd_mk I.ok.ndk (by rw [← I.ll]; exact List.mem_map_of_mem hx)
set_option maxHeartbeats 1000000 in
theorem sget_any (X : Nat) (z : Sp) (key : ByteArray) (hk : key.size ≤ 140737488355328) (w : World) (o : Nat → Nat × Nat) (I : IsSt w o X z) :
    Calls Try.prog 10 #[.pointer (some ⟨X, 0, none⟩), .string key] w fun e w' => e = .returned (.tuple #[.string (tel (fnd z.l key)), .bool (fnd z.l key).isSome]) ∧ IsSt w' o X (z.touch key) ∧ Fr TS o o w w' := by
  obtain ⟨h, I⟩ := I
  have c1 := I.mem.c1
  have HI : Hid (IsG w o X z h) := I
  clear I
  go_enter Try.func10, Try.ntmps10
  go_wp2_with fail
  refine (get_any 3 h.C h.a key hk _ o HI.out.chn).mono ?_
  rintro e w2 ⟨rfl, B2⟩
  have I2 : Hid (IsG w2 o X z h) := HI.out.below B2
  have HB : Hid (Fr TS o o w w2) := Fr.ofBelow _ o B2
  clear B2
  cases hf : fnd z.l key with
  | none =>
    have HT : Hid (z.touch key = z) := by show _ = _; unfold Sp.touch; rw [hf]
    rw [HI.out.place.2 hf]
    have HN : Hid (fnd z.l key = none) := hf
    clear hf
    go_wp2_with fail
    go_ret2
    exact ⟨by rw [HN.out]; rfl, by rw [HT.out]; exact ⟨h, I2.out⟩, HB.out⟩
  | some i =>
    obtain ⟨x, hx, hxi, hF⟩ := HI.out.place.1 i hf
    obtain ⟨pre, post, hL⟩ := List.append_of_mem hx
    have hik := (fnd_some hf).2
    have HT : Hid (z.touch key = ⟨z.s, i :: (pre ++ post).map (·.2)⟩) := by
      show _ = _
      unfold Sp.touch; rw [hf]
      simp only
      rw [← HI.out.ndL hL, hxi, hik]
    rw [hF]
    have HX : Hid (x ∈ h.L ∧ x.2 = i ∧ h.L = pre ++ x :: post) := ⟨hx, hxi, hL⟩
    have hbx := HI.out.pl.bdL hx
    have HN : Hid (fnd z.l key = some i) := hf
    clear hf hx hxi hF hL hik
    go_wp2_with fail
    refine (leave_any (nw := h.nw) (od := h.od) x.1 _ rfl hbx.2 _ o I2.out.mem I2.out.lk).mono ?_
    rintro e w3 ⟨rfl, g3, M3, K3, P3, F3⟩
    have HM3 : Hid (MemS w3 o X h.S h.C h.G h.N h.cap g3 h.sv ∧ Links h.N g3 (lvn h.nw h.od x.1 2) (lvo h.nw h.od x.1 2) ∧ Keep h.g g3 ∧ Fr (fun t => t = (1, 1)) o o w2 w3) := ⟨M3, K3, P3, F3⟩
    have hg3 : Hid (g3 (x.1 * 8 + 1) = .int .i64 ((x.2.c : Nat) : Int)) := ((HI.out.it _ HX.out.1).keep P3).2.1
    have hcc : Hid (x.2.c + 1 < h.N) := by show _ < _; have := (HI.out.cl HX.out.1).2; have := HI.out.pl.nn; have := hbx; omega
    clear M3 K3 P3 F3
    go_wp2_with fail
    refine (lead_any (nw := lvn h.nw h.od x.1 2) (od := lvo h.nw h.od x.1 2) x.2.c x.1 _ rfl hbx.2 hcc.out hg3.out _ o HM3.out.1 HM3.out.2.1).mono ?_
    rintro e w4 ⟨rfl, g4, M4, K4, P4, F4⟩
    have F24 : Fr (fun t => t = (1, 1)) o o w2 w4 := HM3.out.2.2.2.trans F4
    have nd := HI.out.pl.ndL
    rw [HX.out.2.2] at nd
    have bd : ∀ y ∈ pre ++ x :: post, z.s.n + 1 ≤ y.1 := fun y hy => (HI.out.pl.bdL (by rw [HX.out.2.2]; exact hy)).1
    have pm : (x :: (pre ++ post)).Perm (pre ++ x :: post) := List.perm_middle.symm
    have pm' : (x :: (pre ++ post)).Perm h.L := by rw [HX.out.2.2]; exact pm
    have rg := HI.out.rg
    rw [HX.out.2.2] at rg
    have hc := (HI.out.cl HX.out.1).2
    have rg4 := (rg.leave nd bd hc).lead (x := x) ((pm.map (·.1)).nodup_iff.2 nd) (fun y hy => bd y (pm.mem_iff.1 hy)) hc
    have okT := HI.out.ok.touch key
    rw [HT.out] at okT
    have I4 : Hid (IsG w4 o X ⟨z.s, i :: (pre ++ post).map (·.2)⟩ { h with g := g4, nw := ldn (lvn h.nw h.od x.1 2) (lvo h.nw h.od x.1 2) x.2.c x.1 2, od := ldo (lvn h.nw h.od x.1 2) (lvo h.nw h.od x.1 2) x.2.c x.1 2, L := x :: (pre ++ post) }) :=
      ⟨M4, I2.out.spr.fr F24 (fun e => by injection e with _ e; cases e), I2.out.slab.fr F24 (fun _ e => by injection e with e; cases e), I2.out.chn.fr F24 (fun _ e => by injection e with e; cases e), K4, fun y hy => ((I2.out.it y (pm'.mem_iff.1 hy)).keep HM3.out.2.2.1).keep P4, rg4, I2.out.pl.perm pm', I2.out.mp.perm pm', by show x.2 :: _ = i :: _; rw [HX.out.2.1], okT⟩
    have F4' : Hid (Fr TS o o w w4) := HB.out.trans (F24.mono (fun t e => by rw [e]; exact TS.mk1 1))
    clear M4 K4 P4 F4 F24 nd bd pm pm' rg hc rg4 okT
    go_wp2_with fail
    refine (data_any X _ _ x _ rfl (by exact List.mem_cons_self) _ o I4.out).mono ?_
    rintro e w5 ⟨rfl, B5⟩
    have F5 : Hid (Fr TS o o w w5) := F4'.out.trans (Fr.ofBelow _ o B5)
    have I5 : Hid (IsSt w5 o X (z.touch key)) := by show IsSt _ _ _ _; rw [HT.out]; exact ⟨_, I4.out.below B5⟩
    rw [HX.out.2.1]
    clear B5 I4 F4'
    go_wp2_with fail
    go_ret2
    exact ⟨by rw [HN.out]; rfl, I5.out, F5.out⟩
end Go.Proofs.Ytbflcnghpkmcoaa
