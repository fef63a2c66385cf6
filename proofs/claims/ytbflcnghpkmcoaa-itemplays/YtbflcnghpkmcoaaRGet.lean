/-
  GET of the reference's store.
-/
import Derived.Test.YtbflcnghpkmcoaaROut
namespace Go.Proofs.Ytbflcnghpkmcoaa
open Go.RowKit

set_option maxRecDepth 100000 in
set_option maxHeartbeats 2000000 in
theorem rget_any (Y : Nat) (z : Sp) (key : ByteArray) (w : World) (o : Nat → Nat × Nat) (h : IsRef w o Y z) :
    Calls Try.prog 18 #[.pointer (some ⟨Y, 0, none⟩), .string key] w fun e w' => e = .returned (.tuple #[.string (tel (fnd z.l key)), .bool (fnd z.l key).isSome]) ∧ RefP w o Y (z.touch key) w' := by
  have HI : Hid (IsRef w o Y z) := h
  clear h
  go_enter Try.func18, Try.ntmps18
  go_wp2_with fail
  refine (rfind_any Y z key _ o HI.out).mono ?_
  rintro e w2 ⟨r, rfl, hr, rfl⟩
  rcases hr with ⟨rfl, hn⟩ | ⟨pre, i, post, hl, rfl, hf, hk, _⟩
  · have HE : Hid (fnd z.l key = none ∧ z.touch key = z) := ⟨hn, by unfold Sp.touch; rw [hn]⟩
    clear hn
    go_wp2_with fail
    go_ret2
    exact ⟨by rw [HE.out.1]; rfl, o, by rw [HE.out.2]; exact HI.out, Fr.refl _ _ _⟩
  · obtain ⟨S, v, I⟩ := HI.out
    obtain ⟨a, c, rfl, _⟩ := I.li.form
    have hfew := I.ok.few
    have hin : i ∈ z.l := by rw [hl]; simp
    have hlen : z.l.length = pre.length + (post.length + 1) := by rw [hl]; simp
    obtain ⟨g, cap, e, og, _, hcap, _, h6, h7⟩ := I.li.there (by omega)
    injection e with e1 e2 e3
    subst e1 e3
    have hat : z.l[pre.length]? = some i := by rw [hl]; simp
    obtain ⟨d0, d1, d2, d3⟩ := itc_at _ _ _ hat
    replace d0 := h6 _ _ d0
    replace d1 := h6 _ _ d1
    replace d2 := h6 _ _ d2
    replace d3 := h6 _ _ d3
    have c1 := I.c1
    have hlv := I.ok.live i hin
    have hfit := I.ok.fit i hin
    have hbut : but z.l key = pre ++ post := by have nd := I.ok.ndk; rw [← hk]; rw [hl] at nd ⊢; exact but_split nd
    have htouch : z.touch key = ⟨z.s, i :: (pre ++ post)⟩ := by unfold Sp.touch; rw [hf, hbut]
    have hok := I.ok.touch key
    rw [htouch] at hok
    obtain ⟨j, hj⟩ : ∃ j, j = pre.length := ⟨_, rfl⟩
    obtain ⟨n, hn⟩ : ∃ n, n = z.l.length := ⟨_, rfl⟩
    have HRB : RB w o Y z.l z.s S (.slice (some ⟨g, 0, none⟩) n c) := by rw [hn]; exact I.rb
    have HE : Hid (fnd z.l key = some i ∧ z.touch key = ⟨z.s, i :: (pre ++ post)⟩ ∧ OkSp ⟨z.s, i :: (pre ++ post)⟩ ∧ z.s.rd i.c i.k = i.key ++ i.d ∧ z.s.has i.c i.k = true) := ⟨hf, htouch, hok, by unfold St.rd; rw [if_pos (St.has_mk hlv.1 hlv.2).1]; exact (St.has_mk hlv.1 hlv.2).2, (St.has_mk hlv.1 hlv.2).1⟩
    have hjn : j < n := by omega
    have hj1 : (j : Int) < (n : Int) := by omega
    have hnb : n ≤ 720896 := by omega
    have HJN : Hid (j = pre.length ∧ n = z.l.length ∧ z.l = pre ++ i :: post ∧ i.key = key) := ⟨hj, hn, hl, hk⟩
    rw [← hj] at d0 d1 d2 d3 ⊢
    rw [← hn] at c1 hcap
    have k0 : decide ((j : Int) < 0) = false := by simp
    -- the block of x
    obtain ⟨W, hW⟩ : ∃ W, W = w.alloc (.cells #[.string i.key, .int .i64 ((i.c : Nat) : Int), .int .i64 ((i.k : Nat) : Int), .bool i.pin] 53) := ⟨_, rfl⟩
    obtain ⟨B, hB⟩ : ∃ B, B = w.heap.size := ⟨_, rfl⟩
    obtain ⟨oW, hoW⟩ : ∃ oW, oW = lab o w.heap.size (0, 0) := ⟨_, rfl⟩
    have FW : ∀ U, Fr U o oW w W := fun U => by rw [hW, hoW]; exact Fr.new U o w _ _
    have oB : oW B = (0, 0) := by rw [hoW, hB]; exact lab_same _ _ _
    have b0 : W.cell? ⟨B, 0, none⟩ = some (.string i.key) := by rw [hW, hB, World.cell?_alloc_new]; rfl
    have b1 : W.cell? ⟨B, 1, none⟩ = some (.int .i64 ((i.c : Nat) : Int)) := by rw [hW, hB, World.cell?_alloc_new]; rfl
    have b2 : W.cell? ⟨B, 2, none⟩ = some (.int .i64 ((i.k : Nat) : Int)) := by rw [hW, hB, World.cell?_alloc_new]; rfl
    have b3 : W.cell? ⟨B, 3, none⟩ = some (.bool i.pin) := by rw [hW, hB, World.cell?_alloc_new]; rfl
    have RW := HRB.fr (FW (fun _ => False)) (fun _ _ x => x)
    have HLI : OwnK W.drew oW (4, 1) 4 (.slice (some ⟨g, 0, none⟩) n c) n (itc z.l) := by
      have := (RW.below (below_drewN (Below.refl _ _) 1)).li
      rw [← hn] at this; exact this
    obtain ⟨a6, q6, w6, a7, q7, w7, o7, run1, run2, O7, F7, B6⟩ := erase_own3 (i := j) (n0 := 1) (hd := [.string i.key, .int .i64 ((i.c : Nat) : Int), .int .i64 ((i.k : Nat) : Int), .bool i.pin]) 47 53 (.agg #[.string ⟨#[]⟩, .int .i64 0, .int .i64 0, .bool false]) 40 under47 info53 (by kernel_rfl) rfl (fun u hu => by simp at hu; rcases hu with rfl | rfl | rfl | rfl <;> rfl) HLI hjn (by omega) (by omega) (by omega)
    have FW7 : ∀ U, Fr U oW o7 W w7 := fun U => (Fr.drew1 U oW W).trans (F7 U)
    have hlo : (i :: (pre ++ post)).length = 1 + (n - 1) := by rw [hn, hl]; simp; omega
    have O7' : OwnK w7 o7 (4, 1) 4 (.slice a7 (1 + (n - 1)) q7) (i :: (pre ++ post)).length (itc (i :: (pre ++ post))) := by
      have e4 : (itc z.l).take (j * 4) ++ (itc z.l).drop ((j + 1) * 4) = itc (pre ++ post) := by rw [hj, hl]; exact itc_out
      rw [e4] at O7
      rw [hlo]; exact O7
    obtain ⟨R8, F8⟩ := RW.set FW7 O7'
    have t0 : W.cell? ⟨Y, 1, none⟩ = some (.slice (some ⟨g, 0, none⟩) n c) := RW.c1
    have t1 : (W.alloc (.cells #[.string i.key, .int .i64 ((i.c : Nat) : Int), .int .i64 ((i.k : Nat) : Int), .bool i.pin] 53)).cell? ⟨Y, 1, none⟩ = some (.slice (some ⟨g, 0, none⟩) n c) := cell_up ((Below.refl _ _).alloc (Nat.le_refl _) _) RW.c1
    have t2 : w6.cell? ⟨Y, 1, none⟩ = some (.slice (some ⟨g, 0, none⟩) n c) := cell_up (w := W.drew) B6 t0
    have t3 : w7.cell? ⟨Y, 1, none⟩ = some (.slice (some ⟨g, 0, none⟩) n c) := (FW7 (fun _ => False)).cell RW.c1 (fun h => h)
    have t4 : w7.frozen? ⟨Y, 1, none⟩ = false := ((FW7 (fun _ => False)).frozen RW.lt (fun h => h)).trans (RW.fz 1)
    obtain ⟨Z, hZ⟩ : ∃ Z, Z = w7.setCell ⟨Y, 1, none⟩ (.slice a7 (1 + (n - 1)) q7) := ⟨_, rfl⟩
    rw [← hZ] at R8 F8
    have HR8 : Hid (RB Z o7 Y (i :: (pre ++ post)) z.s S (.slice a7 (1 + (n - 1)) q7) ∧ Fr TR o o7 w Z) := ⟨R8, (FW TR).trans F8⟩
    have nB : ¬ TR (oW B) := by rw [oB]; exact fun h => absurd h.1 (by decide)
    have e0 := F8.cell b0 nB
    have e1 := F8.cell b1 nB
    have e2' := F8.cell b2 nB
    have cz := R8.c0
    have HZ : Hid (Z = w7.setCell ⟨Y, 1, none⟩ (.slice a7 (1 + (n - 1)) q7)) := hZ
    have sl1 := slice_hiT 47 53 4 elem47 elem47' size53' g n c j (by omega)
    have sl2 : ∀ w, (Instr.sliceAt 47 (.slice (some ⟨g, 0, none⟩) n c) (some (.int .i64 ((j : Int) + 1))) none none).run Try.prog w = .ok (.slice (some (cutA g (j + 1) c 4)) (n - (j + 1)) (c - (j + 1))) w := slice_loT 47 53 4 elem47 elem47' size53' g n c (j + 1) (by omega)
    have hwk : IntKind.i64.wrap ((j : Int) + 1) = (j : Int) + 1 := by rw [IntKind.wrap_i64]; omega
    have hke : key.size = i.key.size := by rw [hk]
    have HKK : Hid (i.key = key) := hk
    clear hf hk hl I h6 h7 hat hlen hj hn hfew hlv hbut htouch hok HRB RW HLI O7 F7 B6 FW FW7 O7' R8 F8 hlo oB nB hoW hZ e2 hin
    go_upto_region 5 with fail
    rw [← hW, ← hB]
    clear hW hB c1 d0 d1 d2 d3
    go_cut [7] from 10 to 55 (fun v wx => v = .pointer (some ⟨B, 0, none⟩) ∧ wx = Z)
    case first =>
     go_region_law (first | (refine step_app4 run1 (.tmp 24) (.tmp 30) (by rfl) (by rfl) (by rfl) (by rfl) (by rfl) (by rfl) ?_) | (refine step_app4 run2 (.tmp 31) (.tmp 38) (by with_reducible rfl) (by rfl) (by rfl) (by rfl) (by rfl) (by rfl) ?_))
     all_goals
      rw [← HZ.out]
      go_wp2_with fail
      go_meet
      exact ⟨rfl, rfl⟩
    case rest =>
     obtain ⟨rfl, rfl⟩ := hcut
     clear run1 run2 sl1 sl2 t0 t1 t2 t3 t4 b0 b1 b2 b3
     go_wp2_with fail
     go_region_held3 (fun w' => w'.cell? ⟨Y, 0, none⟩ = some (.pointer (some ⟨S, 0, none⟩)) ∧ w'.cell? ⟨B, 1, none⟩ = some (.int .i64 ((i.c : Nat) : Int)) ∧ w'.cell? ⟨B, 2, none⟩ = some (.int .i64 ((i.k : Nat) : Int))) (first | exact ⟨cz, e1, e2'⟩ | exact D3)
       ((go_at_call 20; refine (rread_any 5 S z.s i.c i.k wc.drew o7 ((HR8.out.1.below (below_drewN (Below.refl _ _) 1)).slab)).mono ?_; rintro e w9 ⟨rfl, B9⟩; have D3 : w9.cell? ⟨Y, 0, none⟩ = some (.pointer (some ⟨S, 0, none⟩)) ∧ w9.cell? ⟨B, 1, none⟩ = some (.int .i64 ((i.c : Nat) : Int)) ∧ w9.cell? ⟨B, 2, none⟩ = some (.int .i64 ((i.k : Nat) : Int)) := ⟨cell_up B9 cz, cell_up B9 e1, cell_up B9 e2'⟩))
     rw [HE.out.2.2.2.1, HE.out.2.2.2.2]
     have HEND : Hid (RefP w o Y (z.touch key) w9) := by
       refine ⟨o7, ?_, (HR8.out.2.trans (Fr.drew1 _ o7 wc)).trans (Fr.ofBelow _ o7 B9)⟩
       rw [HE.out.2.1]
       exact RB.is (z := ⟨z.s, i :: (pre ++ post)⟩) ((HR8.out.1.below (below_drewN (Below.refl _ _) 1)).below B9) HE.out.2.2.1
     obtain ⟨t, ht⟩ : ∃ t, t = i.key ++ i.d := ⟨_, rfl⟩
     have hd : t.extract key.size t.size = i.d := by rw [ht, hke]; exact ba_back _ _
     have hsz : (key.size : Int) ≤ (t.size : Int) := by rw [ht, ba_size, hke]; omega
     have hsz2 : key.size ≤ t.size := by omega
     have hsz3 : t.size ≤ 65536 := by rw [ht]; exact hfit
     rw [← ht]
     have HFI : Hid (fnd z.l key = some i) := HE.out.1
     clear ht D3 B9 HE HR8 hfit cz e1 e2' e0 hke
     go_wp2_with fail
     go_ret2
     exact ⟨by rw [HFI.out]; rfl, HEND.out⟩
end Go.Proofs.Ytbflcnghpkmcoaa
