/-
  THE REFERENCE's Apply: get, walked.
-/
import Derived.Test.YtpkmfckifnomeaaDoorRAg
namespace Go.Proofs.YtpkmfckifnomeaaDoor
open Go.RowKit
set_option maxRecDepth 100000 in
set_option maxHeartbeats 2000000 in
theorem rapply_get (x : Nat) (hx : x < 8) (t : Nat × Nat) (ht : t.1 < 8) (h0 : t ≠ (x, 0)) (h1 : t ≠ (x, 1)) {o : Nat → Nat × Nat} {P : Nat} {l : List En} (hs : Srt l) (hz : l.length ≤ 900000) (now ver : Int) (a : Option Addr) (kc : Nat) (ks : List ByteArray) (fl exp by_ cas : Int) (dd : Nat) (qu : Bool) (da : ByteArray) (hkz : ks.length ≤ 1000000) (w : World) (h : IsR w o x P l) (hK : Ks w a ks) (hoff : ks ≠ [] → Off o a (· = t)) (hlt : ks ≠ [] → ∀ p off, a = some ⟨p, off, none⟩ → p < w.heap.size) :
    Calls Tryd.prog 17 #[.pointer (some ⟨P, 0, none⟩), .agg #[Value.int .i64 1, .slice a ks.length kc, .int .i64 fl, .int .i64 exp, .int .i64 by_, .int .i64 cas, .int .u64 (dd : Int), .bool qu, .string da], .int .i64 now, .int .i64 ver] w fun e w' => ∃ a' n c o', e = .returned (.agg (acs 1 (.slice a' n c) false 0 ⟨#[]⟩).toArray) ∧ OwnK w' o' t 4 (.slice a' n c) n (fcs (fnd l now ks)) ∧ n = (fnd l now ks).length ∧ IsR w' o' x P l ∧ Fr (· = t) o o' w w' := by
  obtain ⟨kl, hkl⟩ : ∃ kl, ks.length = kl := ⟨_, rfl⟩
  obtain ⟨R, hR⟩ : ∃ R : Array Value, R = #[Value.int .i64 1, .slice a ks.length kc, .int .i64 fl, .int .i64 exp, .int .i64 by_, .int .i64 cas, .int .u64 (dd : Int), .bool qu, .string da] := ⟨_, rfl⟩
  have HG := Lib.hid (Gw.start hx h t R now ks false)
  have HW : Hid (WA w R false = ((w.alloc (.cells #[Value.int .i64 1, .slice a kl kc, .int .i64 fl, .int .i64 exp, .int .i64 by_, .int .i64 cas, .int .u64 (dd : Int), .bool qu, .string da] 27)).alloc (.cells #[.int .i64 0, .slice none 0 0, .bool false, .int .u64 0, .string ⟨#[]⟩, .int .i64 0, .int .i64 0, .int .i64 0, .int .i64 0] 32)).alloc (.cells #[.int .i64 1, .slice none 0 0, .bool false, .int .u64 0, .string ⟨#[]⟩, .int .i64 0, .int .i64 0, .int .i64 0, .int .i64 0] 32)) := Lib.hid (by rw [hR, hkl]; rfl)
  have HRv : Hid (R[0]? = some (.int .i64 1) ∧ R[1]? = some (.slice a kl kc)) := Lib.hid (by rw [hR, hkl]; exact ⟨rfl, rfl⟩)
  have HX := Lib.hid (And.intro h (And.intro hK (And.intro hoff (And.intro hlt (And.intro h0 (And.intro h1 hs))))))
  have HKL := Lib.hid hkl
  rw [hkl] at hkz ⊢
  clear hR h hK hoff hlt h0 h1 hs hkl
  go_enter Tryd.func17, Tryd.ntmps17
  go_wp2_with fail
  go_loopw [10] (fun i wr => ∃ (j : Nat) (a' : Option Addr) (n c : Nat) (o1 : Nat → Nat × Nat), j ≤ kl ∧ i = .int .i64 (j : Int) ∧ Hid (Gw w R o t x P l now ks false j wr a' n c o1)) (fun i _ => kl - (intOf i).toNat)
  case atStart => exact ⟨0, none, 0, 0, _, by omega, rfl, by rw [← HW.out]; exact HG⟩
  case round =>
    clear HG HW
    obtain ⟨j, a', n, c, o1, hj, rfl, HG⟩ := hrel
    have q1 := HG.out.req ht HRv.out.2
    by_cases hlt : j < kl
    · have hi1 : (j : Int) < (kl : Int) := by omega
      obtain ⟨k, hk⟩ : ∃ k, ks[j]? = some k := ⟨_, List.getElem?_eq_getElem (by rw [HKL.out]; exact hlt)⟩
      obtain ⟨h, hK, hoff, hlt', h0, h1, hs⟩ := HX.out
      have hne : ks ≠ [] := fun e => by rw [e] at hk; cases hk
      obtain ⟨p, off, rfl, cc⟩ : ∃ p off, a = some ⟨p, off, none⟩ ∧ wr.cell? ⟨p, off + j, none⟩ = some (.string k) := by
        rcases hK with h | ⟨p, off, h1, h2⟩
        · exact absurd h hne
        · exact ⟨p, off, h1, (World.cell?_of_block (a := ⟨p, off + j, none⟩) (HG.out.old ht (hlt' hne p off h1) (hoff hne p off h1))).trans (h2 j k hk)⟩
      have AC := Lib.hid (rat_any x (by omega) k now wr HG.out.ir)
      obtain ⟨lv1, lv2, lv3⟩ := liv_ath hs k now
      obtain ⟨th, hth⟩ : ∃ th, th = ath l k now := ⟨_, rfl⟩
      rw [← hth] at AC lv1 lv2
      obtain ⟨i, hi⟩ : ∃ i, i = pos (L k) l := ⟨_, rfl⟩
      rw [← hi] at AC lv2
      have HKk := Lib.hid hk
      have HL1 := Lib.hid lv1
      have HL2 := Lib.hid lv2
      have H01 := Lib.hid (And.intro h0 h1)
      clear hth hi lv1 lv2 lv3 h hK hoff hlt' h0 h1 hs hk hne
      go_wp2_with fail
      refine AC.out.mono ?_
      rintro e1 w1 ⟨rfl, rfl⟩
      clear AC cc
      cases th with
      | false =>
        have HS := Lib.hid (HG.out.skip HKk.out HL1.out)
        clear HG
        go_wp2_with fail
        exact ⟨⟨j + 1, a', n, c, o1, by omega, by go_num, HS⟩, by simp [intOf]; omega⟩
      | true =>
        have he2 := HL2.out rfl
        obtain ⟨e, he⟩ : ∃ e, liv l k now = (e, true) := ⟨(liv l k now).1, Prod.ext rfl HL1.out⟩
        rw [he] at he2
        obtain ⟨ga, gc, hc, hO⟩ := HG.out.ir.li
        obtain ⟨m, hm⟩ : ∃ m, m = l.length := ⟨_, rfl⟩
        have hin : i < m := by have := (List.getElem?_eq_some_iff.1 he2).1; rw [hm]; exact this
        obtain ⟨g, rfl, ce⟩ := IsR.at_ hO he2
        rw [← hm] at hc
        have hin1 : (i : Int) < (m : Int) := by omega
        have hm9 : m ≤ 900000 := by omega
        have d0 := ce 0 _ rfl
        have d1 := ce 1 _ rfl
        have d2 := ce 2 _ rfl
        have d3 := ce 3 _ rfl
        have d4 := ce 4 _ rfl
        rw [Nat.add_zero] at d0
        obtain ⟨b1, a2, c2, w2, o2, hr, z1, z2, HS⟩ := HG.out.step hx ht H01.out.1 H01.out.2 (by rw [HKL.out]; exact hkz) HKk.out he
        have HS2 := Lib.hid HS
        have HHr := Lib.hid hr
        obtain ⟨ek, ef, ed, ev, ec⟩ := e
        have hr2 : (Builtin.append_ #[29, 29] 29 #[.slice a' n c, .slice (some ⟨wr.heap.size + 1, 0, none⟩) 1 1]).run Tryd.prog ((wr.alloc (.cells #[.string ek, .int .i64 ef, .int .i64 ed, .string ev, .int .i64 ec] 49)).alloc (.cells #[.string ek, .int .i64 ef, .string ev, .int .i64 ec] 35)) = .ok (.slice a2 (n + 1) c2) w2 := HHr.out
        have b2 : (wr.alloc (.cells #[.string ek, .int .i64 ef, .int .i64 ed, .string ev, .int .i64 ec] 49)).cell? ⟨w.heap.size + 1 + 1, 1, none⟩ = some (.slice a' n c) := b1
        clear HHr hr b1 ce he2 he hm HG HS hO
        go_wp2_with (at_builtin; refine wpList_append_run rfl (.tmp 57) (.tmp 67) 29 29 rfl _ _ _ rfl rfl hr2 ?_)
        exact ⟨⟨j + 1, a2, n + 1, c2, o2, by omega, by go_num, HS2⟩, by simp [intOf]; omega⟩
    · have hi1 : decide ((j : Int) < (kl : Int)) = false := decide_eq_false (by omega)
      obtain ⟨fc_, ft, fr_, o', fo, fn, fi, ff⟩ := HG.out.fin hx ht (by rw [HKL.out]; omega)
      have HT := Lib.hid ft
      have HRg := Lib.hid fr_
      have HF := Lib.hid (And.intro fo (And.intro fn (And.intro fi ff)))
      obtain ⟨A, hA⟩ : ∃ A, A = acs 1 (.slice a' n c) false 0 ⟨#[]⟩ := ⟨_, rfl⟩
      rw [← hA] at HT HRg HF
      have HA := Lib.hid hA
      have HLA : Hid (A.length = 9) := Lib.hid (by rw [hA]; rfl)
      have HOA : Hid (∀ u ∈ A, u.oneCell' = true) := Lib.hid (by rw [hA]; exact acs_one 1 a' n c false 0 ⟨#[]⟩)
      have a0 := fc_ 0 _ rfl
      have a1 := fc_ 1 _ rfl
      have a2 := fc_ 2 _ rfl
      have a3 := fc_ 3 _ rfl
      have a4 := fc_ 4 _ rfl
      have a5 := fc_ 5 _ rfl
      have a6 := fc_ 6 _ rfl
      have a7 := fc_ 7 _ rfl
      have a8 := fc_ 8 _ rfl
      clear fc_ ft fr_ fo fn fi ff hA HG
      go_wp2_with ((with_reducible show wpList _ _ _ (Oper.mk none (Op.store 32 (.tmp 8) _) _ _ _ _ :: _) _ _); refine wpList_store_mid (by rfl) 32 (.tmp 8) (.tmp 70) (by rfl) (w.heap.size + 1) 0 A.toArray (by rfl) (by rw [HA.out]; rfl) HT.out (by rw [List.size_toArray, HLA.out]; kernel_rfl) (all_oneCell_toArray HOA.out) ?_; rw [show A.toArray.toList = A from rfl])
      refine bodyPost_ret (v := .agg A.toArray) (by simp [results, Tryd.results17]; exact load32 HRg.out HLA.out) rfl ?_
      have HE := HA.out
      refine ⟨a', n, c, o', ?_, HF.out⟩
      rw [HE]
end Go.Proofs.YtpkmfckifnomeaaDoor
