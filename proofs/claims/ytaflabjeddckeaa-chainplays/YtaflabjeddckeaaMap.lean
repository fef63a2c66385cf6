/-
  CHAINMAP walked.
-/
import Derived.Test.YtaflabjeddckeaaMReg
import Derived.Deep.CutRange
import Derived.Deep.CutBlock
namespace Go.Proofs.Ytaflabjeddckeaa
open Go.RowKit

theorem own_empty (w : World) (o : Nat → Nat × Nat) (t : Nat × Nat) (k : Nat) (E : TypeId) : OwnK (w.alloc (.cells #[] E)) (lab o w.heap.size t) t k (.slice (some ⟨w.heap.size, 0, none⟩) 0 0) 0 [] := by
  have := own_new (w := w) (o := o) (t := t) (k := k) (n := 0) (cap := 0) (e := E) [] #[] (by simp) (fun _ h => by cases h) (Nat.le_refl _) (by unfold maxLen; omega) (by simp)
  simpa using this
/-- A key that is there is no longer than a text can be. -/
theorem IsChain.ksz {w : World} {o : Nat → Nat × Nat} {x C : Nat} {a : A} (h : IsChain w o x C a) {k : ByteArray} {v : Int} (hk : a.F k = some v) : k.size ≤ 140737488355328 := by
  obtain ⟨E, G, h⟩ := h
  obtain ⟨r, i, hi, hm⟩ := (h.has.ff k v).1 hk
  obtain ⟨e, he, hkv⟩ := List.mem_map.1 hm
  obtain ⟨_, f⟩ := ((h.row r (Nat.lt_of_le_of_lt (Nat.zero_le _) hi)).ch i hi).mem he
  have : e.k = k := congrArg Prod.fst hkv
  rw [← this]; exact f.ks
/-- Where a key stands among the first ones. -/
def AtP (ks : List ByteArray) (k : ByteArray) (j : Nat) (z : Int) : Prop := (z = -1 ∧ ∀ p, p < j → ks[p]? ≠ some k) ∨ ∃ p : Nat, z = (p : Int) ∧ p < j ∧ ks[p]? = some k
/-- A cell of the calls. -/
theorem MReg.cellN {w X : World} {C : Nat} {s : A} {kv : Value} {m : Nat} {ks : List ByteArray} {sa : Option Nat} {k : ByteArray} {nv : Value} {m' : Nat} {ns : List Int} {sb : Option Nat} {v : Int} {g c n : Nat} {L : List AskD} (h : MReg w X C s kv m ks sa k nv m' ns sb v (.slice (some ⟨g, 0, none⟩) n c) n L) {i : Nat} {q : AskD} (hq : L[i]? = some q) (hn : 0 < n) : X.cell? ⟨g, i * 3 + 1, none⟩ = some (.int .i64 q.N) := by
  obtain ⟨o, _, _, h3, _⟩ := h
  obtain ⟨g', c', e, _, _, _, _, hc, _⟩ := h3.there hn
  injection e with e1 _ _
  injection e1 with e1
  injection e1 with e1
  subst e1
  exact hc _ _ (askc_at _ _ _ hq).2.1
/-- append as a step of a region that draws, its run given ahead: it names the world. -/
theorem step_app4 {P : Program} {ops : Array Oper} {o : Oper} {a : Act} {w : World} {K : Act → World → Prop} {Q : Exit → Act → World → Prop} {E : Prop} {X w' : World} {v xv v' : Value} {t : TypeId} (hr : (Builtin.append_ #[t, t] t #[v, xv]).run P X = .ok v' w') (s x : Operand)
    (hw : w = X) (hgd : o.guard = none) (ho : o.op = .call { callee := .builtin .append, args := #[s, x], argTypes := #[t, t] }) (ht : o.type = t) (hs : a.eval s = v) (hx : a.eval x = xv) (hk : K (a.put o.dst v') w') :
    if Region.wanted o (yielded ops a.tmps) = true then Oper.wp P o a w K Q else E := by
  subst hw
  exact step_app hgd s x t t ho v xv v' hs hx (by rw [ht]; exact hr) hk
/-- What stands behind the turn of one call. -/
def TailM (w : World) (C : Nat) (s : A) (m : Nat) (ks : List ByteArray) (ns : List Int) (av : Value) (n : Nat) (L : List AskD) (kv nv : Value) (wx : World) : Prop :=
  ∃ (o9 : Nat → Nat × Nat) (ax : Option Addr) (cx : Nat) (bx : Option Addr) (ex : Nat), kv = .slice ax m cx ∧ nv = .slice bx m ex ∧ OwnK wx o9 (2, 0) 1 (.slice ax m cx) m (strc ks) ∧ OwnK wx o9 (3, 0) 1 (.slice bx m ex) m (intc ns) ∧ OwnK wx o9 (4, 0) 3 av n (askc L) ∧ IsChain wx o9 1 C s ∧ Fr TM o0 o9 w wx
theorem MReg.tail {w X : World} {C : Nat} {s : A} {m : Nat} {ks : List ByteArray} {k : ByteArray} {ns : List Int} {v : Int} {av : Value} {n : Nat} {L : List AskD} {ax : Option Addr} {cx : Nat} {bx : Option Addr} {ex : Nat} (h : MReg w X C s (.slice ax m cx) m ks none k (.slice bx m ex) m ns none v av n L) : TailM w C s m ks ns av n L (.slice ax m cx) (.slice bx m ex) X := by
  obtain ⟨o, h1, h2, h3, h4, h5, _, _⟩ := h
  exact ⟨o, ax, cx, bx, ex, rfl, rfl, h1, h2, h3, h4, h5⟩
def TailS (w : World) (C i : Nat) (av : Value) (n : Nat) (L : List AskD) (kv nv : Value) (wx : World) : Prop :=
  ∃ (m : Nat) (ks : List ByteArray) (ns : List Int) (s : A), m ≤ i + 1 ∧ m = ks.length ∧ Led s ks ns ∧ TailM w C s m ks ns av n L kv nv wx
set_option maxHeartbeats 1600000 in
set_option maxRecDepth 100000 in
theorem map_any (la : Option Addr) (ln lc : Nat) (q : Nat → AskD) (many : Int) (hln : ln ≤ 9223372036854775807) (hsz : ln * 32 ≤ 140737488351232) (hla : la = none → ln = 0) (w : World) (ri : AskF w la q ln) :
    Calls Try.prog 5 #[.slice la ln lc, .int .i64 many] w fun e w' => e = .returned (.bool true) ∧ Below w.heap.size w w' := by
  have RI : Hid (AskF w la q ln) := ri
  have HLA : Hid (la = none → ln = 0) := hla
  clear ri hla
  go_enter Try.func5, Try.ntmps5
  go_wp2_with fail
  refine (new_any 1 _ o0).mono ?_
  rintro e w1 ⟨C, o1, rfl, I1, F1⟩
  have B1 : Below w.heap.size w w1 := Fr.below F1 (Nat.le_refl _) (fun _ _ h => h)
  have src := (RI.out.below B1).src (c := lc) HLA.out
  have E1 := own_empty w1 o1 (4, 0) 3 37
  have N1 : ∀ U, Fr U o1 (lab o1 w1.heap.size (4, 0)) w1 (w1.alloc (.cells #[] 37)) := fun U => Fr.new U o1 w1 _ _
  have src2 := ((RI.out.below B1).below (Fr.below (N1 (fun _ => False)) (Nat.le_refl _) (fun _ _ h => h))).src (c := lc) HLA.out
  obtain ⟨v2, w2, o2, hrun, O2, F2⟩ := app_own 32 32 37 (.agg #[.int .i64 0, .int .i64 0, .string ⟨#[]⟩]) 32 under32a info37 (by kernel_rfl) E1 src2 (by omega) (by omega)
  rw [Nat.zero_add, List.nil_append] at O2
  obtain ⟨a2, c2, rfl, hc2⟩ := O2.form
  have HI2 : Hid (IsChain w2 o2 1 C A0) := (I1.fr (N1 (fun _ => False)) (fun _ h => h)).fr F2 (fun _ h => by cases h)
  have HF2 : Hid (Fr TM o0 o2 w w2) := ((F1.mono (fun _ h => h.elim)).trans (N1 TM)).trans (F2.mono (fun t h => .inr (.inr (.inr (by rw [h])))))
  have HO2 : Hid (OwnK w2 o2 (4, 0) 3 (.slice a2 ln c2) ln (askc ((List.range ln).map q))) := O2
  clear src src2 E1 N1 B1 I1 F1 O2 F2
  go_upto_if 25 with (at_builtin; refine wpList_append_run rfl (.tmp 20) (.tmp 21) 32 32 rfl _ _ _ rfl rfl hrun ?_)
  clear hrun
  go_cut [8] from 20 to 171 (fun v wx => ∃ (a : Option Addr) (n c : Nat) (L : List AskD), v = .slice a n c ∧ n ≤ 80 ∧ Hid (n = L.length) ∧ Hid (OwnK wx o2 (4, 0) 3 (.slice a n c) n (askc L)) ∧ w2 = wx)
  case first =>
    by_cases h80 : 80 < ln
    · obtain ⟨g, cap, eg, og, gl, hcap, hmx, _, _⟩ := HO2.out.there (by omega)
      injection eg with e1 _ e3
      subst e1 e3
      have k1 : (80 : Int) < (ln : Int) := by omega
      have sl := slice_hiT 32 37 3 elem32 elem32' size37' g ln c2 80 (by omega)
      have HO3 : Hid (OwnK w2 o2 (4, 0) 3 (.slice (some ⟨g, 0, none⟩) 80 c2) 80 (askc (((List.range ln).map q).take 80))) := by
        have := HO2.out.cut 80 (by omega)
        rw [askc_take] at this; exact this
      have HL3 : Hid (80 = (((List.range ln).map q).take 80).length) := by show _ = _; simp; omega
      go_wp2_with fail
      go_meet
      exact ⟨_, _, _, _, rfl, by omega, HL3, HO3, rfl⟩
    · have k1 : decide ((80 : Int) < (ln : Int)) = false := by simp; omega
      go_wp2_with fail
      go_meet
      exact ⟨a2, ln, c2, _, rfl, by omega, by show _ = _; simp, HO2, rfl⟩
  case rest =>
    obtain ⟨a3, n3, c3, L3, rfl, hn3, HL3, HO3, rfl⟩ := hcut
    clear HO2 hc2
    go_wp2_with fail
    refine (within_any many 0 60 (by omega) (by omega) (by omega) _).mono ?_
    rintro e wx ⟨⟨r, rfl, hr0, hr1⟩, rfl⟩
    obtain ⟨mn, rfl⟩ : ∃ k : Nat, r = (k : Int) := ⟨r.toNat, by omega⟩
    go_wp2_with fail
    go_loopw [8, 9] (fun v y wr => ∃ (i n : Nat) (L : List AskD) (o : Nat → Nat × Nat) (a : Option Addr) (c : Nat), v = .slice a n c ∧ y = .int .i64 (i : Int) ∧ i ≤ 60 ∧ n + i ≤ 140 ∧ Hid (n = L.length) ∧ Hid (OwnK wr o (4, 0) 3 (.slice a n c) n (askc L)) ∧ Hid (IsChain wr o 1 C A0) ∧ Hid (Fr TM o0 o w wr)) (fun _ y _ => (intOf y).toNat)
    case atStart => exact ⟨mn, n3, L3, o2, a3, c3, rfl, rfl, by omega, by omega, HL3, HO3, HI2, HF2⟩
    case round =>
      clear HL3 HO3 HI2 HF2 hn3 hr0 hr1
      obtain ⟨i, n, L, o, a, c, rfl, rfl, hi60, hni, HL, HO, HI, HF⟩ := hrel
      by_cases hi0 : 0 < i
      · have k1 : (0 : Int) < (i : Int) := by omega
        have k2 : decide (0 < i) = true := by simpa using hi0
        have hcv := conv_n (wr.alloc (.cells #[.int .u8 (i : Int), .int .u8 ((i : Int) * 7 % 256)] 5)) wr.heap.size 2 2 (fun j => if j = 0 then i else i * 7 % 256) (fun j hj => by
          rw [World.cell?_alloc_new]
          have : j = 0 ∨ j = 1 := by omega
          rcases this with rfl | rfl
          · rfl
          · show some (Value.int .u8 ((i : Int) * 7 % 256)) = _
            congr 2)
        obtain ⟨S, hS⟩ : ∃ S, S = mkS (fun j => if j = 0 then i else i * 7 % 256) 2 := ⟨_, rfl⟩
        rw [← hS] at hcv
        clear hS
        have B1 : Below wr.heap.size wr (wr.alloc (.cells #[.int .u8 (i : Int), .int .u8 ((i : Int) * 7 % 256)] 5)) := (Below.refl _ _).alloc (Nat.le_refl _) _
        obtain ⟨v3, w3, o3, hrun, O3, F3⟩ := app_one 32 37 (.agg #[.int .i64 0, .int .i64 0, .string ⟨#[]⟩]) 32 under32a info37 (by kernel_rfl) (HO.out.below B1) [.int .i64 1, .int .i64 (i : Int), .string S] rfl (fun x hx => by simp at hx; rcases hx with rfl | rfl | rfl <;> rfl) (by omega) (by omega)
        obtain ⟨a4, c4, rfl, _⟩ := O3.form
        have HO3 : Hid (OwnK w3 o3 (4, 0) 3 (.slice a4 (n + 1) c4) (n + 1) (askc (L ++ [⟨1, (i : Int), S⟩]))) := by
          show OwnK _ _ _ _ _ _ _; rw [askc_append]; exact O3
        have HL3 : Hid (n + 1 = (L ++ [(⟨1, (i : Int), S⟩ : AskD)]).length) := by show _ = _; rw [HL.out]; simp
        have HI3 : Hid (IsChain w3 o3 1 C A0) := (HI.out.below B1).fr F3 (fun _ h => by cases h)
        have HF3 : Hid (Fr TM o0 o3 w w3) := (HF.out.trans (Fr.ofBelow _ o B1)).trans (F3.mono (fun t h => .inr (.inr (.inr (by rw [h])))))
        have hs1 : (wr.alloc (.cells #[.int .u8 (i : Int), .int .u8 ((i : Int) * 7 % 256)] 5)).heap.size = wr.heap.size + 1 := by simp
        have hrun2 : (Builtin.append_ #[32, 32] 32 #[.slice a n c, .slice (some ⟨wr.heap.size + 1, 0, none⟩) 1 1]).run Try.prog ((wr.alloc (.cells #[.int .u8 (i : Int), .int .u8 ((i : Int) * 7 % 256)] 5)).alloc (.cells #[.int .i64 1, .int .i64 (i : Int), .string S] 37)) = .ok (.slice a4 (n + 1) c4) w3 := by
          rw [← hs1]; exact hrun
        clear B1 O3 F3 HO HI HF HL hs1 hrun
        go_wp2_with (at_builtin; refine wpList_append_run rfl (.tmp 34) (.tmp 44) 32 32 rfl _ _ _ rfl rfl hrun2 ?_)
        obtain ⟨i', rfl⟩ : ∃ i', i = i' + 1 := ⟨i - 1, by omega⟩
        exact ⟨⟨i', n + 1, _, o3, a4, c4, rfl, by congr 1; omega, by omega, by omega, HL3, HO3, HI3, HF3⟩, by simp [intOf]⟩
      · have hi00 : i = 0 := by omega
        subst hi00
        rw [show ((0 : Nat) : Int) = (0 : Int) from rfl]
        have hn140 : n ≤ 140 := by omega
        clear hi0 hni hi60
        have HF0 : Hid (Fr TM o0 o w wr) := HF
        go_wp2_with fail
        go_loopw [6, 7, 10] (fun kv nv y wr => ∃ (i m : Nat) (ks : List ByteArray) (ns : List Int) (s : A) (o : Nat → Nat × Nat) (a1 : Option Addr) (d1 : Nat) (a2 : Option Addr) (d2 : Nat), kv = .slice a1 m d1 ∧ nv = .slice a2 m d2 ∧ y = .int .i64 (i : Int) ∧ i ≤ n ∧ m ≤ i ∧ Hid (m = ks.length) ∧ Hid (Led s ks ns) ∧ Hid (OwnK wr o (2, 0) 1 (.slice a1 m d1) m (strc ks)) ∧ Hid (OwnK wr o (3, 0) 1 (.slice a2 m d2) m (intc ns)) ∧ Hid (OwnK wr o (4, 0) 3 (.slice a n c) n (askc L)) ∧ Hid (IsChain wr o 1 C s) ∧ Hid (Fr TM o0 o w wr)) (fun _ _ y _ => n - (intOf y).toNat)
        case atStart => exact ⟨0, 0, [], [], A0, o, none, 0, none, 0, rfl, rfl, rfl, by omega, by omega, rfl, Led.new, OwnK.nil _ _ _ _, OwnK.nil _ _ _ _, HO, HI, HF⟩
        case round =>
          clear HO HI HF HF0
          obtain ⟨i, m, ks, ns, s, o, a1, d1, a2, d2, rfl, rfl, rfl, hin, hmi, HM, HL2, HK, HN, HO, HI, HF⟩ := hrel
          by_cases hlt : i < n
          · have k1 : (i : Int) < (n : Int) := by omega
            obtain ⟨ga, ca, ega, oga, gla, hca, hma, hcella, _⟩ := HO.out.there (by omega)
            injection ega with x1 _ x3
            subst x1 x3
            obtain ⟨⟨K, N, S⟩, hq⟩ : ∃ x, L[i]? = some x := ⟨_, List.getElem?_eq_getElem (by rw [← HL.out]; exact hlt)⟩
            obtain ⟨e0, e1, e2⟩ := askc_at _ _ _ hq
            have y0 := hcella _ _ e0
            have y1 := hcella _ _ e1
            have y2 := hcella _ _ e2
            simp only at y0 y1 y2
            have hsz := shr_size S
            have HQ : Hid (L[i]? = some ⟨K, N, S⟩) := hq
            clear e0 e1 e2 hcella hq
            go_wp2_with fail
            refine (short_any S _).mono ?_
            rintro e wx ⟨rfl, rfl⟩
            obtain ⟨k, hk⟩ : ∃ k, k = shr S := ⟨_, rfl⟩
            rw [← hk] at hsz ⊢
            clear hk
            obtain ⟨W0, rfl⟩ : ∃ W0, W0 = wr := ⟨_, rfl⟩
            go_wp2_with fail
            go_loopw [12, 13] (fun zv jv wi => ∃ (z : Int) (j : Nat), zv = .int .i64 z ∧ jv = .int .i64 (j : Int) ∧ j ≤ m ∧ Hid (AtP ks k j z) ∧ W0 = wi) (fun _ jv _ => m - (intOf jv).toNat)
            case atStart => exact ⟨-1, 0, rfl, rfl, by omega, .inl ⟨rfl, fun p hp => by omega⟩, rfl⟩
            case round =>
              obtain ⟨z, j, rfl, rfl, hj, HA, rfl⟩ := hrel
              by_cases hjm : j < m
              · have k2 : (j : Int) < (m : Int) := by omega
                obtain ⟨gk, ck, egk, _, _, _, _, hcellk, _⟩ := HK.out.there (by omega)
                injection egk with x1 _ x3
                subst x1 x3
                obtain ⟨k', hk'⟩ : ∃ x, ks[j]? = some x := ⟨_, List.getElem?_eq_getElem (by rw [← HM.out]; exact hjm)⟩
                have y3 := hcellk _ _ (strc_at _ _ _ hk')
                have HK' : Hid (ks[j]? = some k') := hk'
                clear hcellk hk'
                by_cases hkk : k' = k
                · have s1 : (k'.toList == k.toList) = true := by rw [str_beq, hkk]; simp
                  have HKK : Hid (k' = k) := hkk
                  clear hkk
                  go_wp2_with fail
                  exact ⟨⟨(j : Int), j + 1, rfl, by go_num, by omega, .inr ⟨j, rfl, by omega, by rw [← HKK.out]; exact HK'.out⟩, trivial⟩, by simp [intOf]; omega⟩
                · have s1 : (k'.toList == k.toList) = false := by rw [str_beq, decide_eq_false hkk]
                  have HKK : Hid (k' ≠ k) := hkk
                  clear hkk
                  go_wp2_with fail
                  refine ⟨⟨z, j + 1, rfl, by go_num, by omega, ?_, trivial⟩, by simp [intOf]; omega⟩
                  rcases HA.out with ⟨h1, h2⟩ | ⟨p, h1, h2, h3⟩
                  · refine .inl ⟨h1, fun p hp => ?_⟩
                    by_cases e : p = j
                    · rw [e, HK'.out]; intro e'; injection e' with e'; exact HKK.out e'
                    · exact h2 p (by omega)
                  · exact .inr ⟨p, h1, by omega, h3⟩
              · have k2 : decide ((j : Int) < (m : Int)) = false := by simp; omega
                have hjm' : m = j := by omega
                subst hjm'
                have hkeys : s.keys = (m : Int) := by rw [HL2.out.keys, ← HM.out]
                have HKS : Hid (s.keys = (m : Int)) := hkeys
                have hq1 : ((m : Int) != (m : Int)) = false := by simp
                clear hjm hj
                go_upto_block 6 with fail
                go_cut [6, 7] from 46 to 145 (fun kv nv wx => Hid (TailS w C i (.slice (some ⟨ga, 0, none⟩) n c) n L kv nv wx))
                case first =>
                  by_cases hK1 : K = 1
                  · subst hK1
                    rcases HA.out with ⟨rfl, hno⟩ | ⟨p, rfl, hpm, hp⟩
                    · have hno' : ∀ p : Nat, ks[p]? ≠ some k := fun p => by
                        by_cases e : p < m
                        · exact hno p e
                        · rw [List.getElem?_eq_none (by rw [← HM.out]; omega)]; intro e'; cases e'
                      have HFk : Hid ((!(s.F k).isSome) = true) := by show _ = _; rw [HL2.out.miss k hno']; rfl
                      have HLD : Hid (Led (s.put k N) (ks ++ [k]) (ns ++ [N])) := HL2.out.add k N hno'
                      clear hno hno' HA
                      go_wp2_with fail
                      refine (put_any 1 C s k N (by omega) (by rw [hkeys]; omega) (by rw [hkeys]; omega) _ o HI.out).mono ?_
                      rintro e w5 ⟨rfl, o5, I5, F5⟩
                      rw [HFk.out]
                      have HR : MReg w w5 C (s.put k N) (.slice a1 m d1) m ks none k (.slice a2 m d2) m ns none N (.slice (some ⟨ga, 0, none⟩) n c) n L :=
                        ⟨o5, HK.out.fr F5 (fun e => by cases e), HN.out.fr F5 (fun e => by cases e), HO.out.fr F5 (fun e => by cases e), I5, HF.out.trans (F5.mono (fun t e => .inl e)), (fun b e => by cases e), (fun b e => by cases e)⟩
                      have DR : ∀ X : World, Below X.heap.size X X.drew := fun X => (Below.refl _ _).drew
                      have z1 : w5.cell? ⟨ga, i * 3 + 1, none⟩ = some (.int .i64 N) := MReg.cellN HR HQ.out (by omega)
                      have HRa := MReg.allA HR
                      have HRb := MReg.allB HR
                      have z2 : (w5.alloc (.cells #[.string k] 9)).cell? ⟨ga, i * 3 + 1, none⟩ = some (.int .i64 N) := MReg.cellN HRa HQ.out (by omega)
                      obtain ⟨p1, p2, X1, rA1, H1⟩ := MReg.appA (HRa.mono (DR _)) (by omega)
                      have z3 : X1.cell? ⟨ga, i * 3 + 1, none⟩ = some (.int .i64 N) := MReg.cellN H1 HQ.out (by omega)
                      obtain ⟨p3, p4, Y1, rB1, H1⟩ := MReg.appB H1.allB (by omega)
                      have HRab := MReg.allB HRa
                      have HRba := MReg.allA HRb
                      rw [show (w5.alloc (.cells #[.string k] 9)).heap.size = w5.heap.size + 1 by simp] at HRab
                      rw [show (w5.alloc (.cells #[.int .i64 N] 3)).heap.size = w5.heap.size + 1 by simp] at HRba
                      obtain ⟨q1, q2, X2, rA2, H2⟩ := MReg.appA (HRab.mono (DR _)) (by omega)
                      obtain ⟨q3, q4, Y2, rB2, H2⟩ := MReg.appB H2 (by omega)
                      obtain ⟨t1, t2, X3, rA3, H3⟩ := MReg.appA (HRba.mono (DR _)) (by omega)
                      obtain ⟨t3, t4, Y3, rB3, H3⟩ := MReg.appB H3 (by omega)
                      have G1 : Hid (TailM w C (s.put k N) (m + 1) (ks ++ [k]) (ns ++ [N]) (.slice (some ⟨ga, 0, none⟩) n c) n L (.slice p1 (m + 1) p2) (.slice p3 (m + 1) p4) Y1) := H1.tail
                      have G2 : Hid (TailM w C (s.put k N) (m + 1) (ks ++ [k]) (ns ++ [N]) (.slice (some ⟨ga, 0, none⟩) n c) n L (.slice q1 (m + 1) q2) (.slice q3 (m + 1) q4) Y2) := H2.tail
                      have G3 : Hid (TailM w C (s.put k N) (m + 1) (ks ++ [k]) (ns ++ [N]) (.slice (some ⟨ga, 0, none⟩) n c) n L (.slice t1 (m + 1) t2) (.slice t3 (m + 1) t4) Y3) := H3.tail
                      have HM9 : Hid (m + 1 = (ks ++ [k]).length) := by show _ = _; rw [HM.out]; simp
                      clear HR HRa HRb HRab HRba H1 H2 H3 DR I5 F5 HK HN HO HI HF y0 y1 y2 HFk
                      go_wp2_with fail
                      go_region_law (first
                        | (refine step_app4 rA1 (.tmp 91) (.tmp 93) (by with_reducible rfl) (by rfl) (by rfl) (by rfl) (by rfl) (by rfl) ?_)
                        | (refine step_app4 rA2 (.tmp 91) (.tmp 93) (by with_reducible rfl) (by rfl) (by rfl) (by rfl) (by rfl) (by rfl) ?_)
                        | (refine step_app4 rA3 (.tmp 91) (.tmp 93) (by with_reducible rfl) (by rfl) (by rfl) (by rfl) (by rfl) (by rfl) ?_)
                        | (refine step_app4 rB1 (.tmp 95) (.tmp 101) (by with_reducible rfl) (by rfl) (by rfl) (by rfl) (by rfl) (by rfl) ?_)
                        | (refine step_app4 rB2 (.tmp 95) (.tmp 101) (by with_reducible rfl) (by rfl) (by rfl) (by rfl) (by rfl) (by rfl) ?_)
                        | (refine step_app4 rB3 (.tmp 95) (.tmp 101) (by with_reducible rfl) (by rfl) (by rfl) (by rfl) (by rfl) (by rfl) ?_))
                      all_goals
                        go_wp2_with fail
                        go_meet
                        exact ⟨m + 1, ks ++ [k], ns ++ [N], s.put k N, by omega, HM9.out, HLD.out, by first | exact G1.out | exact G2.out | exact G3.out⟩
                    · have HFk : Hid ((!(s.F k).isSome) = false) := by show _ = _; rw [HL2.out.some hp]; rfl
                      have HLD : Hid (Led (s.put k N) ks (ns.set p N)) := HL2.out.turn N hp
                      have jz : decide ((p : Int) < 0) = false := by simp
                      have jp : (p : Int) < (m : Int) := by omega
                      clear HA hp
                      go_wp2_with fail
                      refine (put_any 1 C s k N (by omega) (by rw [hkeys]; omega) (by rw [hkeys]; omega) _ o HI.out).mono ?_
                      rintro e w5 ⟨rfl, o5, I5, F5⟩
                      rw [HFk.out]
                      have N5 := HN.out.fr F5 (fun e => by cases e)
                      obtain ⟨gn, cn, egn, ogn, gln, hcn, hmn, _, hroom⟩ := N5.there (by omega)
                      injection egn with x1 _ x3
                      subst x1 x3
                      obtain ⟨u, hu⟩ := Option.isSome_iff_exists.1 (hroom p (by omega)).1
                      have hz := (hroom p (by omega)).2
                      have z1 : w5.cell? ⟨ga, i * 3 + 1, none⟩ = some (.int .i64 N) := F5.cell y1 (by rw [oga]; intro e; cases e)
                      have FS : Fr (· = (3, 0)) o5 o5 w5 (w5.setCell ⟨gn, p, none⟩ (.int .i64 N)) := Fr.set (a := ⟨gn, p, none⟩) ogn _
                      have G : Hid (TailM w C (s.put k N) m ks (ns.set p N) (.slice (some ⟨ga, 0, none⟩) n c) n L (.slice a1 m d1) (.slice (some ⟨gn, 0, none⟩) m d2) (w5.setCell ⟨gn, p, none⟩ (.int .i64 N))) := by
                        refine ⟨o5, a1, d1, _, d2, rfl, rfl, (HK.out.fr F5 (fun e => by cases e)).fr FS (fun e => by cases e), ?_, (HO.out.fr F5 (fun e => by cases e)).fr FS (fun e => by cases e), I5.fr FS (fun _ e => by cases e), (HF.out.trans (F5.mono (fun t e => .inl e))).trans (FS.mono (fun t e => .inr (.inr (.inl (by rw [e])))))⟩
                        have := N5.set p (.int .i64 N) rfl (by omega)
                        rw [intc_set] at this; exact this
                      clear I5 F5 HK HN HO HI HF y0 y1 y2 HFk N5 hroom FS
                      go_wp2_with fail
                      go_meet
                      exact ⟨m, ks, ns.set p N, s.put k N, by omega, HM.out, HLD.out, G.out⟩
                  · have jk1 : (K == 1) = false := by simp [hK1]
                    by_cases hK3 : K = 3
                    · subst hK3
                      rcases HA.out with ⟨rfl, hno⟩ | ⟨p, rfl, hpm, hp⟩
                      · have hno' : ∀ p : Nat, ks[p]? ≠ some k := fun p => by
                          by_cases e : p < m
                          · exact hno p e
                          · rw [List.getElem?_eq_none (by rw [← HM.out]; omega)]; intro e'; cases e'
                        have HFk : Hid ((s.F k).isSome = false) := by show _ = _; rw [HL2.out.miss k hno']; rfl
                        have HLD : Hid (Led (s.drop k) ks ns) := HL2.out.same k hno'
                        clear hno hno' HA
                        go_wp2_with fail
                        refine (drop_any 1 C s k (by omega) (by rw [hkeys]; omega) (by rw [hkeys]; omega) _ o HI.out).mono ?_
                        rintro e w5 ⟨rfl, o5, I5, F5⟩
                        rw [HFk.out]
                        have G : Hid (TailM w C (s.drop k) m ks ns (.slice (some ⟨ga, 0, none⟩) n c) n L (.slice a1 m d1) (.slice a2 m d2) w5) :=
                          ⟨o5, a1, d1, a2, d2, rfl, rfl, HK.out.fr F5 (fun e => by cases e), HN.out.fr F5 (fun e => by cases e), HO.out.fr F5 (fun e => by cases e), I5, HF.out.trans (F5.mono (fun t e => .inl e))⟩
                        clear I5 F5 HK HN HO HI HF y0 y1 y2 HFk
                        go_wp2_with fail
                        go_meet
                        exact ⟨m, ks, ns, s.drop k, by omega, HM.out, HLD.out, G.out⟩
                      · have HFk : Hid ((s.F k).isSome = true) := HL2.out.some hp
                        have HLD : Hid (Led (s.drop k) (out ks p) (out ns p)) := HL2.out.less hp
                        have hm0 : 0 < m := by omega
                        have jz : decide ((0 : Int) ≤ (p : Int)) = true := by simp
                        have jp : (p : Int) < (m : Int) := by omega
                        clear HA hp
                        obtain ⟨gk, ck, egk, ogk, glk, hck, hmk, _, _⟩ := HK.out.there hm0
                        injection egk with x1 _ x3
                        subst x1 x3
                        obtain ⟨gn, cn, egn, ogn, gln, hcn, hmn, _, _⟩ := HN.out.there hm0
                        injection egn with x1 _ x3
                        subst x1 x3
                        go_wp2_with fail
                        refine (drop_any 1 C s k (by omega) (by rw [hkeys]; omega) (by rw [hkeys]; omega) _ o HI.out).mono ?_
                        rintro e w5 ⟨rfl, o5, I5, F5⟩
                        rw [HFk.out]
                        have K5 := HK.out.fr F5 (fun e => by cases e)
                        have N5 := HN.out.fr F5 (fun e => by cases e)
                        have O5 := HO.out.fr F5 (fun e => by cases e)
                        have FF5 : Fr TM o0 o5 w w5 := HF.out.trans (F5.mono (fun t e => .inl e))
                        obtain ⟨a6, q6, w6, a7, q7, w7, o7, run1, run2, O7, F7⟩ := erase_own (i := p) 45 9 (.string ⟨#[]⟩) 16 under45 info9 (by kernel_rfl) (K5.fr (Fr.drew1 (fun _ => False) o5 w5) (fun x => x)) hpm (by omega) (by omega)
                        rw [strc_out] at O7
                        have N7 := (N5.fr (Fr.drew1 (fun _ => False) o5 w5) (fun x => x)).fr (F7 (fun _ => False)) (fun x => x)
                        have L7 := (O5.fr (Fr.drew1 (fun _ => False) o5 w5) (fun x => x)).fr (F7 (fun _ => False)) (fun x => x)
                        have I7 := (IsChain.fr I5 (Fr.drew1 (fun _ => False) o5 w5) (fun _ x => x)).fr (F7 (fun _ => False)) (fun _ x => x)
                        have FF7 := (FF5.trans (Fr.drew1 TM o5 w5)).trans (F7 TM)
                        obtain ⟨b8, u8, w8, b9, u9, w9, o9, run3, run4, O9, F9⟩ := erase_own (i := p) 46 3 (.int .i64 0) 8 under46 info3 (by kernel_rfl) (N7.fr (Fr.drew1 (fun _ => False) o7 w7) (fun x => x)) hpm (by omega) (by omega)
                        rw [intc_out] at O9
                        have K9 := (O7.fr (Fr.drew1 (fun _ => False) o7 w7) (fun x => x)).fr (F9 (fun _ => False)) (fun x => x)
                        have L9 := (L7.fr (Fr.drew1 (fun _ => False) o7 w7) (fun x => x)).fr (F9 (fun _ => False)) (fun x => x)
                        have I9 := (IsChain.fr I7 (Fr.drew1 (fun _ => False) o7 w7) (fun _ x => x)).fr (F9 (fun _ => False)) (fun _ x => x)
                        have FF9 := (FF7.trans (Fr.drew1 TM o7 w7)).trans (F9 TM)
                        have G : Hid (TailM w C (s.drop k) (m - 1) (out ks p) (out ns p) (.slice (some ⟨ga, 0, none⟩) n c) n L (.slice a7 (m - 1) q7) (.slice b9 (m - 1) u9) w9) := ⟨o9, _, _, _, _, rfl, rfl, K9, O9, L9, I9, FF9⟩
                        have HM9 : Hid (m - 1 = (out ks p).length) := by show _ = _; rw [out_length _ _ (by rw [← HM.out]; exact hpm), ← HM.out]
                        have sl1 := slice_hiT 45 9 1 elem45 elem45' size9' gk m d1 p (by omega)
                        have sl2 : ∀ w, (Instr.sliceAt 45 (.slice (some ⟨gk, 0, none⟩) m d1) (some (.int .i64 ((p : Int) + 1))) none none).run Try.prog w = .ok (.slice (some (cutA gk (p + 1) d1 1)) (m - (p + 1)) (d1 - (p + 1))) w := slice_loT 45 9 1 elem45 elem45' size9' gk m d1 (p + 1) (by omega)
                        have sl3 := slice_hiT 46 3 1 elem46 elem46' size3' gn m d2 p (by omega)
                        have sl4 : ∀ w, (Instr.sliceAt 46 (.slice (some ⟨gn, 0, none⟩) m d2) (some (.int .i64 ((p : Int) + 1))) none none).run Try.prog w = .ok (.slice (some (cutA gn (p + 1) d2 1)) (m - (p + 1)) (d2 - (p + 1))) w := slice_loT 46 3 1 elem46 elem46' size3' gn m d2 (p + 1) (by omega)
                        have hwk : IntKind.i64.wrap ((p : Int) + 1) = (p : Int) + 1 := by rw [IntKind.wrap_i64]; omega
                        clear I5 F5 K5 N5 O5 FF5 O7 F7 N7 L7 I7 FF7 O9 F9 K9 L9 I9 FF9 HK HN HO HI HF y0 y1 y2 HFk
                        go_wp2_with fail
                        go_region_law (first | (refine step_app4 run1 (.tmp 121) (.tmp 124) (by rfl) (by rfl) (by rfl) (by rfl) (by rfl) (by rfl) ?_) | (refine step_app4 run2 (.tmp 125) (.tmp 129) (by with_reducible rfl) (by rfl) (by rfl) (by rfl) (by rfl) (by rfl) ?_))
                        go_wp2_with fail
                        go_region_law (first | (refine step_app4 run3 (.tmp 131) (.tmp 134) (by rfl) (by rfl) (by rfl) (by rfl) (by rfl) (by rfl) ?_) | (refine step_app4 run4 (.tmp 135) (.tmp 139) (by with_reducible rfl) (by rfl) (by rfl) (by rfl) (by rfl) (by rfl) ?_))
                        go_wp2_with fail
                        go_meet
                        exact ⟨m - 1, out ks p, out ns p, s.drop k, by omega, HM9.out, HLD.out, G.out⟩
                    · have jk3 : (K == 3) = false := by simp [hK3]
                      have G : Hid (TailM w C s m ks ns (.slice (some ⟨ga, 0, none⟩) n c) n L (.slice a1 m d1) (.slice a2 m d2) W0) :=
                        ⟨o, a1, d1, a2, d2, rfl, rfl, HK.out, HN.out, HO.out, HI.out, HF.out⟩
                      clear HK HN HO HI HF y1 y2 HA
                      go_wp2_with fail
                      go_meet
                      exact ⟨m, ks, ns, s, by omega, HM.out, HL2.out, G.out⟩
                case rest =>
                  obtain ⟨m9, ks9, ns9, s9, hm9, hl9, hd9, o9, ax, cx, bx, ex, rfl, rfl, r1, r2, r3, r4, r5⟩ := hcut.out
                  have J1 : Hid (OwnK wc o9 (2, 0) 1 (.slice ax m9 cx) m9 (strc ks9)) := r1
                  have J2 : Hid (OwnK wc o9 (3, 0) 1 (.slice bx m9 ex) m9 (intc ns9)) := r2
                  have J3 : Hid (OwnK wc o9 (4, 0) 3 (.slice (some ⟨ga, 0, none⟩) n c) n (askc L)) := r3
                  have J4 : Hid (IsChain wc o9 1 C s9) := r4
                  have J5 : Hid (Fr TM o0 o9 w wc) := r5
                  have J6 : Hid (Led s9 ks9 ns9) := hd9
                  have HM9 : Hid (m9 = ks9.length) := hl9
                  have hk9 : s9.keys = (m9 : Int) := by rw [hd9.keys, ← hl9]
                  have hq2 : ((m9 : Int) != (m9 : Int)) = false := by simp
                  clear r1 r2 r3 r4 r5 hcut hd9 hl9 HK HN HO HI HF HKS hkeys hq1 y0 y1 y2
                  go_wp2_with fail
                  refine (len_any 1 C s9 _ o9 J4.out).mono ?_
                  rintro e wx ⟨rfl, rfl⟩
                  rw [hk9]
                  go_wp2_with fail
                  exact ⟨⟨i + 1, m9, ks9, ns9, s9, o9, ax, cx, bx, ex, rfl, rfl, by go_num, by omega, by omega, HM9, J6, J1, J2, J3, J4, J5⟩, by simp [intOf]; omega⟩
          · have k1 : decide ((i : Int) < (n : Int)) = false := by simp; omega
            go_wp2_with fail
            go_loopw [14] (fun y wr => ∃ (j : Nat), y = .int .i64 (j : Int) ∧ j ≤ m ∧ Hid (OwnK wr o (2, 0) 1 (.slice a1 m d1) m (strc ks)) ∧ Hid (OwnK wr o (3, 0) 1 (.slice a2 m d2) m (intc ns)) ∧ Hid (IsChain wr o 1 C s) ∧ Hid (Fr TM o0 o w wr)) (fun y _ => m - (intOf y).toNat)
            case atStart => exact ⟨0, rfl, by omega, HK, HN, HI, HF⟩
            case round =>
              clear HK HN HO HI HF
              obtain ⟨j, rfl, hj, HK, HN, HI, HF⟩ := hrel
              by_cases hjm : j < m
              · have k2 : (j : Int) < (m : Int) := by omega
                obtain ⟨gk, ck, egk, ogk, _, _, _, hcellk, _⟩ := HK.out.there (by omega)
                injection egk with x1 _ x3
                subst x1 x3
                obtain ⟨gn, cn, egn, ogn, _, _, _, hcelln, _⟩ := HN.out.there (by omega)
                injection egn with x1 _ x3
                subst x1 x3
                obtain ⟨k, hk⟩ : ∃ x, ks[j]? = some x := ⟨_, List.getElem?_eq_getElem (by rw [← HM.out]; exact hjm)⟩
                obtain ⟨v, hv⟩ : ∃ x, ns[j]? = some x := ⟨_, List.getElem?_eq_getElem (by rw [← HL2.out.len, ← HM.out]; exact hjm)⟩
                have y3 := hcellk _ _ (strc_at _ _ _ hk)
                have y4 := hcelln _ _ (intc_at _ _ _ hv)
                have HFk : Hid (s.F k = some v) := HL2.out.hit j k v hk hv
                have hks : k.size ≤ 140737488355328 := HI.out.ksz HFk.out
                have hvv : (v != v) = false := by simp
                clear hcellk hcelln hk hv
                go_wp2_with fail
                refine (get_any 1 C s k hks _ o HI.out).mono ?_
                rintro e w5 ⟨rfl, B5⟩
                rw [HFk.out]
                have y5 := cell_up B5 y4
                have HK5 : Hid (OwnK w5 o (2, 0) 1 (.slice (some ⟨gk, 0, none⟩) m d1) m (strc ks)) := HK.out.below B5
                have HN5 : Hid (OwnK w5 o (3, 0) 1 (.slice (some ⟨gn, 0, none⟩) m d2) m (intc ns)) := HN.out.below B5
                have HI5 : Hid (IsChain w5 o 1 C s) := HI.out.below B5
                have HF5 : Hid (Fr TM o0 o w w5) := HF.out.trans (Fr.ofBelow _ o B5)
                clear B5 HK HN HI HF y3 y4
                go_wp2_with fail
                exact ⟨⟨j + 1, by go_num, by omega, HK5, HN5, HI5, HF5⟩, by simp [intOf]; omega⟩
              · have k2 : decide ((j : Int) < (m : Int)) = false := by simp; omega
                go_wp2_with fail
                refine (runs_any _).mono ?_
                rintro e w6 ⟨rfl, B6⟩
                go_wp2_with fail
                go_ret
                have B := o0_TM w HF.out
                exact ⟨rfl, B.trans (B6.mono B.size)⟩
end Go.Proofs.Ytaflabjeddckeaa
