/-
  ITEMHOLDS: the switch of the law's round, walked apart: here what a Put does.
-/
import Derived.Test.YtbflcnghpkmcoaaHold
namespace Go.Proofs.Ytbflcnghpkmcoaa
open Go.RowKit

theorem then_imp {K : Act → World → Prop} {R : Exit → Act → World → Prop} : ∀ (e : Exit) (a : Act) (w : World), Exit.then K (fun _ _ _ => False) e a w → Exit.then K R e a w := fun e a w h => by
  cases e <;> first | exact h | exact (h : False).elim

/-- The block of that number in a piece of code. -/
def blockOf (n : Nat) : Code → Option Code
  | .seq a b => match blockOf n a with
    | some c => some c
    | none => blockOf n b
  | .cond _ a b => match blockOf n a with
    | some c => some c
    | none => blockOf n b
  | .block i b => bif Nat.beq i n then some (.block i b) else blockOf n b
  | .loop b => blockOf n b
  | _ => none

/-- The switch of the law's round (its block 4). -/
def swOf (f : Func) : Code := match f.body with
  | some c => (blockOf 4 c).getD .skip
  | none => .skip
set_option maxRecDepth 100000 in
set_option maxHeartbeats 16000000 in
theorem sw_put {t0 t1 t2 t3 t4 t5 t6 t8 t12 t15 t16 t17 t18 t19 t20 t21 t22 t23 t24 t25 t26 t27 t28 t29 t30 t31 t32 t33 t34 t35 t36 t37 t38 t39 t40 t41 t42 t43 t44 t45 t46 t47 t48 t49 t50 t51 t52 t53 t54 t55 t56 t57 t58 t59 t60 t61 t62 t63 t64 t65 t66 t67 t68 t69 t70 t71 t72 t73 t74 t75 t76 t77 t78 t79 t80 t81 t82 t83 t84 t85 t86 t87 t89 t90 t91 t92 t93 t94 t95 t96 t97 t98 t99 t100 t101 t102 t103 t104 t105 t106 t107 t108 t109 t110 t111 t112 t113 t114 t115 t116 t117 t118 t119 t120 t121 t122 t123 t124 t125 t126 t127 t128 t129 t130 t131 t132 t133 t134 t135 t136 t137 t138 t139 t140 t141 t142 t143 t144 t145 t146 t147 t148 t149 t150 t151 t152 t153 t154 t155 t156 t157 t158 t159 t160 t161 t162 t163 t164 t165 t166 t167 t168 t169 t170 t171 t172 t173 t174 t175 t176 t177 t178 t179 t180 t181 t182 t183 t184 t185 t186 t187 t188 t189 t190 t191 t192 t193 t194 t195 t196 t197 t198 t199 t200 t201 t202 t203 t204 t205 t206 t207 t208 t209 t210 t211 t212 t213 t214 t215 t216 t217 t218 t219 t220 t221 t222 t223 : Value} {J K' : Act → World → Prop} {w wc : World} {X A m p : Nat} {q : AskD} {ks ds : List ByteArray} {ps : List Bool} {z : Sp} {o : Nat → Nat × Nat} {ka da pa : Option Addr} {kc dc pc : Nat}
    (_ : ∀ (a' : Act) (w' : World), (∃ u6 u9 u16 u17 u18 u19 u20 u21 u39 u40 u41 u42 u43 u44 u45 u46 u47 u48 u49 u50 u51 u52 u53 u54 u55 u56 u57 u58 u59 u60 u61 u62 u63 u64 u65 u66 u67 u68 u69 u70 u71 u72 u73 u74 u75 u76 u77 u78 u79 u80 u81 u82 u83 u84 u85 u86 u87 u88 u89 u90 u91 u92 u93 u94 u95 u96 u97 u98 u99 u100 u101 u102 u103 u104 u105 u106 u107 u108 u109 u110 u111 u112 u113 u114 u115 u116 u117 u118 u119 u120 u121 u122 u123 u124 u125 u126 u127 u128 u129 u130 u131 u132 u133 u134 u135 u136 u137 u138 u139 u140 u141 u142 u143 u144 u145 u146 u147 u148 u149 u150 u151 u152 u153 u154 u155 u156 u157 u158 u159 u160 u161 u162 u163 u164 u165 u166 u167 u168 u169 u170 u171 u172 u173 u174 u175 u176 u177 u178 u179 u180 u181 u182 u183 u184 u185 u186 u187 u188 u189 u190 u191 u192 u193 u194 u195 u196 u197 u198 u199 u200 u201 u202 u203 u204 u205 u206 u207 u208 u209 u210 u211 u212 u213 u214 u215 u216 u217 u218 u219 u220 u221 u222 : Value, (u9 = .slice ka m kc ∧ Hid (ToldP w X m ks (.slice ka m kc) (.slice da m dc) (.slice pa m pc) w')) ∧ a' = { tmps := List.toArray (t0 :: t1 :: t2 :: t3 :: t4 :: t5 :: u6 :: Value.pointer (some ⟨X, 0, none⟩) :: t8 :: u9 :: Value.slice da m dc :: Value.slice pa m pc :: t12 :: Value.pointer (some ⟨A, 0, none⟩) :: Value.int .i64 (p : Int) :: t15 :: u16 :: u17 :: u18 :: u19 :: u20 :: u21 :: t22 :: t23 :: t24 :: t25 :: t26 :: t27 :: t28 :: t29 :: t30 :: t31 :: t32 :: t33 :: t34 :: t35 :: t36 :: t37 :: t38 :: u39 :: u40 :: u41 :: u42 :: u43 :: u44 :: u45 :: u46 :: u47 :: u48 :: u49 :: u50 :: u51 :: u52 :: u53 :: u54 :: u55 :: u56 :: u57 :: u58 :: u59 :: u60 :: u61 :: u62 :: u63 :: u64 :: u65 :: u66 :: u67 :: u68 :: u69 :: u70 :: u71 :: u72 :: u73 :: u74 :: u75 :: u76 :: u77 :: u78 :: u79 :: u80 :: u81 :: u82 :: u83 :: u84 :: u85 :: u86 :: u87 :: u88 :: u89 :: u90 :: u91 :: u92 :: u93 :: u94 :: u95 :: u96 :: u97 :: u98 :: u99 :: u100 :: u101 :: u102 :: u103 :: u104 :: u105 :: u106 :: u107 :: u108 :: u109 :: u110 :: u111 :: u112 :: u113 :: u114 :: u115 :: u116 :: u117 :: u118 :: u119 :: u120 :: u121 :: u122 :: u123 :: u124 :: u125 :: u126 :: u127 :: u128 :: u129 :: u130 :: u131 :: u132 :: u133 :: u134 :: u135 :: u136 :: u137 :: u138 :: u139 :: u140 :: u141 :: u142 :: u143 :: u144 :: u145 :: u146 :: u147 :: u148 :: u149 :: u150 :: u151 :: u152 :: u153 :: u154 :: u155 :: u156 :: u157 :: u158 :: u159 :: u160 :: u161 :: u162 :: u163 :: u164 :: u165 :: u166 :: u167 :: u168 :: u169 :: u170 :: u171 :: u172 :: u173 :: u174 :: u175 :: u176 :: u177 :: u178 :: u179 :: u180 :: u181 :: u182 :: u183 :: u184 :: u185 :: u186 :: u187 :: u188 :: u189 :: u190 :: u191 :: u192 :: u193 :: u194 :: u195 :: u196 :: u197 :: u198 :: u199 :: u200 :: u201 :: u202 :: u203 :: u204 :: u205 :: u206 :: u207 :: u208 :: u209 :: u210 :: u211 :: u212 :: u213 :: u214 :: u215 :: u216 :: u217 :: u218 :: u219 :: u220 :: u221 :: u222 :: t223 :: []), defers := [] }) → J a' w')
    (_ : ∀ (a' : Act) (w' : World), Met J a' w' → K' a' w')
    (hkz : q.Y.size ≤ 100) (hm61 : m ≤ 61) (hpm : p < m)
    (HL : Hid (Lst w X z m ks ds ps (.slice ka m kc) (.slice da m dc) (.slice pa m pc) wc o ∧ AskAt wc A 0 q ∧ o A = (0, 0) ∧ ks[p]? = some q.Y))
    (a0 : wc.cell? ⟨A, 0, none⟩ = some (.int .i64 q.K)) (hK1 : q.K = 1) :
    Code.wp Try.prog (swOf Try.f5) (Exit.then K' fun _ _ _ => False) { tmps := List.toArray (t0 :: t1 :: t2 :: t3 :: t4 :: t5 :: t6 :: Value.pointer (some ⟨X, 0, none⟩) :: t8 :: Value.slice ka m kc :: Value.slice da m dc :: Value.slice pa m pc :: t12 :: Value.pointer (some ⟨A, 0, none⟩) :: Value.int .i64 (p : Int) :: t15 :: t16 :: t17 :: t18 :: t19 :: t20 :: t21 :: t22 :: t23 :: t24 :: t25 :: t26 :: t27 :: t28 :: t29 :: t30 :: t31 :: t32 :: t33 :: t34 :: t35 :: t36 :: t37 :: t38 :: t39 :: t40 :: t41 :: t42 :: t43 :: t44 :: t45 :: t46 :: t47 :: t48 :: t49 :: t50 :: t51 :: t52 :: t53 :: t54 :: t55 :: t56 :: t57 :: t58 :: t59 :: t60 :: t61 :: t62 :: t63 :: t64 :: t65 :: t66 :: t67 :: t68 :: t69 :: t70 :: t71 :: t72 :: t73 :: t74 :: t75 :: t76 :: t77 :: t78 :: t79 :: t80 :: t81 :: t82 :: t83 :: t84 :: t85 :: t86 :: t87 :: Value.int .i64 q.K :: t89 :: t90 :: t91 :: t92 :: t93 :: t94 :: t95 :: t96 :: t97 :: t98 :: t99 :: t100 :: t101 :: t102 :: t103 :: t104 :: t105 :: t106 :: t107 :: t108 :: t109 :: t110 :: t111 :: t112 :: t113 :: t114 :: t115 :: t116 :: t117 :: t118 :: t119 :: t120 :: t121 :: t122 :: t123 :: t124 :: t125 :: t126 :: t127 :: t128 :: t129 :: t130 :: t131 :: t132 :: t133 :: t134 :: t135 :: t136 :: t137 :: t138 :: t139 :: t140 :: t141 :: t142 :: t143 :: t144 :: t145 :: t146 :: t147 :: t148 :: t149 :: t150 :: t151 :: t152 :: t153 :: t154 :: t155 :: t156 :: t157 :: t158 :: t159 :: t160 :: t161 :: t162 :: t163 :: t164 :: t165 :: t166 :: t167 :: t168 :: t169 :: t170 :: t171 :: t172 :: t173 :: t174 :: t175 :: t176 :: t177 :: t178 :: t179 :: t180 :: t181 :: t182 :: t183 :: t184 :: t185 :: t186 :: t187 :: t188 :: t189 :: t190 :: t191 :: t192 :: t193 :: t194 :: t195 :: t196 :: t197 :: t198 :: t199 :: t200 :: t201 :: t202 :: t203 :: t204 :: t205 :: t206 :: t207 :: t208 :: t209 :: t210 :: t211 :: t212 :: t213 :: t214 :: t215 :: t216 :: t217 :: t218 :: t219 :: t220 :: t221 :: t222 :: t223 :: []), defers := [] } wc := by
  simp only [swOf, Try.f5, blockOf, Nat.beq, cond_true, cond_false, Option.getD]
  have hlen := HL.out.1.len
  have AA := HL.out.2.1
  have a1 := AA.2.1
  have a2 := AA.2.2.1
  have a3 := AA.2.2.2.1
  have a4 := AA.2.2.2.2
  have hok := HL.out.1.led.ok
  obtain ⟨dd, hdd⟩ : ∃ x, ds[p]? = some x := ⟨_, List.getElem?_eq_getElem (by rw [HL.out.1.led.l1]; omega)⟩
  obtain ⟨pb, hpb⟩ : ∃ x, ps[p]? = some x := ⟨_, List.getElem?_eq_getElem (by rw [HL.out.1.led.l2]; omega)⟩
  obtain ⟨gd, ed, _⟩ := HL.out.1.d.read hdd
  obtain ⟨gp, ep, _⟩ := HL.out.1.p.readB hpb
  obtain ⟨gk, ek, _⟩ := HL.out.1.k.read HL.out.2.2.2
  subst ed ep ek
  have HDD : Hid (ds[p]? = some dd ∧ ps[p]? = some pb) := ⟨hdd, hpb⟩
  have hpm1 : (p : Int) < (m : Int) := by omega
  clear hdd hpb
  rw [hK1] at a0
  have hdat : ∀ w, Calls Try.prog 16 #[.agg #[.int .i64 1, .int .i64 q.Z, .string q.Y, .string q.D, .bool q.T]] w fun e w' => e = .returned (.string (dt q)) ∧ Below w.heap.size w w' := fun w => by
    have := dat_any q w
    rw [hK1] at this; exact this
  have HDAT : Hid (∀ w, Calls Try.prog 16 #[.agg #[.int .i64 1, .int .i64 q.Z, .string q.Y, .string q.D, .bool q.T]] w fun e w' => e = .returned (.string (dt q)) ∧ Below w.heap.size w w') := hdat
  have hdz := dt_size q
  have HPS0 : Hid (PutS z q.Y (dt q) q.T (z.put q.Y (dt q) q.T)) := put_spec hok q.Y (dt q) q.T
  have HK1 : Hid (q.K = 1) := hK1
  clear hdat AA hok hlen
  go_wp2_with fail
  go_region_held3 (fun w' => w'.cell? ⟨A, 0, none⟩ = some (.int .i64 1) ∧ w'.cell? ⟨A, 0 + 1, none⟩ = some (.int .i64 q.Z) ∧ w'.cell? ⟨A, 0 + 2, none⟩ = some (.string q.Y) ∧ w'.cell? ⟨A, 0 + 3, none⟩ = some (.string q.D) ∧ w'.cell? ⟨A, 0 + 4, none⟩ = some (.bool q.T)) (first | exact ⟨a0, a1, a2, a3, a4⟩ | exact D5 | exact D6)
    (first
      | (go_at_call 16; refine (HDAT.out wc.drew).mono ?_; rintro e w5 ⟨rfl, B5⟩; have D5 : w5.cell? ⟨A, 0, none⟩ = some (.int .i64 1) ∧ w5.cell? ⟨A, 0 + 1, none⟩ = some (.int .i64 q.Z) ∧ w5.cell? ⟨A, 0 + 2, none⟩ = some (.string q.Y) ∧ w5.cell? ⟨A, 0 + 3, none⟩ = some (.string q.D) ∧ w5.cell? ⟨A, 0 + 4, none⟩ = some (.bool q.T) := ⟨cell_up B5 a0, cell_up B5 a1, cell_up B5 a2, cell_up B5 a3, cell_up B5 a4⟩)
      | (go_at_call 9; refine (sput_any X z q.Y (dt q) q.T (by omega) (by omega) w5 o ((HL.out.1.st.fr (Fr.drew1 (fun _ => False) o wc) (fun _ _ x => x)).below B5)).mono ?_; rintro e w6 ⟨V6, o6, rfl, O6, I6, F6⟩; have D6 : w6.cell? ⟨A, 0, none⟩ = some (.int .i64 1) ∧ w6.cell? ⟨A, 0 + 1, none⟩ = some (.int .i64 q.Z) ∧ w6.cell? ⟨A, 0 + 2, none⟩ = some (.string q.Y) ∧ w6.cell? ⟨A, 0 + 3, none⟩ = some (.string q.D) ∧ w6.cell? ⟨A, 0 + 4, none⟩ = some (.bool q.T) := ⟨F6.cell D5.1 (by rw [HL.out.2.2.1]; exact nT0), F6.cell D5.2.1 (by rw [HL.out.2.2.1]; exact nT0), F6.cell D5.2.2.1 (by rw [HL.out.2.2.1]; exact nT0), F6.cell D5.2.2.2.1 (by rw [HL.out.2.2.1]; exact nT0), F6.cell D5.2.2.2.2 (by rw [HL.out.2.2.1]; exact nT0)⟩))
  have F56 : Fr TS o o6 wc w6 := ((Fr.drew1 _ o wc).trans (Fr.ofBelow _ o B5)).trans F6
  obtain ⟨r, hr⟩ : ∃ r, r = z.put q.Y (dt q) q.T := ⟨_, rfl⟩
  rw [← hr] at O6 I6 HPS0 ⊢
  have HM6 : Hid (Mid w X r.2.2 m ks ds ps (.slice (some ⟨gk, 0, none⟩) m kc) (.slice (some ⟨gd, 0, none⟩) m dc) (.slice (some ⟨gp, 0, none⟩) m pc) A q w6 o6) := HL.out.1.mid HL.out.2.1 HL.out.2.2.1 I6 F56
  obtain ⟨va, vc, hV, _⟩ := O6.form
  subst hV
  have HO6 : Hid (OwnK w6 o6 (7, 0) 1 (.slice va r.1.length vc) r.1.length (strc r.1)) := O6
  have HPS : Hid (PutS z q.Y (dt q) q.T r) := HPS0.out
  have hgl : r.1.length ≤ 1 := HPS0.out.few
  have hE6 : r.2.1 ≤ 6 := HPS0.out.err
  obtain ⟨er, her⟩ : ∃ er, er = r.2.1 := ⟨_, rfl⟩
  have HER : Hid (er = r.2.1) := her
  rw [← her] at hE6 ⊢
  clear her hr F56 O6 I6 F6 D5 D6 B5 HPS0 a0 a1 a2 a3 a4 hK1
  go_wp2_with fail
  go_loopw [18] (fun y wx => ∃ (kk d9 : Nat), kk ≤ r.1.length ∧ y = .int .i64 (kk : Int) ∧ wx = w6.drewN d9) (fun y _ => r.1.length - (intOf y).toNat)
  case atStart => exact ⟨0, 0, by omega, rfl, rfl⟩
  case round =>
    obtain ⟨kk, d9, hkk, rfl, rfl⟩ := hrel
    by_cases hk9 : kk < r.1.length
    · have k7 : (kk : Int) < (r.1.length : Int) := by omega
      obtain ⟨g, hg⟩ : ∃ x, r.1[kk]? = some x := ⟨_, List.getElem?_eq_getElem hk9⟩
      obtain ⟨gv, ev, xv⟩ := HO6.out.read hg
      subst ev
      have HG : Hid (g ∈ r.1) := List.mem_of_getElem? hg
      clear hg
      go_wp2_with fail
      go_loopw [19] (fun y wx => ∃ (jj d8 : Nat), jj ≤ m ∧ y = .int .i64 (jj : Int) ∧ wx = w6.drewN d8) (fun y _ => m - (intOf y).toNat)
      case atStart => exact ⟨0, d9, by omega, rfl, rfl⟩
      case round =>
        obtain ⟨jj, d8, hjj, rfl, rfl⟩ := hrel
        by_cases hj9 : jj < m
        · have k8 : (jj : Int) < (m : Int) := by omega
          obtain ⟨k, hk⟩ : ∃ x, ks[jj]? = some x := ⟨_, List.getElem?_eq_getElem (by rw [← HL.out.1.len]; exact hj9)⟩
          obtain ⟨pb9, hp9⟩ : ∃ x, ps[jj]? = some x := ⟨_, List.getElem?_eq_getElem (by rw [HL.out.1.led.l2, ← HL.out.1.len]; exact hj9)⟩
          have xk := (HM6.out.k.cellAt (strc_at ks hk)).1
          have xp := (HM6.out.p.cellAt (blc_at ps hp9)).1
          by_cases hkg : k = g
          · have s1 : (k.toList == g.toList) = true := by rw [str_beq, hkg]; simp
            obtain ⟨h1, h2⟩ := HL.out.1.led.went HL.out.2.2.2 HPS.out HG.out (by rw [← hkg]; exact hk) hp9
            subst h1
            have s2 : ((jj : Int) == (p : Int)) = false := beq_eq_false_iff_ne.2 (by omega)
            clear hkg hk hp9
            go_wp2_with fail
            go_quiet (fail)
            go_wp2_with fail
            exact ⟨⟨jj + 1, d8 + nq, by omega, by go_num, rfl⟩, by simp [intOf]; omega⟩
          · have s1 : (k.toList == g.toList) = false := str_ne hkg
            clear hkg hk hp9
            go_wp2_with fail
            go_quiet (fail)
            go_wp2_with fail
            exact ⟨⟨jj + 1, d8 + nq, by omega, by go_num, rfl⟩, by simp [intOf]; omega⟩
        · have k8 : decide ((jj : Int) < (m : Int)) = false := by simp; omega
          go_wp2_with fail
          exact ⟨⟨kk + 1, d8, by omega, by go_num, rfl⟩, by simp [intOf]; omega⟩
    · have k7 : decide ((kk : Int) < (r.1.length : Int)) = false := by simp; omega
      have HM7 : Hid (Mid w X r.2.2 m ks ds ps (.slice (some ⟨gk, 0, none⟩) m kc) (.slice (some ⟨gd, 0, none⟩) m dc) (.slice (some ⟨gp, 0, none⟩) m pc) A q (w6.drewN d9) o6) := HM6.out.below (below_drewN (Below.refl _ _) d9)
      obtain ⟨W7, hW7⟩ : ∃ W7, W7 = w6.drewN d9 := ⟨_, rfl⟩
      rw [← hW7] at HM7 ⊢
      have b2 := HM7.out.ask.2.2.1
      clear hW7 HM6 HO6
      go_wp2_with fail
      refine (peek_any X r.2.2 q.Y (by omega) _ o6 HM7.out.st).mono ?_
      rintro e w8 ⟨rfl, B8⟩
      have HM8 : Hid (Mid w X r.2.2 m ks ds ps (.slice (some ⟨gk, 0, none⟩) m kc) (.slice (some ⟨gd, 0, none⟩) m dc) (.slice (some ⟨gp, 0, none⟩) m pc) A q w8 o6) := HM7.out.below B8
      clear B8 HM7 b2
      go_upto_region 32 with fail
      go_cut [20, 21, 153] from 39 to 222 (fun _ okv cv wx => ∃ okb : Bool, okv = .bool okb ∧ cv = .bool false ∧ Hid (okb = decide (r.2.1 = 0)) ∧ Hid (Mid w X r.2.2 m ks ds ps (.slice (some ⟨gk, 0, none⟩) m kc) (.slice (some ⟨gd, 0, none⟩) m dc) (.slice (some ⟨gp, 0, none⟩) m pc) A q wx o6))
      case first =>
        rcases Led.peek HPS.out with ⟨h1, h2⟩ | ⟨i9, h1, h2, h3⟩
        · rw [h1]
          rw [show tel none = ⟨#[]⟩ from rfl, show (none : Option It).isSome = false from rfl]
          have hE : (((er : Nat) : Int) == 0) = false := beq_eq_false_iff_ne.2 (by have := HER.out; omega)
          have HOKB : Hid (false = decide (r.2.1 = 0)) := by show _ = _; rw [decide_eq_false h2]
          clear h1 h2
          go_wp2_with fail
          go_meet
          exact ⟨false, rfl, rfl, HOKB, HM8⟩
        · rw [h1]
          rw [show tel (some i9) = dt q from h2, show (some i9 : Option It).isSome = true from rfl]
          have hE0 : er = 0 := by rw [HER.out]; exact h3
          subst hE0
          have HOKB : Hid (true = decide (r.2.1 = 0)) := by show _ = _; rw [decide_eq_true h3]
          have b0 := HM8.out.ask.1
          have b1 := HM8.out.ask.2.1
          have b2 := HM8.out.ask.2.2.1
          have b3 := HM8.out.ask.2.2.2.1
          have b4 := HM8.out.ask.2.2.2.2
          rw [HK1.out] at b0
          rw [show ((0 : Nat) : Int) = 0 from rfl]
          clear h1 h2 h3
          go_wp2_with fail
          refine (HDAT.out _).mono ?_
          rintro e w9 ⟨rfl, B9⟩
          have HMW : Hid (Mid w X r.2.2 m ks ds ps (.slice (some ⟨gk, 0, none⟩) m kc) (.slice (some ⟨gd, 0, none⟩) m dc) (.slice (some ⟨gp, 0, none⟩) m pc) A q w9 o6) := HM8.out.below B9
          clear HM8 B9 b0 b1 b2 b3 b4
          go_wp2_with fail
          go_meet
          exact ⟨true, rfl, rfl, HOKB, HMW⟩
      case rest =>
        obtain ⟨okb, rfl, rfl, HOKB, HMW⟩ := hcut
        clear HM8
        go_upto_region 34 with fail
        cases hT : q.T with
        | true =>
          have b0 := HMW.out.ask.1
          have b1 := HMW.out.ask.2.1
          have b2 := HMW.out.ask.2.2.1
          have b3 := HMW.out.ask.2.2.2.1
          have b4 := HMW.out.ask.2.2.2.2
          rw [HK1.out] at b0
          rw [hT] at b4
          have HDT : Hid (∀ w, Calls Try.prog 16 #[.agg #[.int .i64 1, .int .i64 q.Z, .string q.Y, .string q.D, .bool true]] w fun e w' => e = .returned (.string (dt q)) ∧ Below w.heap.size w w') := by
            have := HDAT.out
            rw [hT] at this; exact this
          have HLD : Hid (Led r.2.2 ks (ds.set p (dt q)) (ps.set p okb)) := by
            have := HL.out.1.led.put HL.out.2.2.2 HPS.out okb HOKB.out
            rw [hT] at this; exact this
          first | go_region_with (go_at_call 16; refine (HDT.out wc.drew).mono ?_; rintro e w10 ⟨rfl, B10⟩; have HM10 : Hid (Mid w X r.2.2 m ks ds ps (.slice (some ⟨gk, 0, none⟩) m kc) (.slice (some ⟨gd, 0, none⟩) m dc) (.slice (some ⟨gp, 0, none⟩) m pc) A q w10 o6) := (HMW.out.below (below_drewN (Below.refl _ _) 1)).below B10; have xd := HM10.out.d.cellAt (strc_at ds HDD.out.1); have xp := HM10.out.p.cellAt (blc_at ps HDD.out.2); have HS10 := HM10.out.setD hpm (dt q); have xp' := HS10.p.cellAt (blc_at ps HDD.out.2); have b4' : w10.cell? ⟨A, 0 + 4, none⟩ = some (.bool true) := (by rw [← hT]; exact HM10.out.ask.2.2.2.2); obtain ⟨xd1, xd2⟩ := xd; obtain ⟨xp1, xp2⟩ := xp; obtain ⟨xp3, xp4⟩ := xp'; have HE : Hid (ToldP w X m ks (.slice (some ⟨gk, 0, none⟩) m kc) (.slice (some ⟨gd, 0, none⟩) m dc) (.slice (some ⟨gp, 0, none⟩) m pc) ((w10.setCell ⟨gd, p, none⟩ (.string (dt q))).setCell ⟨gp, p, none⟩ (.bool okb))) := HS10.told hpm HLD.out HL.out.1.len HL.out.1.sml; clear HS10 B10) | fail
          all_goals
            go_wp2_with fail
            go_meet
            exact ⟨rfl, HE⟩
        | false =>
          have b0 := HMW.out.ask.1
          have b1 := HMW.out.ask.2.1
          have b2 := HMW.out.ask.2.2.1
          have b3 := HMW.out.ask.2.2.2.1
          have b4 := HMW.out.ask.2.2.2.2
          rw [HK1.out] at b0
          rw [hT] at b4
          have HDT : Hid (∀ w, Calls Try.prog 16 #[.agg #[.int .i64 1, .int .i64 q.Z, .string q.Y, .string q.D, .bool false]] w fun e w' => e = .returned (.string (dt q)) ∧ Below w.heap.size w w') := by
            have := HDAT.out
            rw [hT] at this; exact this
          have HLD : Hid (Led r.2.2 ks (ds.set p (dt q)) (ps.set p false)) := by
            have := HL.out.1.led.put HL.out.2.2.2 HPS.out okb HOKB.out
            rw [hT] at this; exact this
          first | go_region_with (go_at_call 16; refine (HDT.out wc.drew).mono ?_; rintro e w10 ⟨rfl, B10⟩; have HM10 : Hid (Mid w X r.2.2 m ks ds ps (.slice (some ⟨gk, 0, none⟩) m kc) (.slice (some ⟨gd, 0, none⟩) m dc) (.slice (some ⟨gp, 0, none⟩) m pc) A q w10 o6) := (HMW.out.below (below_drewN (Below.refl _ _) 1)).below B10; have xd := HM10.out.d.cellAt (strc_at ds HDD.out.1); have xp := HM10.out.p.cellAt (blc_at ps HDD.out.2); have HS10 := HM10.out.setD hpm (dt q); have xp' := HS10.p.cellAt (blc_at ps HDD.out.2); have b4' : w10.cell? ⟨A, 0 + 4, none⟩ = some (.bool false) := (by rw [← hT]; exact HM10.out.ask.2.2.2.2); obtain ⟨xd1, xd2⟩ := xd; obtain ⟨xp1, xp2⟩ := xp; obtain ⟨xp3, xp4⟩ := xp'; have HE : Hid (ToldP w X m ks (.slice (some ⟨gk, 0, none⟩) m kc) (.slice (some ⟨gd, 0, none⟩) m dc) (.slice (some ⟨gp, 0, none⟩) m pc) ((w10.setCell ⟨gd, p, none⟩ (.string (dt q))).setCell ⟨gp, p, none⟩ (.bool false))) := HS10.told hpm HLD.out HL.out.1.len HL.out.1.sml; clear HS10 B10) | fail
          all_goals
            go_wp2_with fail
            go_meet
            exact ⟨rfl, HE⟩
end Go.Proofs.Ytbflcnghpkmcoaa
