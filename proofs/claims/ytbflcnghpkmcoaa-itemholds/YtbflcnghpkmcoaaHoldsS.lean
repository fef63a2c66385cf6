/-
  ITEMHOLDS: the switch of the law's round, walked apart: whatever is asked.
-/
import Derived.Test.YtbflcnghpkmcoaaHoldsP
namespace Go.Proofs.Ytbflcnghpkmcoaa
open Go.RowKit
set_option maxRecDepth 100000 in
set_option maxHeartbeats 16000000 in
theorem sw_any {t0 t1 t2 t3 t4 t5 t6 t8 t12 t15 t16 t17 t18 t19 t20 t21 t22 t23 t24 t25 t26 t27 t28 t29 t30 t31 t32 t33 t34 t35 t36 t37 t38 t39 t40 t41 t42 t43 t44 t45 t46 t47 t48 t49 t50 t51 t52 t53 t54 t55 t56 t57 t58 t59 t60 t61 t62 t63 t64 t65 t66 t67 t68 t69 t70 t71 t72 t73 t74 t75 t76 t77 t78 t79 t80 t81 t82 t83 t84 t85 t86 t87 t89 t90 t91 t92 t93 t94 t95 t96 t97 t98 t99 t100 t101 t102 t103 t104 t105 t106 t107 t108 t109 t110 t111 t112 t113 t114 t115 t116 t117 t118 t119 t120 t121 t122 t123 t124 t125 t126 t127 t128 t129 t130 t131 t132 t133 t134 t135 t136 t137 t138 t139 t140 t141 t142 t143 t144 t145 t146 t147 t148 t149 t150 t151 t152 t153 t154 t155 t156 t157 t158 t159 t160 t161 t162 t163 t164 t165 t166 t167 t168 t169 t170 t171 t172 t173 t174 t175 t176 t177 t178 t179 t180 t181 t182 t183 t184 t185 t186 t187 t188 t189 t190 t191 t192 t193 t194 t195 t196 t197 t198 t199 t200 t201 t202 t203 t204 t205 t206 t207 t208 t209 t210 t211 t212 t213 t214 t215 t216 t217 t218 t219 t220 t221 t222 t223 : Value} {J K' : Act → World → Prop} {w wc : World} {X A m p : Nat} {q : AskD} {ks ds : List ByteArray} {ps : List Bool} {z : Sp} {o : Nat → Nat × Nat} {ka da pa : Option Addr} {kc dc pc : Nat}
    (_ : ∀ (a' : Act) (w' : World), (∃ u6 u9 u16 u17 u18 u19 u20 u21 u39 u40 u41 u42 u43 u44 u45 u46 u47 u48 u49 u50 u51 u52 u53 u54 u55 u56 u57 u58 u59 u60 u61 u62 u63 u64 u65 u66 u67 u68 u69 u70 u71 u72 u73 u74 u75 u76 u77 u78 u79 u80 u81 u82 u83 u84 u85 u86 u87 u88 u89 u90 u91 u92 u93 u94 u95 u96 u97 u98 u99 u100 u101 u102 u103 u104 u105 u106 u107 u108 u109 u110 u111 u112 u113 u114 u115 u116 u117 u118 u119 u120 u121 u122 u123 u124 u125 u126 u127 u128 u129 u130 u131 u132 u133 u134 u135 u136 u137 u138 u139 u140 u141 u142 u143 u144 u145 u146 u147 u148 u149 u150 u151 u152 u153 u154 u155 u156 u157 u158 u159 u160 u161 u162 u163 u164 u165 u166 u167 u168 u169 u170 u171 u172 u173 u174 u175 u176 u177 u178 u179 u180 u181 u182 u183 u184 u185 u186 u187 u188 u189 u190 u191 u192 u193 u194 u195 u196 u197 u198 u199 u200 u201 u202 u203 u204 u205 u206 u207 u208 u209 u210 u211 u212 u213 u214 u215 u216 u217 u218 u219 u220 u221 u222 : Value, (u9 = .slice ka m kc ∧ Hid (ToldP w X m ks (.slice ka m kc) (.slice da m dc) (.slice pa m pc) w')) ∧ a' = { tmps := List.toArray (t0 :: t1 :: t2 :: t3 :: t4 :: t5 :: u6 :: Value.pointer (some ⟨X, 0, none⟩) :: t8 :: u9 :: Value.slice da m dc :: Value.slice pa m pc :: t12 :: Value.pointer (some ⟨A, 0, none⟩) :: Value.int .i64 (p : Int) :: t15 :: u16 :: u17 :: u18 :: u19 :: u20 :: u21 :: t22 :: t23 :: t24 :: t25 :: t26 :: t27 :: t28 :: t29 :: t30 :: t31 :: t32 :: t33 :: t34 :: t35 :: t36 :: t37 :: t38 :: u39 :: u40 :: u41 :: u42 :: u43 :: u44 :: u45 :: u46 :: u47 :: u48 :: u49 :: u50 :: u51 :: u52 :: u53 :: u54 :: u55 :: u56 :: u57 :: u58 :: u59 :: u60 :: u61 :: u62 :: u63 :: u64 :: u65 :: u66 :: u67 :: u68 :: u69 :: u70 :: u71 :: u72 :: u73 :: u74 :: u75 :: u76 :: u77 :: u78 :: u79 :: u80 :: u81 :: u82 :: u83 :: u84 :: u85 :: u86 :: u87 :: u88 :: u89 :: u90 :: u91 :: u92 :: u93 :: u94 :: u95 :: u96 :: u97 :: u98 :: u99 :: u100 :: u101 :: u102 :: u103 :: u104 :: u105 :: u106 :: u107 :: u108 :: u109 :: u110 :: u111 :: u112 :: u113 :: u114 :: u115 :: u116 :: u117 :: u118 :: u119 :: u120 :: u121 :: u122 :: u123 :: u124 :: u125 :: u126 :: u127 :: u128 :: u129 :: u130 :: u131 :: u132 :: u133 :: u134 :: u135 :: u136 :: u137 :: u138 :: u139 :: u140 :: u141 :: u142 :: u143 :: u144 :: u145 :: u146 :: u147 :: u148 :: u149 :: u150 :: u151 :: u152 :: u153 :: u154 :: u155 :: u156 :: u157 :: u158 :: u159 :: u160 :: u161 :: u162 :: u163 :: u164 :: u165 :: u166 :: u167 :: u168 :: u169 :: u170 :: u171 :: u172 :: u173 :: u174 :: u175 :: u176 :: u177 :: u178 :: u179 :: u180 :: u181 :: u182 :: u183 :: u184 :: u185 :: u186 :: u187 :: u188 :: u189 :: u190 :: u191 :: u192 :: u193 :: u194 :: u195 :: u196 :: u197 :: u198 :: u199 :: u200 :: u201 :: u202 :: u203 :: u204 :: u205 :: u206 :: u207 :: u208 :: u209 :: u210 :: u211 :: u212 :: u213 :: u214 :: u215 :: u216 :: u217 :: u218 :: u219 :: u220 :: u221 :: u222 :: t223 :: []), defers := [] }) → J a' w')
    (_ : ∀ (a' : Act) (w' : World), Met J a' w' → K' a' w')
    (hkz : q.Y.size ≤ 100) (hm61 : m ≤ 61) (hpm : p < m)
    (HL : Hid (Lst w X z m ks ds ps (.slice ka m kc) (.slice da m dc) (.slice pa m pc) wc o ∧ AskAt wc A 0 q ∧ o A = (0, 0) ∧ ks[p]? = some q.Y))
    (a0 : wc.cell? ⟨A, 0, none⟩ = some (.int .i64 q.K)) :
    Code.wp Try.prog (swOf Try.f5) (Exit.then K' fun _ _ _ => False) { tmps := List.toArray (t0 :: t1 :: t2 :: t3 :: t4 :: t5 :: t6 :: Value.pointer (some ⟨X, 0, none⟩) :: t8 :: Value.slice ka m kc :: Value.slice da m dc :: Value.slice pa m pc :: t12 :: Value.pointer (some ⟨A, 0, none⟩) :: Value.int .i64 (p : Int) :: t15 :: t16 :: t17 :: t18 :: t19 :: t20 :: t21 :: t22 :: t23 :: t24 :: t25 :: t26 :: t27 :: t28 :: t29 :: t30 :: t31 :: t32 :: t33 :: t34 :: t35 :: t36 :: t37 :: t38 :: t39 :: t40 :: t41 :: t42 :: t43 :: t44 :: t45 :: t46 :: t47 :: t48 :: t49 :: t50 :: t51 :: t52 :: t53 :: t54 :: t55 :: t56 :: t57 :: t58 :: t59 :: t60 :: t61 :: t62 :: t63 :: t64 :: t65 :: t66 :: t67 :: t68 :: t69 :: t70 :: t71 :: t72 :: t73 :: t74 :: t75 :: t76 :: t77 :: t78 :: t79 :: t80 :: t81 :: t82 :: t83 :: t84 :: t85 :: t86 :: t87 :: Value.int .i64 q.K :: t89 :: t90 :: t91 :: t92 :: t93 :: t94 :: t95 :: t96 :: t97 :: t98 :: t99 :: t100 :: t101 :: t102 :: t103 :: t104 :: t105 :: t106 :: t107 :: t108 :: t109 :: t110 :: t111 :: t112 :: t113 :: t114 :: t115 :: t116 :: t117 :: t118 :: t119 :: t120 :: t121 :: t122 :: t123 :: t124 :: t125 :: t126 :: t127 :: t128 :: t129 :: t130 :: t131 :: t132 :: t133 :: t134 :: t135 :: t136 :: t137 :: t138 :: t139 :: t140 :: t141 :: t142 :: t143 :: t144 :: t145 :: t146 :: t147 :: t148 :: t149 :: t150 :: t151 :: t152 :: t153 :: t154 :: t155 :: t156 :: t157 :: t158 :: t159 :: t160 :: t161 :: t162 :: t163 :: t164 :: t165 :: t166 :: t167 :: t168 :: t169 :: t170 :: t171 :: t172 :: t173 :: t174 :: t175 :: t176 :: t177 :: t178 :: t179 :: t180 :: t181 :: t182 :: t183 :: t184 :: t185 :: t186 :: t187 :: t188 :: t189 :: t190 :: t191 :: t192 :: t193 :: t194 :: t195 :: t196 :: t197 :: t198 :: t199 :: t200 :: t201 :: t202 :: t203 :: t204 :: t205 :: t206 :: t207 :: t208 :: t209 :: t210 :: t211 :: t212 :: t213 :: t214 :: t215 :: t216 :: t217 :: t218 :: t219 :: t220 :: t221 :: t222 :: t223 :: []), defers := [] } wc := by
  by_cases hK1 : q.K = 1
  · exact sw_put ‹_› ‹_› hkz hm61 hpm HL a0 hK1
  simp only [swOf, Try.f5, blockOf, Nat.beq, cond_true, cond_false, Option.getD]
  have hlen := HL.out.1.len
  have AA := HL.out.2.1
  have a1 := AA.2.1
  have a2 := AA.2.2.1
  have a3 := AA.2.2.2.1
  have a4 := AA.2.2.2.2
  have hok := HL.out.1.led.ok
  obtain ⟨dd, hdd⟩ : ∃ x, ds[p]? = some x := ⟨_, List.getElem?_eq_getElem (by rw [HL.out.1.led.l1]; omega)⟩
  obtain ⟨pb, hpb⟩ : ∃ x, ps[p]? = some x := ⟨_, List.getElem?_eq_getElem (by rw [HL.out.1.led.l2]; omega)⟩
  obtain ⟨gd, ed, _⟩ := HL.out.1.d.read hdd
  obtain ⟨gp, ep, _⟩ := HL.out.1.p.readB hpb
  obtain ⟨gk, ek, _⟩ := HL.out.1.k.read HL.out.2.2.2
  subst ed ep ek
  have HDD : Hid (ds[p]? = some dd ∧ ps[p]? = some pb) := ⟨hdd, hpb⟩
  have hpm1 : (p : Int) < (m : Int) := by omega
  clear hdd hpb
  have bK1 : (q.K == 1) = false := beq_eq_false_iff_ne.2 hK1
  by_cases hK4 : q.K = 4
  · focus
      have xp := HL.out.1.p.cellAt (blc_at ps HDD.out.2)
      have HM0 := fun (z' : Sp) (w' : World) (o' : Nat → Nat × Nat) (h1 : IsSt w' o' X z') (h2 : Fr TS o o' wc w') => HL.out.1.mid HL.out.2.1 HL.out.2.2.1 h1 h2
      have HMM : Hid (∀ (z' : Sp) (w' : World) (o' : Nat → Nat × Nat), IsSt w' o' X z' → Fr TS o o' wc w' → Mid w X z' m ks ds ps (.slice (some ⟨gk, 0, none⟩) m kc) (.slice (some ⟨gd, 0, none⟩) m dc) (.slice (some ⟨gp, 0, none⟩) m pc) A q w' o') := HM0
      clear HM0 AA hok hlen xp
      go_wp2_with fail
      refine (spin_any X z q.Y q.T (by omega) _ o HL.out.1.st).mono ?_
      rintro e w5 ⟨rfl, I5, F5⟩
      have HM5 : Hid (Mid w X (z.pin q.Y q.T) m ks ds ps (.slice (some ⟨gk, 0, none⟩) m kc) (.slice (some ⟨gd, 0, none⟩) m dc) (.slice (some ⟨gp, 0, none⟩) m pc) A q w5 o) := HMM.out _ _ _ I5 F5
      cases hsome : (fnd z.l q.Y).isSome with
      | true =>
        have HLD := (HL.out.1.led.pin HL.out.2.2.2 q.T).1 hsome
        have HE : Hid (ToldP w X m ks (.slice (some ⟨gk, 0, none⟩) m kc) (.slice (some ⟨gd, 0, none⟩) m dc) (.slice (some ⟨gp, 0, none⟩) m pc) (w5.setCell ⟨gp, p, none⟩ (.bool q.T))) := HM5.out.told hpm HLD HL.out.1.len HL.out.1.sml
        obtain ⟨x5, y5⟩ := HM5.out.p.cellAt (blc_at ps HDD.out.2)
        have b4 := HM5.out.ask.2.2.2.2
        clear HLD I5 F5 a0 a1 a2 a3 a4 hsome
        go_wp2_with fail
        go_meet
        exact ⟨rfl, HE⟩
      | false =>
        have HLD := (HL.out.1.led.pin HL.out.2.2.2 q.T).2 hsome
        have HE : Hid (ToldP w X m ks (.slice (some ⟨gk, 0, none⟩) m kc) (.slice (some ⟨gd, 0, none⟩) m dc) (.slice (some ⟨gp, 0, none⟩) m pc) w5) := ⟨ds, ps, _, o, HL.out.1.turn HLD I5 F5⟩
        clear HLD I5 F5 a0 a1 a2 a3 a4 hsome
        go_wp2_with fail
        go_meet
        exact ⟨rfl, HE⟩
  · have bK4 : (q.K == 4) = false := beq_eq_false_iff_ne.2 hK4
    by_cases hK5 : q.K = 5
    · focus
        clear AA hok hlen
        go_wp2_with fail
        refine (sdrop_any X z q.Y (by omega) _ o HL.out.1.st).mono ?_
        rintro e w5 ⟨rfl, o5, I5, F5⟩
        obtain ⟨bq, hbq⟩ : ∃ bq, bq = (fnd z.l q.Y).isSome := ⟨_, rfl⟩
        rw [← hbq]
        have HM5 : Hid (Mid w X (z.drop q.Y) m ks ds ps (.slice (some ⟨gk, 0, none⟩) m kc) (.slice (some ⟨gd, 0, none⟩) m dc) (.slice (some ⟨gp, 0, none⟩) m pc) A q w5 o5) := HL.out.1.mid HL.out.2.1 HL.out.2.2.1 I5 F5
        have HE : Hid (ToldP w X m ks (.slice (some ⟨gk, 0, none⟩) m kc) (.slice (some ⟨gd, 0, none⟩) m dc) (.slice (some ⟨gp, 0, none⟩) m pc) (w5.setCell ⟨gp, p, none⟩ (.bool false))) := HM5.out.told hpm (HL.out.1.led.drop HL.out.2.2.2) HL.out.1.len HL.out.1.sml
        obtain ⟨x5, y5⟩ := HM5.out.p.cellAt (blc_at ps HDD.out.2)
        clear I5 F5 a0 a1 a2 a3 a4 hbq
        go_wp2_with fail
        go_meet
        exact ⟨rfl, HE⟩
    · have bK5 : (q.K == 5) = false := beq_eq_false_iff_ne.2 hK5
      have HE : Hid (ToldP w X m ks (.slice (some ⟨gk, 0, none⟩) m kc) (.slice (some ⟨gd, 0, none⟩) m dc) (.slice (some ⟨gp, 0, none⟩) m pc) wc) := ⟨ds, ps, z, o, HL.out.1⟩
      clear AA hok hlen
      go_wp2_with fail
      go_meet
      exact ⟨rfl, HE⟩
end Go.Proofs.Ytbflcnghpkmcoaa
