/-
  The law ModelPlays.
-/
import Derived.Test.YtpkmfckifnomeaaDoorPx
import Derived.Deep.RegionHeld3
namespace Go.Proofs.YtpkmfckifnomeaaDoor
open Go.RowKit

open Go.Lib (TabIs pow10Tab)
def Z43 : List Value := [.bool false, .string ⟨#[]⟩, .int .i64 0, .slice none 0 0, .int .i64 0, .int .i64 0, .int .i64 0, .int .i64 0, .int .u64 0, .bool false, .string ⟨#[]⟩, .int .i64 0, .int .i64 0]
theorem ask_put (W : World) {K : List Value} (hK : K.length = 13) :
    (W.alloc (.cells Z43.toArray 43)).there W.heap.size 0 K.length ∧ ((W.alloc (.cells Z43.toArray 43)).setCells W.heap.size 0 K).rangeAt W.heap.size 0 K ∧ Below W.heap.size W ((W.alloc (.cells Z43.toArray 43)).setCells W.heap.size 0 K) := by
  have t1 : (W.alloc (.cells Z43.toArray 43)).there W.heap.size 0 K.length := by rw [hK]; exact there_new W Z43 43
  exact ⟨t1, World.rangeAt_setCells_same _ _ _ _ t1, below_sets (below_alloc _ _) (Nat.le_refl _) _ _⟩
theorem Ak.one (k : Ak) : ∀ u ∈ k.cs, u.oneCell' = true := by
  intro u hu
  simp only [Ak.cs, Rq.cs, List.cons_append, List.nil_append, List.mem_cons, List.not_mem_nil, or_false] at hu
  rcases hu with rfl | rfl | rfl | rfl | rfl | rfl | rfl | rfl | rfl | rfl | rfl | rfl | rfl <;> rfl
set_option maxRecDepth 100000 in
set_option maxHeartbeats 4000000 in
theorem plays_walk (a : Option Addr) (cap : Nat) (asks : List Ak) (hal : asks.length ≤ 9223372036854775807) (hbk : ∀ k ∈ asks, ksum k.ks + k.r.data.size + k.key.size ≤ 1048576) (w : World) (hA : AksF w a asks) (htab : TabIs Tryd.prog w "internal/strconv.uint64pow10" .u64 pow10Tab) :
    Calls Tryd.prog 4 #[.slice a asks.length cap] w fun e w' => e = .returned (.bool true) ∧ Below w.heap.size w w' := by
  obtain ⟨len, hlen⟩ : ∃ len, asks.length = len := ⟨_, rfl⟩
  rw [hlen] at hal ⊢
  have HLEN := Lib.hid hlen
  have HAS := Lib.hid (And.intro hA hbk)
  have HTB := Lib.hid htab
  clear hA hbk htab hlen
  go_enter Tryd.func4, Tryd.ntmps4
  go_wp2_with fail
  refine (new_any 1 o0 w).mono ?_
  rintro e_ w0 ⟨P, b, o_, rfl, i1, f1⟩
  have HZ := Lib.hid (new_x HTB.out i1 f1)
  clear i1 f1
  go_wp2_with fail
  obtain ⟨Q, hQ⟩ : ∃ Q, w0.heap.size = Q := ⟨_, rfl⟩
  rw [hQ] at HZ ⊢
  clear hQ
  go_loopw [5] (fun i wr => ∃ (j : Nat) (o : Nat → Nat × Nat) (l : List En), j ≤ 60 ∧ j ≤ len ∧ i = .int .i64 (j : Int) ∧ Hid (Rz w wr o P j l Q)) (fun i _ => 60 - (intOf i).toNat)
  case atStart => exact ⟨0, _, [], by omega, by omega, rfl, HZ⟩
  case round =>
    obtain ⟨j, o, l, hj1, hj2, rfl, HR⟩ := hrel
    clear HZ
    by_cases hlt : j < len ∧ j < 60
    case neg =>
      have HT := Lib.hid HR.out.tab
      have HB : Hid (Below w.heap.size w wr) := Lib.hid HR.out.z.b
      clear HR
      by_cases hl1 : j < len
      · have i1 : decide ((j : Int) < (len : Int)) = true := decide_eq_true (by omega)
        have i2 : decide ((j : Int) < 60) = false := decide_eq_false (by omega)
        go_wp2_with fail
        refine (runs_any wr HT.out).mono ?_
        rintro e_ w1 ⟨rfl, b_⟩
        have HB2 := Lib.hid (HB.out.trans (b_.mono HB.out.size))
        clear b_ HB HT
        go_wp2_with fail
        go_ret
        exact ⟨rfl, HB2.out⟩
      · have i1 : decide ((j : Int) < (len : Int)) = false := decide_eq_false (by omega)
        go_wp2_with fail
        refine (runs_any wr HT.out).mono ?_
        rintro e_ w1 ⟨rfl, b_⟩
        have HB2 := Lib.hid (HB.out.trans (b_.mono HB.out.size))
        clear b_ HB HT
        go_wp2_with fail
        go_ret
        exact ⟨rfl, HB2.out⟩
    obtain ⟨hl1, hl2⟩ := hlt
    have i1 : decide ((j : Int) < (len : Int)) = true := decide_eq_true (by omega)
    have i2 : decide ((j : Int) < 60) = true := decide_eq_true (by omega)
    obtain ⟨k, hk⟩ : ∃ k, asks[j]? = some k := ⟨_, List.getElem?_eq_getElem (by rw [HLEN.out]; exact hl1)⟩
    have hkm : k ∈ asks := List.mem_of_getElem? hk
    have KZ := Lib.hid (HAS.out.2 k hkm)
    have KF := Lib.hid (HAS.out.1.2 k hkm)
    rcases HAS.out.1.1 with h0 | ⟨p, off, rfl, hp, hcell⟩
    · rw [h0] at hk; cases hk
    obtain ⟨K, hK⟩ : ∃ K, K = k.cs := ⟨_, rfl⟩
    have HLK : Hid (K.length = 13) := Lib.hid (by rw [hK]; rfl)
    have HOK : Hid (∀ u ∈ K, u.oneCell' = true) := Lib.hid (by rw [hK]; exact Ak.one k)
    have HCA : Hid (wr.rangeAt p (off + j * 13) K) := Lib.hid (fun jj v hv => by
      rw [hK] at hv
      have h1 := hcell j k hk jj v hv
      rw [Nat.add_assoc]
      exact cell_b h1 HR.out.z.b)
    have HP := Lib.hid (ask_put wr HLK.out)
    have HT := Lib.hid HP.out.1
    have HG := Lib.hid (And.intro HP.out.2.1 HP.out.2.2)
    have LA := Lib.hid (fun W (hb : Below w.heap.size w W) => light_any k KZ.out W (by
      rcases KF.out.keys with h | ⟨p, off, h1, h2⟩
      · exact .inl h
      · exact .inr ⟨p, off, h1, fun i x hx => cell_b (h2 i x hx) hb⟩))
    have HK := Lib.hid hK
    rw [← hK] at LA
    clear hK hcell hk hkm hp
    go_wp2_with (first
      | ((with_reducible show wpList _ _ _ (Oper.mk (some _) (Op.load 43 (.tmp 26)) _ _ _ _ :: _) _ _); refine wpList_load_mid (by rfl) 43 (.tmp 26) (by rfl) p (off + j * 13) (by rfl) K _ HCA.out Tryd.underlying43 (by rfl) (by rw [HLK.out]; kernel_rfl) ?_)
      | ((with_reducible show wpList _ _ _ (Oper.mk none (Op.store 43 (.tmp 6) _) _ _ _ _ :: _) _ _); refine wpList_store_mid (by rfl) 43 (.tmp 6) (.tmp 27) (by rfl) (wr.heap.size) 0 K.toArray (by rfl) (by rfl) HT.out (by rw [List.size_toArray, HLK.out]; kernel_rfl) (all_oneCell_toArray HOK.out) ?_; rw [show K.toArray.toList = K from rfl])
      | ((with_reducible show wpList _ _ _ (Oper.mk (some _) (Op.load 43 (.tmp 6)) _ _ _ _ :: _) _ _); refine wpList_load_mid (by rfl) 43 (.tmp 6) (by rfl) (wr.heap.size) 0 (by rfl) K _ HG.out.1 Tryd.underlying43 (by rfl) (by rw [HLK.out]; kernel_rfl) ?_))
    have HB1 : Hid (Below w.heap.size w ((wr.alloc (.cells Z43.toArray 43)).setCells wr.heap.size 0 K)) := Lib.hid (HR.out.z.b.trans (HG.out.2.mono HR.out.z.b.size))
    refine (LA.out _ HB1.out).mono ?_
    rintro e_ w2 ⟨rfl, b_⟩
    have HG2 := Lib.hid (range_below HG.out.1 b_)
    obtain ⟨o2, z2, k2⟩ := box_x HR.out (HG.out.2.trans (b_.mono HG.out.2.size)) (Nat.lt_of_lt_of_le (by rw [size_setCells, World.size_alloc]; omega) b_.size) HG2.out
    have HR2 := Lib.hid z2
    have HBK := Lib.hid k2
    clear b_ HR HG HT HP HB1 HCA LA HG2 z2 k2
    obtain ⟨A, hA⟩ : ∃ A, wr.heap.size = A := ⟨_, rfl⟩
    rw [hA] at HBK ⊢
    clear hA
    by_cases d0 : ksum k.ks + k.r.data.size + k.key.size < 1000
    case neg =>
      have d1 := decide_eq_false d0
      clear d0
      have HN := Lib.hid HR2.out.up
      clear HR2 HBK
      go_wp2_with fail
      exact ⟨⟨j + 1, o2, l, by omega, by omega, by go_num, HN⟩, by simp [intOf]; omega⟩
    have d1 := decide_eq_true d0
    have kz1 : k.key.size ≤ 140737488355328 := by omega
    have kz2 : k.r.data.size ≤ 140737488355328 := by omega
    have kz3 : k.ks.length ≤ 1000000 := by have := ksum_len k.ks; omega
    have kz4 : ∀ x ∈ k.ks, x.size ≤ 140737488355328 := fun x hx => by have := ksum_at hx; omega
    have HKZ := Lib.hid (And.intro kz1 (And.intro kz2 (And.intro kz3 kz4)))
    clear d0 kz1 kz2 kz3 kz4
    obtain ⟨b1, hm1⟩ := HR2.out.m
    have TW := Lib.hid (twin_any 1 2 w2 hm1)
    clear hm1
    go_wp2_with fail
    refine TW.out.mono ?_
    rintro e_ w3 ⟨T, b3, o3, rfl, it, f3⟩
    have HR3 := Lib.hid (HR2.out.fr f3 (fun _ e => e.elim))
    have HK3 := Lib.hid (HBK.out.fr f3 (fun _ e => e.elim))
    have HIT := Lib.hid it
    have hl6 := HR3.out.len
    obtain ⟨ra, rc, hc, wa, wc, w4, o4, hr, hO4, f4⟩ := was_any HR3.out.r (by omega)
    obtain ⟨ll, hll⟩ : ∃ ll, l.length = ll := ⟨_, rfl⟩
    have HO4 := Lib.hid hO4
    have HX : Hid (Rx w w4 o4 P j l Q l T j l wa wc A K) := by
      have z4 := HR3.out.fr f4 (fun t e => by rw [e]; exact ⟨by show 5 ≠ 0; omega, by show 5 ≠ 1; omega, by show 5 ≠ 3; omega⟩)
      exact ⟨z4.m, z4.r, z4.z, z4.tab, ⟨⟨b3, HIT.out.fr f4 (fun e => by cases e) (fun e => by cases e)⟩, HO4.out⟩, HK3.out.fr f4 (fun t e => by rw [e]; show 5 ≠ 8; omega)⟩
    have HS := Lib.hid (And.intro HR3.out.s (And.intro HR3.out.ok HR3.out.len))
    rw [hll] at hc hr hl6
    have HLL := Lib.hid hll
    clear HR2 HBK TW it f3 f4 hO4 HO4 HIT HR3 HK3 hll
    have x0 : w4.cell? ⟨A, 0, none⟩ = some (.bool k.lost) := HX.out.bk.cell (by rw [HK.out]; rfl)
    obtain ⟨lost, hlost⟩ : ∃ lost, k.lost = lost := ⟨_, rfl⟩
    rw [hlost] at x0
    clear hlost
    cases lost with
    | true =>
      obtain ⟨B, hB⟩ : ∃ B, (look (L k.key) l).isSome = B := ⟨_, rfl⟩
      have hBB : (B != B) = false := by simp
      obtain ⟨l', hl'⟩ : ∃ l', del (L k.key) l = l' := ⟨_, rfl⟩
      have HC1 : Hid (∀ X, Below w4.heap.size w4 X → Calls Tryd.prog 14 #[.pointer (some ⟨P, 0, none⟩), .string k.key] X fun e w' => e = .returned (.bool B) ∧ ∃ o', Rx w w' o' P j l' Q l T j l wa wc A K) := Lib.hid (fun X bX => by
        rw [← hl']; exact forget_x k.key HKZ.out.1 B hB X (HX.out.below bX))
      have HC2 : Hid (∀ X o', Rx w X o' P j l' Q l T j l wa wc A K → Calls Tryd.prog 15 #[.pointer (some ⟨Q, 0, none⟩), .string k.key] X fun e w' => e = .returned (.bool B) ∧ ∃ o', Rx w w' o' P j l' Q l' T j l wa wc A K) := Lib.hid (fun X o' hx => by
        have := rforget_x k.key B hB HS.out.1 (by have := HS.out.2.2; omega) X hx
        rw [hl'] at this; exact this)
      have HL' := Lib.hid (And.intro (show Srt l' by rw [← hl']; exact HS.out.1.del _) (And.intro (show Ok l' by rw [← hl']; exact HS.out.2.1.del _) (show l'.length ≤ j + 1 by rw [← hl']; have := del_len (L k.key) l; have := HS.out.2.2; omega)))
      have HF : Hid (∀ X o' l1 l2, Rx w X o' P j l1 Q l2 T j l wa wc A K → X.cell? ⟨A, 1, none⟩ = some (.string k.key)) := Lib.hid (fun X o' l1 l2 hx => hx.bk.cell (by rw [HK.out]; rfl))
      have BD : Hid (Below w4.heap.size w4 w4.drew) := Lib.hid (below_drewN (Below.refl _ _) 1)
      have S0 := HF.out _ _ _ _ (HX.out.below BD.out)
      clear hB hl'
      go_wp2_with (at_builtin; refine wpList_append_run rfl (.tmp 33) (.tmp 37) 39 39 rfl _ _ _ rfl rfl hr ?_)
      clear hr hc x0
      go_region_held3 (fun w' => w'.cell? ⟨A, 1, none⟩ = some (.string k.key))
        (first | with_reducible exact S0 | with_reducible exact S1 | with_reducible exact S2)
        (first
          | (go_at_call 14; with_reducible refine (HC1.out _ BD.out).mono ?_; rintro e w5 ⟨rfl, o5, r5⟩; have R5 := Lib.hid r5; have S1 := HF.out _ _ _ _ r5; clear r5)
          | (go_at_call 15; with_reducible refine (HC2.out _ _ R5.out).mono ?_; rintro e w6 ⟨rfl, o6, r6⟩; have R6 := Lib.hid r6; have S2 := HF.out _ _ _ _ r6; clear r6))
      have HX6 := Lib.hid R6.out.grow
      clear HC1 HC2 HF BD S0 S1 S2 R5 R6 HX
      obtain ⟨lm, hlm⟩ : ∃ lm, l'.length = lm := ⟨_, rfl⟩
      have hlz := HL'.out.2.2
      rw [hlm] at hlz
      obtain ⟨qa, qc, hq, hqo⟩ := own_x lm hlm HX6.out
      have HQO := Lib.hid hqo
      have HL1 : Hid (∀ X, Below w6.heap.size w6 X → Calls Tryd.prog 19 #[.pointer (some ⟨P, 0, none⟩)] X fun e w' => ∃ (a : Option Addr) (c : Nat), e = .returned (.slice a lm c) ∧ Lst w' 5 a lm (ecs l') ∧ Below X.heap.size X w') := Lib.hid (fun X bX => list_x HL'.out.1 lm hlm (by omega) X (HX6.out.below bX))
      have HL2 : Hid (∀ X, Below w6.heap.size w6 X → ∀ a1 c1, Lst X 5 a1 lm (ecs l') → Calls Tryd.prog 18 #[.slice a1 lm c1, .slice qa lm qc] X fun e w' => e = .returned (.bool true) ∧ Below X.heap.size X w') := Lib.hid (fun X bX a1 c1 h1 => same_entries l' lm (by omega) X h1 (HQO.out.below bX))
      have HL3 : Hid (∀ X, Below w6.heap.size w6 X → Calls Tryd.prog 19 #[.pointer (some ⟨T, 0, none⟩)] X fun e w' => ∃ (a : Option Addr) (c : Nat), e = .returned (.slice a ll c) ∧ Lst w' 5 a ll (ecs l) ∧ Below X.heap.size X w') := Lib.hid (fun X bX => tlist_x HS.out.1 ll HLL.out (by omega) X (HX6.out.below bX))
      have HL4 : Hid (∀ X, Below w6.heap.size w6 X → ∀ a1 c1, Lst X 5 a1 ll (ecs l) → Calls Tryd.prog 18 #[.slice a1 ll c1, .slice wa ll wc] X fun e w' => e = .returned (.bool true) ∧ Below X.heap.size X w') := Lib.hid (fun X bX a1 c1 h1 => same_entries l ll (by omega) X h1 ((was_x ll HLL.out HX6.out).below bX))
      have HSQ : Hid (∀ X, Below w6.heap.size w6 X → X.cell? ⟨Q, 0, none⟩ = some (.slice qa lm qc)) := Lib.hid (fun X bX => cell_b hq bX)
      have BD : Hid (Below w6.heap.size w6 w6.drew) := Lib.hid (below_drewN (Below.refl _ _) 1)
      have S0 := HSQ.out _ BD.out
      clear hq hqo hlm
      go_wp2_with fail
      go_region_held3 (fun w' => w'.cell? ⟨Q, 0, none⟩ = some (.slice qa lm qc))
        (first | with_reducible exact S0 | with_reducible exact S1 | with_reducible exact S2 | with_reducible exact S3 | with_reducible exact S4)
        (first
          | (go_at_call 19; with_reducible refine (HL1.out _ BD.out).mono ?_; rintro e w7 ⟨a7, c7, rfl, t7, b7⟩; have T7 := Lib.hid t7; have B7 : Hid (Below w6.heap.size w6 w7) := Lib.hid (BD.out.trans (b7.mono BD.out.size)); have S1 := HSQ.out _ B7.out; clear b7 t7)
          | (go_at_call 18; with_reducible refine (HL2.out _ B7.out _ _ T7.out).mono ?_; rintro e w8 ⟨rfl, b8⟩; have B8 : Hid (Below w6.heap.size w6 w8) := Lib.hid (B7.out.trans (b8.mono B7.out.size)); have S2 := HSQ.out _ B8.out; clear b8)
          | (go_at_call 19; with_reducible refine (HL3.out _ B8.out).mono ?_; rintro e w9 ⟨a9, c9, rfl, t9, b9⟩; have T9 := Lib.hid t9; have B9 : Hid (Below w6.heap.size w6 w9) := Lib.hid (B8.out.trans (b9.mono B8.out.size)); have S3 := HSQ.out _ B9.out; clear b9 t9)
          | (go_at_call 18; with_reducible refine (HL4.out _ B9.out _ _ T9.out).mono ?_; rintro e w10 ⟨rfl, b10⟩; have B10 : Hid (Below w6.heap.size w6 w10) := Lib.hid (B9.out.trans (b10.mono B9.out.size)); have S4 := HSQ.out _ B10.out; clear b10))
      have HN := Lib.hid ((HX6.out.shut HL'.out.1 HL'.out.2.1 HL'.out.2.2).below B10.out)
      clear HX6 HL1 HL2 HL3 HL4 HSQ BD S0 S1 S2 S3 S4 B7 B8 B9 B10 T7 T9 HQO
      go_wp2_with fail
      exact ⟨⟨j + 1, o6, l', by omega, by omega, by go_num, HN⟩, by simp [intOf]; omega⟩
    | false =>
      obtain ⟨⟨kd, nu, tx⟩, hA⟩ : ∃ x, anA k.r k.ks k.now k.ver l = x := ⟨_, rfl⟩
      obtain ⟨ml, hml⟩ : ∃ ml, (anV k.r k.ks k.now l).length = ml := ⟨_, rfl⟩
      obtain ⟨gb, hgb⟩ : ∃ gb, (k.r.verb == 2) = gb := ⟨_, rfl⟩
      obtain ⟨kl, hkl⟩ : ∃ kl, k.ks.length = kl := ⟨_, rfl⟩
      obtain ⟨l', hl'⟩ : ∃ l', apk k.r k.ks k.now k.ver l = l' := ⟨_, rfl⟩
      have hmz : ml ≤ 2000000 := by have := anV_len l k.r k.ks k.now; have := HKZ.out.2.2.1; omega
      have HC1 : Hid (∀ X, Below w4.heap.size w4 X → Calls Tryd.prog 11 #[.pointer (some ⟨P, 0, none⟩), .agg #[.int .i64 k.r.verb, .slice k.a kl k.cap, .int .i64 k.r.fl, .int .i64 k.r.exp, .int .i64 k.r.bytes, .int .i64 k.r.cas, .int .u64 (k.r.delta : Int), .bool k.r.quiet, .string k.r.data], .int .i64 k.now, .int .i64 k.ver] X fun e w' => ∃ a' c o', e = .returned (.agg #[.int .i64 kd, .slice a' ml c, .bool gb, .int .u64 nu, .string tx, .int .i64 0, .int .i64 0, .int .i64 0, .int .i64 0]) ∧ OwnK w' o' (7, 0) 4 (.slice a' ml c) ml (fcs (anV k.r k.ks k.now l)) ∧ Rx w w' o' P (j + 1) l' Q l T j l wa wc A K) := Lib.hid (fun X bX =>
        ap_x k KF.out HKZ.out.2.2.1 HKZ.out.2.2.2 HKZ.out.2.1 kl ml gb kd nu tx hkl hml hgb hA hl' HS.out.2.1 (by omega) X (HX.out.below bX))
      have HC2 : Hid (∀ X o', Rx w X o' P (j + 1) l' Q l T j l wa wc A K → ∀ a1 c1, OwnK X o' (7, 0) 4 (.slice a1 ml c1) ml (fcs (anV k.r k.ks k.now l)) → Calls Tryd.prog 17 #[.pointer (some ⟨Q, 0, none⟩), .agg #[.int .i64 k.r.verb, .slice k.a kl k.cap, .int .i64 k.r.fl, .int .i64 k.r.exp, .int .i64 k.r.bytes, .int .i64 k.r.cas, .int .u64 (k.r.delta : Int), .bool k.r.quiet, .string k.r.data], .int .i64 k.now, .int .i64 k.ver] X fun e w' => ∃ a' c o', e = .returned (.agg #[.int .i64 kd, .slice a' ml c, .bool gb, .int .u64 nu, .string tx, .int .i64 0, .int .i64 0, .int .i64 0, .int .i64 0]) ∧ Lst w' 4 a1 ml (fcs (anV k.r k.ks k.now l)) ∧ Lst w' 4 a' ml (fcs (anV k.r k.ks k.now l)) ∧ Rx w w' o' P (j + 1) l' Q l' T j l wa wc A K) := Lib.hid (fun X o' hx a1 c1 hO =>
        rap_x k KF.out HKZ.out.2.2.1 HKZ.out.2.2.2 HKZ.out.2.1 kl ml gb kd nu tx hkl hml hgb hA hl' HS.out.1 (by have := HS.out.2.2; omega) HS.out.2.1 X hx a1 c1 _ hO)
      have HC3 : Hid (∀ X a1 c1 a2 c2, Lst X 4 a1 ml (fcs (anV k.r k.ks k.now l)) → Lst X 4 a2 ml (fcs (anV k.r k.ks k.now l)) → Calls Tryd.prog 16 #[.agg #[.int .i64 kd, .slice a1 ml c1, .bool gb, .int .u64 nu, .string tx, .int .i64 0, .int .i64 0, .int .i64 0, .int .i64 0], .agg #[.int .i64 kd, .slice a2 ml c2, .bool gb, .int .u64 nu, .string tx, .int .i64 0, .int .i64 0, .int .i64 0, .int .i64 0]] X fun e w' => e = .returned (.bool true) ∧ Below X.heap.size X w') := Lib.hid (fun X a1 c1 a2 c2 h1 h2 => answers_any kd gb nu tx _ hmz X h1 h2)
      have HL' := Lib.hid (And.intro (show Srt l' by rw [← hl']; exact apk_srt HS.out.1 _ _ _ _) (And.intro (show Ok l' by rw [← hl']; exact apk_ok HS.out.2.1 _ _ _ _ HKZ.out.2.2.2 HKZ.out.2.1) (show l'.length ≤ j + 1 by rw [← hl']; have := apk_len l k.r k.ks k.now k.ver; have := HS.out.2.2; omega)))
      have HF : Hid (∀ w' o' n l1 l2, Rx w w' o' P n l1 Q l2 T j l wa wc A K → (w'.cell? ⟨A, 2, none⟩ = some (.int .i64 k.r.verb) ∧ w'.cell? ⟨A, 3, none⟩ = some (.slice k.a kl k.cap) ∧ w'.cell? ⟨A, 4, none⟩ = some (.int .i64 k.r.fl) ∧ w'.cell? ⟨A, 5, none⟩ = some (.int .i64 k.r.exp) ∧ w'.cell? ⟨A, 6, none⟩ = some (.int .i64 k.r.bytes) ∧ w'.cell? ⟨A, 7, none⟩ = some (.int .i64 k.r.cas) ∧ w'.cell? ⟨A, 8, none⟩ = some (.int .u64 (k.r.delta : Int)) ∧ w'.cell? ⟨A, 9, none⟩ = some (.bool k.r.quiet) ∧ w'.cell? ⟨A, 10, none⟩ = some (.string k.r.data) ∧ w'.cell? ⟨A, 11, none⟩ = some (.int .i64 k.now) ∧ w'.cell? ⟨A, 12, none⟩ = some (.int .i64 k.ver))) := Lib.hid (fun X o' n l1 l2 hx => ⟨hx.bk.cell (by rw [HK.out]; rfl), hx.bk.cell (by rw [HK.out, ← hkl]; rfl), hx.bk.cell (by rw [HK.out]; rfl), hx.bk.cell (by rw [HK.out]; rfl), hx.bk.cell (by rw [HK.out]; rfl), hx.bk.cell (by rw [HK.out]; rfl), hx.bk.cell (by rw [HK.out]; rfl), hx.bk.cell (by rw [HK.out]; rfl), hx.bk.cell (by rw [HK.out]; rfl), hx.bk.cell (by rw [HK.out]; rfl), hx.bk.cell (by rw [HK.out]; rfl)⟩)
      have BD : Hid (Below w4.heap.size w4 w4.drew) := Lib.hid (below_drewN (Below.refl _ _) 1)
      have S0 := HF.out _ _ _ _ _ (HX.out.below BD.out)
      clear hA hml hgb hkl hl'
      go_wp2_with (at_builtin; refine wpList_append_run rfl (.tmp 33) (.tmp 37) 39 39 rfl _ _ _ rfl rfl hr ?_)
      clear hr hc x0
      go_region_held3 (fun w' => w'.cell? ⟨A, 2, none⟩ = some (.int .i64 k.r.verb) ∧ w'.cell? ⟨A, 3, none⟩ = some (.slice k.a kl k.cap) ∧ w'.cell? ⟨A, 4, none⟩ = some (.int .i64 k.r.fl) ∧ w'.cell? ⟨A, 5, none⟩ = some (.int .i64 k.r.exp) ∧ w'.cell? ⟨A, 6, none⟩ = some (.int .i64 k.r.bytes) ∧ w'.cell? ⟨A, 7, none⟩ = some (.int .i64 k.r.cas) ∧ w'.cell? ⟨A, 8, none⟩ = some (.int .u64 (k.r.delta : Int)) ∧ w'.cell? ⟨A, 9, none⟩ = some (.bool k.r.quiet) ∧ w'.cell? ⟨A, 10, none⟩ = some (.string k.r.data) ∧ w'.cell? ⟨A, 11, none⟩ = some (.int .i64 k.now) ∧ w'.cell? ⟨A, 12, none⟩ = some (.int .i64 k.ver))
        (first | with_reducible exact S0 | with_reducible exact S1 | with_reducible exact S2 | with_reducible exact S3)
        (first
          | (go_at_call 11; with_reducible refine (HC1.out _ BD.out).mono ?_; rintro e w5 ⟨a5, c5, o5, rfl, h5, r5⟩; have R5 := Lib.hid r5; have O5 := Lib.hid h5; have S1 := HF.out _ _ _ _ _ r5; clear r5 h5)
          | (go_at_call 17; with_reducible refine (HC2.out _ _ R5.out _ _ O5.out).mono ?_; rintro e w7 ⟨a7, c7, o6, rfl, g5, g7, r6⟩; have R6 := Lib.hid r6; have G5 := Lib.hid g5; have G7 := Lib.hid g7; have S2 := HF.out _ _ _ _ _ r6; clear r6 g5 g7)
          | (go_at_call 16; with_reducible refine (HC3.out _ _ _ _ _ G5.out G7.out).mono ?_; rintro e w6 ⟨rfl, b6⟩; have HX6 := Lib.hid (R6.out.below b6); have S3 := HF.out _ _ _ _ _ HX6.out; clear b6))
      clear HC1 HC2 HC3 HF BD S0 S1 S2 S3 R5 R6 O5 G5 G7 HX
      obtain ⟨lm, hlm⟩ : ∃ lm, l'.length = lm := ⟨_, rfl⟩
      have hlz := HL'.out.2.2
      rw [hlm] at hlz
      obtain ⟨qa, qc, hq, hqo⟩ := own_x lm hlm HX6.out
      have HQO := Lib.hid hqo
      have HL1 : Hid (∀ X, Below w6.heap.size w6 X → Calls Tryd.prog 19 #[.pointer (some ⟨P, 0, none⟩)] X fun e w' => ∃ (a : Option Addr) (c : Nat), e = .returned (.slice a lm c) ∧ Lst w' 5 a lm (ecs l') ∧ Below X.heap.size X w') := Lib.hid (fun X bX => list_x HL'.out.1 lm hlm (by omega) X (HX6.out.below bX))
      have HL2 : Hid (∀ X, Below w6.heap.size w6 X → ∀ a1 c1, Lst X 5 a1 lm (ecs l') → Calls Tryd.prog 18 #[.slice a1 lm c1, .slice qa lm qc] X fun e w' => e = .returned (.bool true) ∧ Below X.heap.size X w') := Lib.hid (fun X bX a1 c1 h1 => same_entries l' lm (by omega) X h1 (HQO.out.below bX))
      have HL3 : Hid (∀ X, Below w6.heap.size w6 X → Calls Tryd.prog 19 #[.pointer (some ⟨T, 0, none⟩)] X fun e w' => ∃ (a : Option Addr) (c : Nat), e = .returned (.slice a ll c) ∧ Lst w' 5 a ll (ecs l) ∧ Below X.heap.size X w') := Lib.hid (fun X bX => tlist_x HS.out.1 ll HLL.out (by omega) X (HX6.out.below bX))
      have HL4 : Hid (∀ X, Below w6.heap.size w6 X → ∀ a1 c1, Lst X 5 a1 ll (ecs l) → Calls Tryd.prog 18 #[.slice a1 ll c1, .slice wa ll wc] X fun e w' => e = .returned (.bool true) ∧ Below X.heap.size X w') := Lib.hid (fun X bX a1 c1 h1 => same_entries l ll (by omega) X h1 ((was_x ll HLL.out HX6.out).below bX))
      have HSQ : Hid (∀ X, Below w6.heap.size w6 X → X.cell? ⟨Q, 0, none⟩ = some (.slice qa lm qc)) := Lib.hid (fun X bX => cell_b hq bX)
      have BD : Hid (Below w6.heap.size w6 w6.drew) := Lib.hid (below_drewN (Below.refl _ _) 1)
      have S0 := HSQ.out _ BD.out
      clear hq hqo hlm
      go_wp2_with fail
      go_region_held3 (fun w' => w'.cell? ⟨Q, 0, none⟩ = some (.slice qa lm qc))
        (first | with_reducible exact S0 | with_reducible exact S1 | with_reducible exact S2 | with_reducible exact S3 | with_reducible exact S4)
        (first
          | (go_at_call 19; with_reducible refine (HL1.out _ BD.out).mono ?_; rintro e w7 ⟨a7, c7, rfl, t7, b7⟩; have T7 := Lib.hid t7; have B7 : Hid (Below w6.heap.size w6 w7) := Lib.hid (BD.out.trans (b7.mono BD.out.size)); have S1 := HSQ.out _ B7.out; clear b7 t7)
          | (go_at_call 18; with_reducible refine (HL2.out _ B7.out _ _ T7.out).mono ?_; rintro e w8 ⟨rfl, b8⟩; have B8 : Hid (Below w6.heap.size w6 w8) := Lib.hid (B7.out.trans (b8.mono B7.out.size)); have S2 := HSQ.out _ B8.out; clear b8)
          | (go_at_call 19; with_reducible refine (HL3.out _ B8.out).mono ?_; rintro e w9 ⟨a9, c9, rfl, t9, b9⟩; have T9 := Lib.hid t9; have B9 : Hid (Below w6.heap.size w6 w9) := Lib.hid (B8.out.trans (b9.mono B8.out.size)); have S3 := HSQ.out _ B9.out; clear b9 t9)
          | (go_at_call 18; with_reducible refine (HL4.out _ B9.out _ _ T9.out).mono ?_; rintro e w10 ⟨rfl, b10⟩; have B10 : Hid (Below w6.heap.size w6 w10) := Lib.hid (B9.out.trans (b10.mono B9.out.size)); have S4 := HSQ.out _ B10.out; clear b10))
      have HN := Lib.hid ((HX6.out.shut HL'.out.1 HL'.out.2.1 HL'.out.2.2).below B10.out)
      clear HX6 HL1 HL2 HL3 HL4 HSQ BD S0 S1 S2 S3 S4 B7 B8 B9 B10 T7 T9 HQO
      go_wp2_with fail
      exact ⟨⟨j + 1, o6, l', by omega, by omega, by go_num, HN⟩, by simp [intOf]; omega⟩
end Go.Proofs.YtpkmfckifnomeaaDoor
