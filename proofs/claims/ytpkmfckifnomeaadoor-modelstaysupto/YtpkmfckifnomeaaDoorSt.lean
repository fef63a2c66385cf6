/-
  The law ModelStays.
-/
import Derived.Test.YtpkmfckifnomeaaDoorAa
import Derived.Test.YtpkmfckifnomeaaDoorSf
import Derived.Test.YtpkmfckifnomeaaDoorRNum
namespace Go.Proofs.YtpkmfckifnomeaaDoor
open Go.RowKit

open Go.Lib (TabIs pow10Tab)
def sE (key value : ByteArray) (fl e : Int) : En := ⟨key, fl, 1000 + e, value, 7⟩
def sS (value : ByteArray) (fl e : Int) : Rq := ⟨3, fl, e, 0, 0, 0, false, value⟩
theorem s_dl (e : Int) (h1 : 1 ≤ e) (h2 : e ≤ 2592000) : dl e 1000 = 1000 + e := by
  unfold dl it
  rw [if_neg (by omega), if_neg (by omega), if_pos h2, if_neg (by omega), if_pos (by omega)]
theorem s_set (key value : ByteArray) (fl e : Int) (h1 : 1 ≤ e) (h2 : e ≤ 2592000) : q1 (sS value fl e) key 1000 7 [] = kpt (ab 2) (sE key value fl e) ∧ stp (sS value fl e) key 1000 7 [] = [sE key value fl e] := by
  have e1 : q1 (sS value fl e) key 1000 7 [] = kpt (ab 2) (sE key value fl e) := by
    unfold q1
    rw [nxt_3 rfl]
    unfold fre
    rw [show (sS value fl e).exp = e from rfl, s_dl e h1 h2]
    rfl
  exact ⟨e1, stp_new e1⟩
theorem s_lv1 (e : Int) (h1 : 1 ≤ e) : lv (1000 + e) (1000 + e - 1) = true := by unfold lv; simp; omega
theorem s_lv2 (e : Int) (h1 : 1 ≤ e) : lv (1000 + e) (1000 + e) = false := by unfold lv; simp; omega
theorem s_lv3 (e : Int) (h1 : 1 ≤ e) : lv (1000 + e) 1000 = true := by unfold lv; simp; omega
def sG : Rq := ⟨2, 0, 0, 0, 0, 0, false, ⟨#[]⟩⟩
def sF : Rq := ⟨13, 0, 0, 0, 0, 0, false, ⟨#[]⟩⟩
def sD : Rq := ⟨9, 0, 0, 0, 0, 0, false, ⟨#[]⟩⟩
theorem s_del {key : ByteArray} {l : List En} {u : En} (h : look (L key) l = some u) (hv : lv u.dl 1000 = true) : look (L key) (stp sD key 1000 9 l) = none := by
  have g : got l (L key) = u := by unfold got; rw [h]; rfl
  have e : liv l key 1000 = (u, true) := by unfold liv; rw [h, g, hv]; rfl
  have q : q1 sD key 1000 9 l = (ab 6, e0, false, true) := by unfold q1; rw [e, nxt_9 rfl]; rfl
  unfold stp
  rw [q]
  exact look_del _ _
theorem s_delq {key : ByteArray} {l : List En} {u : En} (h : look (L key) l = some u) (hv : lv u.dl 1000 = true) : q1 sD key 1000 9 l = (ab 6, e0, false, true) := by
  have g : got l (L key) = u := by unfold got; rw [h]; rfl
  have e : liv l key 1000 = (u, true) := by unfold liv; rw [h, g, hv]; rfl
  unfold q1; rw [e, nxt_9 rfl]; rfl
def Z43 : List Value := [.bool false, .string ⟨#[]⟩, .int .i64 0, .slice none 0 0, .int .i64 0, .int .i64 0, .int .i64 0, .int .i64 0, .int .u64 0, .bool false, .string ⟨#[]⟩, .int .i64 0, .int .i64 0]
theorem ask_put (W : World) {K : List Value} (hK : K.length = 13) :
    (W.alloc (.cells Z43.toArray 43)).there W.heap.size 0 K.length ∧ ((W.alloc (.cells Z43.toArray 43)).setCells W.heap.size 0 K).rangeAt W.heap.size 0 K ∧ Below W.heap.size W ((W.alloc (.cells Z43.toArray 43)).setCells W.heap.size 0 K) := by
  have t1 : (W.alloc (.cells Z43.toArray 43)).there W.heap.size 0 K.length := by rw [hK]; exact there_new W Z43 43
  exact ⟨t1, World.rangeAt_setCells_same _ _ _ _ t1, below_sets (below_alloc _ _) (Nat.le_refl _) _ _⟩
theorem Ak.len (k : Ak) : k.cs.length = 13 := rfl
theorem Ak.one (k : Ak) : ∀ u ∈ k.cs, u.oneCell' = true := by
  intro u hu
  simp only [Ak.cs, Rq.cs, List.cons_append, List.nil_append, List.mem_cons, List.not_mem_nil, or_false] at hu
  rcases hu with rfl | rfl | rfl | rfl | rfl | rfl | rfl | rfl | rfl | rfl | rfl | rfl | rfl <;> rfl
/-- What the law keeps on its way. -/
structure Sw (w0 w : World) (o : Nat → Nat × Nat) (P n j : Nat) (l : List En) (key : ByteArray) (u : En) : Prop where
  ls : Ls w o P n l [] []
  zz : Zz w0 w o
  n : n ≤ 1 + j
  lk : look (L key) l = some u
set_option maxRecDepth 100000 in
set_option maxHeartbeats 4000000 in
theorem stays_walk (key value : ByteArray) (flags exp how : Int) (hfl : 0 ≤ flags ∧ flags < 4294967296) (a : Option Addr) (cap : Nat) (asks : List Ak) (hkz : key.size ≤ 140737488355328) (hvz : value.size ≤ 140737488355328) (hal : asks.length ≤ 9223372036854775807) (hbk : ∀ k ∈ asks, ksum k.ks + k.r.data.size + k.key.size ≤ 1048576) (w : World) (hA : AksF w a asks) (htab : TabIs Tryd.prog w "internal/strconv.uint64pow10" .u64 pow10Tab) :
    Calls Tryd.prog 6 #[.string key, .string value, .int .u32 flags, .int .i64 exp, .slice a asks.length cap, .int .i64 how] w fun e w' => e = .returned (.bool true) ∧ Below w.heap.size w w' := by
  obtain ⟨len, hlen⟩ : ∃ len, asks.length = len := ⟨_, rfl⟩
  rw [hlen] at hal ⊢
  have HLEN := Lib.hid hlen
  have HAS := Lib.hid (And.intro hA hbk)
  have HTB := Lib.hid htab
  obtain ⟨f0, f1⟩ := hfl
  clear hA hbk htab hlen
  go_enter Tryd.func6, Tryd.ntmps6
  go_wp2_with fail
  refine (ls_new w HTB.out).mono ?_
  rintro e_ w0 ⟨P, o_, rfl, h_, z_⟩
  have HL := Lib.hid (And.intro h_ z_)
  clear h_ z_
  by_cases hc : key.size = 0 ∨ 500 < key.size + value.size
  · have HB : Hid (Below w.heap.size w w0) := Lib.hid HL.out.2.b
    have HT := Lib.hid HL.out.1.tab
    clear HL
    by_cases h0 : key.size = 0
    · have g0 : (key.toList == []) = true := by rw [beq_nil]; exact decide_eq_true h0
      go_wp2_with fail
      refine (runs_any w0 HT.out).mono ?_
      rintro e_ w1 ⟨rfl, b_⟩
      have HB2 := Lib.hid (HB.out.trans (b_.mono HB.out.size))
      clear b_ HB HT
      go_wp2_with fail
      go_ret
      exact ⟨rfl, HB2.out⟩
    · have g0 : (key.toList == []) = false := by rw [beq_nil]; exact decide_eq_false h0
      have g1 : decide ((500 : Int) < (key.size : Int) + (value.size : Int)) = true := decide_eq_true (by omega)
      go_wp2_with fail
      refine (runs_any w0 HT.out).mono ?_
      rintro e_ w1 ⟨rfl, b_⟩
      have HB2 := Lib.hid (HB.out.trans (b_.mono HB.out.size))
      clear b_ HB HT
      go_wp2_with fail
      go_ret
      exact ⟨rfl, HB2.out⟩
  have g0 : (key.toList == []) = false := by rw [beq_nil]; exact decide_eq_false (by omega)
  have g1 : decide ((500 : Int) < (key.size : Int) + (value.size : Int)) = false := decide_eq_false (by omega)
  have kz : key.size ≤ 500 := by omega
  have vz : value.size ≤ 500 := by omega
  clear hc hkz hvz
  go_wp2_with fail
  refine (within_any exp 1 2592000 (by omega) (by omega) (by omega) w0).mono ?_
  rintro e_ w0' ⟨rfl, rfl⟩
  obtain ⟨E1, E2⟩ := wi_bd exp 1 2592000 (by omega)
  obtain ⟨E, hE⟩ : ∃ E, wi exp 1 2592000 = E := ⟨_, rfl⟩
  rw [hE] at E1 E2 ⊢
  clear hE
  have wf : IntKind.i64.wrap flags = flags := by rw [IntKind.wrap_i64]; omega
  obtain ⟨h_, z_⟩ := HL.out.1.alloc HL.out.2 3 [.string key] 9
  clear HL
  have HL := Lib.hid (And.intro h_ z_)
  clear h_ z_
  go_wp2_with fail
  refine (ls_x (sS value flags E) 1000 7 key w0.heap.size 1 0 rfl rfl rfl rfl (kpt (ab 2) (sE key value flags E)) [sE key value flags E] 2 0 ⟨#[]⟩ (s_set key value flags E E1 E2).1 (s_set key value flags E E1 E2).2 rfl (by omega) (by omega) (by show value.size ≤ _; omega) _ HL.out.1 HL.out.2 (.head _)).mono ?_
  rintro e_ w1 ⟨o1, rfl, h_, z_⟩
  have HS : Hid (Sw w w1 o1 P 1 0 [sE key value flags E] key (sE key value flags E)) := Lib.hid ⟨h_.sub (Nat.le_refl _) (fun x hx => by cases hx) (fun x hx => by cases hx), z_, by omega, look_self _⟩
  clear h_ z_ HL
  go_wp2_with fail
  obtain ⟨u, hu⟩ : ∃ u, sE key value flags E = u := ⟨_, rfl⟩
  have HU := Lib.hid hu
  rw [hu] at HS
  clear hu
  go_loopw [15] (fun i wr => ∃ (j n : Nat) (o : Nat → Nat × Nat) (l : List En), j ≤ 30 ∧ j ≤ len ∧ i = .int .i64 (j : Int) ∧ Hid (Sw w wr o P n j l key u)) (fun i _ => 30 - (intOf i).toNat)
  case atStart => exact ⟨0, 1, o1, _, by omega, by omega, rfl, HS⟩
  case round =>
    obtain ⟨j, n, o, l, hj1, hj2, rfl, HR⟩ := hrel
    clear HS
    by_cases hlt : j < len ∧ j < 30
    · obtain ⟨hl1, hl2⟩ := hlt
      have i1 : decide ((j : Int) < (len : Int)) = true := decide_eq_true (by omega)
      have i2 : decide ((j : Int) < 30) = true := decide_eq_true (by omega)
      obtain ⟨k, hk⟩ : ∃ k, asks[j]? = some k := ⟨_, List.getElem?_eq_getElem (by rw [HLEN.out]; exact hl1)⟩
      have hkm : k ∈ asks := List.mem_of_getElem? hk
      have KZ := Lib.hid (HAS.out.2 k hkm)
      have KF := Lib.hid (HAS.out.1.2 k hkm)
      rcases HAS.out.1.1 with h0 | ⟨p, off, rfl, hp, hcell⟩
      · rw [h0] at hk; cases hk
      obtain ⟨K, hK⟩ : ∃ K, K = k.cs := ⟨_, rfl⟩
      have HLK : Hid (K.length = 13) := Lib.hid (by rw [hK]; rfl)
      have HOK : Hid (∀ u ∈ K, u.oneCell' = true) := Lib.hid (by rw [hK]; exact Ak.one k)
      have HCA : Hid (wr.rangeAt p (off + j * 13) K) := Lib.hid (fun jj v hv => by
        rw [hK] at hv
        have h1 := hcell j k hk jj v hv
        rw [Nat.add_assoc]
        exact cell_b h1 HR.out.zz.b)
      have HP := Lib.hid (ask_put wr HLK.out)
      have HT := Lib.hid HP.out.1
      have HG := Lib.hid (And.intro HP.out.2.1 HP.out.2.2)
      have LA := Lib.hid (fun W (hb : Below w.heap.size w W) => light_any k KZ.out W (by
        rcases KF.out.keys with h | ⟨p, off, h1, h2⟩
        · exact .inl h
        · exact .inr ⟨p, off, h1, fun i x hx => cell_b (h2 i x hx) hb⟩))
      have HK := Lib.hid hK
      rw [← hK] at LA
      clear hK hcell hk hkm hp
      go_wp2_with (first
        | ((with_reducible show wpList _ _ _ (Oper.mk (some _) (Op.load 43 (.tmp 62)) _ _ _ _ :: _) _ _); refine wpList_load_mid (by rfl) 43 (.tmp 62) (by rfl) p (off + j * 13) (by rfl) K _ HCA.out Tryd.underlying43 (by rfl) (by rw [HLK.out]; kernel_rfl) ?_)
        | ((with_reducible show wpList _ _ _ (Oper.mk none (Op.store 43 (.tmp 16) _) _ _ _ _ :: _) _ _); refine wpList_store_mid (by rfl) 43 (.tmp 16) (.tmp 63) (by rfl) (wr.heap.size) 0 K.toArray (by rfl) (by rfl) HT.out (by rw [List.size_toArray, HLK.out]; kernel_rfl) (all_oneCell_toArray HOK.out) ?_; rw [show K.toArray.toList = K from rfl])
        | ((with_reducible show wpList _ _ _ (Oper.mk (some _) (Op.load 43 (.tmp 16)) _ _ _ _ :: _) _ _); refine wpList_load_mid (by rfl) 43 (.tmp 16) (by rfl) (wr.heap.size) 0 (by rfl) K _ HG.out.1 Tryd.underlying43 (by rfl) (by rw [HLK.out]; kernel_rfl) ?_))
      have HB1 : Hid (Below w.heap.size w ((wr.alloc (.cells Z43.toArray 43)).setCells wr.heap.size 0 K)) := Lib.hid (HR.out.zz.b.trans (HG.out.2.mono HR.out.zz.b.size))
      refine (LA.out _ HB1.out).mono ?_
      rintro e_ w2 ⟨rfl, b_⟩
      have HG2 := Lib.hid (range_below HG.out.1 b_)
      have HS2 : Hid (Sw w w2 o P n j l key u) := Lib.hid ⟨(HR.out.ls.below HG.out.2).below b_, (HR.out.zz.below HG.out.2).below b_, HR.out.n, HR.out.lk⟩
      clear b_ HR HG HT HP HB1 HCA LA
      have x0 : w2.cell? ⟨wr.heap.size, 0, none⟩ = some (.bool k.lost) := by have := HG2.out 0 (.bool k.lost) (by rw [HK.out]; rfl); rwa [Nat.zero_add] at this
      have x1 : w2.cell? ⟨wr.heap.size, 1, none⟩ = some (.string k.key) := by have := HG2.out 1 (.string k.key) (by rw [HK.out]; rfl); rwa [Nat.zero_add] at this
      have x2 : w2.cell? ⟨wr.heap.size, 2, none⟩ = some (.int .i64 k.r.verb) := by have := HG2.out 2 (.int .i64 k.r.verb) (by rw [HK.out]; rfl); rwa [Nat.zero_add] at this
      have x3 : w2.cell? ⟨wr.heap.size, 3, none⟩ = some (.slice k.a k.ks.length k.cap) := by have := HG2.out 3 (.slice k.a k.ks.length k.cap) (by rw [HK.out]; rfl); rwa [Nat.zero_add] at this
      have x11 : w2.cell? ⟨wr.heap.size, 11, none⟩ = some (.int .i64 k.now) := by have := HG2.out 11 (.int .i64 k.now) (by rw [HK.out]; rfl); rwa [Nat.zero_add] at this
      have x12 : w2.cell? ⟨wr.heap.size, 12, none⟩ = some (.int .i64 k.ver) := by have := HG2.out 12 (.int .i64 k.ver) (by rw [HK.out]; rfl); rwa [Nat.zero_add] at this
      obtain ⟨R2, hR2⟩ : ∃ R2, R2 = k.r.cs (.slice k.a k.ks.length k.cap) := ⟨_, rfl⟩
      have HLR : Hid (R2.length = 9) := Lib.hid (by rw [hR2]; rfl)
      have HR2 : Hid (w2.rangeAt wr.heap.size 2 R2) := Lib.hid (fun jj v hv => by
        have hjj : jj < 9 := by have := (List.getElem?_eq_some_iff.1 hv).1; rw [HLR.out] at this; exact this
        have := HG2.out (2 + jj) v (by
          rw [HK.out, ← hv, hR2]
          unfold Ak.cs
          rw [List.getElem?_append_left (by rw [List.length_append]; show 2 + jj < 2 + 9; omega), List.getElem?_append_right (by show 2 ≤ 2 + jj; omega)]
          congr 1
          show 2 + jj - 2 = jj
          omega)
        rw [Nat.zero_add] at this
        exact this)
      by_cases d0 : ksum k.ks + k.r.data.size + k.key.size < 1000
      case neg =>
        have d1 := decide_eq_false d0
        clear d0
        have HN : Hid (Sw w w2 o P n (j + 1) l key u) := Lib.hid ⟨HS2.out.ls, HS2.out.zz, by have := HS2.out.n; omega, HS2.out.lk⟩
        clear HS2 HG2 hR2
        go_wp2_with fail
        exact ⟨⟨j + 1, n, o, l, by omega, by omega, by go_num, HN⟩, by simp [intOf]; omega⟩
      have nz : n < 1000000 := by have := HS2.out.n; omega
      have AP := Lib.hid (ls_ap 0 k.r k.now k.ver k.a k.cap k.ks w2 HS2.out.ls HS2.out.zz nz (by have := ksum_len k.ks; omega) (fun x hx => by have := ksum_at hx; have := KZ.out; omega) (by have := KZ.out; omega) KF.out.keys KF.out.lt (fun _ _ _ _ h => by cases h))
      rw [← hR2] at AP
      clear hR2 nz
      have d1 := decide_eq_true d0
      clear d0
      by_cases d0 : k.r.verb = 13
      case pos =>
        have d2 : (k.r.verb == 13) = true := by simp [d0]
        clear d0
        have HN : Hid (Sw w w2 o P n (j + 1) l key u) := Lib.hid ⟨HS2.out.ls, HS2.out.zz, by have := HS2.out.n; omega, HS2.out.lk⟩
        clear HS2 AP HG2
        go_wp2_with fail
        exact ⟨⟨j + 1, n, o, l, by omega, by omega, by go_num, HN⟩, by simp [intOf]; omega⟩
      have d2 : (k.r.verb == 13) = false := by simp [d0]
      have HV := Lib.hid d0
      clear d0
      by_cases d0 : k.key = key
      case pos =>
        have d3 : (k.key.toList == key.toList) = true := by rw [str_beq]; exact decide_eq_true d0
        clear d0
        have HN : Hid (Sw w w2 o P n (j + 1) l key u) := Lib.hid ⟨HS2.out.ls, HS2.out.zz, by have := HS2.out.n; omega, HS2.out.lk⟩
        clear HS2 AP HG2
        go_wp2_with fail
        exact ⟨⟨j + 1, n, o, l, by omega, by omega, by go_num, HN⟩, by simp [intOf]; omega⟩
      have d3 : (k.key.toList == key.toList) = false := by rw [str_beq]; exact decide_eq_false d0
      have HNE := Lib.hid d0
      clear d0
      obtain ⟨kl, hkl⟩ : ∃ kl, k.ks.length = kl := ⟨_, rfl⟩
      rw [hkl] at x3
      by_cases d0 : kl = 0
      case pos =>
        have hnil : k.ks = [] := List.eq_nil_of_length_eq_zero (hkl.trans d0)
        have d4 : decide (0 < kl) = false := decide_eq_false (by omega)
        have HF : Hid (∀ k' r', k.ks = k' :: r' → L k' ≠ L key) := Lib.hid (fun k' r' e => by rw [hnil] at e; cases e)
        clear d0 hkl hnil
        cases hlo : k.lost with
        | true =>
          rw [hlo] at x0
          clear hlo
          go_wp2_with fail
          refine (ls_forget k.key (by have := KZ.out; omega) w2 HS2.out.ls HS2.out.zz).mono ?_
          rintro e_ w3 ⟨rfl, h_, z_⟩
          have HN : Hid (Sw w w3 o P n (j + 1) (del (L k.key) l) key u) := Lib.hid ⟨h_, z_, by have := HS2.out.n; omega, by rw [look_del_ne (fun e => HNE.out (L_inj e).symm)]; exact HS2.out.lk⟩
          clear h_ z_ HS2 AP HG2
          go_wp2_with fail
          exact ⟨⟨j + 1, n, o, del (L k.key) l, by omega, by omega, by go_num, HN⟩, by simp [intOf]; omega⟩
        | false =>
          rw [hlo] at x0
          clear hlo
          go_wp2_with (first
            | ((with_reducible show wpList _ _ _ (Oper.mk (some _) (Op.load 27 (.tmp 102)) _ _ _ _ :: _) _ _); refine wpList_load_mid (by rfl) 27 (.tmp 102) (by rfl) wr.heap.size 2 (by rfl) R2 _ HR2.out Tryd.underlying27 (by rfl) (by rw [HLR.out]; kernel_rfl) ?_))
          refine AP.out.mono ?_
          rintro e_ w3 ⟨a', m, c, o', rfl, hm, h_, z_⟩
          have HN : Hid (Sw w w3 o' P (n + 1) (j + 1) (apk k.r k.ks k.now k.ver l) key u) := Lib.hid ⟨h_.sub (Nat.le_refl _) (fun x hx => hx) (fun x hx => by cases hx), z_, by have := HS2.out.n; omega, by rw [apk_look HV.out HF.out HS2.out.ls.ok (by have := KZ.out; omega)]; exact HS2.out.lk⟩
          clear h_ z_ HS2 AP HG2
          go_wp2_with fail
          exact ⟨⟨j + 1, n + 1, o', apk k.r k.ks k.now k.ver l, by omega, by omega, by go_num, HN⟩, by simp [intOf]; omega⟩
      have d4 : decide (0 < kl) = true := decide_eq_true (by omega)
      have klp : 0 < kl := by omega
      obtain ⟨y, r', hy⟩ : ∃ y r', k.ks = y :: r' := by
        cases h : k.ks with
        | nil => rw [h] at hkl; exact absurd hkl.symm d0
        | cons y r => exact ⟨y, r, rfl⟩
      rcases KF.out.keys with h | ⟨pa, offa, ha, hc⟩
      · rw [hy] at h; cases h
      have y0 : w2.cell? ⟨pa, offa, none⟩ = some (.string y) := cell_b (hc 0 y (by rw [hy]; rfl)) HS2.out.zz.b
      rw [ha] at x3
      by_cases d5 : y = key
      case pos =>
        have d6 : (y.toList == key.toList) = true := by rw [str_beq]; exact decide_eq_true d5
        clear d5 d0 hkl hy ha hc
        have HN : Hid (Sw w w2 o P n (j + 1) l key u) := Lib.hid ⟨HS2.out.ls, HS2.out.zz, by have := HS2.out.n; omega, HS2.out.lk⟩
        clear HS2 AP HG2
        go_wp2_with fail
        exact ⟨⟨j + 1, n, o, l, by omega, by omega, by go_num, HN⟩, by simp [intOf]; omega⟩
      have d6 : (y.toList == key.toList) = false := by rw [str_beq]; exact decide_eq_false d5
      have HF : Hid (∀ k' r', k.ks = k' :: r' → L k' ≠ L key) := Lib.hid (fun k' r'' e => by
        rw [hy] at e; cases e; exact fun h => d5 (L_inj h))
      clear d5 d0 hkl hy ha hc
      cases hlo : k.lost with
      | true =>
        rw [hlo] at x0
        clear hlo
        go_wp2_with fail
        refine (ls_forget k.key (by have := KZ.out; omega) w2 HS2.out.ls HS2.out.zz).mono ?_
        rintro e_ w3 ⟨rfl, h_, z_⟩
        have HN : Hid (Sw w w3 o P n (j + 1) (del (L k.key) l) key u) := Lib.hid ⟨h_, z_, by have := HS2.out.n; omega, by rw [look_del_ne (fun e => HNE.out (L_inj e).symm)]; exact HS2.out.lk⟩
        clear h_ z_ HS2 AP HG2
        go_wp2_with fail
        exact ⟨⟨j + 1, n, o, del (L k.key) l, by omega, by omega, by go_num, HN⟩, by simp [intOf]; omega⟩
      | false =>
        rw [hlo] at x0
        clear hlo
        go_wp2_with (first
          | ((with_reducible show wpList _ _ _ (Oper.mk (some _) (Op.load 27 (.tmp 102)) _ _ _ _ :: _) _ _); refine wpList_load_mid (by rfl) 27 (.tmp 102) (by rfl) wr.heap.size 2 (by rfl) R2 _ HR2.out Tryd.underlying27 (by rfl) (by rw [HLR.out]; kernel_rfl) ?_))
        refine AP.out.mono ?_
        rintro e_ w3 ⟨a', m, c, o', rfl, hm, h_, z_⟩
        have HN : Hid (Sw w w3 o' P (n + 1) (j + 1) (apk k.r k.ks k.now k.ver l) key u) := Lib.hid ⟨h_.sub (Nat.le_refl _) (fun x hx => hx) (fun x hx => by cases hx), z_, by have := HS2.out.n; omega, by rw [apk_look HV.out HF.out HS2.out.ls.ok (by have := KZ.out; omega)]; exact HS2.out.lk⟩
        clear h_ z_ HS2 AP HG2
        go_wp2_with fail
        exact ⟨⟨j + 1, n + 1, o', apk k.r k.ks k.now k.ver l, by omega, by omega, by go_num, HN⟩, by simp [intOf]; omega⟩
    · have HZ : Hid (Sw w wr o P n j l key u) := HR
      clear HR
      have HZ2 : Hid (n ≤ 31) := Lib.hid (by have := HZ.out.n; omega)
      have HLK2 := Lib.hid HZ.out.lk
      obtain ⟨h_, z_⟩ := HZ.out.ls.alloc HZ.out.zz 3 [.string key] 9
      obtain ⟨h_, z_⟩ := h_.alloc z_ 4 [.int .i64 2, .slice (some ⟨wr.heap.size, 0, none⟩) 1 1, .int .i64 0, .int .i64 0, .int .i64 0, .int .i64 0, .int .u64 0, .bool false, .string ⟨#[]⟩] 27
      have HL := Lib.hid (And.intro h_ z_)
      clear h_ z_ HZ
      rw [World.size_alloc] at HL
      have HF1 : Hid (fnd l (1000 + E - 1) [key] = [u]) := Lib.hid (fnd_one HLK2.out (by rw [← HU.out]; exact s_lv1 E E1))
      have HF2 : Hid (fnd l (1000 + E) [key] = []) := Lib.hid (fnd_gone HLK2.out (by rw [← HU.out]; exact s_lv2 E E1))
      by_cases jl : j < len
      · have j1 : decide ((j : Int) < (len : Int)) = true := decide_eq_true (by omega)
        have j2 : decide ((j : Int) < 30) = false := decide_eq_false (by omega)
        skip
        go_wp2_with fail
        have T2 := lg_x true 1 sG (1000 + E - 1) 8 key wr.heap.size 1 0 rfl rfl [u] HF1.out (by omega) _ HL.out.1 HL.out.2 (.tail _ (.head _)) (fun _ _ _ _ h => by cases h)
        refine T2.mono ?_
        rintro e_ w2 ⟨a2, m2, c2, o2, rfl, hm2, h_, z_⟩
        obtain rfl : m2 = 1 := hm2
        obtain ⟨h_, z_⟩ := h_.alloc z_ 5 [.int .i64 1, .slice a2 1 c2, .bool true, .int .u64 0, .string ⟨#[]⟩, .int .i64 0, .int .i64 0, .int .i64 0, .int .i64 0] 32
        clear HL
        have HL := Lib.hid (And.intro h_ z_)
        clear h_ z_
        clear T2
        obtain ⟨g, cap2, e2, _, _, _, _, x_, _⟩ := (HL.out.1.s 1 _ _ _ (.head _)).there (by omega)
        injection e2 with e2 _ e3
        subst e2 e3
        rw [← HU.out] at x_
        have x0 := x_ 0 (.string key) rfl
        have x1 := x_ 1 (.int .i64 flags) rfl
        have x2 := x_ 2 (.string value) rfl
        have x3 := x_ 3 (.int .i64 7) rfl
        clear x_
        have ne35 : ∀ w, (binOp .neq 35 (.agg #[.string key, .int .i64 flags, .string value, .int .i64 7]) (.agg #[.string key, .int .i64 flags, .string value, .int .i64 7])).run Tryd.prog w = .ok (.bool false) w := fun w => neq35 w (sE key value flags E)
        have y0 : (w2.alloc (.cells #[.int .i64 1, .slice (some ⟨g, 0, none⟩) 1 c2, .bool true, .int .u64 0, .string ⟨#[]⟩, .int .i64 0, .int .i64 0, .int .i64 0, .int .i64 0] 32)).cell? ⟨wr.heap.size + 1, 0, none⟩ = some (.int .i64 2) := HL.out.1.cell (.tail _ (.head _)) rfl
        have y1 : (w2.alloc (.cells #[.int .i64 1, .slice (some ⟨g, 0, none⟩) 1 c2, .bool true, .int .u64 0, .string ⟨#[]⟩, .int .i64 0, .int .i64 0, .int .i64 0, .int .i64 0] 32)).cell? ⟨wr.heap.size + 1, 1, none⟩ = some (.slice (some ⟨wr.heap.size, 0, none⟩) 1 1) := HL.out.1.cell (.tail _ (.head _)) rfl
        have y2 : (w2.alloc (.cells #[.int .i64 1, .slice (some ⟨g, 0, none⟩) 1 c2, .bool true, .int .u64 0, .string ⟨#[]⟩, .int .i64 0, .int .i64 0, .int .i64 0, .int .i64 0] 32)).cell? ⟨wr.heap.size + 1, 2, none⟩ = some (.int .i64 0) := HL.out.1.cell (.tail _ (.head _)) rfl
        have y3 : (w2.alloc (.cells #[.int .i64 1, .slice (some ⟨g, 0, none⟩) 1 c2, .bool true, .int .u64 0, .string ⟨#[]⟩, .int .i64 0, .int .i64 0, .int .i64 0, .int .i64 0] 32)).cell? ⟨wr.heap.size + 1, 3, none⟩ = some (.int .i64 0) := HL.out.1.cell (.tail _ (.head _)) rfl
        have y4 : (w2.alloc (.cells #[.int .i64 1, .slice (some ⟨g, 0, none⟩) 1 c2, .bool true, .int .u64 0, .string ⟨#[]⟩, .int .i64 0, .int .i64 0, .int .i64 0, .int .i64 0] 32)).cell? ⟨wr.heap.size + 1, 4, none⟩ = some (.int .i64 0) := HL.out.1.cell (.tail _ (.head _)) rfl
        have y5 : (w2.alloc (.cells #[.int .i64 1, .slice (some ⟨g, 0, none⟩) 1 c2, .bool true, .int .u64 0, .string ⟨#[]⟩, .int .i64 0, .int .i64 0, .int .i64 0, .int .i64 0] 32)).cell? ⟨wr.heap.size + 1, 5, none⟩ = some (.int .i64 0) := HL.out.1.cell (.tail _ (.head _)) rfl
        have y6 : (w2.alloc (.cells #[.int .i64 1, .slice (some ⟨g, 0, none⟩) 1 c2, .bool true, .int .u64 0, .string ⟨#[]⟩, .int .i64 0, .int .i64 0, .int .i64 0, .int .i64 0] 32)).cell? ⟨wr.heap.size + 1, 6, none⟩ = some (.int .u64 0) := HL.out.1.cell (.tail _ (.head _)) rfl
        have y7 : (w2.alloc (.cells #[.int .i64 1, .slice (some ⟨g, 0, none⟩) 1 c2, .bool true, .int .u64 0, .string ⟨#[]⟩, .int .i64 0, .int .i64 0, .int .i64 0, .int .i64 0] 32)).cell? ⟨wr.heap.size + 1, 7, none⟩ = some (.bool false) := HL.out.1.cell (.tail _ (.head _)) rfl
        have y8 : (w2.alloc (.cells #[.int .i64 1, .slice (some ⟨g, 0, none⟩) 1 c2, .bool true, .int .u64 0, .string ⟨#[]⟩, .int .i64 0, .int .i64 0, .int .i64 0, .int .i64 0] 32)).cell? ⟨wr.heap.size + 1, 8, none⟩ = some (.string ⟨#[]⟩) := HL.out.1.cell (.tail _ (.head _)) rfl
        go_wp2_with fail
        have T3 := lg_x true 2 sG (1000 + E) 8 key wr.heap.size 1 0 rfl rfl [] HF2.out (by omega) _ HL.out.1 HL.out.2 (.tail _ (.tail _ (.head _))) (fun _ _ _ _ h => by simp only [List.mem_cons, List.not_mem_nil, or_false, Prod.mk.injEq] at h; omega)
        refine T3.mono ?_
        rintro e_ w5 ⟨a5, m5, c5, o5, rfl, hm5, h_, z_⟩
        obtain rfl : m5 = 0 := hm5
        clear HL
        have HL := Lib.hid (And.intro h_ z_)
        clear h_ z_
        clear T3 x0 x1 x2 x3 y0 y1 y2 y3 y4 y5 y6 y7 y8
        have fl := fun W => fld1 1 a5 0 c5 true 0 ⟨#[]⟩ W
        go_wp2_with fail
        refine (within_any how 0 2 (by omega) (by omega) (by omega) w5).mono ?_
        rintro e_ w5' ⟨rfl, rfl⟩
        obtain ⟨F1, F2⟩ := wi_bd how 0 2 (by omega)
        obtain ⟨F, hF⟩ : ∃ F, wi how 0 2 = F := ⟨_, rfl⟩
        rw [hF] at F1 F2 ⊢
        clear hF fl ne35
        rcases (show F = 0 ∨ F = 1 ∨ F = 2 by omega) with rfl | rfl | rfl
        · have g1 := s_delq HLK2.out (by rw [← HU.out]; exact s_lv3 E E1)
          have HQ := Lib.hid g1
          clear g1
          obtain ⟨h_, z_⟩ := HL.out.1.alloc HL.out.2 3 [.string key] 9
          clear HL
          have HL := Lib.hid (And.intro h_ z_)
          clear h_ z_
          go_wp2_with fail
          refine (ls_x sD 1000 9 key w5.heap.size 1 0 rfl rfl rfl rfl (ab 6, e0, false, true) (stp sD key 1000 9 l) 6 0 ⟨#[]⟩ HQ.out rfl rfl (by have := HZ2.out; omega) (by omega) (by decide) _ HL.out.1 HL.out.2 (.head _)).mono ?_
          rintro e_ w6 ⟨o6, rfl, h_, z_⟩
          clear HL
          have HL := Lib.hid (And.intro h_ z_)
          clear h_ z_
          have HLN : Hid (look (L key) (stp sD key 1000 9 l) = none) := Lib.hid (s_del HLK2.out (by rw [← HU.out]; exact s_lv3 E E1))
          have y0 : (w6).cell? ⟨wr.heap.size + 1, 0, none⟩ = some (.int .i64 2) := HL.out.1.cell (.tail _ (.tail _ (.head _))) rfl
          have y1 : (w6).cell? ⟨wr.heap.size + 1, 1, none⟩ = some (.slice (some ⟨wr.heap.size, 0, none⟩) 1 1) := HL.out.1.cell (.tail _ (.tail _ (.head _))) rfl
          have y2 : (w6).cell? ⟨wr.heap.size + 1, 2, none⟩ = some (.int .i64 0) := HL.out.1.cell (.tail _ (.tail _ (.head _))) rfl
          have y3 : (w6).cell? ⟨wr.heap.size + 1, 3, none⟩ = some (.int .i64 0) := HL.out.1.cell (.tail _ (.tail _ (.head _))) rfl
          have y4 : (w6).cell? ⟨wr.heap.size + 1, 4, none⟩ = some (.int .i64 0) := HL.out.1.cell (.tail _ (.tail _ (.head _))) rfl
          have y5 : (w6).cell? ⟨wr.heap.size + 1, 5, none⟩ = some (.int .i64 0) := HL.out.1.cell (.tail _ (.tail _ (.head _))) rfl
          have y6 : (w6).cell? ⟨wr.heap.size + 1, 6, none⟩ = some (.int .u64 0) := HL.out.1.cell (.tail _ (.tail _ (.head _))) rfl
          have y7 : (w6).cell? ⟨wr.heap.size + 1, 7, none⟩ = some (.bool false) := HL.out.1.cell (.tail _ (.tail _ (.head _))) rfl
          have y8 : (w6).cell? ⟨wr.heap.size + 1, 8, none⟩ = some (.string ⟨#[]⟩) := HL.out.1.cell (.tail _ (.tail _ (.head _))) rfl
          have TB := Lib.hid HL.out.1.tab
          clear TB
          go_wp2_with fail
          have T1 := lg_x true 3 sG 1000 10 key wr.heap.size 1 0 rfl rfl [] (fnd_none HLN.out) (by omega) _ HL.out.1 HL.out.2 (.tail _ (.tail _ (.tail _ (.head _)))) (fun _ _ _ _ h => by simp only [List.mem_cons, List.not_mem_nil, or_false, Prod.mk.injEq] at h; omega)
          refine T1.mono ?_
          rintro e_ w7 ⟨a7, m7, c7, o7, rfl, hm7, h_, z_⟩
          obtain rfl : m7 = 0 := hm7
          have HT7 := Lib.hid h_.tab
          have HB7 := Lib.hid z_.b
          clear h_ z_ HL T1 y0 y1 y2 y3 y4 y5 y6 y7 y8
          have fl := fun W => fld1 1 a7 0 c7 true 0 ⟨#[]⟩ W
          go_wp2_with fail
          refine (runs_any w7 HT7.out).mono ?_
          rintro e_ w8 ⟨rfl, b_⟩
          have HB8 := Lib.hid (HB7.out.trans (b_.mono HB7.out.size))
          clear b_ HT7 HB7
          go_wp2_with fail
          go_ret
          exact ⟨rfl, HB8.out⟩
        · go_wp2_with fail
          refine (ls_forget key (by omega) w5 HL.out.1 HL.out.2).mono ?_
          rintro e_ w6 ⟨rfl, h_, z_⟩
          clear HL
          have HL := Lib.hid (And.intro h_ z_)
          clear h_ z_
          have HLN : Hid (look (L key) (del (L key) l) = none) := Lib.hid (look_del _ _)
          have y0 : (w6).cell? ⟨wr.heap.size + 1, 0, none⟩ = some (.int .i64 2) := HL.out.1.cell (.tail _ (.head _)) rfl
          have y1 : (w6).cell? ⟨wr.heap.size + 1, 1, none⟩ = some (.slice (some ⟨wr.heap.size, 0, none⟩) 1 1) := HL.out.1.cell (.tail _ (.head _)) rfl
          have y2 : (w6).cell? ⟨wr.heap.size + 1, 2, none⟩ = some (.int .i64 0) := HL.out.1.cell (.tail _ (.head _)) rfl
          have y3 : (w6).cell? ⟨wr.heap.size + 1, 3, none⟩ = some (.int .i64 0) := HL.out.1.cell (.tail _ (.head _)) rfl
          have y4 : (w6).cell? ⟨wr.heap.size + 1, 4, none⟩ = some (.int .i64 0) := HL.out.1.cell (.tail _ (.head _)) rfl
          have y5 : (w6).cell? ⟨wr.heap.size + 1, 5, none⟩ = some (.int .i64 0) := HL.out.1.cell (.tail _ (.head _)) rfl
          have y6 : (w6).cell? ⟨wr.heap.size + 1, 6, none⟩ = some (.int .u64 0) := HL.out.1.cell (.tail _ (.head _)) rfl
          have y7 : (w6).cell? ⟨wr.heap.size + 1, 7, none⟩ = some (.bool false) := HL.out.1.cell (.tail _ (.head _)) rfl
          have y8 : (w6).cell? ⟨wr.heap.size + 1, 8, none⟩ = some (.string ⟨#[]⟩) := HL.out.1.cell (.tail _ (.head _)) rfl
          have TB := Lib.hid HL.out.1.tab
          clear TB
          go_wp2_with fail
          have T1 := lg_x true 3 sG 1000 10 key wr.heap.size 1 0 rfl rfl [] (fnd_none HLN.out) (by omega) _ HL.out.1 HL.out.2 (.tail _ (.tail _ (.head _))) (fun _ _ _ _ h => by simp only [List.mem_cons, List.not_mem_nil, or_false, Prod.mk.injEq] at h; omega)
          refine T1.mono ?_
          rintro e_ w7 ⟨a7, m7, c7, o7, rfl, hm7, h_, z_⟩
          obtain rfl : m7 = 0 := hm7
          have HT7 := Lib.hid h_.tab
          have HB7 := Lib.hid z_.b
          clear h_ z_ HL T1 y0 y1 y2 y3 y4 y5 y6 y7 y8
          have fl := fun W => fld1 1 a7 0 c7 true 0 ⟨#[]⟩ W
          go_wp2_with fail
          refine (runs_any w7 HT7.out).mono ?_
          rintro e_ w8 ⟨rfl, b_⟩
          have HB8 := Lib.hid (HB7.out.trans (b_.mono HB7.out.size))
          clear b_ HT7 HB7
          go_wp2_with fail
          go_ret
          exact ⟨rfl, HB8.out⟩
        · go_wp2_with fail
          refine (ls_ap 4 sF 1000 9 none 0 [] w5 HL.out.1 HL.out.2 (by have := HZ2.out; omega) (by simp) (fun _ h => by cases h) (by decide) (.inl rfl) (fun h => absurd rfl h) (fun _ _ _ _ h => by simp only [List.mem_cons, List.not_mem_nil, or_false, Prod.mk.injEq] at h; omega)).mono ?_
          rintro e_ w6 ⟨a6, m6, c6, o6, rfl, hm6, h_, z_⟩
          replace h_ := h_.sub (vs' := [(w2.heap.size, 5, [.int .i64 1, .slice (some ⟨g, 0, none⟩) 1 c2, .bool true, .int .u64 0, .string ⟨#[]⟩, .int .i64 0, .int .i64 0, .int .i64 0, .int .i64 0]), (wr.heap.size + 1, 4, [.int .i64 2, .slice (some ⟨wr.heap.size, 0, none⟩) 1 1, .int .i64 0, .int .i64 0, .int .i64 0, .int .i64 0, .int .u64 0, .bool false, .string ⟨#[]⟩]), (wr.heap.size, 3, [.string key])]) (os' := []) (Nat.le_refl _) (fun x hx => hx) (fun x hx => by cases hx)
          clear HL
          have HL := Lib.hid (And.intro h_ z_)
          clear h_ z_
          clear hm6
          have HLN : Hid (look (L key) (apk sF [] 1000 9 l) = none) := Lib.hid rfl
          have y0 : (w6).cell? ⟨wr.heap.size + 1, 0, none⟩ = some (.int .i64 2) := HL.out.1.cell (.tail _ (.head _)) rfl
          have y1 : (w6).cell? ⟨wr.heap.size + 1, 1, none⟩ = some (.slice (some ⟨wr.heap.size, 0, none⟩) 1 1) := HL.out.1.cell (.tail _ (.head _)) rfl
          have y2 : (w6).cell? ⟨wr.heap.size + 1, 2, none⟩ = some (.int .i64 0) := HL.out.1.cell (.tail _ (.head _)) rfl
          have y3 : (w6).cell? ⟨wr.heap.size + 1, 3, none⟩ = some (.int .i64 0) := HL.out.1.cell (.tail _ (.head _)) rfl
          have y4 : (w6).cell? ⟨wr.heap.size + 1, 4, none⟩ = some (.int .i64 0) := HL.out.1.cell (.tail _ (.head _)) rfl
          have y5 : (w6).cell? ⟨wr.heap.size + 1, 5, none⟩ = some (.int .i64 0) := HL.out.1.cell (.tail _ (.head _)) rfl
          have y6 : (w6).cell? ⟨wr.heap.size + 1, 6, none⟩ = some (.int .u64 0) := HL.out.1.cell (.tail _ (.head _)) rfl
          have y7 : (w6).cell? ⟨wr.heap.size + 1, 7, none⟩ = some (.bool false) := HL.out.1.cell (.tail _ (.head _)) rfl
          have y8 : (w6).cell? ⟨wr.heap.size + 1, 8, none⟩ = some (.string ⟨#[]⟩) := HL.out.1.cell (.tail _ (.head _)) rfl
          have TB := Lib.hid HL.out.1.tab
          clear TB
          go_wp2_with fail
          have T1 := lg_x true 3 sG 1000 10 key wr.heap.size 1 0 rfl rfl [] (fnd_none HLN.out) (by omega) _ HL.out.1 HL.out.2 (.tail _ (.tail _ (.head _))) (fun _ _ _ _ h => by cases h)
          refine T1.mono ?_
          rintro e_ w7 ⟨a7, m7, c7, o7, rfl, hm7, h_, z_⟩
          obtain rfl : m7 = 0 := hm7
          have HT7 := Lib.hid h_.tab
          have HB7 := Lib.hid z_.b
          clear h_ z_ HL T1 y0 y1 y2 y3 y4 y5 y6 y7 y8
          have fl := fun W => fld1 1 a7 0 c7 true 0 ⟨#[]⟩ W
          go_wp2_with fail
          refine (runs_any w7 HT7.out).mono ?_
          rintro e_ w8 ⟨rfl, b_⟩
          have HB8 := Lib.hid (HB7.out.trans (b_.mono HB7.out.size))
          clear b_ HT7 HB7
          go_wp2_with fail
          go_ret
          exact ⟨rfl, HB8.out⟩
      · have j1 : decide ((j : Int) < (len : Int)) = false := decide_eq_false (by omega)
        skip
        go_wp2_with fail
        have T2 := lg_x true 1 sG (1000 + E - 1) 8 key wr.heap.size 1 0 rfl rfl [u] HF1.out (by omega) _ HL.out.1 HL.out.2 (.tail _ (.head _)) (fun _ _ _ _ h => by cases h)
        refine T2.mono ?_
        rintro e_ w2 ⟨a2, m2, c2, o2, rfl, hm2, h_, z_⟩
        obtain rfl : m2 = 1 := hm2
        obtain ⟨h_, z_⟩ := h_.alloc z_ 5 [.int .i64 1, .slice a2 1 c2, .bool true, .int .u64 0, .string ⟨#[]⟩, .int .i64 0, .int .i64 0, .int .i64 0, .int .i64 0] 32
        clear HL
        have HL := Lib.hid (And.intro h_ z_)
        clear h_ z_
        clear T2
        obtain ⟨g, cap2, e2, _, _, _, _, x_, _⟩ := (HL.out.1.s 1 _ _ _ (.head _)).there (by omega)
        injection e2 with e2 _ e3
        subst e2 e3
        rw [← HU.out] at x_
        have x0 := x_ 0 (.string key) rfl
        have x1 := x_ 1 (.int .i64 flags) rfl
        have x2 := x_ 2 (.string value) rfl
        have x3 := x_ 3 (.int .i64 7) rfl
        clear x_
        have ne35 : ∀ w, (binOp .neq 35 (.agg #[.string key, .int .i64 flags, .string value, .int .i64 7]) (.agg #[.string key, .int .i64 flags, .string value, .int .i64 7])).run Tryd.prog w = .ok (.bool false) w := fun w => neq35 w (sE key value flags E)
        have y0 : (w2.alloc (.cells #[.int .i64 1, .slice (some ⟨g, 0, none⟩) 1 c2, .bool true, .int .u64 0, .string ⟨#[]⟩, .int .i64 0, .int .i64 0, .int .i64 0, .int .i64 0] 32)).cell? ⟨wr.heap.size + 1, 0, none⟩ = some (.int .i64 2) := HL.out.1.cell (.tail _ (.head _)) rfl
        have y1 : (w2.alloc (.cells #[.int .i64 1, .slice (some ⟨g, 0, none⟩) 1 c2, .bool true, .int .u64 0, .string ⟨#[]⟩, .int .i64 0, .int .i64 0, .int .i64 0, .int .i64 0] 32)).cell? ⟨wr.heap.size + 1, 1, none⟩ = some (.slice (some ⟨wr.heap.size, 0, none⟩) 1 1) := HL.out.1.cell (.tail _ (.head _)) rfl
        have y2 : (w2.alloc (.cells #[.int .i64 1, .slice (some ⟨g, 0, none⟩) 1 c2, .bool true, .int .u64 0, .string ⟨#[]⟩, .int .i64 0, .int .i64 0, .int .i64 0, .int .i64 0] 32)).cell? ⟨wr.heap.size + 1, 2, none⟩ = some (.int .i64 0) := HL.out.1.cell (.tail _ (.head _)) rfl
        have y3 : (w2.alloc (.cells #[.int .i64 1, .slice (some ⟨g, 0, none⟩) 1 c2, .bool true, .int .u64 0, .string ⟨#[]⟩, .int .i64 0, .int .i64 0, .int .i64 0, .int .i64 0] 32)).cell? ⟨wr.heap.size + 1, 3, none⟩ = some (.int .i64 0) := HL.out.1.cell (.tail _ (.head _)) rfl
        have y4 : (w2.alloc (.cells #[.int .i64 1, .slice (some ⟨g, 0, none⟩) 1 c2, .bool true, .int .u64 0, .string ⟨#[]⟩, .int .i64 0, .int .i64 0, .int .i64 0, .int .i64 0] 32)).cell? ⟨wr.heap.size + 1, 4, none⟩ = some (.int .i64 0) := HL.out.1.cell (.tail _ (.head _)) rfl
        have y5 : (w2.alloc (.cells #[.int .i64 1, .slice (some ⟨g, 0, none⟩) 1 c2, .bool true, .int .u64 0, .string ⟨#[]⟩, .int .i64 0, .int .i64 0, .int .i64 0, .int .i64 0] 32)).cell? ⟨wr.heap.size + 1, 5, none⟩ = some (.int .i64 0) := HL.out.1.cell (.tail _ (.head _)) rfl
        have y6 : (w2.alloc (.cells #[.int .i64 1, .slice (some ⟨g, 0, none⟩) 1 c2, .bool true, .int .u64 0, .string ⟨#[]⟩, .int .i64 0, .int .i64 0, .int .i64 0, .int .i64 0] 32)).cell? ⟨wr.heap.size + 1, 6, none⟩ = some (.int .u64 0) := HL.out.1.cell (.tail _ (.head _)) rfl
        have y7 : (w2.alloc (.cells #[.int .i64 1, .slice (some ⟨g, 0, none⟩) 1 c2, .bool true, .int .u64 0, .string ⟨#[]⟩, .int .i64 0, .int .i64 0, .int .i64 0, .int .i64 0] 32)).cell? ⟨wr.heap.size + 1, 7, none⟩ = some (.bool false) := HL.out.1.cell (.tail _ (.head _)) rfl
        have y8 : (w2.alloc (.cells #[.int .i64 1, .slice (some ⟨g, 0, none⟩) 1 c2, .bool true, .int .u64 0, .string ⟨#[]⟩, .int .i64 0, .int .i64 0, .int .i64 0, .int .i64 0] 32)).cell? ⟨wr.heap.size + 1, 8, none⟩ = some (.string ⟨#[]⟩) := HL.out.1.cell (.tail _ (.head _)) rfl
        go_wp2_with fail
        have T3 := lg_x true 2 sG (1000 + E) 8 key wr.heap.size 1 0 rfl rfl [] HF2.out (by omega) _ HL.out.1 HL.out.2 (.tail _ (.tail _ (.head _))) (fun _ _ _ _ h => by simp only [List.mem_cons, List.not_mem_nil, or_false, Prod.mk.injEq] at h; omega)
        refine T3.mono ?_
        rintro e_ w5 ⟨a5, m5, c5, o5, rfl, hm5, h_, z_⟩
        obtain rfl : m5 = 0 := hm5
        clear HL
        have HL := Lib.hid (And.intro h_ z_)
        clear h_ z_
        clear T3 x0 x1 x2 x3 y0 y1 y2 y3 y4 y5 y6 y7 y8
        have fl := fun W => fld1 1 a5 0 c5 true 0 ⟨#[]⟩ W
        go_wp2_with fail
        refine (within_any how 0 2 (by omega) (by omega) (by omega) w5).mono ?_
        rintro e_ w5' ⟨rfl, rfl⟩
        obtain ⟨F1, F2⟩ := wi_bd how 0 2 (by omega)
        obtain ⟨F, hF⟩ : ∃ F, wi how 0 2 = F := ⟨_, rfl⟩
        rw [hF] at F1 F2 ⊢
        clear hF fl ne35
        rcases (show F = 0 ∨ F = 1 ∨ F = 2 by omega) with rfl | rfl | rfl
        · have g1 := s_delq HLK2.out (by rw [← HU.out]; exact s_lv3 E E1)
          have HQ := Lib.hid g1
          clear g1
          obtain ⟨h_, z_⟩ := HL.out.1.alloc HL.out.2 3 [.string key] 9
          clear HL
          have HL := Lib.hid (And.intro h_ z_)
          clear h_ z_
          go_wp2_with fail
          refine (ls_x sD 1000 9 key w5.heap.size 1 0 rfl rfl rfl rfl (ab 6, e0, false, true) (stp sD key 1000 9 l) 6 0 ⟨#[]⟩ HQ.out rfl rfl (by have := HZ2.out; omega) (by omega) (by decide) _ HL.out.1 HL.out.2 (.head _)).mono ?_
          rintro e_ w6 ⟨o6, rfl, h_, z_⟩
          clear HL
          have HL := Lib.hid (And.intro h_ z_)
          clear h_ z_
          have HLN : Hid (look (L key) (stp sD key 1000 9 l) = none) := Lib.hid (s_del HLK2.out (by rw [← HU.out]; exact s_lv3 E E1))
          have y0 : (w6).cell? ⟨wr.heap.size + 1, 0, none⟩ = some (.int .i64 2) := HL.out.1.cell (.tail _ (.tail _ (.head _))) rfl
          have y1 : (w6).cell? ⟨wr.heap.size + 1, 1, none⟩ = some (.slice (some ⟨wr.heap.size, 0, none⟩) 1 1) := HL.out.1.cell (.tail _ (.tail _ (.head _))) rfl
          have y2 : (w6).cell? ⟨wr.heap.size + 1, 2, none⟩ = some (.int .i64 0) := HL.out.1.cell (.tail _ (.tail _ (.head _))) rfl
          have y3 : (w6).cell? ⟨wr.heap.size + 1, 3, none⟩ = some (.int .i64 0) := HL.out.1.cell (.tail _ (.tail _ (.head _))) rfl
          have y4 : (w6).cell? ⟨wr.heap.size + 1, 4, none⟩ = some (.int .i64 0) := HL.out.1.cell (.tail _ (.tail _ (.head _))) rfl
          have y5 : (w6).cell? ⟨wr.heap.size + 1, 5, none⟩ = some (.int .i64 0) := HL.out.1.cell (.tail _ (.tail _ (.head _))) rfl
          have y6 : (w6).cell? ⟨wr.heap.size + 1, 6, none⟩ = some (.int .u64 0) := HL.out.1.cell (.tail _ (.tail _ (.head _))) rfl
          have y7 : (w6).cell? ⟨wr.heap.size + 1, 7, none⟩ = some (.bool false) := HL.out.1.cell (.tail _ (.tail _ (.head _))) rfl
          have y8 : (w6).cell? ⟨wr.heap.size + 1, 8, none⟩ = some (.string ⟨#[]⟩) := HL.out.1.cell (.tail _ (.tail _ (.head _))) rfl
          have TB := Lib.hid HL.out.1.tab
          clear TB
          go_wp2_with fail
          have T1 := lg_x true 3 sG 1000 10 key wr.heap.size 1 0 rfl rfl [] (fnd_none HLN.out) (by omega) _ HL.out.1 HL.out.2 (.tail _ (.tail _ (.tail _ (.head _)))) (fun _ _ _ _ h => by simp only [List.mem_cons, List.not_mem_nil, or_false, Prod.mk.injEq] at h; omega)
          refine T1.mono ?_
          rintro e_ w7 ⟨a7, m7, c7, o7, rfl, hm7, h_, z_⟩
          obtain rfl : m7 = 0 := hm7
          have HT7 := Lib.hid h_.tab
          have HB7 := Lib.hid z_.b
          clear h_ z_ HL T1 y0 y1 y2 y3 y4 y5 y6 y7 y8
          have fl := fun W => fld1 1 a7 0 c7 true 0 ⟨#[]⟩ W
          go_wp2_with fail
          refine (runs_any w7 HT7.out).mono ?_
          rintro e_ w8 ⟨rfl, b_⟩
          have HB8 := Lib.hid (HB7.out.trans (b_.mono HB7.out.size))
          clear b_ HT7 HB7
          go_wp2_with fail
          go_ret
          exact ⟨rfl, HB8.out⟩
        · go_wp2_with fail
          refine (ls_forget key (by omega) w5 HL.out.1 HL.out.2).mono ?_
          rintro e_ w6 ⟨rfl, h_, z_⟩
          clear HL
          have HL := Lib.hid (And.intro h_ z_)
          clear h_ z_
          have HLN : Hid (look (L key) (del (L key) l) = none) := Lib.hid (look_del _ _)
          have y0 : (w6).cell? ⟨wr.heap.size + 1, 0, none⟩ = some (.int .i64 2) := HL.out.1.cell (.tail _ (.head _)) rfl
          have y1 : (w6).cell? ⟨wr.heap.size + 1, 1, none⟩ = some (.slice (some ⟨wr.heap.size, 0, none⟩) 1 1) := HL.out.1.cell (.tail _ (.head _)) rfl
          have y2 : (w6).cell? ⟨wr.heap.size + 1, 2, none⟩ = some (.int .i64 0) := HL.out.1.cell (.tail _ (.head _)) rfl
          have y3 : (w6).cell? ⟨wr.heap.size + 1, 3, none⟩ = some (.int .i64 0) := HL.out.1.cell (.tail _ (.head _)) rfl
          have y4 : (w6).cell? ⟨wr.heap.size + 1, 4, none⟩ = some (.int .i64 0) := HL.out.1.cell (.tail _ (.head _)) rfl
          have y5 : (w6).cell? ⟨wr.heap.size + 1, 5, none⟩ = some (.int .i64 0) := HL.out.1.cell (.tail _ (.head _)) rfl
          have y6 : (w6).cell? ⟨wr.heap.size + 1, 6, none⟩ = some (.int .u64 0) := HL.out.1.cell (.tail _ (.head _)) rfl
          have y7 : (w6).cell? ⟨wr.heap.size + 1, 7, none⟩ = some (.bool false) := HL.out.1.cell (.tail _ (.head _)) rfl
          have y8 : (w6).cell? ⟨wr.heap.size + 1, 8, none⟩ = some (.string ⟨#[]⟩) := HL.out.1.cell (.tail _ (.head _)) rfl
          have TB := Lib.hid HL.out.1.tab
          clear TB
          go_wp2_with fail
          have T1 := lg_x true 3 sG 1000 10 key wr.heap.size 1 0 rfl rfl [] (fnd_none HLN.out) (by omega) _ HL.out.1 HL.out.2 (.tail _ (.tail _ (.head _))) (fun _ _ _ _ h => by simp only [List.mem_cons, List.not_mem_nil, or_false, Prod.mk.injEq] at h; omega)
          refine T1.mono ?_
          rintro e_ w7 ⟨a7, m7, c7, o7, rfl, hm7, h_, z_⟩
          obtain rfl : m7 = 0 := hm7
          have HT7 := Lib.hid h_.tab
          have HB7 := Lib.hid z_.b
          clear h_ z_ HL T1 y0 y1 y2 y3 y4 y5 y6 y7 y8
          have fl := fun W => fld1 1 a7 0 c7 true 0 ⟨#[]⟩ W
          go_wp2_with fail
          refine (runs_any w7 HT7.out).mono ?_
          rintro e_ w8 ⟨rfl, b_⟩
          have HB8 := Lib.hid (HB7.out.trans (b_.mono HB7.out.size))
          clear b_ HT7 HB7
          go_wp2_with fail
          go_ret
          exact ⟨rfl, HB8.out⟩
        · go_wp2_with fail
          refine (ls_ap 4 sF 1000 9 none 0 [] w5 HL.out.1 HL.out.2 (by have := HZ2.out; omega) (by simp) (fun _ h => by cases h) (by decide) (.inl rfl) (fun h => absurd rfl h) (fun _ _ _ _ h => by simp only [List.mem_cons, List.not_mem_nil, or_false, Prod.mk.injEq] at h; omega)).mono ?_
          rintro e_ w6 ⟨a6, m6, c6, o6, rfl, hm6, h_, z_⟩
          replace h_ := h_.sub (vs' := [(w2.heap.size, 5, [.int .i64 1, .slice (some ⟨g, 0, none⟩) 1 c2, .bool true, .int .u64 0, .string ⟨#[]⟩, .int .i64 0, .int .i64 0, .int .i64 0, .int .i64 0]), (wr.heap.size + 1, 4, [.int .i64 2, .slice (some ⟨wr.heap.size, 0, none⟩) 1 1, .int .i64 0, .int .i64 0, .int .i64 0, .int .i64 0, .int .u64 0, .bool false, .string ⟨#[]⟩]), (wr.heap.size, 3, [.string key])]) (os' := []) (Nat.le_refl _) (fun x hx => hx) (fun x hx => by cases hx)
          clear HL
          have HL := Lib.hid (And.intro h_ z_)
          clear h_ z_
          clear hm6
          have HLN : Hid (look (L key) (apk sF [] 1000 9 l) = none) := Lib.hid rfl
          have y0 : (w6).cell? ⟨wr.heap.size + 1, 0, none⟩ = some (.int .i64 2) := HL.out.1.cell (.tail _ (.head _)) rfl
          have y1 : (w6).cell? ⟨wr.heap.size + 1, 1, none⟩ = some (.slice (some ⟨wr.heap.size, 0, none⟩) 1 1) := HL.out.1.cell (.tail _ (.head _)) rfl
          have y2 : (w6).cell? ⟨wr.heap.size + 1, 2, none⟩ = some (.int .i64 0) := HL.out.1.cell (.tail _ (.head _)) rfl
          have y3 : (w6).cell? ⟨wr.heap.size + 1, 3, none⟩ = some (.int .i64 0) := HL.out.1.cell (.tail _ (.head _)) rfl
          have y4 : (w6).cell? ⟨wr.heap.size + 1, 4, none⟩ = some (.int .i64 0) := HL.out.1.cell (.tail _ (.head _)) rfl
          have y5 : (w6).cell? ⟨wr.heap.size + 1, 5, none⟩ = some (.int .i64 0) := HL.out.1.cell (.tail _ (.head _)) rfl
          have y6 : (w6).cell? ⟨wr.heap.size + 1, 6, none⟩ = some (.int .u64 0) := HL.out.1.cell (.tail _ (.head _)) rfl
          have y7 : (w6).cell? ⟨wr.heap.size + 1, 7, none⟩ = some (.bool false) := HL.out.1.cell (.tail _ (.head _)) rfl
          have y8 : (w6).cell? ⟨wr.heap.size + 1, 8, none⟩ = some (.string ⟨#[]⟩) := HL.out.1.cell (.tail _ (.head _)) rfl
          have TB := Lib.hid HL.out.1.tab
          clear TB
          go_wp2_with fail
          have T1 := lg_x true 3 sG 1000 10 key wr.heap.size 1 0 rfl rfl [] (fnd_none HLN.out) (by omega) _ HL.out.1 HL.out.2 (.tail _ (.tail _ (.head _))) (fun _ _ _ _ h => by cases h)
          refine T1.mono ?_
          rintro e_ w7 ⟨a7, m7, c7, o7, rfl, hm7, h_, z_⟩
          obtain rfl : m7 = 0 := hm7
          have HT7 := Lib.hid h_.tab
          have HB7 := Lib.hid z_.b
          clear h_ z_ HL T1 y0 y1 y2 y3 y4 y5 y6 y7 y8
          have fl := fun W => fld1 1 a7 0 c7 true 0 ⟨#[]⟩ W
          go_wp2_with fail
          refine (runs_any w7 HT7.out).mono ?_
          rintro e_ w8 ⟨rfl, b_⟩
          have HB8 := Lib.hid (HB7.out.trans (b_.mono HB7.out.size))
          clear b_ HT7 HB7
          go_wp2_with fail
          go_ret
          exact ⟨rfl, HB8.out⟩
end Go.Proofs.YtpkmfckifnomeaaDoor
