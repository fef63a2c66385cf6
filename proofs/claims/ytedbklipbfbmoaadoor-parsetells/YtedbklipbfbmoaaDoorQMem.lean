/-
  THE REFERENCE'S PARSER IN MEMORY; client.
-/
import Derived.Test.YtedbklipbfbmoaaDoorPBk
namespace Go.Proofs.YtedbklipbfbmoaaDoor
open Go.RowKit

/-- The reference's parser, its cells: b is where it stands, R what is left. -/
def rcs (b : Ps) (R : B) (kv : Value) : List Value := [.string (S R), .int .i64 ((b.rq.verb : Nat) : Int), kv, .int .i64 b.rq.flags, .int .i64 b.rq.exp, .int .i64 b.rq.bytes, .int .i64 b.rq.cas, .int .u64 ((b.rq.delta : Nat) : Int), .bool b.rq.quiet, .string ⟨#[]⟩, .int .i64 ((b.past : Nat) : Int), .bool (b.st == 3), .bool (b.st == 4)]
structure IsRf (w : World) (o : Nat → Nat × Nat) (x P : Nat) (b : Ps) (R : B) (ka : Option Addr) (kn kc : Nat) : Prop where
  cells : w.rangeAt P 0 (rcs b R (.slice ka kn kc))
  fz : ∀ j, w.frozen? ⟨P, j, none⟩ = false
  mark : o P = (x, 0)
  keys : Ks w o (.slice ka kn kc) b.rq.keys
theorem IsRf.at_ {w : World} {o : Nat → Nat × Nat} {x P : Nat} {b : Ps} {R : B} {ka : Option Addr} {kn kc : Nat} (h : IsRf w o x P b R ka kn kc) (j : Nat) (v : Value) (hv : (rcs b R (.slice ka kn kc))[j]? = some v) : w.cell? ⟨P, j, none⟩ = some v := by
  have := h.cells j v hv
  rwa [Nat.zero_add] at this
theorem IsRf.lt {w : World} {o : Nat → Nat × Nat} {x P : Nat} {b : Ps} {R : B} {ka : Option Addr} {kn kc : Nat} (h : IsRf w o x P b R ka kn kc) : P < w.heap.size := World.block_lt_of_cell? _ _ (h.at_ 0 _ rfl)
theorem IsRf.fr {T : Nat × Nat → Prop} {w w' : World} {o o' : Nat → Nat × Nat} {x P : Nat} {b : Ps} {R : B} {ka : Option Addr} {kn kc : Nat} (h : IsRf w o x P b R ka kn kc) (f : Fr T o o' w w') (h0 : ¬ T (x, 0)) (h9 : ¬ T (9, 9)) : IsRf w' o' x P b R ka kn kc := by
  have hP : ¬ T (o P) := by rw [h.mark]; exact h0
  exact ⟨fun j v hv => f.cell (h.cells j v hv) hP, fun j => (f.frozen h.lt hP).trans (h.fz j), (f.lab P h.lt).trans h.mark, h.keys.fr f h9⟩
theorem IsRf.below {w w' : World} {o : Nat → Nat × Nat} {x P : Nat} {b : Ps} {R : B} {ka : Option Addr} {kn kc : Nat} (h : IsRf w o x P b R ka kn kc) (bl : Below w.heap.size w w') : IsRf w' o x P b R ka kn kc := h.fr (Fr.ofBelow (fun _ => False) o bl) id id
theorem IsRf.there {w : World} {o : Nat → Nat × Nat} {x P : Nat} {b : Ps} {R : B} {ka : Option Addr} {kn kc : Nat} (h : IsRf w o x P b R ka kn kc) : w.there P 0 13 := fun j hj => by
  obtain ⟨v, hv⟩ : ∃ v, (rcs b R (.slice ka kn kc))[j]? = some v := ⟨_, List.getElem?_eq_getElem (show j < (rcs b R (.slice ka kn kc)).length from hj)⟩
  have := h.cells j v hv
  rw [Nat.zero_add] at this ⊢
  rw [this]
  exact ⟨rfl, h.fz j⟩
/-- A cell stored anew. -/
theorem IsRf.set {w : World} {o : Nat → Nat × Nat} {x P : Nat} {b b' : Ps} {R R' : B} {ka : Option Addr} {kn kc : Nat} (h : IsRf w o x P b R ka kn kc) (hx : x < 8) (i : Nat) (u : Value) (hi : i < 13) (hk : b'.rq.keys = b.rq.keys) (e : (rcs b R (.slice ka kn kc)).set i u = rcs b' R' (.slice ka kn kc)) :
    IsRf (w.setCell ⟨P, i, none⟩ u) o x P b' R' ka kn kc ∧ Fr (TX x) o o w (w.setCell ⟨P, i, none⟩ u) := by
  have fs : Fr (· = (x, 0)) o o w (w.setCell ⟨P, i, none⟩ u) := Fr.set (a := ⟨P, i, none⟩) h.mark _
  refine ⟨⟨?_, fun j => by rw [World.frozen?_setCell]; exact h.fz j, h.mark, by rw [hk]; exact h.keys.fr fs (fun e => by injection e with e _; omega)⟩, fs.mono (fun t e => by rw [e]; rfl)⟩
  have := range_set h.cells (i := i) (u := u) hi
  rwa [e] at this
/-- A request laid into it. -/
theorem IsRf.wait {w : World} {o : Nat → Nat × Nat} {x P : Nat} {b : Ps} {R : B} {ka : Option Addr} {kn kc : Nat} (h : IsRf w o x P b R ka kn kc) (hx : x < 8) {r : Rq} {ra : Option Addr} {rn rc : Nat} (hr : Ks w o (.slice ra rn rc) r.keys) {b' : Ps} (hb : b'.rq = r ∧ b'.past = b.past ∧ (b'.st == 3) = (b.st == 3) ∧ (b'.st == 4) = (b.st == 4)) :
    IsRf (w.setCells P 1 (r.cs (.slice ra rn rc))) o x P b' R ra rn rc ∧ Fr (TX x) o o w (w.setCells P 1 (r.cs (.slice ra rn rc))) := by
  have fs : Fr (· = (x, 0)) o o w (w.setCells P 1 (r.cs (.slice ra rn rc))) := Fr.sets (T := (· = (x, 0))) h.mark _ _ _
  refine ⟨⟨fun j v hv => ?_, fun j => by rw [World.frozen?_setCells]; exact h.fz j, h.mark, by rw [hb.1]; exact hr.fr fs (fun e => by injection e with e _; omega)⟩, fs.mono (fun t e => by rw [e]; rfl)⟩
  rw [Nat.zero_add]
  have hj : j < 13 := (List.getElem?_eq_some_iff.1 hv).1
  have hth := h.there
  have hv2 : (rcs { b with rq := r } R (.slice ra rn rc))[j]? = some v := by
    rw [← hv]
    unfold rcs
    rw [hb.1, hb.2.1, hb.2.2.1, hb.2.2.2]
  by_cases h2 : j < 1
  · rw [World.cell?_setCells_out P _ 1 w ⟨P, j, none⟩ (fun _ _ => .inl h2)]
    refine h.at_ j v ?_
    rcases j with _ | j
    · exact hv2
    · omega
  · by_cases h11 : j < 10
    · have rs := World.rangeAt_setCells_same w P 1 (r.cs (.slice ra rn rc)) (fun q hq => by
        have := hth (1 + q) (by have : q < 9 := hq; omega)
        rw [Nat.zero_add] at this; exact this)
      obtain ⟨k, rfl⟩ : ∃ k, j = k + 1 := ⟨j - 1, by omega⟩
      have hk : k < 9 := by omega
      have e := rs k v (by rcases k with _ | _ | _ | _ | _ | _ | _ | _ | _ | k; all_goals first | exact hv2 | omega)
      rwa [Nat.add_comm] at e
    · rw [World.cell?_setCells_out P (r.cs (.slice ra rn rc)) 1 w ⟨P, j, none⟩ (fun _ _ => .inr (by show 1 + 9 ≤ j; omega))]
      refine h.at_ j v ?_
      rcases j with _ | _ | _ | _ | _ | _ | _ | _ | _ | _ | _ | _ | _ | j
      all_goals first | exact hv2 | omega
theorem load44 {w : World} {b : Nat} {E : List Value} (h : w.rangeAt b 0 E) (hl : E.length = 18) : (loadVar 44 ⟨b, 0, none⟩).run Tryd.prog w = .ok (.agg E.toArray) w :=
  run_loadVar_mid w b 0 44 E _ h Tryd.underlying44 rfl (by rw [hl]; kernel_rfl)
theorem Res.new44 (w : World) (o : Nat → Nat × Nat) : Res (w.alloc (.cells (Ev.none.cs (.slice none 0 0)).toArray 44)) (lab o w.heap.size (8, 8)) w.heap.size :=
  ⟨fun j hj => by
    obtain ⟨v, hv⟩ : ∃ v, (Ev.none.cs (.slice none 0 0))[j]? = some v := ⟨_, List.getElem?_eq_getElem (show j < (Ev.none.cs (.slice none 0 0)).length from hj)⟩
    rw [Nat.zero_add, World.cell?_alloc_new, World.frozen?_alloc_new, List.getElem?_toArray, hv]
    exact ⟨rfl, rfl⟩, lab_same _ _ _, by simp⟩
/-- What is behind a call of the reference that hands an event back. -/
def OutR (w : World) (o : Nat → Nat × Nat) (x P : Nat) (b' : Ps) (R' : B) (ev : Ev) (E : List Value) (w' : World) : Prop :=
  ∃ o' ka kn kc, EvV w' o' E ev ∧ IsRf w' o' x P b' R' ka kn kc ∧ Fr (TX x) o o' w w'
theorem OutR.say {W W' : World} {o : Nat → Nat × Nat} {x P : Nat} {b : Ps} {R : B} {ka : Option Addr} {kn kc : Nat} (h : IsRf W o x P b R ka kn kc) (bl : Below W.heap.size W W') (k : Nat) (t : B) : OutR W o x P b R (ans k t) ((ans k t).cs (.slice none 0 0)) W' :=
  ⟨o, ka, kn, kc, EvV.ans _ _ _ _, h.below bl, Fr.ofBelow _ _ bl⟩
theorem OutR.zero {W : World} {o : Nat → Nat × Nat} {x P : Nat} {b : Ps} {R : B} {ka : Option Addr} {kn kc : Nat} (h : IsRf W o x P b R ka kn kc) : OutR W o x P b R Ev.none (Ev.none.cs (.slice none 0 0)) W :=
  ⟨o, ka, kn, kc, EvV.no _ _, h, Fr.refl _ _ _⟩
theorem chain_r {w W W' : World} {o0 o : Nat → Nat × Nat} {x P b : Nat} {p' : Ps} {R' : B} {E : List Value} {ev : Ev} (hx : x < 8) (hF : Fr (TX x) o0 o w W) (hR : Res W o b) (hn : w.heap.size ≤ b) (h : OutR W o x P p' R' ev E W') :
    E.length = 18 ∧ (∀ u ∈ E, u.oneCell' = true) ∧ W'.there b 0 E.length ∧ (W'.setCells b 0 E).rangeAt b 0 E ∧ OutR w o0 x P p' R' ev E (W'.setCells b 0 E) := by
  obtain ⟨o', ka, kn, kc, hE, hI, f⟩ := h
  have hR' := hR.fr f (tx8 hx)
  have g : Fr (· = (8, 8)) o' o' W' (W'.setCells b 0 E) := Fr.sets (T := (· = (8, 8))) hR'.mark _ _ _
  exact ⟨hE.len, hE.one, by rw [hE.len]; exact hR'.th, World.rangeAt_setCells_same _ _ _ _ (by rw [hE.len]; exact hR'.th), o', ka, kn, kc, hE.fr g (fun e => by cases e), hI.fr g (fun e => by injection e with e _; omega) (fun e => by cases e), (hF.trans f).setsNew hn _ _⟩
set_option maxRecDepth 100000 in
theorem client_any (t : B) (s : ByteArray) (hs : S t = s) (w : World) : Calls Tryd.prog 57 #[.string s] w fun e w' => e = .returned (.agg ((ans 13 t).cs (.slice none 0 0)).toArray) ∧ Below w.heap.size w w' := by
  obtain ⟨E, hE⟩ : ∃ E, E = (ans 13 t).cs (.slice none 0 0) := ⟨_, rfl⟩
  rw [← hE]
  have EV : EvV w o0 E (ans 13 t) := by rw [hE]; exact EvV.ans _ _ _ _
  have hE2 : E = [.int .i64 0, .slice none 0 0, .int .i64 0, .int .i64 0, .int .i64 0, .int .i64 0, .int .u64 0, .bool false, .string ⟨#[]⟩, .int .i64 13, .slice none 0 0, .bool false, .int .u64 0, .string s, .int .i64 0, .int .i64 0, .int .i64 0, .int .i64 0] := by rw [hE, ← hs]; rfl
  have R := Res.new44 w o0
  have HT : Hid ((w.alloc (.cells (Ev.none.cs (.slice none 0 0)).toArray 44)).there w.heap.size 0 E.length) := Lib.hid (by rw [EV.len]; exact R.th)
  have HR : Hid (((w.alloc (.cells (Ev.none.cs (.slice none 0 0)).toArray 44)).setCells w.heap.size 0 E).rangeAt w.heap.size 0 E) := Lib.hid (World.rangeAt_setCells_same _ _ _ _ HT.out)
  have HB : Hid (Below w.heap.size w ((w.alloc (.cells (Ev.none.cs (.slice none 0 0)).toArray 44)).setCells w.heap.size 0 E)) := Lib.hid (((Fr.alloc (fun _ => False) o0 w (.cells (Ev.none.cs (.slice none 0 0)).toArray 44)).setsNew (Nat.le_refl _) E 0).below (Nat.le_refl _) (fun _ _ h => h))
  have HL := Lib.hid EV.len
  have H1 := Lib.hid EV.one
  have HE := Lib.hid hE2
  clear R EV hE hE2 hs
  go_enter Tryd.func57, Tryd.ntmps57
  go_wp2_with ((with_reducible show wpList _ _ _ (Oper.mk none (Op.store 44 (.tmp 2) _) _ _ _ _ :: _) _ _); refine wpList_store_mid (by rfl) 44 (.tmp 2) (.tmp 5) (by rfl) w.heap.size 0 E.toArray (by rfl) (by rw [HE.out]; rfl) HT.out (by rw [List.size_toArray, HL.out]; kernel_rfl) (all_oneCell_toArray H1.out) ?_; rw [show E.toArray.toList = E from rfl])
  refine bodyPost_ret (v := .agg E.toArray) (by simp [results, Tryd.results57]; exact load44 HR.out HL.out) rfl ⟨rfl, HB.out⟩
end Go.Proofs.YtedbklipbfbmoaaDoor
