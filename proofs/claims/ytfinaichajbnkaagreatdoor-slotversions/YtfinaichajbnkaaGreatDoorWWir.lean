/-
  LITERALS of bytes; SAME that says no; what is taken as a number has its bytes.
-/
import Derived.Test.YtfinaichajbnkaaGreatDoorWRead
namespace Go.Proofs.YtfinaichajbnkaaGreatDoor.Wi
open Go.RowKit

theorem lit_row (w : World) (l : List Nat) (cs : Array Value) (h : cs = (cl l).toArray) : RowF (w.alloc (.cells cs 5)) (some ⟨w.heap.size, 0, none⟩) (lf l) l.length :=
  .inr ⟨w.heap.size, 0, rfl, fun i hi => by rw [World.cell?_alloc_new, h, Nat.zero_add, List.getElem?_toArray]; exact cl_at hi⟩
theorem lit_below (w0 w : World) (o : Obj) (h : Below w0.heap.size w0 w) : Below w0.heap.size w0 (w.alloc o) := h.alloc h.size o
theorem lf8 (l : List Nat) (h : l.all (· < 256) = true) (i : Nat) : lf l i < 256 := lf_lt (fun x hx => by simpa using List.all_eq_true.1 h x hx) i
theorem least_diff (f g : Nat → Nat) : ∀ n, (∃ i, i < n ∧ f i ≠ g i) → ∃ q, q < n ∧ f q ≠ g q ∧ ∀ i, i < q → f i = g i := by
  intro n
  induction n with
  | zero => rintro ⟨i, h, _⟩; omega
  | succ n ih =>
    rintro ⟨i, h1, h2⟩
    by_cases h : ∃ i, i < n ∧ f i ≠ g i
    · obtain ⟨q, h3, h4, h5⟩ := ih h
      exact ⟨q, by omega, h4, h5⟩
    · have : i = n := by
        by_cases e : i = n
        · exact e
        · exact absurd ⟨i, by omega, h2⟩ h
      subst this
      refine ⟨i, by omega, h2, fun j hj => ?_⟩
      by_cases e : f j = g j
      · exact e
      · exact absurd ⟨j, hj, e⟩ h
theorem enc_pk {f : Nat → Nat} {len c s : Nat} (fb : ∀ i, f i < 256) (h : pk f len 0 0 = (c, s, 0)) : enc c = tab f s := by
  rw [pk_0] at h
  obtain ⟨t, h1, h2, _⟩ := scan_enc (fun i => f (0 + i)) (fun i => fb _) _ _ _ _ _ h
  have : c = t := by simpa using h1
  rw [this, h2, Nat.sub_zero]
  exact List.map_congr_left (fun j _ => by rw [Nat.zero_add, Nat.zero_add])
end Go.Proofs.YtfinaichajbnkaaGreatDoor.Wi


namespace Go.Proofs.YtfinaichajbnkaaGreatDoor.Wi
open Go.RowKit

structure F where
  kind : Int
  slot : Int
  inc : Int
  rid : Int
  floor : Int
  role : Int
  key : ByteArray
  ver : Int
  data : ByteArray
def F.cs (f : F) : List Value := [.int .i64 f.kind, .int .i64 f.slot, .int .i64 f.inc, .int .i64 f.rid, .int .i64 f.floor, .int .i64 f.role, .string f.key, .int .i64 f.ver, .string f.data]
def F.v (f : F) : Value := .agg f.cs.toArray
/-- No frame. -/
def Z : F := ⟨0, 0, 0, 0, 0, 0, ⟨#[]⟩, 0, ⟨#[]⟩⟩
def wi (n l m : Int) : Bool := decide (l ≤ n) && decide (n ≤ m)
/-- May a frame of kind k have role r? -/
def fit (r k : Int) : Bool := if k = 4 ∨ k = 5 ∨ k = 7 then decide (r = 0) else if k = 6 then wi r 0 2 else wi r 1 2
/-- A frame that may go. -/
def rt (f : F) : Bool := wi f.kind 1 7 && (wi f.slot 0 11 && (wi f.inc 0 1099511627776 && (wi f.rid 0 1099511627776 && (wi f.floor 0 1099511627776 && (wi f.ver 0 1099511627776 && (decide ((f.key.size : Int) ≤ 250) && (decide ((f.data.size : Int) ≤ 1049600) && fit f.role f.kind)))))))
theorem wi_iff {n l m : Int} : wi n l m = true ↔ l ≤ n ∧ n ≤ m := by simp [wi]
theorem wi_not {n l m : Int} : wi n l m = false ↔ ¬ (l ≤ n ∧ n ≤ m) := by rw [← wi_iff]; simp

theorem ret_bool {a b : Bool} (h : b = a) : Ending.returned (.bool a) = .returned (.bool b) := by rw [h]
set_option maxRecDepth 100000 in
theorem within_w (n l m : Int) (b : Bool) (hb : wi n l m = b) (w : World) : Calls Tryz.prog 24 #[.int .i64 n, .int .i64 l, .int .i64 m] w fun e w' => e = .returned (.bool b) ∧ w = w' := by
  by_cases h1 : l ≤ n
  · by_cases h2 : n ≤ m
    · have hb' : b = true := by rw [← hb]; simp [wi, h1, h2]
      subst hb'
      clear hb
      go_enter Tryz.func24, Tryz.ntmps24
      go_wp2_with fail
      go_ret
      exact ⟨rfl, rfl⟩
    · have hb' : b = false := by rw [← hb]; simp [wi, h2]
      subst hb'
      clear hb
      have j2 : decide (n ≤ m) = false := by simp; omega
      go_enter Tryz.func24, Tryz.ntmps24
      go_wp2_with fail
      go_ret
      exact ⟨rfl, rfl⟩
  · have hb' : b = false := by rw [← hb]; simp [wi, h1]
    subst hb'
    clear hb
    have j1 : decide (l ≤ n) = false := by simp; omega
    go_enter Tryz.func24, Tryz.ntmps24
    go_wp2_with fail
    go_ret
    exact ⟨rfl, rfl⟩
set_option maxRecDepth 100000 in
theorem fits_any (r k : Int) (b : Bool) (hb : fit r k = b) (w : World) : Calls Tryz.prog 25 #[.int .i64 r, .int .i64 k] w fun e w' => e = .returned (.bool b) ∧ w = w' := by
  by_cases h4 : k = 4
  · subst h4
    have hb' : (r == 0) = b := by rw [← hb]; rfl
    clear hb
    go_enter Tryz.func25, Tryz.ntmps25
    go_wp2_with fail
    go_ret
    exact ⟨rfl, rfl⟩
  by_cases h5 : k = 5
  · subst h5
    have hb' : (r == 0) = b := by rw [← hb]; rfl
    clear hb
    go_enter Tryz.func25, Tryz.ntmps25
    go_wp2_with fail
    go_ret
    exact ⟨rfl, rfl⟩
  by_cases h7 : k = 7
  · subst h7
    have hb' : (r == 0) = b := by rw [← hb]; rfl
    clear hb
    go_enter Tryz.func25, Tryz.ntmps25
    go_wp2_with fail
    go_ret
    exact ⟨rfl, rfl⟩
  have i4 : (k == 4) = false := by simp [h4]
  have i5 : (k == 5) = false := by simp [h5]
  have i7 : (k == 7) = false := by simp [h7]
  by_cases h6 : k = 6
  · subst h6
    have HW : Hid (wi r 0 2 = b) := by show _ = _; rw [← hb]; rfl
    clear hb
    go_enter Tryz.func25, Tryz.ntmps25
    go_wp2_with fail
    refine (within_w r 0 2 b HW.out _).mono ?_
    rintro e w2 ⟨rfl, rfl⟩
    go_wp2_with fail
    go_ret
    exact ⟨rfl, rfl⟩
  · have i6 : (k == 6) = false := by simp [h6]
    have HW : Hid (wi r 1 2 = b) := by show _ = _; rw [← hb]; simp [fit, h4, h5, h6, h7]
    clear hb
    go_enter Tryz.func25, Tryz.ntmps25
    go_wp2_with fail
    refine (within_w r 1 2 b HW.out _).mono ?_
    rintro e w2 ⟨rfl, rfl⟩
    go_wp2_with fail
    go_ret
    exact ⟨rfl, rfl⟩
/-- A frame's own block. -/
def fb (f : F) : Obj := .cells f.cs.toArray 25
theorem fb_cell (w : World) (f : F) (i : Nat) : (w.alloc (fb f)).cell? ⟨w.heap.size, i, none⟩ = f.cs[i]? := by
  unfold fb; rw [World.cell?_alloc_new, List.getElem?_toArray]
set_option maxHeartbeats 1000000 in
set_option maxRecDepth 100000 in
theorem right_any (f : F) (w : World) : Calls Tryz.prog 11 #[f.v] w fun e w' => e = .returned (.bool (rt f)) ∧ Below w.heap.size w w' := by
  obtain ⟨a0, a1, a2, a3, a4, a5, a6, a7, a8⟩ := f
  obtain ⟨r, hr⟩ : ∃ r, r = rt ⟨a0, a1, a2, a3, a4, a5, a6, a7, a8⟩ := ⟨_, rfl⟩
  rw [← hr]
  have HR : Hid (r = (wi a0 1 7 && (wi a1 0 11 && (wi a2 0 1099511627776 && (wi a3 0 1099511627776 && (wi a4 0 1099511627776 && (wi a7 0 1099511627776 && (decide ((a6.size : Int) ≤ 250) && (decide ((a8.size : Int) ≤ 1049600) && (fit a5 a0)))))))))) := hr
  clear hr
  have HB : Hid (Below w.heap.size w (w.alloc (.cells #[.int .i64 a0, .int .i64 a1, .int .i64 a2, .int .i64 a3, .int .i64 a4, .int .i64 a5, .string a6, .int .i64 a7, .string a8] 28))) := (Below.refl _ _).alloc (Nat.le_refl _) _
  simp only [F.v, F.cs]
  go_enter Tryz.func11, Tryz.ntmps11
  go_wp2_with fail
  cases h1 : wi a0 1 7
  · refine (within_w a0 1 7 false (by assumption) _).mono ?_
    rintro e w2 ⟨rfl, rfl⟩
    go_wp2_with fail
    go_ret
    exact ⟨ret_bool (by rw [HR.out, h1]; rfl), HB.out⟩
  · refine (within_w a0 1 7 true (by assumption) _).mono ?_
    rintro e w2 ⟨rfl, rfl⟩
    go_wp2_with fail
    cases h2 : wi a1 0 11
    · refine (within_w a1 0 11 false (by assumption) _).mono ?_
      rintro e w3 ⟨rfl, rfl⟩
      go_wp2_with fail
      go_ret
      exact ⟨ret_bool (by rw [HR.out, h1, h2]; rfl), HB.out⟩
    · refine (within_w a1 0 11 true (by assumption) _).mono ?_
      rintro e w3 ⟨rfl, rfl⟩
      go_wp2_with fail
      cases h3 : wi a2 0 1099511627776
      · refine (within_w a2 0 1099511627776 false (by assumption) _).mono ?_
        rintro e w4 ⟨rfl, rfl⟩
        go_wp2_with fail
        go_ret
        exact ⟨ret_bool (by rw [HR.out, h1, h2, h3]; rfl), HB.out⟩
      · refine (within_w a2 0 1099511627776 true (by assumption) _).mono ?_
        rintro e w4 ⟨rfl, rfl⟩
        go_wp2_with fail
        cases h4 : wi a3 0 1099511627776
        · refine (within_w a3 0 1099511627776 false (by assumption) _).mono ?_
          rintro e w5 ⟨rfl, rfl⟩
          go_wp2_with fail
          go_ret
          exact ⟨ret_bool (by rw [HR.out, h1, h2, h3, h4]; rfl), HB.out⟩
        · refine (within_w a3 0 1099511627776 true (by assumption) _).mono ?_
          rintro e w5 ⟨rfl, rfl⟩
          go_wp2_with fail
          cases h5 : wi a4 0 1099511627776
          · refine (within_w a4 0 1099511627776 false (by assumption) _).mono ?_
            rintro e w6 ⟨rfl, rfl⟩
            go_wp2_with fail
            go_ret
            exact ⟨ret_bool (by rw [HR.out, h1, h2, h3, h4, h5]; rfl), HB.out⟩
          · refine (within_w a4 0 1099511627776 true (by assumption) _).mono ?_
            rintro e w6 ⟨rfl, rfl⟩
            go_wp2_with fail
            cases h6 : wi a7 0 1099511627776
            · refine (within_w a7 0 1099511627776 false (by assumption) _).mono ?_
              rintro e w7 ⟨rfl, rfl⟩
              go_wp2_with fail
              go_ret
              exact ⟨ret_bool (by rw [HR.out, h1, h2, h3, h4, h5, h6]; rfl), HB.out⟩
            · refine (within_w a7 0 1099511627776 true (by assumption) _).mono ?_
              rintro e w7 ⟨rfl, rfl⟩
              cases h7 : decide ((a6.size : Int) ≤ 250)
              · go_wp2_with fail
                go_ret
                exact ⟨ret_bool (by rw [HR.out, h1, h2, h3, h4, h5, h6, h7]; rfl), HB.out⟩
              · have j7 : ((a6.size : Int) ≤ 250) := of_decide_eq_true h7
                cases h8 : decide ((a8.size : Int) ≤ 1049600)
                · go_wp2_with fail
                  go_ret
                  exact ⟨ret_bool (by rw [HR.out, h1, h2, h3, h4, h5, h6, h7, h8]; rfl), HB.out⟩
                · have j8 : ((a8.size : Int) ≤ 1049600) := of_decide_eq_true h8
                  go_wp2_with fail
                  cases h9 : fit a5 a0
                  · refine (fits_any a5 a0 false (by assumption) _).mono ?_
                    rintro e w10 ⟨rfl, rfl⟩
                    go_wp2_with fail
                    go_ret
                    exact ⟨ret_bool (by rw [HR.out, h1, h2, h3, h4, h5, h6, h7, h8, h9]; rfl), HB.out⟩
                  · refine (fits_any a5 a0 true (by assumption) _).mono ?_
                    rintro e w10 ⟨rfl, rfl⟩
                    go_wp2_with fail
                    go_ret
                    exact ⟨ret_bool (by rw [HR.out, h1, h2, h3, h4, h5, h6, h7, h8, h9]; rfl), HB.out⟩
/-- A frame that is not too large. -/
def ltF (f : F) : Bool := decide ((f.key.size : Int) + (f.data.size : Int) < 2000)

end Go.Proofs.YtfinaichajbnkaaGreatDoor.Wi


namespace Go.Proofs.YtfinaichajbnkaaGreatDoor.Wi

def F.nums (f : F) : List Int := [f.kind, f.slot, f.inc, f.rid, f.floor, f.role]
def encs (l : List Int) : List Nat := l.flatMap fun n => enc (fold n)
def tx (s : ByteArray) : List Nat := enc (s.size * 2) ++ sb s
def encF (f : F) : List Nat := encs f.nums ++ (tx f.key ++ (enc (fold f.ver) ++ tx f.data))
/-- What Put answers. -/
def byF (f : F) : List Nat := if rt f = true then encF f else []

/-- A number, a text at a place: it, the place and the error behind it. -/
def nu (f : Nat → Nat) (len : Nat) (s : Nat × Nat) : Int × (Nat × Nat) := (unf (pk f len s.1 s.2).1, (s.1 + (pk f len s.1 s.2).2.1, (pk f len s.1 s.2).2.2))
def te (f : Nat → Nat) (len : Nat) (most : Int) (s : Nat × Nat) : ByteArray × (Nat × Nat) := ((txt f len s.1 s.2 most).1, (txt f len s.1 s.2 most).2)
/-- Where the reader is, behind k numbers; behind the key; the version; the data. -/
def qn (f : Nat → Nat) (len : Nat) : Nat → Nat × Nat
  | 0 => (0, 0)
  | k + 1 => (nu f len (qn f len k)).2
theorem qn_s (f : Nat → Nat) (len k : Nat) : qn f len (k + 1) = (nu f len (qn f len k)).2 := rfl
def qt (f : Nat → Nat) (len : Nat) : Nat × Nat := (te f len 250 (qn f len 6)).2
def qv (f : Nat → Nat) (len : Nat) : Nat × Nat := (nu f len (qt f len)).2
def qd (f : Nat → Nat) (len : Nat) : Nat × Nat := (te f len 1049600 (qv f len)).2
theorem qt_e (f : Nat → Nat) (len : Nat) : qt f len = (te f len 250 (qn f len 6)).2 := rfl
theorem qv_e (f : Nat → Nat) (len : Nat) : qv f len = (nu f len (qt f len)).2 := rfl
theorem qd_e (f : Nat → Nat) (len : Nat) : qd f len = (te f len 1049600 (qv f len)).2 := rfl
def frm (f : Nat → Nat) (len : Nat) : F :=
  ⟨(nu f len (qn f len 0)).1, (nu f len (qn f len 1)).1, (nu f len (qn f len 2)).1, (nu f len (qn f len 3)).1, (nu f len (qn f len 4)).1, (nu f len (qn f len 5)).1, (te f len 250 (qn f len 6)).1, (nu f len (qt f len)).1, (te f len 1049600 (qv f len)).1⟩
def err (f : Nat → Nat) (len : Nat) : Nat := endE len (qd f len).1 (qd f len).2
/-- What Get answers. -/
def gtE (e : Nat) (x : F) : F × Nat := if e ≠ 0 then (Z, e) else if rt x = true then (x, 0) else (Z, 4)
def gt (f : Nat → Nat) (len : Nat) : F × Nat := gtE (err f len) (frm f len)
theorem gtE_ok {e : Nat} {x y : F} (h : gtE e x = (y, 0)) : e = 0 ∧ rt x = true ∧ x = y := by
  unfold gtE at h
  by_cases he : e = 0
  · subst he
    rw [if_neg (by simp)] at h
    by_cases hr : rt x = true
    · rw [if_pos hr] at h
      injection h with h _
      exact ⟨rfl, hr, h⟩
    · rw [if_neg hr] at h
      injection h with _ h
      cases h
  · rw [if_pos he] at h
    injection h with _ h
    exact absurd h he
theorem gtE_no {e : Nat} {x : F} (h : e ≠ 0) : gtE e x = (Z, e) := by unfold gtE; rw [if_pos h]
theorem gtE_no2 {e : Nat} {x : F} (h : e ≠ 0) : (gtE e x).2 ≠ 0 := by rw [gtE_no h]; exact h
theorem gtE_yes {x : F} (h : rt x = true) : gtE 0 x = (x, 0) := by unfold gtE; rw [if_neg (by simp), if_pos h]
theorem gtE_bad {x : F} (h : rt x = false) : gtE 0 x = (Z, 4) := by unfold gtE; rw [if_neg (by simp), if_neg (by simp [h])]
theorem gt_e (f : Nat → Nat) (len : Nat) : gt f len = gtE (err f len) (frm f len) := rfl

theorem tab_add (f : Nat → Nat) (m n : Nat) : tab f (m + n) = tab f m ++ tab (fun i => f (m + i)) n := by
  unfold tab; rw [List.range_add, List.map_append, List.map_map]; rfl
theorem sb_mkS {f : Nat → Nat} (fb : ∀ i, f i < 256) (n : Nat) : sb (mkS f n) = tab f n := by
  unfold sb; rw [mkS_size]; exact tab_congr (fun i hi => bt_mkS (fb i) hi)
theorem enc_pk' {f : Nat → Nat} {len at' c s : Nat} (fb : ∀ i, f i < 256) (h : pk f len at' 0 = (c, s, 0)) : enc c = tab (fun i => f (at' + i)) s := by
  rw [pk_0] at h
  obtain ⟨t, h1, h2, _⟩ := scan_enc (fun i => f (at' + i)) (fun i => fb _) _ _ _ _ _ h
  have : c = t := by simpa using h1
  rw [this, h2, Nat.sub_zero]
  exact List.map_congr_left (fun j _ => by rw [Nat.zero_add])
theorem nu_ok {f : Nat → Nat} (fb : ∀ i, f i < 256) {len : Nat} {s : Nat × Nat} (hs : s.1 ≤ len) (h : (nu f len s).2.2 = 0) :
    s.2 = 0 ∧ (nu f len s).2.1 ≤ len ∧ tab f (nu f len s).2.1 = tab f s.1 ++ enc (fold (nu f len s).1) := by
  obtain ⟨at', wr⟩ := s
  simp only [nu] at *
  rcases pk_cases f len at' wr hs fb with ⟨e, h1, h2, h3⟩ | ⟨c, z, h1, rfl, h2, h3, h4⟩
  · rw [h1] at h; exact absurd h h2
  · rw [h1]
    simp only
    exact ⟨trivial, h3, by rw [tab_add, fold_unf, enc_pk' fb h1]⟩
theorem te_ok {f : Nat → Nat} (fb : ∀ i, f i < 256) {len : Nat} {most : Int} {s : Nat × Nat} (hs : s.1 ≤ len) (h : (te f len most s).2.2 = 0) :
    s.2 = 0 ∧ (te f len most s).2.1 ≤ len ∧ tab f (te f len most s).2.1 = tab f s.1 ++ tx (te f len most s).1 := by
  obtain ⟨at', wr⟩ := s
  simp only [te] at *
  rcases pk_cases f len at' wr hs fb with ⟨e, h1, h2, h3⟩ | ⟨c, z, h1, rfl, h2, h3, h4⟩
  · rw [txt_err h1 h2] at h; exact absurd h h2
  · by_cases hl : unf c < 0 ∨ most < unf c
    · rw [txt_long h1 hl] at h; cases h
    · by_cases hsh : ((len - (at' + z) : Nat) : Int) < unf c
      · rw [txt_short h1 hl hsh] at h; cases h
      · obtain ⟨k, hk⟩ : ∃ k : Nat, unf c = (k : Int) := ⟨(unf c).toNat, by omega⟩
        rw [txt_ok h1 hk (by omega) (by omega)]
        simp only
        refine ⟨trivial, by omega, ?_⟩
        have hc : c = k * 2 := by rw [← fold_unf c, hk, fold_nat]
        unfold tx
        rw [mkS_size, sb_mkS (fun i => fb _), ← hc, enc_pk' fb h1, tab_add, tab_add, List.append_assoc]
theorem end_ok {len a b : Nat} (h : endE len a b = 0) : b = 0 ∧ len ≤ a := by
  unfold endE at h
  split at h
  · cases h
  · subst h; refine ⟨rfl, ?_⟩; omega
/-- What is taken has these bytes. -/
theorem frm_bytes {f : Nat → Nat} (fb : ∀ i, f i < 256) {len : Nat} (h : err f len = 0) : encF (frm f len) = tab f len := by
  obtain ⟨e9, l9⟩ := end_ok h
  have key : ∀ (k : Nat), (qn f len k).2 = 0 → (qn f len k).1 ≤ len := by
    intro k
    induction k with
    | zero => intro _; exact Nat.zero_le _
    | succ k ih =>
      intro hk
      by_cases h1 : (qn f len k).1 ≤ len
      · exact (nu_ok fb h1 hk).2.1
      · by_cases h2 : (qn f len k).2 = 0
        · exact absurd (ih h2) h1
        · have : (qn f len (k + 1)).2 = (qn f len k).2 := by
            show (nu f len (qn f len k)).2.2 = _
            simp only [nu, pk_wr h2]
          omega
  have zero : ∀ (s : Nat × Nat), (nu f len s).2.2 = 0 → s.2 = 0 := fun s hz => by
    by_cases h2 : s.2 = 0
    · exact h2
    · simp only [nu, pk_wr h2] at hz; exact hz
  have zeroT : ∀ (m : Int) (s : Nat × Nat), (te f len m s).2.2 = 0 → s.2 = 0 := fun m s hz => by
    by_cases h2 : s.2 = 0
    · exact h2
    · simp only [te, txt_err (pk_wr h2) h2] at hz; exact hz
  have e8 : (qv f len).2 = 0 := zeroT 1049600 (qv f len) (by rw [← qd_e]; exact e9)
  have e7 : (qt f len).2 = 0 := zero (qt f len) (by rw [← qv_e]; exact e8)
  have e6 : (qn f len 6).2 = 0 := zeroT 250 (qn f len 6) (by rw [← qt_e]; exact e7)
  have e5 : (qn f len 5).2 = 0 := zero (qn f len 5) (by rw [← qn_s]; exact e6)
  have e4 : (qn f len 4).2 = 0 := zero (qn f len 4) (by rw [← qn_s]; exact e5)
  have e3 : (qn f len 3).2 = 0 := zero (qn f len 3) (by rw [← qn_s]; exact e4)
  have e2 : (qn f len 2).2 = 0 := zero (qn f len 2) (by rw [← qn_s]; exact e3)
  have e1 : (qn f len 1).2 = 0 := zero (qn f len 1) (by rw [← qn_s]; exact e2)
  have t1 := (nu_ok fb (key 0 rfl) (by rw [← qn_s]; exact e1)).2.2
  have t2 := (nu_ok fb (key 1 e1) (by rw [← qn_s]; exact e2)).2.2
  have t3 := (nu_ok fb (key 2 e2) (by rw [← qn_s]; exact e3)).2.2
  have t4 := (nu_ok fb (key 3 e3) (by rw [← qn_s]; exact e4)).2.2
  have t5 := (nu_ok fb (key 4 e4) (by rw [← qn_s]; exact e5)).2.2
  have t6 := (nu_ok fb (key 5 e5) (by rw [← qn_s]; exact e6)).2.2
  have r7 := te_ok fb (most := 250) (key 6 e6) (by rw [← qt_e]; exact e7)
  rw [← qt_e] at r7
  have r8 := nu_ok fb r7.2.1 (by rw [← qv_e]; exact e8)
  rw [← qv_e] at r8
  have r9 := te_ok fb (most := 1049600) r8.2.1 (by rw [← qd_e]; exact e9)
  rw [← qd_e] at r9
  have b9 := r9.2.1
  have t9 := r9.2.2
  have t8 := r8.2.2
  have t7 := r7.2.2
  have l : (qd f len).1 = len := Nat.le_antisymm b9 l9
  rw [← qn_s] at t6
  rw [← qn_s] at t5
  rw [← qn_s] at t4
  rw [← qn_s] at t3
  rw [← qn_s] at t2
  rw [← qn_s, show tab f (qn f len 0).1 = [] from rfl, List.nil_append] at t1
  have T : tab f (qd f len).1 = encF (frm f len) := by
    rw [t9, t8, t7, t6, t5, t4, t3, t2, t1]
    simp only [encF, encs, F.nums, frm, List.flatMap_cons, List.flatMap_nil, List.append_nil, List.append_assoc]
  rw [l] at T
  exact T.symm

theorem fst_of {α β : Type} {x : α × β} {a : α} {b : β} (h : x = (a, b)) : x.1 = a := by rw [h]
theorem snd_of {α β : Type} {x : α × β} {a : α} {b : β} (h : x = (a, b)) : x.2 = b := by rw [h]
theorem lf_mid {l pre X post : List Nat} (hl : l = pre ++ (X ++ post)) {j : Nat} (hj : j < X.length) : lf l (pre.length + j) = lf X j := by
  rw [hl, lf_right, lf_left hj]
theorem nu_of {l pre post : List Nat} {n : Int} (h1 : -9223372036854775808 ≤ n) (h2 : n ≤ 9223372036854775807) (hl : l = pre ++ (enc (fold n) ++ post)) : nu (lf l) l.length (pre.length, 0) = (n, ((pre ++ enc (fold n)).length, 0)) := by
  have hlen : l.length = pre.length + ((enc (fold n)).length + post.length) := by rw [hl]; simp
  have h := scan_of (fun i => lf l (pre.length + i)) (fold n) (l.length - pre.length) 0 0 (by omega) (by have := fold_lt h1 h2; simpa using this) (fun h => absurd h (by omega)) (fun j hj => by
    show lf l (pre.length + (0 + j)) = _
    rw [Nat.zero_add, lf_mid hl hj]; rfl) (by omega)
  have hp : pk (lf l) l.length pre.length 0 = (fold n, (enc (fold n)).length, 0) := by
    rw [pk_0, h]; simp
  simp only [nu, hp, unf_fold, List.length_append]
theorem te_of {l pre post : List Nat} {s : ByteArray} {most : Int} (hm : (s.size : Int) ≤ most) (hs : s.size ≤ 4611686018427387903) (hl : l = pre ++ (tx s ++ post)) : te (lf l) l.length most (pre.length, 0) = (s, ((pre ++ tx s).length, 0)) := by
  have hl1 : l = pre ++ (enc (fold (s.size : Int)) ++ (sb s ++ post)) := by rw [hl, tx, fold_nat, List.append_assoc]
  have hn := nu_of (n := (s.size : Int)) (by omega) (by omega) hl1
  have hlen : l.length = pre.length + ((enc (s.size * 2)).length + (s.size + post.length)) := by rw [hl1, fold_nat]; simp [sb_length]
  have h := scan_of (fun i => lf l (pre.length + i)) (fold (s.size : Int)) (l.length - pre.length) 0 0 (by omega) (by have := fold_lt (n := (s.size : Int)) (by omega) (by omega); simpa using this) (fun h => absurd h (by omega)) (fun j hj => by
    show lf l (pre.length + (0 + j)) = _
    rw [Nat.zero_add, lf_mid hl1 hj]; rfl) (by rw [fold_nat]; omega)
  have hp : pk (lf l) l.length pre.length 0 = (fold (s.size : Int), (enc (fold (s.size : Int))).length, 0) := by
    rw [pk_0, h]; simp
  have ht := txt_ok (most := most) (n := s.size) hp (unf_fold _) (by rw [unf_fold]; omega) (by rw [fold_nat]; omega)
  have hS : mkS (fun i => lf l (pre.length + (enc (fold (s.size : Int))).length + i)) s.size = s := by
    have e : mkS (fun i => lf l (pre.length + (enc (fold (s.size : Int))).length + i)) s.size = mkS (bt s) s.size := mkS_congr (fun i hi => by
      have hl2 : l = (pre ++ enc (fold (s.size : Int))) ++ (sb s ++ post) := by rw [hl1]; simp
      have := lf_mid hl2 (j := i) (by rw [sb_length]; exact hi)
      rw [List.length_append] at this
      rw [this]; exact lf_tab hi)
    rw [e, mkS_self]
  simp only [te, ht, hS]
  congr 2
  simp [tx, sb_length, fold_nat, Nat.add_assoc]
theorem rt_bounds {f : F} (h : rt f = true) : (0 ≤ f.kind ∧ f.kind ≤ 1099511627776) ∧ (0 ≤ f.slot ∧ f.slot ≤ 1099511627776) ∧ (0 ≤ f.inc ∧ f.inc ≤ 1099511627776) ∧ (0 ≤ f.rid ∧ f.rid ≤ 1099511627776) ∧ (0 ≤ f.floor ∧ f.floor ≤ 1099511627776) ∧ (0 ≤ f.ver ∧ f.ver ≤ 1099511627776) ∧ (0 ≤ f.role ∧ f.role ≤ 1099511627776) ∧ (f.key.size : Int) ≤ 250 ∧ (f.data.size : Int) ≤ 1049600 := by
  simp only [rt, Bool.and_eq_true, wi_iff, decide_eq_true_eq] at h
  obtain ⟨h1, h2, h3, h4, h5, h6, h7, h8, h9⟩ := h
  have hr : 0 ≤ f.role ∧ f.role ≤ 2 := by
    unfold fit at h9
    split at h9
    · simp at h9; omega
    · split at h9
      · exact wi_iff.1 h9
      · have := wi_iff.1 h9; omega
  exact ⟨⟨by omega, by omega⟩, ⟨by omega, by omega⟩, h3, h4, h5, h6, ⟨by omega, by omega⟩, h7, h8⟩
/-- A right frame comes back. -/
theorem frm_back {f : F} (h : rt f = true) : frm (lf (encF f)) (encF f).length = f ∧ err (lf (encF f)) (encF f).length = 0 := by
  obtain ⟨b0, b1, b2, b3, b4, b7, b5, b6, b8⟩ := rt_bounds h
  obtain ⟨l, hl⟩ : ∃ l, l = encF f := ⟨_, rfl⟩
  rw [← hl]
  have hl' : l = [] ++ (enc (fold f.kind) ++ (enc (fold f.slot) ++ (enc (fold f.inc) ++ (enc (fold f.rid) ++ (enc (fold f.floor) ++ (enc (fold f.role) ++ (tx f.key ++ (enc (fold f.ver) ++ (tx f.data ++ []))))))))) := by
    rw [hl]; simp [encF, encs, F.nums]
  clear hl
  have n0 := nu_of (by omega) (by omega) hl'
  rw [← List.append_assoc] at hl'
  have n1 := nu_of (by omega) (by omega) hl'
  rw [← List.append_assoc] at hl'
  have n2 := nu_of (by omega) (by omega) hl'
  rw [← List.append_assoc] at hl'
  have n3 := nu_of (by omega) (by omega) hl'
  rw [← List.append_assoc] at hl'
  have n4 := nu_of (by omega) (by omega) hl'
  rw [← List.append_assoc] at hl'
  have n5 := nu_of (by omega) (by omega) hl'
  rw [← List.append_assoc] at hl'
  have n6 := te_of (most := 250) b6 (by omega) hl'
  rw [← List.append_assoc] at hl'
  have n7 := nu_of (by omega) (by omega) hl'
  rw [← List.append_assoc] at hl'
  have n8 := te_of (most := 1049600) b8 (by omega) hl'
  rw [← List.append_assoc] at hl'
  have q1 := (qn_s (lf l) l.length 0).trans (snd_of n0)
  rw [← q1] at n1
  have q2 := (qn_s (lf l) l.length 1).trans (snd_of n1)
  rw [← q2] at n2
  have q3 := (qn_s (lf l) l.length 2).trans (snd_of n2)
  rw [← q3] at n3
  have q4 := (qn_s (lf l) l.length 3).trans (snd_of n3)
  rw [← q4] at n4
  have q5 := (qn_s (lf l) l.length 4).trans (snd_of n4)
  rw [← q5] at n5
  have q6 := (qn_s (lf l) l.length 5).trans (snd_of n5)
  rw [← q6] at n6
  have q7 : qt (lf l) l.length = _ := snd_of n6
  rw [← q7] at n7
  have q8 : qv (lf l) l.length = _ := snd_of n7
  rw [← q8] at n8
  have q9 : qd (lf l) l.length = _ := snd_of n8
  have m0 : (nu (lf l) l.length (qn (lf l) l.length 0)).1 = f.kind := fst_of n0
  refine ⟨?_, ?_⟩
  · unfold frm
    rw [m0, fst_of n1, fst_of n2, fst_of n3, fst_of n4, fst_of n5, fst_of n6, fst_of n7, fst_of n8]
  · unfold err
    rw [q9]
    have : ∀ x : List Nat, l = x ++ [] → endE l.length x.length 0 = 0 := fun x hx => by
      have e : l.length = x.length := by rw [hx, List.append_nil]
      unfold endE
      rw [if_neg (by omega)]
    exact this _ hl'
theorem gt_back {f : F} (h : rt f = true) : gt (lf (encF f)) (encF f).length = (f, 0) := by
  obtain ⟨h1, h2⟩ := frm_back h
  rw [gt_e, h1, h2, gtE_yes h]
/-- Two right frames have the same bytes just if they are the same. -/
theorem encF_inj {f g : F} (hf : rt f = true) (hg : rt g = true) (h : encF f = encF g) : f = g := by
  have e1 := (frm_back hf).1
  have e2 := (frm_back hg).1
  rw [h] at e1
  exact e1.symm.trans e2
/-- What Get takes has these bytes. -/
theorem gt_bytes {f : Nat → Nat} (fb : ∀ i, f i < 256) {len : Nat} {x : F} (h : gt f len = (x, 0)) : byF x = tab f len := by
  rw [gt_e] at h
  obtain ⟨he, hr, hx⟩ := gtE_ok h
  rw [← hx]
  unfold byF
  rw [if_pos hr]
  exact frm_bytes fb he

theorem scan_more (f : Nat → Nat) : ∀ (r r' i acc c s : Nat), r ≤ r' → scan f r i acc = (c, s, 0) → scan f r' i acc = (c, s, 0) := by
  intro r
  induction r with
  | zero => intro r' i acc c s _ h; rw [scan_0] at h; injection h with _ h; injection h with _ h; cases h
  | succ r ih =>
    intro r' i acc c s hr h
    obtain ⟨r', rfl⟩ : ∃ x, r' = x + 1 := ⟨r' - 1, by omega⟩
    by_cases hb : badB i (f i) = true
    · rw [scan_bad hb] at h; injection h with _ h; injection h with _ h; cases h
    · have hb : badB i (f i) = false := by simpa using hb
      by_cases h2 : f i < 128
      · rw [scan_end hb h2] at h ⊢; exact h
      · rw [scan_on hb h2] at h ⊢; exact ih _ _ _ _ _ (by omega) h
theorem pk_more {f : Nat → Nat} {k len at' wr c s : Nat} (hk : k ≤ len) (h : pk f k at' wr = (c, s, 0)) : pk f len at' wr = (c, s, 0) := by
  by_cases hw : wr = 0
  · subst hw
    rw [pk_0] at h ⊢
    exact scan_more _ _ _ _ _ _ _ (by omega) h
  · rw [pk_wr hw] at h; injection h with _ h; injection h with _ h; exact absurd h hw
theorem nu_more {f : Nat → Nat} (fb : ∀ i, f i < 256) {k len : Nat} {s : Nat × Nat} (hs : s.1 ≤ k) (hk : k ≤ len) (h : (nu f k s).2.2 = 0) : nu f len s = nu f k s := by
  obtain ⟨at', wr⟩ := s
  simp only [nu] at *
  rcases pk_cases f k at' wr hs fb with ⟨e, h1, h2, h3⟩ | ⟨c, z, h1, rfl, h2, h3, h4⟩
  · rw [h1] at h; exact absurd h h2
  · rw [h1, pk_more hk h1]
theorem te_more {f : Nat → Nat} (fb : ∀ i, f i < 256) {k len : Nat} {most : Int} {s : Nat × Nat} (hs : s.1 ≤ k) (hk : k ≤ len) (h : (te f k most s).2.2 = 0) : te f len most s = te f k most s := by
  obtain ⟨at', wr⟩ := s
  simp only [te] at *
  rcases pk_cases f k at' wr hs fb with ⟨e, h1, h2, h3⟩ | ⟨c, z, h1, rfl, h2, h3, h4⟩
  · rw [txt_err h1 h2] at h; exact absurd h h2
  · by_cases hl : unf c < 0 ∨ most < unf c
    · rw [txt_long h1 hl] at h; cases h
    · by_cases hsh : ((k - (at' + z) : Nat) : Int) < unf c
      · rw [txt_short h1 hl hsh] at h; cases h
      · obtain ⟨n, hn⟩ : ∃ n : Nat, unf c = (n : Int) := ⟨(unf c).toNat, by omega⟩
        rw [txt_ok h1 hn (by omega) (by omega), txt_ok (pk_more hk h1) hn (by omega) (by omega)]
/-- Bytes that are taken as a frame are taken so by no longer ones. -/
theorem err_more {f : Nat → Nat} (fb : ∀ i, f i < 256) {k len : Nat} (hk : k < len) (h : err f k = 0) : err f len ≠ 0 := by
  obtain ⟨e9, l9⟩ := end_ok h
  have key : ∀ (j : Nat), (qn f k j).2 = 0 → (qn f k j).1 ≤ k ∧ qn f len j = qn f k j := by
    intro j
    induction j with
    | zero => intro _; exact ⟨Nat.zero_le _, rfl⟩
    | succ j ih =>
      intro hj
      have h2 : (qn f k j).2 = 0 := by
        by_cases h2 : (qn f k j).2 = 0
        · exact h2
        · have : (qn f k (j + 1)).2 = (qn f k j).2 := by
            show (nu f k (qn f k j)).2.2 = _
            simp only [nu, pk_wr h2]
          omega
      obtain ⟨i1, i2⟩ := ih h2
      refine ⟨(nu_ok fb i1 hj).2.1, ?_⟩
      show (nu f len (qn f len j)).2 = (nu f k (qn f k j)).2
      rw [i2, nu_more fb i1 (by omega) hj]
  have zero : ∀ (s : Nat × Nat), (nu f k s).2.2 = 0 → s.2 = 0 := fun s hz => by
    by_cases h2 : s.2 = 0
    · exact h2
    · simp only [nu, pk_wr h2] at hz; exact hz
  have zeroT : ∀ (m : Int) (s : Nat × Nat), (te f k m s).2.2 = 0 → s.2 = 0 := fun m s hz => by
    by_cases h2 : s.2 = 0
    · exact h2
    · simp only [te, txt_err (pk_wr h2) h2] at hz; exact hz
  have e8 : (qv f k).2 = 0 := zeroT 1049600 (qv f k) (by rw [← qd_e]; exact e9)
  have e7 : (qt f k).2 = 0 := zero (qt f k) (by rw [← qv_e]; exact e8)
  have e6 : (qn f k 6).2 = 0 := zeroT 250 (qn f k 6) (by rw [← qt_e]; exact e7)
  obtain ⟨i6, j6⟩ := key 6 e6
  have j7 : qt f len = qt f k := by
    rw [qt_e, j6, te_more fb (k := k) i6 (by omega) (by rw [← qt_e]; exact e7), ← qt_e]
  have r7 := te_ok fb (most := 250) i6 (by rw [← qt_e]; exact e7)
  rw [← qt_e] at r7
  have j8 : qv f len = qv f k := by
    rw [qv_e, j7, nu_more fb (k := k) r7.2.1 (by omega) (by rw [← qv_e]; exact e8), ← qv_e]
  have r8 := nu_ok fb r7.2.1 (by rw [← qv_e]; exact e8)
  rw [← qv_e] at r8
  have j9 : qd f len = qd f k := by
    rw [qd_e, j8, te_more fb (k := k) r8.2.1 (by omega) (by rw [← qd_e]; exact e9), ← qd_e]
  have r9 := te_ok fb (most := 1049600) r8.2.1 (by rw [← qd_e]; exact e9)
  rw [← qd_e] at r9
  have i9 := r9.2.1
  unfold err
  rw [j9, e9]
  unfold endE
  rw [if_pos ⟨rfl, by omega⟩]
  decide
/-- A beginning of a right frame's bytes is none. -/
theorem gt_cut {f : F} (h : rt f = true) {k : Nat} (hk : k < (encF f).length) : (gt (lf (encF f)) k).2 ≠ 0 := by
  have hb : ∀ i, lf (encF f) i < 256 := lf_lt (fun x hx => by
    simp only [encF, encs, tx, List.mem_append, List.mem_flatMap] at hx
    have hsb : ∀ s : ByteArray, x ∈ sb s → x < 256 := fun s hs => by
      simp only [sb, tab, List.mem_map] at hs
      obtain ⟨i, _, rfl⟩ := hs
      exact bt_lt s i
    rcases hx with ⟨n, _, hx⟩ | (hx | hx) | hx | hx | hx
    · exact enc_lt _ x hx
    · exact enc_lt _ x hx
    · exact hsb _ hx
    · exact enc_lt _ x hx
    · exact enc_lt _ x hx
    · exact hsb _ hx)
  have e0 := (frm_back h).2
  have he : err (lf (encF f)) k ≠ 0 := fun e => err_more hb hk e e0
  rw [gt_e]
  exact gtE_no2 he
theorem encF_lt (f : F) : ∀ i, lf (encF f) i < 256 := lf_lt (fun x hx => by
    simp only [encF, encs, tx, List.mem_append, List.mem_flatMap] at hx
    have hsb : ∀ s : ByteArray, x ∈ sb s → x < 256 := fun s hs => by
      simp only [sb, tab, List.mem_map] at hs
      obtain ⟨i, _, rfl⟩ := hs
      exact bt_lt s i
    rcases hx with ⟨n, _, hx⟩ | (hx | hx) | hx | hx | hx
    · exact enc_lt _ x hx
    · exact enc_lt _ x hx
    · exact hsb _ hx
    · exact enc_lt _ x hx
    · exact enc_lt _ x hx
    · exact hsb _ hx)
theorem encs_take_len (f : F) (h : rt f = true) : ∀ j, (encs (f.nums.take j)).length ≤ 60 := by
  obtain ⟨b0, b1, b2, b3, b4, b7, b5, b6, b8⟩ := rt_bounds h
  have e0 := enc_len10 (fold_lt (n := f.kind) (by omega) (by omega))
  have e1 := enc_len10 (fold_lt (n := f.slot) (by omega) (by omega))
  have e2 := enc_len10 (fold_lt (n := f.inc) (by omega) (by omega))
  have e3 := enc_len10 (fold_lt (n := f.rid) (by omega) (by omega))
  have e4 := enc_len10 (fold_lt (n := f.floor) (by omega) (by omega))
  have e5 := enc_len10 (fold_lt (n := f.role) (by omega) (by omega))
  intro j
  match j with
  | 0 => simp [encs, F.nums]
  | 1 => simp [encs, F.nums]; omega
  | 2 => simp [encs, F.nums]; omega
  | 3 => simp [encs, F.nums]; omega
  | 4 => simp [encs, F.nums]; omega
  | 5 => simp [encs, F.nums]; omega
  | j + 6 => simp [encs, F.nums]; omega
theorem tx_len (s : ByteArray) (h : s.size ≤ 4611686018427387903) : (tx s).length ≤ s.size + 10 := by
  unfold tx
  rw [List.length_append, sb_length]
  have := enc_len10 (u := s.size * 2) (by omega)
  omega
theorem encF_len (f : F) (h : rt f = true) : (encF f).length ≤ 60 + (f.key.size + 10) + 10 + (f.data.size + 10) := by
  obtain ⟨b0, b1, b2, b3, b4, b7, b5, b6, b8⟩ := rt_bounds h
  have e := encs_take_len f h 6
  have e1 : f.nums.take 6 = f.nums := rfl
  rw [e1] at e
  have e2 := tx_len f.key (by omega)
  have e3 := tx_len f.data (by omega)
  have e4 := enc_len10 (fold_lt (n := f.ver) (by omega) (by omega))
  unfold encF
  simp only [List.length_append]
  omega
end Go.Proofs.YtfinaichajbnkaaGreatDoor.Wi
