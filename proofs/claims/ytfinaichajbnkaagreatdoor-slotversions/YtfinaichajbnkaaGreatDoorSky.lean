/-
  ONCE: requests with numbers of their own, each sent any number of times: what stands there, plainly.
-/
import Derived.Test.YtfinaichajbnkaaGreatDoorSma
namespace Go.Proofs.YtfinaichajbnkaaGreatDoor
open Wi (F enc fold unf lf sb)

/-- A request to the slot 1 of incarnation 3, for a record. -/
def rq (kind rid : Int) (key data : ByteArray) (ver : Int) : F := ⟨kind, 1, 3, rid, 0, 1, key, ver, data⟩
/-- The slot that the laws begin. -/
structure Bg (s : Sl) : Prop where
  id : s.id = 1
  on : s.on = true
  inc : s.inc = 3
  floor : s.floor = 0
theorem rq_rt {kind rid ver : Int} {key data : ByteArray} (hk : 1 ≤ kind ∧ kind ≤ 3) (hr : 0 ≤ rid ∧ rid ≤ 1099511627776) (hv : 0 ≤ ver ∧ ver ≤ 1099511627776) (h1 : key.size ≤ 250) (h2 : data.size ≤ 1049600) : Wi.rt (rq kind rid key data ver) = true := by
  unfold Wi.rt rq Wi.fit
  simp only [Bool.and_eq_true, Wi.wi_iff, decide_eq_true_eq]
  refine ⟨by omega, by omega, by omega, hr, by omega, hv, by omega, by omega, ?_⟩
  rw [if_neg (by omega), if_neg (by omega), Wi.wi_iff]
  omega
theorem rq_ask {s : Sl} (hb : Bg s) {kind rid ver : Int} {key data : ByteArray} (hk : 1 ≤ kind ∧ kind ≤ 3) (hr : 0 ≤ rid ∧ rid ≤ 1099511627776) (hv : 0 ≤ ver ∧ ver ≤ 1099511627776) (h1 : key.size ≤ 250) (h2 : data.size ≤ 1049600) : Ask s (rq kind rid key data ver) := by
  refine ⟨?_, ?_, hb.on, hb.inc.symm, by rw [hb.floor]; exact hr.1, by rw [hb.floor]; exact Int.le_refl _⟩
  · unfold Sl.may
    rw [rq_rt hk hr hv h1 h2, hb.id]
    have e1 : ((rq kind rid key data ver).kind != 6) = true := by
      show (kind != 6) = true
      simp; omega
    have e2 : ((rq kind rid key data ver).kind != 7) = true := by
      show (kind != 7) = true
      simp; omega
    rw [e1, e2]
    rfl
  · show kind ≠ 5
    omega
/-- What stands there under records' names: the versions, the data told by key and version. -/
def Std (z : Sp) (V : ByteArray → Int) (D : ByteArray → Int → ByteArray) : Prop := ∀ g : F, g.role = 1 → got z g = if V g.key = 0 then none else some (V g.key, D g.key (V g.key))
def updV (V : ByteArray → Int) (k : ByteArray) (v : Int) : ByteArray → Int := fun k' => if k' = k then v else V k'
theorem enc_small {v : Int} (h : 0 ≤ v) (h2 : v < 64) : (enc (fold v)).length = 1 := by
  rw [Wi.enc_lo (by unfold fold; split <;> omega)]; rfl
/-- A put. -/
theorem std_put {s : Sl} {page m : Nat} {V : ByteArray → Int} {D : ByteArray → Int → ByteArray} (hs : Sm s page m) (hS : Std s.z V D) (hV : ∀ k, 0 ≤ V k) {rid ver : Int} {key : ByteArray} (hm : (m + 1) * 128 ≤ page) (hv : 1 ≤ ver ∧ ver < 64) (hz : key.size + 2 + (D key ver).size ≤ 128) (d : List F) :
    Sm { s with z := (s.put (rq 1 rid key (D key ver) ver)).2, done := d } page (m + 1) ∧ Std (s.put (rq 1 rid key (D key ver) ver)).2 (updV V key (max (V key) ver)) D ∧ (s.put (rq 1 rid key (D key ver) ver)).1 = { s.an (rq 1 rid key (D key ver) ver) with ver := max (V key) ver } := by
  have hg := hS (rq 1 rid key (D key ver) ver) rfl
  have hsz : (nm (rq 1 rid key (D key ver) ver) ++ kp ver (D key ver)).size ≤ 128 := by
    rw [ByteArray.size_append, nm_rec_size rfl, kp_size, enc_small (by omega) hv.2]
    show key.size + 1 + (1 + (D key ver).size) ≤ 128
    omega
  have hVk := hV key
  obtain ⟨a1, a2⟩ := hs.put (f := rq 1 rid key (D key ver) ver) hm hsz (by show -9223372036854775808 ≤ ver; omega) (by show ver ≤ 9223372036854775807; omega) d
  refine ⟨a1, ?_, ?_⟩
  · intro g hgr
    rcases a2 with ⟨v, x, h1, h2, h3, h4⟩ | ⟨h1, h3, h4⟩
    · rw [hg] at h1
      have h2' : ver < v := h2
      have hk : (rq 1 rid key (D key ver) ver).key = key := rfl
      rw [hk] at h1
      by_cases e0 : V key = 0
      · rw [if_pos e0] at h1; cases h1
      · rw [if_neg e0] at h1
        injection h1 with h1
        injection h1 with h1 _
        rw [h4 g, hS g hgr]
        unfold updV
        by_cases e : g.key = key
        · rw [e, if_pos rfl, show max (V key) ver = V key by omega]
        · rw [if_neg e]
    · rw [h4 g]
      unfold updV
      have hk : (rq 1 rid key (D key ver) ver).key = key := rfl
      by_cases e : g.key = key
      · rw [if_pos ((nm_rec hgr rfl).2 (e.trans hk.symm)), e, if_pos rfl]
        have : V key ≤ ver := by
          by_cases e0 : V key = 0
          · omega
          · exact h1 (V key) (D key (V key)) (by rw [hg, hk, if_neg e0])
        rw [show max (V key) ver = ver by omega, if_neg (by omega)]
        rfl
      · rw [if_neg (fun x => e (((nm_rec hgr rfl).1 x).trans hk)), hS g hgr, if_neg e]
  · rcases a2 with ⟨v, x, h1, h2, h3, h4⟩ | ⟨h1, h3, h4⟩
    · rw [hg] at h1
      have hk : (rq 1 rid key (D key ver) ver).key = key := rfl
      have h2' : ver < v := h2
      rw [hk] at h1
      by_cases e0 : V key = 0
      · rw [if_pos e0] at h1; cases h1
      · rw [if_neg e0] at h1
        injection h1 with h1
        injection h1 with h1 _
        rw [h3, show max (V key) ver = v by omega]
    · have hk : (rq 1 rid key (D key ver) ver).key = key := rfl
      have : V key ≤ ver := by
        by_cases e0 : V key = 0
        · omega
        · exact h1 (V key) (D key (V key)) (by rw [hg, hk, if_neg e0])
      rw [h3, show max (V key) ver = ver by omega]
      rfl
/-- A drop. -/
theorem std_drop {s : Sl} {page m : Nat} {V : ByteArray → Int} {D : ByteArray → Int → ByteArray} (hs : Sm s page m) (hS : Std s.z V D) {rid ver : Int} {key data : ByteArray} (hv : 0 ≤ ver) (d : List F) :
    Sm { s with z := (s.drop (rq 3 rid key data ver)).2, done := d } page m ∧ Std (s.drop (rq 3 rid key data ver)).2 (updV V key (if V key ≤ ver then 0 else V key)) D ∧ (s.drop (rq 3 rid key data ver)).1 = { s.an (rq 3 rid key data ver) with ver := ver } := by
  have hg := hS (rq 3 rid key data ver) rfl
  have hk : (rq 3 rid key data ver).key = key := rfl
  rw [hk] at hg
  obtain ⟨a1, a2, a3⟩ := hs.drop (rq 3 rid key data ver) d
  refine ⟨a1, fun g hgr => ?_, a2⟩
  rw [a3 g]
  have hgo : goes s.z (rq 3 rid key data ver) = decide (V key ≤ ver) := by
    unfold goes
    rw [hg]
    by_cases e0 : V key = 0
    · rw [if_pos e0]; simp [e0, hv]
    · rw [if_neg e0]; rfl
  unfold updV
  by_cases e : g.key = key
  · rw [hgo, e, if_pos rfl]
    by_cases hle : V key ≤ ver
    · rw [if_pos ⟨(nm_rec hgr rfl).2 (e.trans hk.symm), by simp [hle]⟩, if_pos hle, if_pos rfl]
    · rw [if_neg (fun x => hle (of_decide_eq_true x.2)), if_neg hle, hS g hgr, e]
  · rw [if_neg (fun x => e (((nm_rec hgr rfl).1 x.1).trans hk)), if_neg e, hS g hgr]
/-- A get. -/
theorem std_get {s : Sl} {page m : Nat} {V : ByteArray → Int} {D : ByteArray → Int → ByteArray} (hs : Sm s page m) (hS : Std s.z V D) {rid : Int} {key : ByteArray} (d : List F) :
    Sm { s with z := (s.get (rq 2 rid key ⟨#[]⟩ 0)).2, done := d } page m ∧ Std (s.get (rq 2 rid key ⟨#[]⟩ 0)).2 V D ∧ (s.get (rq 2 rid key ⟨#[]⟩ 0)).1 = { s.an (rq 2 rid key ⟨#[]⟩ 0) with ver := V key, data := if V key = 0 then ⟨#[]⟩ else D key (V key) } := by
  have hg := hS (rq 2 rid key ⟨#[]⟩ 0) rfl
  have hk : (rq 2 rid key ⟨#[]⟩ 0).key = key := rfl
  rw [hk] at hg
  obtain ⟨a1, a2, a3⟩ := hs.get (rq 2 rid key ⟨#[]⟩ 0) d
  refine ⟨a1, fun g hgr => by rw [a2 g]; exact hS g hgr, ?_⟩
  rw [a3, hg]
  by_cases e0 : V key = 0
  · rw [if_pos e0, if_pos e0, e0]; rfl
  · rw [if_neg e0, if_neg e0]
/- What is far from a request stays. -/
theorem put_far {s : Sl} {page m : Nat} (hs : Sm s page m) {f : F} (hm : (m + 1) * 128 ≤ page) (hz : (nm f ++ kp f.ver f.data).size ≤ 128) (hv1 : -9223372036854775808 ≤ f.ver) (hv2 : f.ver ≤ 9223372036854775807) {g : F} (hg : nm g ≠ nm f) : got (s.put f).2 g = got s.z g := by
  rcases (hs.put hm hz hv1 hv2 []).2 with ⟨v, x, _, _, _, h4⟩ | ⟨_, _, h4⟩
  · exact h4 g
  · rw [h4 g, if_neg hg]
theorem drop_far {s : Sl} {page m : Nat} (hs : Sm s page m) (f : F) {g : F} (hg : nm g ≠ nm f) : got (s.drop f).2 g = got s.z g := by
  rw [(hs.drop f []).2.2 g, if_neg (fun x => hg x.1)]
/-- Which fragments of a key stand there, their data told by the version. -/
def Prt (z : Sp) (k : ByteArray) (W : Int → Bool) (E : Int → ByteArray) : Prop := ∀ g : F, g.role ≠ 1 → g.key = k → got z g = if W g.ver then some (g.ver, E g.ver) else none
def pq (kind rid : Int) (key data : ByteArray) (ver : Int) : F := ⟨kind, 1, 3, rid, 0, 2, key, ver, data⟩
def updW (W : Int → Bool) (v : Int) (b : Bool) : Int → Bool := fun u => if u = v then b else W u
theorem pq_rt {kind rid ver : Int} {key data : ByteArray} (hk : 1 ≤ kind ∧ kind ≤ 3) (hr : 0 ≤ rid ∧ rid ≤ 1099511627776) (hv : 0 ≤ ver ∧ ver ≤ 1099511627776) (h1 : key.size ≤ 250) (h2 : data.size ≤ 1049600) : Wi.rt (pq kind rid key data ver) = true := by
  unfold Wi.rt pq Wi.fit
  simp only [Bool.and_eq_true, Wi.wi_iff, decide_eq_true_eq]
  refine ⟨by omega, by omega, by omega, hr, by omega, hv, by omega, by omega, ?_⟩
  rw [if_neg (by omega), if_neg (by omega), Wi.wi_iff]
  omega
theorem pq_ask {s : Sl} (hb : Bg s) {kind rid ver : Int} {key data : ByteArray} (hk : 1 ≤ kind ∧ kind ≤ 3) (hr : 0 ≤ rid ∧ rid ≤ 1099511627776) (hv : 0 ≤ ver ∧ ver ≤ 1099511627776) (h1 : key.size ≤ 250) (h2 : data.size ≤ 1049600) : Ask s (pq kind rid key data ver) := by
  refine ⟨?_, ?_, hb.on, hb.inc.symm, by rw [hb.floor]; exact hr.1, by rw [hb.floor]; exact Int.le_refl _⟩
  · unfold Sl.may
    rw [pq_rt hk hr hv h1 h2, hb.id]
    have e1 : ((pq kind rid key data ver).kind != 6) = true := by
      show (kind != 6) = true
      simp; omega
    have e2 : ((pq kind rid key data ver).kind != 7) = true := by
      show (kind != 7) = true
      simp; omega
    rw [e1, e2]
    rfl
  · show kind ≠ 5
    omega
theorem pq_size {kind rid ver : Int} {key data : ByteArray} (hv : 0 ≤ ver ∧ ver < 64) (hz : key.size + 3 + data.size ≤ 128) : (nm (pq kind rid key data ver) ++ kp ver data).size ≤ 128 := by
  rw [ByteArray.size_append, nm_part_size (by show (2 : Int) ≠ 1; decide), kp_size]
  show (enc (fold ver)).length + 1 + key.size + ((enc (fold ver)).length + data.size) ≤ 128
  rw [enc_small hv.1 hv.2]; omega
theorem far_rec {f g : F} (hf : f.role = 1) (hg : g.role ≠ 1) : nm g ≠ nm f := fun h => nm_apart hf hg h.symm
/-- A fragment put. -/
theorem prt_put {s : Sl} {page m : Nat} {V : ByteArray → Int} {D : ByteArray → Int → ByteArray} {k : ByteArray} {W : Int → Bool} {E : Int → ByteArray} (hs : Sm s page m) (hS : Std s.z V D) (hP : Prt s.z k W E) {rid ver : Int} (hm : (m + 1) * 128 ≤ page) (hv : 0 ≤ ver ∧ ver < 64) (hz : k.size + 3 + (E ver).size ≤ 128) (d : List F) :
    Sm { s with z := (s.put (pq 1 rid k (E ver) ver)).2, done := d } page (m + 1) ∧ Std (s.put (pq 1 rid k (E ver) ver)).2 V D ∧ Prt (s.put (pq 1 rid k (E ver) ver)).2 k (updW W ver true) E ∧ (s.put (pq 1 rid k (E ver) ver)).1 = { s.an (pq 1 rid k (E ver) ver) with ver := ver } := by
  have hr : (pq 1 rid k (E ver) ver).role ≠ 1 := by show (2 : Int) ≠ 1; decide
  have hsz := pq_size (kind := 1) (rid := rid) (key := k) (data := E ver) hv hz
  have hg := hP (pq 1 rid k (E ver) ver) hr rfl
  have hkv : (pq 1 rid k (E ver) ver).ver = ver := rfl
  rw [hkv] at hg
  obtain ⟨a1, a2⟩ := hs.put (f := pq 1 rid k (E ver) ver) hm hsz (by show -9223372036854775808 ≤ ver; omega) (by show ver ≤ 9223372036854775807; omega) d
  refine ⟨a1, fun g hgr => ?_, fun g hgr hgk => ?_, ?_⟩
  · rw [put_far hs hm hsz (by show -9223372036854775808 ≤ ver; omega) (by show ver ≤ 9223372036854775807; omega) (nm_apart hgr hr)]
    exact hS g hgr
  · rcases a2 with ⟨v, x, h1, h2, _, _⟩ | ⟨_, _, h4⟩
    · rw [hg] at h1
      have h2' : ver < v := h2
      split at h1
      · injection h1 with h1
        injection h1 with h1 _
        omega
      · cases h1
    · rw [h4 g]
      unfold updW
      by_cases e : g.ver = ver
      · rw [if_pos ((nm_part hgr hr hgk).2 e), e, if_pos rfl]; rfl
      · rw [if_neg (fun x => e ((nm_part hgr hr hgk).1 x)), if_neg e]; exact hP g hgr hgk
  · rcases a2 with ⟨v, x, h1, h2, _, _⟩ | ⟨_, h3, _⟩
    · rw [hg] at h1
      have h2' : ver < v := h2
      split at h1
      · injection h1 with h1
        injection h1 with h1 _
        omega
      · cases h1
    · exact h3
/-- A fragment dropped. -/
theorem prt_drop {s : Sl} {page m : Nat} {V : ByteArray → Int} {D : ByteArray → Int → ByteArray} {k : ByteArray} {W : Int → Bool} {E : Int → ByteArray} (hs : Sm s page m) (hS : Std s.z V D) (hP : Prt s.z k W E) {rid ver : Int} {data : ByteArray} (d : List F) :
    Sm { s with z := (s.drop (pq 3 rid k data ver)).2, done := d } page m ∧ Std (s.drop (pq 3 rid k data ver)).2 V D ∧ Prt (s.drop (pq 3 rid k data ver)).2 k (updW W ver false) E := by
  have hr : (pq 3 rid k data ver).role ≠ 1 := by show (2 : Int) ≠ 1; decide
  have hg := hP (pq 3 rid k data ver) hr rfl
  have hkv : (pq 3 rid k data ver).ver = ver := rfl
  rw [hkv] at hg
  obtain ⟨a1, _, a3⟩ := hs.drop (pq 3 rid k data ver) d
  refine ⟨a1, fun g hgr => ?_, fun g hgr hgk => ?_⟩
  · rw [drop_far hs _ (nm_apart hgr hr)]; exact hS g hgr
  · rw [a3 g]
    have hgo : goes s.z (pq 3 rid k data ver) = true := by
      unfold goes
      rw [hg]
      split
      · rename_i h
        split at h
        · injection h with h
          injection h with h _
          subst h
          exact decide_eq_true (Int.le_refl _)
        · cases h
      · rfl
    unfold updW
    by_cases e : g.ver = ver
    · rw [if_pos ⟨(nm_part hgr hr hgk).2 e, hgo⟩, if_pos e]; rfl
    · rw [if_neg (fun x => e ((nm_part hgr hr hgk).1 x.1)), if_neg e]; exact hP g hgr hgk
/-- A fragment got. -/
theorem prt_get {s : Sl} {page m : Nat} {V : ByteArray → Int} {D : ByteArray → Int → ByteArray} {k : ByteArray} {W : Int → Bool} {E : Int → ByteArray} (hs : Sm s page m) (hS : Std s.z V D) (hP : Prt s.z k W E) {rid ver : Int} (d : List F) :
    Sm { s with z := (s.get (pq 2 rid k ⟨#[]⟩ ver)).2, done := d } page m ∧ Std (s.get (pq 2 rid k ⟨#[]⟩ ver)).2 V D ∧ Prt (s.get (pq 2 rid k ⟨#[]⟩ ver)).2 k W E ∧ (s.get (pq 2 rid k ⟨#[]⟩ ver)).1 = (if W ver then { s.an (pq 2 rid k ⟨#[]⟩ ver) with ver := ver, data := E ver } else s.an (pq 2 rid k ⟨#[]⟩ ver)) := by
  have hr : (pq 2 rid k ⟨#[]⟩ ver).role ≠ 1 := by show (2 : Int) ≠ 1; decide
  have hg := hP (pq 2 rid k ⟨#[]⟩ ver) hr rfl
  have hkv : (pq 2 rid k ⟨#[]⟩ ver).ver = ver := rfl
  rw [hkv] at hg
  obtain ⟨a1, a2, a3⟩ := hs.get (pq 2 rid k ⟨#[]⟩ ver) d
  refine ⟨a1, fun g hgr => by rw [a2 g]; exact hS g hgr, fun g hgr hgk => by rw [a2 g]; exact hP g hgr hgk, ?_⟩
  rw [a3, hg]
  cases W ver <;> rfl
end Go.Proofs.YtfinaichajbnkaaGreatDoor


namespace Go.Proofs.YtfinaichajbnkaaGreatDoor

theorem u8_tri (x y : UInt8) : x < y ∨ x = y ∨ y < x := by
  rcases Nat.lt_trichotomy x.toNat y.toNat with h | h | h
  · exact .inl (UInt8.lt_iff_toNat_lt.2 h)
  · exact .inr (.inl (UInt8.toNat_inj.1 h))
  · exact .inr (.inr (UInt8.lt_iff_toNat_lt.2 h))
theorem bb_irrefl : ∀ a : List UInt8, Op.bytesLess a a = false
  | [] => rfl
  | a :: r => by
    rw [Op.bytesLess, bb_irrefl r]
    simp
theorem bb_trans : ∀ a b c : List UInt8, Op.bytesLess a b = true → Op.bytesLess b c = true → Op.bytesLess a c = true
  | [], [], _, h, _ => by simp [Op.bytesLess] at h
  | [], _ :: _, [], _, h => by simp [Op.bytesLess] at h
  | [], _ :: _, _ :: _, _, _ => rfl
  | _ :: _, [], _, h, _ => by simp [Op.bytesLess] at h
  | _ :: _, _ :: _, [], _, h => by simp [Op.bytesLess] at h
  | x :: a, y :: b, z :: c, h, k => by
    simp only [Op.bytesLess, Bool.or_eq_true, decide_eq_true_eq, Bool.and_eq_true, beq_iff_eq] at h k ⊢
    rcases h with h | ⟨rfl, h⟩
    · rcases k with k | ⟨rfl, k⟩
      · exact .inl (UInt8.lt_trans h k)
      · exact .inl h
    · rcases k with k | ⟨rfl, k⟩
      · exact .inl k
      · exact .inr ⟨rfl, bb_trans a b c h k⟩
theorem bb_total : ∀ a b : List UInt8, a = b ∨ Op.bytesLess a b = true ∨ Op.bytesLess b a = true
  | [], [] => .inl rfl
  | [], _ :: _ => .inr (.inl rfl)
  | _ :: _, [] => .inr (.inr rfl)
  | x :: a, y :: b => by
    simp only [Op.bytesLess, Bool.or_eq_true, decide_eq_true_eq, Bool.and_eq_true, beq_iff_eq, List.cons.injEq]
    rcases u8_tri x y with h | rfl | h
    · exact .inr (.inl (.inl h))
    · rcases bb_total a b with rfl | h | h
      · exact .inl ⟨rfl, rfl⟩
      · exact .inr (.inl (.inr ⟨rfl, h⟩))
      · exact .inr (.inr (.inr ⟨rfl, h⟩))
    · exact .inr (.inr (.inl h))
theorem bef_irrefl (a : ByteArray) : bef a a = false := bb_irrefl _
theorem bef_trans {a b c : ByteArray} (h : bef a b = true) (k : bef b c = true) : bef a c = true := bb_trans _ _ _ h k
theorem bef_total (a b : ByteArray) : a = b ∨ bef a b = true ∨ bef b a = true := by
  rcases bb_total a.toList b.toList with h | h | h
  · refine .inl (ByteArray.ext (Array.toList_inj.1 ?_))
    rwa [ByteArray.toList_eq, ByteArray.toList_eq] at h
  · exact .inr (.inl h)
  · exact .inr (.inr h)
theorem bef_asymm {a b : ByteArray} (h : bef a b = true) : bef b a = false := by
  cases k : bef b a with
  | false => rfl
  | true => have := bef_trans h k; rw [bef_irrefl] at this; cases this
/-- By rising texts. -/
def Rising (l : List ByteArray) : Prop := l.Pairwise fun a b => bef a b = true
theorem rising_eq {l m : List ByteArray} (hp : l.Perm m) (hl : Rising l) (hm : Rising m) : l = m := by
  refine List.Perm.eq_of_pairwise (le := fun a b => bef a b = true) (fun a b _ _ h1 h2 => ?_) hl hm hp
  have := bef_asymm h1
  rw [h2] at this; cases this
/-- A list that is sorted by a sort, and has nothing twice. -/
theorem rising_of {l : List ByteArray} (hs : l.Pairwise fun a b => bef b a = false) (hn : l.Nodup) : Rising l := by
  unfold Rising
  have h := List.Pairwise.and hs hn
  exact h.imp (fun {a b} h => by
    rcases bef_total a b with e | e | e
    · exact absurd e h.2
    · exact e
    · rw [h.1] at e; cases e)
theorem rising_nodup {l : List ByteArray} (h : Rising l) : l.Nodup := h.imp (fun {a b} h e => by rw [e, bef_irrefl] at h; cases h)
/-- Those behind one of a rising list. -/
theorem rising_behind : ∀ {l : List ByteArray} {i : Nat} {x : ByteArray}, Rising l → l[i]? = some x → l.filter (fun y => bef x y) = l.drop (i + 1)
  | [], _, _, _, h => by simp at h
  | y :: r, i, x, hl, h => by
    obtain ⟨h1, h2⟩ := List.pairwise_cons.1 hl
    cases i with
    | zero =>
      simp at h
      subst h
      rw [List.filter_cons_of_neg (by rw [bef_irrefl]; simp)]
      show _ = r
      exact List.filter_eq_self.2 (fun z hz => h1 z hz)
    | succ i =>
      have hx : r[i]? = some x := by simpa using h
      have := h1 x (List.mem_of_getElem? hx)
      rw [List.filter_cons_of_neg (by rw [bef_asymm this]; simp), rising_behind h2 hx]
      rfl
theorem bef_nil {y : ByteArray} (h : y.size ≠ 0) : bef ⟨#[]⟩ y = true := by
  unfold bef
  rw [ByteArray.toList_eq, ByteArray.toList_eq]
  cases hy : y.data.toList with
  | nil => exact absurd (by have := congrArg List.length hy; rw [Array.length_toList] at this; exact this) h
  | cons a r => rfl
theorem rising_all {l : List ByteArray} (h : ∀ y ∈ l, y.size ≠ 0) : l.filter (fun y => bef ⟨#[]⟩ y) = l := List.filter_eq_self.2 (fun y hy => bef_nil (h y hy))
/-- Where a text stands in a rising list, or would. -/
def rpos (k : ByteArray) : List ByteArray → Nat
  | [] => 0
  | y :: r => if bef y k then rpos k r + 1 else 0
theorem rpos_le (k : ByteArray) : ∀ l, rpos k l ≤ l.length
  | [] => Nat.le_refl _
  | y :: r => by
    unfold rpos
    split
    · have := rpos_le k r; simp; omega
    · exact Nat.zero_le _
theorem rpos_lt (k : ByteArray) : ∀ (l : List ByteArray) (j : Nat) (y : ByteArray), l[j]? = some y → j < rpos k l → bef y k = true
  | [], _, _, h, _ => by simp at h
  | x :: r, j, y, h, hj => by
    unfold rpos at hj
    split at hj
    · rename_i hb
      cases j with
      | zero => simp at h; subst h; exact hb
      | succ j => exact rpos_lt k r j y (by simpa using h) (by omega)
    · omega
theorem rpos_at (k : ByteArray) : ∀ (l : List ByteArray) (y : ByteArray), l[rpos k l]? = some y → bef y k = false
  | [], y, h => by simp [rpos] at h
  | x :: r, y, h => by
    unfold rpos at h
    split at h
    · exact rpos_at k r y (by simpa using h)
    · rename_i hb
      simp at h; subst h; simpa using hb
/-- One more text, if it isn't there. -/
def rput (k : ByteArray) (l : List ByteArray) : List ByteArray := if l[rpos k l]? = some k then l else l.take (rpos k l) ++ k :: l.drop (rpos k l)
theorem rput_rising {k : ByteArray} : ∀ {l : List ByteArray}, Rising l → Rising (rput k l) ∧ ∀ y, y ∈ rput k l ↔ y = k ∨ y ∈ l
  | [], _ => by
    unfold rput
    simp [rpos, Rising]
  | x :: r, h => by
    obtain ⟨h1, h2⟩ := List.pairwise_cons.1 h
    obtain ⟨i1, i2⟩ := rput_rising (k := k) h2
    by_cases hb : bef x k = true
    · have e : rput k (x :: r) = x :: rput k r := by
        unfold rput
        have er : rpos k (x :: r) = rpos k r + 1 := by
          show (if bef x k = true then rpos k r + 1 else 0) = _
          rw [if_pos hb]
        rw [er, List.getElem?_cons_succ]
        split
        · rfl
        · rfl
      rw [e]
      refine ⟨List.pairwise_cons.2 ⟨fun y hy => ?_, i1⟩, fun y => ?_⟩
      · rcases (i2 y).1 hy with rfl | hy
        · exact hb
        · exact h1 y hy
      · rw [List.mem_cons, List.mem_cons, i2 y]
        constructor
        · rintro (h | h | h)
          · exact .inr (.inl h)
          · exact .inl h
          · exact .inr (.inr h)
        · rintro (h | h | h)
          · exact .inr (.inl h)
          · exact .inl h
          · exact .inr (.inr h)
    · have er : rpos k (x :: r) = 0 := by
        show (if bef x k = true then rpos k r + 1 else 0) = _
        rw [if_neg hb]
      unfold rput
      rw [er]
      simp only [List.getElem?_cons_zero, List.take_zero, List.drop_zero, List.nil_append, Option.some.injEq]
      by_cases e : x = k
      · rw [if_pos e]
        refine ⟨h, fun y => ?_⟩
        constructor
        · exact fun h => .inr h
        · rintro (h | h)
          · rw [h, e]; exact List.mem_cons_self
          · exact h
      · rw [if_neg e]
        have hk : bef k x = true := by
          rcases bef_total x k with h | h | h
          · exact absurd h e
          · exact absurd h hb
          · exact h
        refine ⟨List.pairwise_cons.2 ⟨fun y hy => ?_, h⟩, fun y => List.mem_cons⟩
        rcases List.mem_cons.1 hy with rfl | hy
        · exact hk
        · exact bef_trans hk (h1 y hy)
theorem rput_len (k : ByteArray) (l : List ByteArray) : (rput k l).length ≤ l.length + 1 := by
  unfold rput
  split
  · omega
  · have := rpos_le k l
    rw [List.length_append, List.length_take, List.length_cons, List.length_drop]; omega
theorem insS_perm (k : ByteArray) : ∀ l, (insS k l).Perm (k :: l)
  | [] => List.Perm.refl _
  | y :: r => by
    unfold insS
    split
    · exact List.Perm.refl _
    · exact ((insS_perm k r).cons y).trans (List.Perm.swap k y r)
theorem srtS_perm : ∀ l, (srtS l).Perm l
  | [] => List.Perm.refl _
  | k :: r => (insS_perm k (srtS r)).trans ((srtS_perm r).cons k)
theorem insS_sorted (k : ByteArray) : ∀ {l : List ByteArray}, (l.Pairwise fun a b => bef b a = false) → (insS k l).Pairwise fun a b => bef b a = false
  | [], _ => List.pairwise_singleton _ _
  | y :: r, h => by
    obtain ⟨h1, h2⟩ := List.pairwise_cons.1 h
    unfold insS
    by_cases hb : bef k y = true
    · rw [if_pos hb]
      refine List.pairwise_cons.2 ⟨fun z hz => ?_, h⟩
      rcases List.mem_cons.1 hz with rfl | hz
      · exact bef_asymm hb
      · cases hk : bef z k with
        | false => rfl
        | true =>
          have := h1 z hz
          have e := bef_trans hk hb
          rw [e] at this; cases this
    · rw [if_neg hb]
      refine List.pairwise_cons.2 ⟨fun z hz => ?_, insS_sorted k h2⟩
      rcases List.mem_cons.1 ((insS_perm k r).mem_iff.1 hz) with rfl | hz
      · simpa using hb
      · exact h1 z hz
theorem srtS_sorted : ∀ l, (srtS l).Pairwise fun a b => bef b a = false
  | [] => List.Pairwise.nil
  | k :: r => insS_sorted k (srtS_sorted r)
/-- What a sort of a list without a text twice comes to. -/
theorem srtS_is {l m : List ByteArray} (hp : m.Perm l) (hs : m.Pairwise fun a b => bef b a = false) (hn : l.Nodup) : m = srtS l := by
  have hp2 := srtS_perm l
  exact rising_eq (hp.trans hp2.symm) (rising_of hs (hp.nodup_iff.2 hn)) (rising_of (srtS_sorted l) (hp2.nodup_iff.2 hn))
/-- A scan, where the keys of records are those of a rising list. -/
theorem scn_is {z : Sp} {K : List ByteArray} (hK : Rising K) (hp : K.Perm (z.keys.filterMap recOf)) (x : ByteArray) : scnK z x = (K.filter fun k => bef x k).take 16 := by
  unfold scnK
  congr 1
  have hp2 : (K.filter fun k => bef x k).Perm ((z.keys.filterMap recOf).filter fun k => bef x k) := hp.filter _
  have hR : Rising (K.filter fun k => bef x k) := hK.filter _
  refine (srtS_is hp2 ?_ (hp2.nodup_iff.1 (rising_nodup hR))).symm
  exact hR.imp (fun {a b} h => bef_asymm h)
end Go.Proofs.YtfinaichajbnkaaGreatDoor


namespace Go.Proofs.YtfinaichajbnkaaGreatDoor
open Wi (F enc fold unf lf sb)

theorem recOf_mk (k : ByteArray) : recOf (⟨#[109]⟩ ++ k) = some k := by
  unfold recOf
  have e : (⟨#[109]⟩ : ByteArray).size = 1 := rfl
  have h0 : Wi.bt (⟨#[109]⟩ ++ k) 0 = 109 := by rw [bt_app, if_pos (by omega)]; rfl
  rw [if_pos h0]
  congr 1
  have := ba_back (⟨#[109]⟩ : ByteArray) k
  rw [e] at this
  exact this
theorem recOf_inv {a k : ByteArray} (h : recOf a = some k) : a = ⟨#[109]⟩ ++ k := by
  unfold recOf at h
  split at h
  · rename_i h0
    injection h with h
    have e : (⟨#[109]⟩ : ByteArray).size = 1 := rfl
    have hs : 1 ≤ a.size := by
      rcases Nat.lt_or_ge a.size 1 with h1 | h1
      · have : Wi.bt a 0 = 0 := Wi.bt_out (by omega)
        omega
      · exact h1
    rw [← h]
    refine ba_ext ?_ (fun i hi => ?_)
    · rw [ByteArray.size_append, ByteArray.size_extract, e]; omega
    · rw [bt_app, e]
      by_cases hi0 : i < 1
      · rw [if_pos hi0, show i = 0 by omega, h0]; rfl
      · rw [if_neg hi0]
        unfold Wi.bt
        have e1 : (a.extract 1 a.size).data.toList = a.data.toList.drop 1 := by
          rw [ByteArray.data_extract, Array.toList_extract]
          simp
          exact List.take_of_length_le (by rw [List.length_tail, Wi.size_len]; exact Nat.le_refl _)
        rw [e1, List.getD_eq_getElem?_getD, List.getD_eq_getElem?_getD, List.getElem?_drop, show 1 + (i - 1) = i by omega]
  · cases h
theorem recs_nodup {z : Sp} (h : OkSp z) : (z.keys.filterMap recOf).Nodup := by
  refine List.Pairwise.filterMap (S := fun a b => a ≠ b) recOf (fun a a' hne b hb b' hb' e => ?_) h.ndk
  subst e
  exact hne ((recOf_inv hb).trans (recOf_inv hb').symm)
theorem recs_std {z : Sp} (h : OkSp z) {V : ByteArray → Int} {D : ByteArray → Int → ByteArray} (hS : Std z V D) (k : ByteArray) : k ∈ z.keys.filterMap recOf ↔ V k ≠ 0 := by
  have hg := hS (rq 2 0 k ⟨#[]⟩ 0) rfl
  have hn : nm (rq 2 0 k ⟨#[]⟩ 0) = ⟨#[109]⟩ ++ k := by unfold nm; exact if_pos rfl
  unfold got at hg
  rw [hn] at hg
  have hk : (rq 2 0 k ⟨#[]⟩ 0).key = k := rfl
  rw [hk] at hg
  constructor
  · intro hm e0
    obtain ⟨a, ha, hr⟩ := List.mem_filterMap.1 hm
    have ea := recOf_inv hr
    obtain ⟨i, hi, rfl⟩ := List.mem_map.1 ha
    have hf := fnd_mk h.ndk hi
    rw [ea] at hf
    rw [hf, if_pos e0] at hg
    cases hg
  · intro hv
    rw [if_neg hv] at hg
    cases hf : fnd z.l (⟨#[109]⟩ ++ k) with
    | none => rw [hf] at hg; cases hg
    | some i =>
      obtain ⟨h1, h2⟩ := fnd_some hf
      exact List.mem_filterMap.2 ⟨i.key, List.mem_map_of_mem h1, by rw [h2]; exact recOf_mk k⟩
/-- What a scan tells. -/
theorem scn_std {z : Sp} (h : OkSp z) {V : ByteArray → Int} {D : ByteArray → Int → ByteArray} (hS : Std z V D) {K : List ByteArray} (hK : Rising K) (hm : ∀ k, k ∈ K ↔ V k ≠ 0) (x : ByteArray) : scnK z x = (K.filter fun k => bef x k).take 16 :=
  scn_is hK ((List.perm_ext_iff_of_nodup (rising_nodup hK) (recs_nodup h)).2 fun k => (hm k).trans (recs_std h hS k).symm) x
/-- A record put leaves fragments as they are. -/
theorem std_put_prt {s : Sl} {page m : Nat} {k : ByteArray} {W : Int → Bool} {E : Int → ByteArray} (hs : Sm s page m) (hP : Prt s.z k W E) {rid ver : Int} {key data : ByteArray} (hm : (m + 1) * 128 ≤ page) (hv : 0 ≤ ver ∧ ver < 64) (hz : key.size + 2 + data.size ≤ 128) : Prt (s.put (rq 1 rid key data ver)).2 k W E := by
  intro g hgr hgk
  have hsz : (nm (rq 1 rid key data ver) ++ kp ver data).size ≤ 128 := by
    rw [ByteArray.size_append, nm_rec_size rfl, kp_size, enc_small hv.1 hv.2]
    show key.size + 1 + (1 + data.size) ≤ 128
    omega
  rw [put_far hs hm hsz (by show -9223372036854775808 ≤ ver; omega) (by show ver ≤ 9223372036854775807; omega) (far_rec rfl hgr)]
  exact hP g hgr hgk
end Go.Proofs.YtfinaichajbnkaaGreatDoor
