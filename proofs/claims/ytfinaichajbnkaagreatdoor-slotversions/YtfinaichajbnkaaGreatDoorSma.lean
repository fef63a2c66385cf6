/-
  A SLOT AS PLAIN DATA: what it keeps, what it has done; what Take makes of it.
-/
import Derived.Test.YtfinaichajbnkaaGreatDoorSmz
import Derived.Test.YtfinaichajbnkaaGreatDoorWWir
import Derived.Test.YtfinaichajbnkaaGreatDoorPeek
namespace Go.Proofs.YtfinaichajbnkaaGreatDoor
open Wi (F enc fold unf lf sb)

/-- A text out of numbers. -/
def bs (l : List Nat) : ByteArray := Wi.mkS (lf l) l.length
theorem bs_size (l : List Nat) : (bs l).size = l.length := Wi.mkS_size _ _
/-- A text's byte is one of its two parts'. -/
theorem bt_app (k s : ByteArray) (i : Nat) : Wi.bt (k ++ s) i = if i < k.size then Wi.bt k i else Wi.bt s (i - k.size) := by
  have e : (k ++ s).data.toList = k.data.toList ++ s.data.toList := by simp
  unfold Wi.bt
  rw [e, List.getD_eq_getElem?_getD, List.getD_eq_getElem?_getD, List.getD_eq_getElem?_getD]
  by_cases h : i < k.size
  · rw [if_pos h, List.getElem?_append_left (by rw [Wi.size_len]; exact h)]
  · rw [if_neg h, List.getElem?_append_right (by rw [Wi.size_len]; omega), Wi.size_len]
theorem ba_ext {s t : ByteArray} (h : s.size = t.size) (h2 : ∀ i, i < s.size → Wi.bt s i = Wi.bt t i) : s = t := Wi.str_ext h h2
/-- The texts that are kept. -/
def kp (v : Int) (d : ByteArray) : ByteArray := bs (enc (fold v)) ++ d
/-- A kept text's version, its data. -/
def ctN (t : ByteArray) : Nat := (Wi.pk (Wi.bt t) t.size 0 0).2.1
def ct (t : ByteArray) : Int × ByteArray := (unf (Wi.pk (Wi.bt t) t.size 0 0).1, t.extract (ctN t) t.size)
theorem enc_bd (u : Nat) : ∀ i, lf (enc u) i < 256 := fun i => Wi.lf_lt (Wi.enc_lt u) i
theorem bt_bs {l : List Nat} (h : ∀ x ∈ l, x < 256) {i : Nat} (hi : i < l.length) : Wi.bt (bs l) i = lf l i := Wi.bt_mkS (Wi.lf_lt h i) hi
theorem kp_pk (v : Int) (h1 : -9223372036854775808 ≤ v) (h2 : v ≤ 9223372036854775807) (d : ByteArray) : Wi.pk (Wi.bt (kp v d)) (kp v d).size 0 0 = (fold v, (enc (fold v)).length, 0) := by
  rw [Wi.pk_0]
  have hsz : (kp v d).size = (enc (fold v)).length + d.size := by unfold kp; rw [ByteArray.size_append, bs_size]
  have := Wi.scan_of (fun i => Wi.bt (kp v d) (0 + i)) (fold v) ((kp v d).size - 0) 0 0 (by omega) (by rw [Nat.mul_zero, Nat.pow_zero, Nat.mul_one]; exact Wi.fold_lt h1 h2) (fun h => absurd h (by omega)) (fun j hj => by
    show Wi.bt (kp v d) (0 + (0 + j)) = _
    rw [Nat.zero_add, Nat.zero_add]
    unfold kp
    rw [bt_app, if_pos (by rw [bs_size]; exact hj), bt_bs (Wi.enc_lt _) hj]
    rfl) (by rw [hsz]; omega)
  rw [this]
  simp
theorem ct_kp (v : Int) (h1 : -9223372036854775808 ≤ v) (h2 : v ≤ 9223372036854775807) (d : ByteArray) : ct (kp v d) = (v, d) := by
  unfold ct ctN
  rw [kp_pk v h1 h2 d]
  show (unf (fold v), _) = _
  rw [Wi.unf_fold]
  congr 1
  unfold kp
  rw [show (enc (fold v)).length = (bs (enc (fold v))).size by rw [bs_size]]
  exact ba_back _ _
/-- Under which key something stands. -/
def nm (f : F) : ByteArray := if f.role = 1 then ⟨#[109]⟩ ++ f.key else bs (112 :: enc (fold f.ver)) ++ f.key
/-- A slot: its number, its memory, the classes of a chunk; whether it has begun, its incarnation, its floor; what it keeps; what it has told, by the requests' numbers. -/
structure Sl where
  id : Int
  pages : Nat
  page : Nat
  n : Nat
  on : Bool
  inc : Int
  floor : Int
  z : Sp
  done : List F
/-- The answer as it begins. -/
def Sl.an (s : Sl) (f : F) : F := ⟨6, s.id, s.inc, f.rid, 0, f.role, f.key, 0, ⟨#[]⟩⟩
def Sl.no (s : Sl) (f : F) : F := ⟨7, s.id, s.inc, f.rid, 0, 0, ⟨#[]⟩, 0, ⟨#[]⟩⟩
/-- What stands there: its version, its data. -/
def got (z : Sp) (f : F) : Option (Int × ByteArray) := (fnd z.l (nm f)).map fun i => ct i.d
/-- FPut. -/
def Sl.put (s : Sl) (f : F) : F × Sp :=
  let z1 := s.z.touch (nm f)
  let r := z1.put (nm f) (kp f.ver f.data) false
  match got s.z f with
  | some (v, _) => if f.ver < v then ({ s.an f with ver := v }, z1) else if r.2.1 = 0 then ({ s.an f with ver := f.ver }, r.2.2) else (s.no f, r.2.2)
  | none => if r.2.1 = 0 then ({ s.an f with ver := f.ver }, r.2.2) else (s.no f, r.2.2)
/-- FGet. -/
def Sl.get (s : Sl) (f : F) : F × Sp := match got s.z f with
  | some (v, d) => ({ s.an f with ver := v, data := d }, s.z.touch (nm f))
  | none => (s.an f, s.z)
/-- FDrop. -/
def Sl.drop (s : Sl) (f : F) : F × Sp := match got s.z f with
  | some (v, _) => ({ s.an f with ver := f.ver }, if v ≤ f.ver then (s.z.touch (nm f)).drop (nm f) else s.z.touch (nm f))
  | none => ({ s.an f with ver := f.ver }, s.z)
/-- A record's key, of the name it stands under. -/
def recOf (k : ByteArray) : Option ByteArray := if Wi.bt k 0 = 109 then some (k.extract 1 k.size) else none
/-- Which of two texts is ahead. -/
def bef (a b : ByteArray) : Bool := Op.bytesLess a.toList b.toList
def insS (k : ByteArray) : List ByteArray → List ByteArray
  | [] => [k]
  | y :: r => if bef k y then k :: y :: r else y :: insS k r
def srtS (l : List ByteArray) : List ByteArray := l.foldr insS []
/-- The keys that a scan tells. -/
def scnK (z : Sp) (from_ : ByteArray) : List ByteArray := (srtS ((z.keys.filterMap recOf).filter fun k => bef from_ k)).take 16
/-- They as texts one behind the other. -/
def txs (l : List ByteArray) : List Nat := l.flatMap fun k => enc (fold (k.size : Int)) ++ sb k
def Sl.scan (s : Sl) (f : F) : F × Sp := ({ s.an f with role := 0, data := bs (txs (scnK s.z f.key)) }, s.z)
/-- A request is done. -/
def Sl.doo (s : Sl) (f : F) : F × Sp := if f.kind = 1 then s.put f else if f.kind = 2 then s.get f else if f.kind = 3 then s.drop f else s.scan f
/-- Nothing is kept, nothing was done. -/
def Sl.clear (s : Sl) : Sl := { s with z := ⟨St.new s.pages s.page s.n, []⟩, done := [], floor := 0 }
def Sl.wipe (s : Sl) : Sl := { s.clear with on := false }
/-- Requests below a floor are forgotten. -/
def Sl.low (s : Sl) (f : F) : Sl := if s.floor < f.floor then { s with floor := f.floor, done := s.done.filter fun a => decide (f.floor ≤ a.rid) } else s
/-- Which requests are heard at all. -/
def Sl.may (s : Sl) (f : F) : Bool := Wi.rt f && f.kind != 6 && f.kind != 7 && f.slot == s.id
def Sl.reset (s : Sl) (f : F) : Option F × Sl :=
  let s1 : Sl := if s.inc < f.inc then { s.clear with on := true, inc := f.inc } else s
  (if s1.on && f.inc == s1.inc then some ⟨6, s1.id, s1.inc, f.rid, 0, 0, ⟨#[]⟩, 0, ⟨#[]⟩⟩ else none, s1)
/-- Take. -/
def Sl.take (s : Sl) (f : F) : Option F × Sl :=
  if s.may f = false then (none, s)
  else if f.kind = 5 then s.reset f
  else if (s.on && f.inc == s.inc && decide (s.floor ≤ f.rid)) = false then (none, s)
  else if f.rid < (s.low f).floor then (none, s.low f)
  else match (s.low f).done.find? fun a => a.rid == f.rid with
    | some a => (some a, s.low f)
    | none => (some ((s.low f).doo f).1, { s.low f with z := ((s.low f).doo f).2, done := (s.low f).done ++ [((s.low f).doo f).1] })
end Go.Proofs.YtfinaichajbnkaaGreatDoor


namespace Go.Proofs.YtfinaichajbnkaaGreatDoor
open Wi (F enc fold unf lf sb)

theorem take_may {s : Sl} {f : F} (h : s.may f = false) : s.take f = (none, s) := by unfold Sl.take; rw [if_pos h]
theorem may_slot {s : Sl} {f : F} (h : f.slot ≠ s.id) : s.may f = false := by
  unfold Sl.may
  have : (f.slot == s.id) = false := by simp [h]
  rw [this, Bool.and_false]
theorem may_kind {s : Sl} {f : F} (h : f.kind = 6 ∨ f.kind = 7) : s.may f = false := by
  unfold Sl.may
  rcases h with h | h
  · have : (f.kind != 6) = false := by simp [h]
    rw [this]; simp
  · have : (f.kind != 7) = false := by simp [h]
    rw [this]; simp
theorem take_slot {s : Sl} {f : F} (h : f.slot ≠ s.id) : s.take f = (none, s) := take_may (may_slot h)
/-- Not begun, another incarnation, below the floor. -/
theorem take_shut {s : Sl} {f : F} (h5 : f.kind ≠ 5) (h : (s.on && f.inc == s.inc && decide (s.floor ≤ f.rid)) = false) : s.take f = (none, s) := by
  unfold Sl.take
  by_cases hm : s.may f = false
  · rw [if_pos hm]
  · rw [if_neg hm, if_neg h5, if_pos h]
theorem take_off {s : Sl} {f : F} (h5 : f.kind ≠ 5) (h : s.on = false) : s.take f = (none, s) := take_shut h5 (by rw [h]; simp)
theorem take_inc {s : Sl} {f : F} (h5 : f.kind ≠ 5) (h : f.inc ≠ s.inc) : s.take f = (none, s) := take_shut h5 (by
  have : (f.inc == s.inc) = false := by simp [h]
  rw [this]; simp)
theorem take_low {s : Sl} {f : F} (h5 : f.kind ≠ 5) (h : f.rid < s.floor) : s.take f = (none, s) := take_shut h5 (by
  have : decide (s.floor ≤ f.rid) = false := by simp; omega
  rw [this]; simp)
theorem reset_old {s : Sl} {f : F} (h : f.inc < s.inc) : s.reset f = (none, s) := by
  unfold Sl.reset
  rw [if_neg (by omega)]
  have : (f.inc == s.inc) = false := by simp; omega
  simp only [this, Bool.and_false, Bool.false_eq_true, if_false]
theorem take_reset {s : Sl} {f : F} (hm : s.may f = true) (h5 : f.kind = 5) : s.take f = s.reset f := by
  unfold Sl.take
  rw [if_neg (by simp [hm]), if_pos h5]
theorem take_elder {s : Sl} {f : F} (h5 : f.kind = 5) (h : f.inc < s.inc) : s.take f = (none, s) := by
  by_cases hm : s.may f = true
  · rw [take_reset hm h5, reset_old h]
  · exact take_may (by simpa using hm)
theorem reset_new {s : Sl} {f : F} (h : s.inc < f.inc) : s.reset f = (some ⟨6, s.id, f.inc, f.rid, 0, 0, ⟨#[]⟩, 0, ⟨#[]⟩⟩, { s.clear with on := true, inc := f.inc }) := by
  unfold Sl.reset
  simp only [if_pos h]
  simp [Sl.clear]
theorem reset_same {s : Sl} {f : F} (h : f.inc = s.inc) (ho : s.on = true) : s.reset f = (some ⟨6, s.id, s.inc, f.rid, 0, 0, ⟨#[]⟩, 0, ⟨#[]⟩⟩, s) := by
  unfold Sl.reset
  simp only [h, Int.lt_irrefl, if_false, ho]
  simp
/-- What is known of a request that is heard. -/
structure Ask (s : Sl) (f : F) : Prop where
  may : s.may f = true
  k5 : f.kind ≠ 5
  on : s.on = true
  inc : f.inc = s.inc
  lo : s.floor ≤ f.rid
  fl : f.floor ≤ s.floor
theorem Ask.low {s : Sl} {f : F} (h : Ask s f) : s.low f = s := by
  unfold Sl.low; rw [if_neg (by have := h.fl; omega)]
theorem take_done {s : Sl} {f : F} (h : Ask s f) {a : F} (ha : s.done.find? (fun a => a.rid == f.rid) = some a) : s.take f = (some a, s) := by
  unfold Sl.take
  rw [if_neg (by simp [h.may]), if_neg h.k5, if_neg (by simp [h.on, h.inc, h.lo]), h.low, if_neg (by have := h.lo; omega)]
  rw [ha]
theorem take_new {s : Sl} {f : F} (h : Ask s f) (ha : s.done.find? (fun a => a.rid == f.rid) = none) : s.take f = (some (s.doo f).1, { s with z := (s.doo f).2, done := s.done ++ [(s.doo f).1] }) := by
  unfold Sl.take
  rw [if_neg (by simp [h.may]), if_neg h.k5, if_neg (by simp [h.on, h.inc, h.lo]), h.low, if_neg (by have := h.lo; omega)]
  rw [ha]
theorem doo_rid (s : Sl) (f : F) : (s.doo f).1.rid = f.rid := by
  unfold Sl.doo
  split
  · unfold Sl.put
    simp only
    split
    · split
      · rfl
      · split <;> rfl
    · split <;> rfl
  · split
    · unfold Sl.get; split <;> rfl
    · split
      · unfold Sl.drop; split <;> rfl
      · rfl
/-- The one that is told again is the one that was told. -/
theorem done_again {s : Sl} {f : F} (ha : s.done.find? (fun a => a.rid == f.rid) = none) (a : F) (hr : a.rid = f.rid) : (s.done ++ [a]).find? (fun a => a.rid == f.rid) = some a := by
  rw [List.find?_append, ha]
  simp [hr]
theorem done_other {l : List F} (a : F) {r : Int} (hr : a.rid ≠ r) : (l ++ [a]).find? (fun a => a.rid == r) = l.find? fun a => a.rid == r := by
  rw [List.find?_append]
  have : ([a].find? fun a => a.rid == r) = none := by
    rw [List.find?_cons]
    have e : (a.rid == r) = false := by simp [hr]
    rw [e]; rfl
  rw [this]; simp
/- What stands there, behind each. -/
theorem got_touch (z : Sp) (k : ByteArray) (g : F) : got (z.touch k) g = got z g := by unfold got; rw [fnd_touch]
theorem got_drop (z : Sp) (k : ByteArray) (g : F) : got (z.drop k) g = if nm g = k then none else got z g := by
  unfold got
  rw [fnd_drop]
  split <;> rfl
theorem got_put {z z' : Sp} {i : It} {k : ByteArray} (hl : z'.l = i :: but z.l k) (hk : i.key = k) (g : F) : got z' g = if nm g = k then some (ct i.d) else got z g := by
  unfold got
  rw [hl, fnd_put hk]
  split <;> rfl
/-- A put of a small thing that isn't elder. -/
theorem put_ok {s : Sl} {f : F} (h : Rm s.z) {c : Nat} (hv1 : -9223372036854775808 ≤ f.ver) (hv2 : f.ver ≤ 9223372036854775807) (hc : clsOf s.z.s (nm f ++ kp f.ver f.data).size = some c) (h2 : c < 2) (hl : (but s.z.l (nm f)).length < s.z.s.per c) (hg : ∀ v d, got s.z f = some (v, d) → ¬ f.ver < v) :
    (s.put f).1 = { s.an f with ver := f.ver } ∧ Rm (s.put f).2 ∧ (s.put f).2.s.page = s.z.s.page ∧ (∃ i : It, (s.put f).2.l = i :: but (s.z.touch (nm f)).l (nm f) ∧ i.key = nm f) ∧ ∀ g, got (s.put f).2 g = if nm g = nm f then some (f.ver, f.data) else got s.z g := by
  obtain ⟨ht, hts⟩ := h.touch (nm f)
  have hbl : (but (s.z.touch (nm f)).l (nm f)).length < (s.z.touch (nm f)).s.per c := by
    rw [hts]
    have hp := (touch_len h.ok (nm f)).filter (fun i => decide (i.key ≠ nm f))
    rw [show but (s.z.touch (nm f)).l (nm f) = (s.z.touch (nm f)).l.filter _ from rfl, hp.length_eq]
    exact hl
  obtain ⟨z', e1, r1, p1, i, l1, k1, d1⟩ := ht.put (key := nm f) (d := kp f.ver f.data) (pin := false) (c := c) (by rw [hts]; exact hc) h2 hbl
  have hput : s.put f = ({ s.an f with ver := f.ver }, z') := by
    unfold Sl.put
    simp only [e1]
    cases hgg : got s.z f with
    | none => rfl
    | some x =>
      obtain ⟨v, d⟩ := x
      simp only [if_neg (hg v d hgg)]
      rfl
  rw [hput]
  refine ⟨rfl, r1, by rw [p1, hts], ⟨i, l1, k1⟩, fun g => ?_⟩
  rw [got_put l1 k1, got_touch, d1, ct_kp f.ver hv1 hv2]
/-- A put of what is elder than what stands there. -/
theorem put_elder {s : Sl} {f : F} {v : Int} {d : ByteArray} (hg : got s.z f = some (v, d)) (h : f.ver < v) : s.put f = ({ s.an f with ver := v }, s.z.touch (nm f)) := by
  unfold Sl.put
  simp only [hg, if_pos h]
end Go.Proofs.YtfinaichajbnkaaGreatDoor


namespace Go.Proofs.YtfinaichajbnkaaGreatDoor
open Wi (F enc fold unf lf sb)

theorem cls_small {s : St} (h : Ok s) (hp : 128 ≤ s.page) {len : Nat} (hl : len ≤ 128) : ∃ c, clsOf s len = some c ∧ c < 2 := by
  have h1 : 1 < s.n := (h.n1 1).2 (by have e : sz 1 = 128 := rfl; omega)
  cases hc : clsOf s len with
  | none => have := clsOf_none hc 1 h1; have e : sz 1 = 128 := rfl; omega
  | some c =>
    refine ⟨c, rfl, ?_⟩
    obtain ⟨_, _, h3⟩ := clsOf_some hc
    rcases Nat.lt_or_ge c 2 with h4 | h4
    · exact h4
    · have := h3 1 (by omega); have e : sz 1 = 128 := rfl; omega
theorem per_small {s : St} {c m : Nat} (hc : c < 2) (hm : (m + 1) * 128 ≤ s.page) : m < s.per c := by
  unfold St.per
  have : sz c ≤ 128 := sz_mono (i := c) (j := 1) (by omega)
  have h2 := sz_pos c
  have h3 : m + 1 ≤ s.page / 128 := (Nat.le_div_iff_mul_le (by omega)).2 hm
  have h4 : s.page / 128 ≤ s.page / sz c := Nat.div_le_div_left this (by omega)
  omega
/-- A slot that keeps m small things at most. -/
structure Sm (s : Sl) (page m : Nat) : Prop where
  rm : Rm s.z
  pg : s.z.s.page = page
  len : s.z.l.length ≤ m
theorem Sm.touch {s : Sl} {page m : Nat} (h : Sm s page m) (k : ByteArray) (d : List F) : Sm { s with z := s.z.touch k, done := d } page m := by
  obtain ⟨h1, h2⟩ := h.rm.touch k
  exact ⟨h1, by rw [h2]; exact h.pg, by rw [(touch_len h.rm.ok k).length_eq]; exact h.len⟩
theorem Sm.mono {s : Sl} {page m m' : Nat} (h : Sm s page m) (hm : m ≤ m') : Sm s page m' := ⟨h.rm, h.pg, Nat.le_trans h.len hm⟩
/-- FPut. -/
theorem Sm.put {s : Sl} {page m : Nat} (h : Sm s page m) {f : F} (hm : (m + 1) * 128 ≤ page) (hz : (nm f ++ kp f.ver f.data).size ≤ 128) (hv1 : -9223372036854775808 ≤ f.ver) (hv2 : f.ver ≤ 9223372036854775807) (d : List F) :
    Sm { s with z := (s.put f).2, done := d } page (m + 1) ∧
    ((∃ v x, got s.z f = some (v, x) ∧ f.ver < v ∧ (s.put f).1 = { s.an f with ver := v } ∧ ∀ g, got (s.put f).2 g = got s.z g) ∨
     ((∀ v x, got s.z f = some (v, x) → v ≤ f.ver) ∧ (s.put f).1 = { s.an f with ver := f.ver } ∧ ∀ g, got (s.put f).2 g = if nm g = nm f then some (f.ver, f.data) else got s.z g)) := by
  by_cases hg : ∃ v x, got s.z f = some (v, x) ∧ f.ver < v
  · obtain ⟨v, x, h1, h2⟩ := hg
    have e := put_elder h1 h2
    rw [e]
    exact ⟨(h.touch (nm f) d).mono (Nat.le_succ m), .inl ⟨v, x, h1, h2, rfl, fun g => got_touch _ _ _⟩⟩
  · have hg' : ∀ v x, got s.z f = some (v, x) → ¬ f.ver < v := fun v x e h => hg ⟨v, x, e, h⟩
    obtain ⟨c, hc, h2⟩ := cls_small h.rm.ok.ok (by rw [h.pg]; omega) hz
    have hl : (but s.z.l (nm f)).length < s.z.s.per c := Nat.lt_of_le_of_lt (Nat.le_trans (but_le _ _) h.len) (per_small h2 (by rw [h.pg]; exact hm))
    obtain ⟨a1, a2, a3, ⟨i, a4, _⟩, a5⟩ := put_ok h.rm hv1 hv2 hc h2 hl hg'
    refine ⟨⟨a2, by rw [show ({ s with z := (s.put f).2, done := d } : Sl).z = (s.put f).2 from rfl, a3]; exact h.pg, ?_⟩, .inr ⟨fun v x e => by have := hg' v x e; omega, a1, a5⟩⟩
    show (s.put f).2.l.length ≤ m + 1
    rw [a4, List.length_cons]
    have h5 := but_le (s.z.touch (nm f)).l (nm f)
    rw [(touch_len h.rm.ok (nm f)).length_eq] at h5
    have := h.len
    omega
/-- FGet. -/
theorem Sm.get {s : Sl} {page m : Nat} (h : Sm s page m) (f : F) (d : List F) :
    Sm { s with z := (s.get f).2, done := d } page m ∧ (∀ g, got (s.get f).2 g = got s.z g) ∧ (s.get f).1 = (match got s.z f with | some (v, x) => { s.an f with ver := v, data := x } | none => s.an f) := by
  unfold Sl.get
  cases hg : got s.z f with
  | none => exact ⟨⟨h.rm, h.pg, h.len⟩, fun g => rfl, rfl⟩
  | some q =>
    obtain ⟨v, x⟩ := q
    exact ⟨h.touch (nm f) d, fun g => got_touch _ _ _, rfl⟩
/-- Does what stands there go at an FDrop? -/
def goes (z : Sp) (f : F) : Bool := match got z f with
  | some (v, _) => decide (v ≤ f.ver)
  | none => true
/-- FDrop. -/
theorem Sm.drop {s : Sl} {page m : Nat} (h : Sm s page m) (f : F) (d : List F) :
    Sm { s with z := (s.drop f).2, done := d } page m ∧ (s.drop f).1 = { s.an f with ver := f.ver } ∧ ∀ g, got (s.drop f).2 g = if nm g = nm f ∧ goes s.z f = true then none else got s.z g := by
  unfold Sl.drop goes
  cases hg : got s.z f with
  | none =>
    refine ⟨⟨h.rm, h.pg, h.len⟩, rfl, fun g => ?_⟩
    show got s.z g = _
    by_cases e : nm g = nm f
    · have : got s.z g = none := by unfold got at hg ⊢; rw [e]; exact hg
      rw [this]; simp
    · rw [if_neg (fun x => e x.1)]
  | some q =>
    obtain ⟨v, x⟩ := q
    by_cases hv : v ≤ f.ver
    · obtain ⟨t1, t2⟩ := h.rm.touch (nm f)
      obtain ⟨d1, d2, _⟩ := t1.drop (nm f)
      simp only [if_pos hv]
      refine ⟨⟨d1, ?_, ?_⟩, trivial, fun g => ?_⟩
      · show ((s.z.touch (nm f)).drop (nm f)).s.page = page
        rw [d2, t2]; exact h.pg
      · show ((s.z.touch (nm f)).drop (nm f)).l.length ≤ m
        rw [Sp.drop_l]
        have h5 := but_le (s.z.touch (nm f)).l (nm f)
        rw [(touch_len h.rm.ok (nm f)).length_eq] at h5
        exact Nat.le_trans h5 h.len
      · rw [got_drop, got_touch]
        by_cases e : nm g = nm f
        · rw [if_pos e, if_pos ⟨e, decide_eq_true hv⟩]
        · rw [if_neg e, if_neg (fun x => e x.1)]
    · simp only [if_neg hv]
      refine ⟨h.touch (nm f) d, trivial, fun g => ?_⟩
      rw [got_touch, if_neg (fun y => hv (of_decide_eq_true y.2))]
/- Names. -/
theorem nm_rec {f g : F} (hf : f.role = 1) (hg : g.role = 1) : nm f = nm g ↔ f.key = g.key := by
  unfold nm
  rw [if_pos hf, if_pos hg]
  constructor
  · intro h
    refine ba_ext ?_ (fun i hi => ?_)
    · have := congrArg ByteArray.size h
      rw [ByteArray.size_append, ByteArray.size_append] at this; omega
    · have := congrArg (fun s => Wi.bt s (1 + i)) h
      simp only [bt_app] at this
      have e : (⟨#[109]⟩ : ByteArray).size = 1 := rfl
      rw [e, if_neg (by omega), if_neg (by omega), Nat.add_sub_cancel_left] at this
      exact this
  · intro h; rw [h]
theorem nm_rec_size {f : F} (hf : f.role = 1) : (nm f).size = f.key.size + 1 := by
  unfold nm; rw [if_pos hf, ByteArray.size_append]; have e : (⟨#[109]⟩ : ByteArray).size = 1 := rfl; omega
theorem nm_part_size {f : F} (hf : f.role ≠ 1) : (nm f).size = (enc (fold f.ver)).length + 1 + f.key.size := by
  unfold nm; rw [if_neg hf, ByteArray.size_append, bs_size, List.length_cons]
theorem kp_size (v : Int) (d : ByteArray) : (kp v d).size = (enc (fold v)).length + d.size := by unfold kp; rw [ByteArray.size_append, bs_size]
/-- A record's name is no fragment's. -/
theorem nm_apart {f g : F} (hf : f.role = 1) (hg : g.role ≠ 1) : nm f ≠ nm g := by
  intro h
  unfold nm at h
  rw [if_pos hf, if_neg hg] at h
  have := congrArg (fun s => Wi.bt s 0) h
  simp only [bt_app] at this
  have e : (⟨#[109]⟩ : ByteArray).size = 1 := rfl
  rw [e, if_pos (by omega), if_pos (by rw [bs_size, List.length_cons]; omega), bt_bs (by
    intro x hx
    rcases List.mem_cons.1 hx with rfl | hx
    · omega
    · exact Wi.enc_lt _ x hx) (by rw [List.length_cons]; omega)] at this
  have e2 : Wi.bt (⟨#[109]⟩ : ByteArray) 0 = 109 := rfl
  rw [e2] at this
  have e3 : lf (112 :: enc (fold g.ver)) 0 = 112 := rfl
  omega
/-- Fragments of one key, by their versions. -/
theorem nm_part {f g : F} (hf : f.role ≠ 1) (hg : g.role ≠ 1) (hk : f.key = g.key) : nm f = nm g ↔ f.ver = g.ver := by
  constructor
  · intro h
    unfold nm at h
    rw [if_neg hf, if_neg hg, hk] at h
    have hs := congrArg ByteArray.size h
    rw [ByteArray.size_append, ByteArray.size_append, bs_size, bs_size, List.length_cons, List.length_cons] at hs
    have hl : (enc (fold f.ver)).length = (enc (fold g.ver)).length := by omega
    refine Wi.fold_inj (Wi.enc_inj _ _ (Wi.list_ext hl fun i hi => ?_))
    have := congrArg (fun s => Wi.bt s (i + 1)) h
    simp only [bt_app] at this
    rw [if_pos (by rw [bs_size, List.length_cons]; omega), if_pos (by rw [bs_size, List.length_cons]; omega)] at this
    rw [bt_bs (by
      intro x hx
      rcases List.mem_cons.1 hx with rfl | hx
      · omega
      · exact Wi.enc_lt _ x hx) (by rw [List.length_cons]; omega), bt_bs (by
      intro x hx
      rcases List.mem_cons.1 hx with rfl | hx
      · omega
      · exact Wi.enc_lt _ x hx) (by rw [List.length_cons]; omega)] at this
    exact this
  · intro h
    unfold nm
    rw [if_neg hf, if_neg hg, hk, h]
end Go.Proofs.YtfinaichajbnkaaGreatDoor
