/-
  STEPS OF A LAW, plainly: the slot begun; a record put, got, dropped.
-/
import Derived.Test.YtfinaichajbnkaaGreatDoorSnw
import Derived.Test.YtfinaichajbnkaaGreatDoorSky
import Derived.Test.YtfinaichajbnkaaGreatDoorSma
namespace Go.Proofs.YtfinaichajbnkaaGreatDoor
open Wi (F)

/-- A reset of incarnation inc. -/
def r5 (inc rid : Int) : F := ⟨5, 1, inc, rid, 0, 0, ⟨#[]⟩, 0, ⟨#[]⟩⟩
theorem r5_rt {inc rid : Int} (hi : 0 ≤ inc ∧ inc ≤ 1099511627776) (hr : 0 ≤ rid ∧ rid ≤ 1099511627776) : Wi.rt (r5 inc rid) = true := by
  unfold Wi.rt r5 Wi.fit
  simp only [Bool.and_eq_true, Wi.wi_iff, decide_eq_true_eq]
  refine ⟨by omega, by omega, hi, hr, by omega, by omega, ?_, ?_, ?_⟩
  · show ((0 : Nat) : Int) ≤ 250; omega
  · show ((0 : Nat) : Int) ≤ 1049600; omega
  · simp
theorem r5_may {s : Sl} (h : s.id = 1) {inc rid : Int} (hi : 0 ≤ inc ∧ inc ≤ 1099511627776) (hr : 0 ≤ rid ∧ rid ≤ 1099511627776) : s.may (r5 inc rid) = true := by
  unfold Sl.may
  rw [r5_rt hi hr, h]; rfl
/-- The slot as a law begins it. -/
structure Bgn (s : Sl) (pages page n m : Nat) (V : ByteArray → Int) (D : ByteArray → Int → ByteArray) : Prop where
  b : Bg s
  sm : Sm s page m
  sd : Std s.z V D
  ps : s.pages = pages
  pg : s.page = page
  nn : s.n = n
theorem std_none {s : St} {D : ByteArray → Int → ByteArray} : Std ⟨s, []⟩ (fun _ => 0) D := fun g _ => by rw [if_pos rfl]; rfl
theorem begin_take {pages page n : Nat} (hp : 3 ≤ pages) (ok : OkSp ⟨St.new pages page n, []⟩) (D : ByteArray → Int → ByteArray) :
    ∃ s1, (Sl.new 1 pages page n).take (r5 3 1) = (some ⟨6, 1, 3, 1, 0, 0, ⟨#[]⟩, 0, ⟨#[]⟩⟩, s1) ∧ Bgn s1 pages page n 0 (fun _ => 0) D ∧ s1.done = [] ∧ s1.z.l = [] := by
  refine ⟨{ (Sl.new 1 pages page n).clear with on := true, inc := 3 }, ?_, ⟨⟨rfl, rfl, rfl, rfl⟩, ⟨Rm.new ok.ok hp, rfl, Nat.le_refl _⟩, std_none, rfl, rfl, rfl⟩, rfl, rfl⟩
  rw [take_reset (r5_may rfl (by omega) (by omega)) rfl, reset_new (by show (0 : Int) < 3; omega)]
  rfl
theorem again_take {s : Sl} (hb : Bg s) (rid : Int) (hr : 0 ≤ rid ∧ rid ≤ 1099511627776) : s.take (r5 3 rid) = (some ⟨6, 1, 3, rid, 0, 0, ⟨#[]⟩, 0, ⟨#[]⟩⟩, s) := by
  rw [take_reset (r5_may hb.id (by omega) hr) rfl, reset_same (by rw [hb.inc]; rfl) hb.on, hb.id, hb.inc]
  rfl
theorem elder_take {s : Sl} (hi : s.inc = 3) (inc rid : Int) (h : inc < 3) : s.take (r5 inc rid) = (none, s) := take_elder rfl (by rw [hi]; exact h)
/-- A record put. -/
theorem put_take {s : Sl} {pages page n m : Nat} {V : ByteArray → Int} {D : ByteArray → Int → ByteArray} (h : Bgn s pages page n m V D) (hV : ∀ k, 0 ≤ V k) {rid ver : Int} {key : ByteArray} (hr : 0 ≤ rid ∧ rid ≤ 1099511627776) (hm : (m + 1) * 128 ≤ page) (hv : 1 ≤ ver ∧ ver < 64) (hz : key.size + 2 + (D key ver).size ≤ 128) (hf : s.done.find? (fun a => a.rid == rid) = none) :
    ∃ s', s.take (rq 1 rid key (D key ver) ver) = (some ⟨6, 1, 3, rid, 0, 1, key, max (V key) ver, ⟨#[]⟩⟩, s') ∧ Bgn s' pages page n (m + 1) (updV V key (max (V key) ver)) D ∧ s'.done = s.done ++ [⟨6, 1, 3, rid, 0, 1, key, max (V key) ver, ⟨#[]⟩⟩] := by
  have ha := rq_ask h.b (kind := 1) (rid := rid) (key := key) (data := D key ver) (ver := ver) (by omega) hr (by omega) (by omega) (by omega)
  have hd : s.doo (rq 1 rid key (D key ver) ver) = s.put (rq 1 rid key (D key ver) ver) := by unfold Sl.doo; exact if_pos rfl
  obtain ⟨a1, a2, a3⟩ := std_put h.sm h.sd hV (rid := rid) (ver := ver) (key := key) hm hv hz (s.done ++ [(s.put (rq 1 rid key (D key ver) ver)).1])
  have a3' : (s.put (rq 1 rid key (D key ver) ver)).1 = ⟨6, 1, 3, rid, 0, 1, key, max (V key) ver, ⟨#[]⟩⟩ := by
    rw [a3]; unfold Sl.an; rw [h.b.id, h.b.inc]; rfl
  refine ⟨{ s with z := (s.put (rq 1 rid key (D key ver) ver)).2, done := s.done ++ [(s.put (rq 1 rid key (D key ver) ver)).1] }, ?_, ⟨⟨h.b.id, h.b.on, h.b.inc, h.b.floor⟩, a1, a2, h.ps, h.pg, h.nn⟩, by rw [← a3']⟩
  rw [take_new ha hf, hd, a3']
/-- A record dropped. -/
theorem drop_take {s : Sl} {pages page n m : Nat} {V : ByteArray → Int} {D : ByteArray → Int → ByteArray} (h : Bgn s pages page n m V D) {rid ver : Int} {key data : ByteArray} (hr : 0 ≤ rid ∧ rid ≤ 1099511627776) (hv : 0 ≤ ver ∧ ver ≤ 1099511627776) (hz : key.size ≤ 250 ∧ data.size ≤ 1049600) (hf : s.done.find? (fun a => a.rid == rid) = none) :
    ∃ s', s.take (rq 3 rid key data ver) = (some ⟨6, 1, 3, rid, 0, 1, key, ver, ⟨#[]⟩⟩, s') ∧ Bgn s' pages page n m (updV V key (if V key ≤ ver then 0 else V key)) D ∧ s'.done = s.done ++ [⟨6, 1, 3, rid, 0, 1, key, ver, ⟨#[]⟩⟩] := by
  have ha := rq_ask h.b (kind := 3) (rid := rid) (key := key) (data := data) (ver := ver) (by omega) hr hv hz.1 hz.2
  have hd : s.doo (rq 3 rid key data ver) = s.drop (rq 3 rid key data ver) := by unfold Sl.doo; rw [if_neg (by show ¬ (3 : Int) = 1; omega), if_neg (by show ¬ (3 : Int) = 2; omega)]; exact if_pos rfl
  obtain ⟨a1, a2, a3⟩ := std_drop h.sm h.sd (rid := rid) (ver := ver) (key := key) (data := data) hv.1 (s.done ++ [(s.drop (rq 3 rid key data ver)).1])
  have a3' : (s.drop (rq 3 rid key data ver)).1 = ⟨6, 1, 3, rid, 0, 1, key, ver, ⟨#[]⟩⟩ := by
    rw [a3]; unfold Sl.an; rw [h.b.id, h.b.inc]; rfl
  refine ⟨{ s with z := (s.drop (rq 3 rid key data ver)).2, done := s.done ++ [(s.drop (rq 3 rid key data ver)).1] }, ?_, ⟨⟨h.b.id, h.b.on, h.b.inc, h.b.floor⟩, a1, a2, h.ps, h.pg, h.nn⟩, by rw [← a3']⟩
  rw [take_new ha hf, hd, a3']
/-- A record got. -/
theorem get_take {s : Sl} {pages page n m : Nat} {V : ByteArray → Int} {D : ByteArray → Int → ByteArray} (h : Bgn s pages page n m V D) {rid : Int} {key : ByteArray} (hr : 0 ≤ rid ∧ rid ≤ 1099511627776) (hz : key.size ≤ 250) (hf : s.done.find? (fun a => a.rid == rid) = none) :
    ∃ s', s.take (rq 2 rid key ⟨#[]⟩ 0) = (some ⟨6, 1, 3, rid, 0, 1, key, V key, if V key = 0 then ⟨#[]⟩ else D key (V key)⟩, s') ∧ Bgn s' pages page n m V D ∧ s'.done = s.done ++ [⟨6, 1, 3, rid, 0, 1, key, V key, if V key = 0 then ⟨#[]⟩ else D key (V key)⟩] := by
  have ha := rq_ask h.b (kind := 2) (rid := rid) (key := key) (data := ⟨#[]⟩) (ver := 0) (by omega) hr (by omega) hz (by show 0 ≤ _; omega)
  have hd : s.doo (rq 2 rid key ⟨#[]⟩ 0) = s.get (rq 2 rid key ⟨#[]⟩ 0) := by unfold Sl.doo; rw [if_neg (by show ¬ (2 : Int) = 1; omega)]; exact if_pos rfl
  obtain ⟨a1, a2, a3⟩ := std_get h.sm h.sd (rid := rid) (key := key) (s.done ++ [(s.get (rq 2 rid key ⟨#[]⟩ 0)).1])
  have a3' : (s.get (rq 2 rid key ⟨#[]⟩ 0)).1 = ⟨6, 1, 3, rid, 0, 1, key, V key, if V key = 0 then ⟨#[]⟩ else D key (V key)⟩ := by
    rw [a3]; unfold Sl.an; rw [h.b.id, h.b.inc]; rfl
  refine ⟨{ s with z := (s.get (rq 2 rid key ⟨#[]⟩ 0)).2, done := s.done ++ [(s.get (rq 2 rid key ⟨#[]⟩ 0)).1] }, ?_, ⟨⟨h.b.id, h.b.on, h.b.inc, h.b.floor⟩, a1, a2, h.ps, h.pg, h.nn⟩, by rw [← a3']⟩
  rw [take_new ha hf, hd, a3']
/-- SlotRuns, plainly. -/
def DX : ByteArray → Int → ByteArray := fun _ _ => ⟨#[120]⟩
theorem runs_plain {n : Nat} (ok : OkSp ⟨St.new 4 1024 n, []⟩) : ∃ s1 s2 s3 : Sl,
    (Sl.new 1 4 1024 n).take ⟨5, 1, 3, 1, 0, 0, ⟨#[]⟩, 0, ⟨#[]⟩⟩ = (some ⟨6, 1, 3, 1, 0, 0, ⟨#[]⟩, 0, ⟨#[]⟩⟩, s1) ∧
    s1.take ⟨5, 1, 3, 1, 0, 0, ⟨#[]⟩, 0, ⟨#[]⟩⟩ = (some ⟨6, 1, 3, 1, 0, 0, ⟨#[]⟩, 0, ⟨#[]⟩⟩, s1) ∧
    s1.take ⟨5, 1, 2, 1, 0, 0, ⟨#[]⟩, 0, ⟨#[]⟩⟩ = (none, s1) ∧
    s1.take ⟨1, 1, 3, 2, 0, 1, ⟨#[97]⟩, 5, ⟨#[120]⟩⟩ = (some ⟨6, 1, 3, 2, 0, 1, ⟨#[97]⟩, 5, ⟨#[]⟩⟩, s2) ∧
    s2.take ⟨2, 1, 3, 3, 0, 1, ⟨#[97]⟩, 0, ⟨#[]⟩⟩ = (some ⟨6, 1, 3, 3, 0, 1, ⟨#[97]⟩, 5, ⟨#[120]⟩⟩, s3) ∧
    s3.wipe.take ⟨2, 1, 3, 4, 0, 1, ⟨#[97]⟩, 0, ⟨#[]⟩⟩ = (none, s3.wipe) ∧
    s3.wipe.take ⟨5, 1, 3, 5, 0, 0, ⟨#[]⟩, 0, ⟨#[]⟩⟩ = (none, s3.wipe) ∧
    s3.wipe.on = false ∧ s3.wipe.inc = 3 ∧ s1.done.length ≤ 90000 ∧ s2.done.length ≤ 90000 ∧ s3.done.length ≤ 90000 := by
  obtain ⟨s1, e1, h1, d1, _⟩ := begin_take (by omega) ok DX
  have hsz : (⟨#[97]⟩ : ByteArray).size = 1 := rfl
  have hsx : (DX ⟨#[97]⟩ 5).size = 1 := rfl
  obtain ⟨s2, e2, h2, d2⟩ := put_take h1 (fun _ => Int.le_refl _) (rid := 2) (ver := 5) (key := ⟨#[97]⟩) (by omega) (by omega) (by omega) (by omega) (by rw [d1]; rfl)
  obtain ⟨s3, e3, h3, d3⟩ := get_take h2 (rid := 3) (key := ⟨#[97]⟩) (by omega) (by omega) (by rw [d2, d1]; rfl)
  have hV : updV (fun _ => 0) ⟨#[97]⟩ (max 0 5) (⟨#[97]⟩ : ByteArray) = 5 := by unfold updV; rw [if_pos rfl]; rfl
  refine ⟨s1, s2, s3, e1, again_take h1.b 1 (by omega), elder_take h1.b.inc 2 1 (by omega), e2, ?_, take_off (by show (2 : Int) ≠ 5; omega) rfl, ?_, rfl, h3.b.inc, by rw [d1]; exact Nat.zero_le _, by rw [d2, d1]; exact (by decide : 1 ≤ 90000), by rw [d3, d2, d1]; exact (by decide : 2 ≤ 90000)⟩
  · rw [hV] at e3
    exact e3
  · have hi : s3.wipe.inc = 3 := h3.b.inc
    rw [show (⟨5, 1, 3, 5, 0, 0, ⟨#[]⟩, 0, ⟨#[]⟩⟩ : F) = r5 3 5 from rfl, take_reset (r5_may (s := s3.wipe) h3.b.id (by omega) (by omega)) rfl]
    unfold Sl.reset
    rw [if_neg (by rw [hi]; show ¬ (3 : Int) < 3; omega)]
    rfl
end Go.Proofs.YtfinaichajbnkaaGreatDoor
