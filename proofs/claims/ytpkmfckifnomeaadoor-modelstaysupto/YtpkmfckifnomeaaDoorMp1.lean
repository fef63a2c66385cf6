/-
  New, Twin, Forget, living.
-/
import Derived.Test.YtpkmfckifnomeaaDoorMp
namespace Go.Proofs.YtpkmfckifnomeaaDoor
open Go.RowKit


/-- What is told of a key: its entry, if there is one that lives; else the key alone. -/
def liv (l : List En) (k : ByteArray) (now : Int) : En × Bool := if (look (L k) l).isSome && lv (got l (L k)).dl now then (got l (L k), true) else (⟨k, 0, 0, ⟨#[]⟩, 0⟩, false)
set_option maxRecDepth 100000 in
set_option maxHeartbeats 1000000 in
theorem new_any (x : Nat) (o : Nat → Nat × Nat) (w : World) : Calls Tryd.prog 9 #[] w fun e w' => ∃ P b o', e = .returned (.pointer (some ⟨P, 0, none⟩)) ∧ IsM w' o' x P b 0 [] ∧ Fr (fun _ => False) o o' w w' := by
  have mm : (Instr.makeMap 63 none).run Tryd.prog w = .ok (.map (some w.heap.size)) (w.alloc (.map #[] 0)) := run_makeMap 63 w
  have H : Hid (∃ P b o', (Ending.returned (.pointer (some ⟨w.heap.size + 1, 0, none⟩)) = .returned (.pointer (some ⟨P, 0, none⟩))) ∧ IsM ((w.alloc (.map #[] 0)).alloc (.cells #[.map (some w.heap.size)] 65)) o' x P b 0 [] ∧ Fr (fun _ => False) o o' w ((w.alloc (.map #[] 0)).alloc (.cells #[.map (some w.heap.size)] 65))) := Lib.hid (by
    have f1 : Fr (fun _ => False) o (lab o w.heap.size (x, 1)) w (w.alloc (.map #[] 0)) := Fr.new _ o w _ (x, 1)
    have f2 : Fr (fun _ => False) (lab o w.heap.size (x, 1)) (lab (lab o w.heap.size (x, 1)) (w.heap.size + 1) (x, 0)) (w.alloc (.map #[] 0)) ((w.alloc (.map #[] 0)).alloc (.cells #[.map (some w.heap.size)] 65)) := by
      have := Fr.new (fun _ => False) (lab o w.heap.size (x, 1)) (w.alloc (.map #[] 0)) (.cells #[.map (some w.heap.size)] 65) (x, 0)
      rwa [World.size_alloc] at this
    have c := World.cell?_alloc_new (w.alloc (.map #[] 0)) #[.map (some w.heap.size)] 65 0
    have z := World.frozen?_alloc_new (w.alloc (.map #[] 0)) #[.map (some w.heap.size)] 65 0
    rw [World.size_alloc] at c z
    refine ⟨w.heap.size + 1, w.heap.size, _, rfl, ⟨c, z, lab_same _ _ _, ?_, (IsMp.new w).fr f2 id, by simp⟩, f1.trans f2⟩
    rw [lab_other _ _ _ (by omega)]; exact lab_same _ _ _)
  go_enter Tryd.func9, Tryd.ntmps9
  go_wp2_with fail
  go_ret
  exact H.out
set_option maxRecDepth 100000 in
set_option maxHeartbeats 1000000 in
theorem twin_any (x y : Nat) {o : Nat → Nat × Nat} {P b n : Nat} {l : List En} (w : World) (h : IsM w o x P b n l) : Calls Tryd.prog 13 #[.pointer (some ⟨P, 0, none⟩)] w fun e w' => ∃ P' b' o', e = .returned (.pointer (some ⟨P', 0, none⟩)) ∧ IsM w' o' y P' b' n l ∧ Fr (fun _ => False) o o' w w' := by
  have c0 := h.cell
  have HM := Lib.hid h.mp
  clear h
  have CL := Lib.hid (AnyW.maps_Clone_owns Tryd.cloneM 9 rdE b n (dm l) w HM.out)
  have CL2 : Hid (Calls Tryd.prog 26 #[.map (some b)] w fun e w' => e = .returned (.map (some w.heap.size)) ∧ IsMp w' w.heap.size n l ∧ Below w.heap.size w w') := Lib.hid (CL.out.mono fun e w' hh => ⟨hh.1, hh.2.1, hh.2.2.2⟩)
  clear CL HM
  go_enter Tryd.func13, Tryd.ntmps13
  go_wp2_with fail
  refine CL2.out.mono ?_
  rintro e w1 ⟨rfl, h1, b1⟩
  have H : Hid (∃ P' b' o', (Ending.returned (.pointer (some ⟨w1.heap.size, 0, none⟩)) = .returned (.pointer (some ⟨P', 0, none⟩))) ∧ IsM (w1.alloc (.cells #[.map (some w.heap.size)] 65)) o' y P' b' n l ∧ Fr (fun _ => False) o o' w (w1.alloc (.cells #[.map (some w.heap.size)] 65))) := Lib.hid (by
    have hlt := World.ownsMap.lt h1
    have f1 : Fr (fun _ => False) o (lab o w.heap.size (y, 1)) w w1 := ⟨b1.os, b1.tape, b1.output, b1.size, fun c hc => lab_other _ _ _ (by omega), fun c hc _ => b1.block c hc⟩
    have f2 := Fr.new (fun _ => False) (lab o w.heap.size (y, 1)) w1 (.cells #[.map (some w.heap.size)] 65) (y, 0)
    refine ⟨w1.heap.size, w.heap.size, _, rfl, ⟨World.cell?_alloc_new _ _ _ _, World.frozen?_alloc_new _ _ _ _, lab_same _ _ _, ?_, h1.fr f2 id, by simp⟩, f1.trans f2⟩
    rw [lab_other _ _ _ (by omega)]; exact lab_same _ _ _)
  clear h1 b1 CL2
  go_wp2_with fail
  go_ret
  exact H.out
set_option maxRecDepth 100000 in
set_option maxHeartbeats 1000000 in
theorem forget_any (x : Nat) {o : Nat → Nat × Nat} {P b n : Nat} {l : List En} (k : ByteArray) (hk : k.size ≤ 140737488355328) (w : World) (h : IsM w o x P b n l) : Calls Tryd.prog 14 #[.pointer (some ⟨P, 0, none⟩), .string k] w fun e w' => e = .returned (.bool (look (L k) l).isSome) ∧ IsM w' o x P b n (del (L k) l) ∧ Fr (TX x) o o w w' := by
  have c0 := h.cell
  have lk := h.mp.look k hk
  obtain ⟨G, hG⟩ : ∃ G, (got l (L k)) = G := ⟨_, rfl⟩
  obtain ⟨t, ht⟩ : ∃ t, (look (L k) l).isSome = t := ⟨_, rfl⟩
  rw [hG, ht] at lk
  rw [ht]
  clear hG ht
  have f1 := Fr.alloc (fun _ => False) o w (.cells #[.string G.key, .int .i64 G.fl, .int .i64 G.dl, .string G.val, .int .i64 G.cas] 49)
  have h1 := h.fr f1 id id
  have lk' : (Instr.lookup 63 (.map (some b)) (.string k) true).run Tryd.prog w = .ok (.tuple #[.agg #[.string G.key, .int .i64 G.fl, .int .i64 G.dl, .string G.val, .int .i64 G.cas], .bool t]) w := lk
  obtain ⟨w2, rd, h2, f2, -⟩ := h1.mp.del (o := o) h1.mb k hk 0
  have c1 := h1.cell
  have H : Hid (IsM w2 o x P b n (del (L k) l) ∧ Fr (TX x) o o w w2) := Lib.hid (by
    have hlb := World.ownsMap.lt h1.mp
    refine ⟨⟨f2.cell h1.cell (by rw [h1.mP]; exact fun e => by cases e), (f2.frozen h1.lt (by rw [h1.mP]; exact fun e => by cases e)).trans h1.fz, h1.mP, h1.mb, h2, Nat.lt_of_lt_of_le h1.lt f2.size⟩, (f1.mono (fun _ h => h.elim)).trans (f2.mono (fun t e => by show t.1 = x; rw [e]))⟩)
  clear lk h h1 f1 f2 h2
  go_enter Tryd.func14, Tryd.ntmps14
  go_wp2_with fail
  go_ret
  exact ⟨rfl, H.out⟩
set_option maxRecDepth 100000 in
set_option maxHeartbeats 1000000 in
theorem living_any (x : Nat) {o : Nat → Nat × Nat} {P b n : Nat} {l : List En} (k : ByteArray) (hk : k.size ≤ 140737488355328) (now : Int) (w : World) (h : IsM w o x P b n l) : Calls Tryd.prog 46 #[.pointer (some ⟨P, 0, none⟩), .string k, .int .i64 now] w fun e w' => e = .returned (.tuple #[.agg (liv l k now).1.cs.toArray, .bool (liv l k now).2]) ∧ Below w.heap.size w w' := by
  have c0 := h.cell
  have lk := h.mp.look k hk
  have HLV : Hid (liv l k now = if (look (L k) l).isSome && lv (got l (L k)).dl now then (got l (L k), true) else (⟨k, 0, 0, ⟨#[]⟩, 0⟩, false)) := Lib.hid rfl
  obtain ⟨G, hG⟩ : ∃ G, (got l (L k)) = G := ⟨_, rfl⟩
  obtain ⟨t, ht⟩ : ∃ t, (look (L k) l).isSome = t := ⟨_, rfl⟩
  rw [hG, ht] at lk HLV
  rw [HLV.out]
  have lk' : (Instr.lookup 63 (.map (some b)) (.string k) true).run Tryd.prog (w.alloc (.cells #[.string ⟨#[]⟩, .int .i64 0, .int .i64 0, .string ⟨#[]⟩, .int .i64 0] 49)) = .ok (.tuple #[.agg #[.string G.key, .int .i64 G.fl, .int .i64 G.dl, .string G.val, .int .i64 G.cas], .bool t]) (w.alloc (.cells #[.string ⟨#[]⟩, .int .i64 0, .int .i64 0, .string ⟨#[]⟩, .int .i64 0] 49)) := by
    have := (h.fr (Fr.alloc (fun _ => False) o w (.cells #[.string ⟨#[]⟩, .int .i64 0, .int .i64 0, .string ⟨#[]⟩, .int .i64 0] 49)) id id).mp.look k hk
    rw [hG, ht] at this
    exact this
  have c1 := (h.fr (Fr.alloc (fun _ => False) o w (.cells #[.string ⟨#[]⟩, .int .i64 0, .int .i64 0, .string ⟨#[]⟩, .int .i64 0] 49)) id id).cell
  clear hG ht HLV lk h
  obtain ⟨lb, hlb⟩ : ∃ lb, lv G.dl now = lb := ⟨_, rfl⟩
  have LC := Lib.hid (live_c G.dl now lb hlb)
  rw [hlb]
  clear hlb
  cases t with
  | false =>
    rw [show (false && lb) = false by cases lb <;> rfl]
    go_enter Tryd.func46, Tryd.ntmps46
    go_wp2_with fail
    refine bodyPost_ret (v := .tuple #[.agg #[.string k, .int .i64 0, .int .i64 0, .string ⟨#[]⟩, .int .i64 0], .bool false]) (by simp [results, Tryd.results46]; go_simp) rfl ?_
    exact ⟨rfl, (below_alloc w _).trans ((below_alloc _ _).mono (by simp))⟩
  | true =>
    cases lb with
    | false =>
      go_enter Tryd.func46, Tryd.ntmps46
      go_wp2_with fail
      refine (LC.out _).mono ?_
      rintro e w1 ⟨rfl, rfl⟩
      go_wp2_with fail
      refine bodyPost_ret (v := .tuple #[.agg #[.string k, .int .i64 0, .int .i64 0, .string ⟨#[]⟩, .int .i64 0], .bool false]) (by simp [results, Tryd.results46]; go_simp) rfl ?_
      exact ⟨rfl, (below_alloc w _).trans ((below_alloc _ _).mono (by simp))⟩
    | true =>
      go_enter Tryd.func46, Tryd.ntmps46
      go_wp2_with fail
      refine (LC.out _).mono ?_
      rintro e w1 ⟨rfl, rfl⟩
      go_wp2_with fail
      refine bodyPost_ret (v := .tuple #[.agg #[.string G.key, .int .i64 G.fl, .int .i64 G.dl, .string G.val, .int .i64 G.cas], .bool true]) (by simp [results, Tryd.results46]; go_simp) rfl ?_
      exact ⟨rfl, (below_alloc w _).trans ((below_alloc _ _).mono (by simp))⟩
end Go.Proofs.YtpkmfckifnomeaaDoor
