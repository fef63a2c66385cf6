/-
  SortedFunc of entries by byKey; List.
-/
import Derived.Test.YtpkmfckifnomeaaDoorOrd
import Derived.Test.YtpkmfckifnomeaaDoorShelf
import Derived.Test.YtpkmfckifnomeaaDoorShelfG
import Derived.Test.YtpkmfckifnomeaaDoorSm
namespace Go.Proofs.YtpkmfckifnomeaaDoor
open Go.RowKit Go.Maps Go.Sort Go.Shelf

set_option maxRecDepth 100000 in
set_option maxHeartbeats 1000000 in
theorem byKey_any (x y : En) (w : World) : Calls Tryd.prog 32 #[.agg x.cs.toArray, .agg y.cs.toArray] w fun e w' => e = .returned (.int .i64 (cmpE x y)) ∧ w' = (w.alloc (.cells x.cs.toArray 49)).alloc (.cells y.cs.toArray 49) := by
  obtain ⟨X, hX⟩ : ∃ X, X = x.cs := ⟨_, rfl⟩
  obtain ⟨Y, hY⟩ : ∃ Y, Y = y.cs := ⟨_, rfl⟩
  have c1 : ((w.alloc (.cells X.toArray 49)).alloc (.cells Y.toArray 49)).cell? ⟨w.heap.size, 0, none⟩ = some (.string x.key) := by
    rw [Below.cell (p := ⟨w.heap.size, 0, none⟩) (below_alloc _ _) (by simp), World.cell?_alloc_new, List.getElem?_toArray, hX]; rfl
  have c2 : ((w.alloc (.cells X.toArray 49)).alloc (.cells Y.toArray 49)).cell? ⟨w.heap.size + 1, 0, none⟩ = some (.string y.key) := by
    have := World.cell?_alloc_new (w.alloc (.cells X.toArray 49)) Y.toArray 49 0
    rw [World.size_alloc] at this
    rw [this, List.getElem?_toArray, hY]; rfl
  have SC := Lib.hid (fun W => Tryd.strings_Compare x.key y.key W)
  rw [← hX, ← hY]
  clear hX hY
  go_enter Tryd.func32, Tryd.ntmps32
  go_wp2_with fail
  refine (SC.out _).mono ?_
  rintro e w1 ⟨rfl, rfl⟩
  go_wp2_with fail
  go_ret
  exact ⟨rfl, rfl⟩
theorem cmp_lays [Inhabited En] (blk size : Nat) (w : World) : CmpLays Tryd.prog 32 #[] En.cs 5 cmpE blk 0 size w := by
  intro m os dk hs x y
  refine (byKey_any x y _).mono ?_
  rintro e w' ⟨rfl, rfl⟩
  refine ⟨rfl, 0, #[.cells x.cs.toArray 49, .cells y.cs.toArray 49], ?_⟩
  rw [alloc_eq_grow, alloc_eq_grow, grow_grow]
  rfl
theorem collect_any (b nn : Nat) (es : List En) (Bm : Nat) (hz : es.length ≤ 2000000) (w : World) (hBm : Bm < w.heap.size) (hm : w.cell? ⟨Bm, 0, none⟩ = some (.map (some b))) (hown : IsMp w b nn es) :
    Calls Tryd.prog 49 #[.func (.func 51) #[] #[.pointer (some ⟨Bm, 0, none⟩)]] w fun e w' => ∃ (v : Value) (xs : List En), e = .returned v ∧ Came es xs ∧ w'.ownsRow w.heap.size 49 5 v xs.length (ecl xs) ∧ (v = .slice none 0 0 ↔ xs = []) ∧ Below w.heap.size w w' :=
  callsIn_wide.1 (collect_in Fence.wide 3 trivial trivial rfl (by omega) 51 _ trivial (fun args w => enters_of Tryd.func51 (by kernel_rfl) rfl args w) (Came es) es.length hz w (vals_gives Fence.wide 1 trivial rfl (by omega) Bm b nn es w hBm hm hown))
theorem values_any (mb : Option Nat) (w : World) : Calls Tryd.prog 31 #[.map mb] w fun e w' => e = .returned (.func (.func 51) #[] #[.pointer (some ⟨w.heap.size, 0, none⟩)]) ∧ w' = w.alloc (.cells #[.map mb] 63) :=
  callsIn_wide.1 (values_in Fence.wide 1 trivial rfl mb w)
theorem agg49 : ∀ w, (isAgg 49).run Tryd.prog w = .ok true w := fun w => Tryd.isAgg49 w
theorem flat_ecl [Inhabited En] (d : Array En) : (flatK En.cs 5 d).size = (ecl d.toList).length := by
  rw [size_flatK, ecl_len]; simp
theorem ecl_at (l : List En) {j i : Nat} {e : En} (h : l[j]? = some e) (hi : i < 5) : (ecl l)[j * 5 + i]? = e.cs[i]? := ecs_at l h i hi
/-- What a row of the call's own holds, as the sort wants it. -/
theorem holds_ecl [Inhabited En] {w : World} {g : Nat} {cur : Array Value} (xs : List En) (hb : w.heap[g]? = some (.cells cur 49 (0, 0))) (ht : cur.toList.take (xs.length * 5) = ecl xs) : HoldsK En.cs 5 w g 0 xs.toArray := by
  intro j hj
  rw [size_flatK] at hj
  have hj' : j < xs.length * 5 := by simpa using hj
  refine ⟨?_, by simp [World.frozen?, hb]⟩
  rw [get_flatK _ _ _ _ (by simpa using hj')]
  have hd : j / 5 < xs.length := by omega
  obtain ⟨e, he⟩ : ∃ e, xs[j / 5]? = some e := ⟨_, List.getElem?_eq_getElem hd⟩
  have h1 : (ecl xs)[j]? = e.cs[j % 5]? := by
    have := ecl_at xs he (show j % 5 < 5 by omega)
    rwa [show j / 5 * 5 + j % 5 = j by omega] at this
  have h2 : cur.toList[j]? = e.cs[j % 5]? := by
    rw [← h1, ← ht, List.getElem?_take_of_lt hj']
  have h3 : (xs.toArray[j / 5]!) = e := by
    rw [getElem!_pos _ _ (by simpa using hd)]
    simp only [List.getElem_toArray]
    rw [List.getElem?_eq_getElem hd] at he
    exact Option.some.inj he
  have h4 : j % 5 < e.cs.length := by show j % 5 < 5; omega
  rw [h3]
  show w.cell? ⟨g, 0 + j, none⟩ = some e.cs[j % 5]!
  rw [getElem!_pos e.cs (j % 5) h4]
  rw [Array.getElem?_toList, List.getElem?_eq_getElem h4] at h2
  rw [Nat.zero_add, ← h2]
  simp [World.cell?, hb]
theorem sort_c [Inhabited En] (gb cap : Nat) (xs : List En) (W : World) (hH : HoldsK En.cs 5 W gb 0 xs.toArray) (hgl : gb < W.heap.size) (hz : xs.length ≤ 2000000) :
    Calls Tryd.prog 50 #[.slice (some ⟨gb, 0, none⟩) xs.length cap, .func (.func 32) #[] #[]] W fun e w' => e = .returned (.tuple #[]) ∧ ∃ d' n os, PermIn 0 xs.length xs.toArray d' ∧ SortedIn (ltOf cmpE) 0 xs.length d' ∧ w' = sortWorldK En.cs 5 W gb 0 n d' os := by
  have h := AnyQ.slices_SortFunc Tryd.sortG 5 agg49 (fun w => by kernel_rfl) En.cs (fun _ => rfl) (fun x => En.one x) cmpE swoE 32 #[] gb 0 cap xs.toArray W (fun args w => enters_of Tryd.func32 (by kernel_rfl) rfl args w) (cmp_lays gb xs.toArray.size W) hH hgl (by simp; omega)
  rw [List.size_toArray] at h
  exact h
theorem below_sortK [Inhabited En] {w0 w : World} {g n : Nat} {d : Array En} {os : Array Obj} (h : RowKit.Below w0.heap.size w0 w) (hg : w0.heap.size ≤ g) : RowKit.Below w0.heap.size w0 (sortWorldK En.cs 5 w g 0 n d os) := by
  have hgb : w.grownBy (sortWorldK En.cs 5 w g 0 n d os) (some g) := by
    refine ⟨rfl, rfl, rfl, by simp [sortWorldK, putRowK, putRow, mapBlock, Sort.ahead], fun k hk hne => ?_⟩
    unfold sortWorldK
    rw [heap_grow_old _ _ (by simpa [putRowK, putRow, mapBlock, Sort.ahead] using hk)]
    have : g ≠ k := fun e => hne (by rw [e])
    simp [putRowK, putRow, mapBlock, Sort.ahead, Array.getElem?_modify, this]
  exact h.grown hgb h.size (fun k e => by cases e; exact hg)
set_option maxRecDepth 100000 in
set_option maxHeartbeats 1000000 in
theorem sorted_any (b nn : Nat) (es : List En) (hs : Srt es) (Bm : Nat) (hz : es.length ≤ 2000000) (w : World) (hBm : Bm < w.heap.size) (hm : w.cell? ⟨Bm, 0, none⟩ = some (.map (some b))) (hown : IsMp w b nn es) :
    Calls Tryd.prog 30 #[.func (.func 51) #[] #[.pointer (some ⟨Bm, 0, none⟩)], .func (.func 32) #[] #[]] w fun e w' => ∃ (a : Option Addr) (c : Nat), e = .returned (.slice a es.length c) ∧ Lst w' 5 a es.length (ecs es) ∧ Below w.heap.size w w' := by
  have inh : Inhabited En := ⟨e0⟩
  have HC := Lib.hid (collect_any b nn es Bm hz w hBm hm hown)
  have HS := Lib.hid hs
  clear hBm hm hown hs
  go_enter Tryd.func30, Tryd.ntmps30
  go_wp2_with fail
  refine HC.out.mono ?_
  rintro e W ⟨v, xs, rfl, hcame, hrow, hnil, hb⟩
  clear HC
  have hlen : xs.length = es.length := by
    have := hcame.1.length_eq
    rw [keys_dm] at this
    simpa using this
  rcases hrow.2 with ⟨rfl, h0⟩ | ⟨gb, cap, cur, rfl, hbase, hgb, r1, r2, r3, r4⟩
  · have hes : es = [] := List.eq_nil_of_length_eq_zero (by omega)
    subst hes
    have HN := Lib.hid (AnyF.slices_SortFunc_none Tryd.sortG none 0 (.func (.func 32) #[] #[]) W)
    have HB := Lib.hid hb
    clear hrow hnil hcame hb
    go_wp2_with fail
    refine HN.out.mono ?_
    rintro e w1 ⟨rfl, rfl⟩
    go_wp2_with fail
    go_ret
    exact ⟨none, 0, rfl, Lst.none _ _ _, HB.out⟩
  · have hH : HoldsK En.cs 5 W gb 0 xs.toArray := holds_ecl xs hgb r4
    have hgl : gb < W.heap.size := (Array.getElem?_eq_some_iff.1 hgb).1
    have HSF := Lib.hid (sort_c gb cap xs W hH hgl (by omega))
    have HH := Lib.hid (And.intro hH (And.intro hgl (And.intro hbase hb)))
    have HCA := Lib.hid hcame
    clear hrow hnil hcame hb r4 hgb
    clear hH hgl
    have HLEN := Lib.hid hlen
    clear hlen
    go_wp2_with fail
    refine HSF.out.mono ?_
    rintro e w1 ⟨rfl, d', n, os, hp, hso, hw1⟩
    obtain ⟨hH, hgl, hbase, hb⟩ := HH.out
    have hlen := HLEN.out
    have hds : d'.size = xs.length := by rw [hp.1]; simp
    have HF : Hid (∃ (a : Option Addr) (c : Nat), (Ending.returned (.slice (some ⟨gb, 0, none⟩) xs.length cap)) = .returned (.slice a es.length c) ∧ Lst w1 5 a es.length (ecs es) ∧ Below w.heap.size w w1) := Lib.hid (by
      have hperm : d'.toList.Perm xs := by
        have := hp.2.2
        rw [show xs.toArray.extract 0 xs.length = xs.toArray by simp, show d'.extract 0 xs.length = d' by rw [← hds]; simp] at this
        simpa using this
      have hpw : d'.toList.Pairwise fun x y => ltE y x = false := by
        rw [List.pairwise_iff_getElem]
        intro i j hi hj hij
        have := hso i j (Nat.zero_le _) hij (by rw [← hds]; simpa using hj)
        rw [ltOf_cmpE] at this
        rw [getElem!_pos d' j (by simpa using hj), getElem!_pos d' i (by simpa using hi)] at this
        simpa using this
      have hd : d'.toList = es := came_sorted HS.out HCA.out hperm hpw
      have hH2 : HoldsK En.cs 5 w1 gb 0 d' := by rw [hw1]; exact holdsK_sortWorldK En.cs 5 W gb 0 n xs.toArray d' os hgl hH (by rw [hds]; simp)
      refine ⟨some ⟨gb, 0, none⟩, cap, by rw [hlen], ⟨by rw [ecs_len], .inr ⟨gb, rfl, fun j u hu => ?_⟩⟩, by rw [hw1]; exact below_sortK hb hbase⟩
      have hj : j < es.length * 5 := by have := (List.getElem?_eq_some_iff.1 hu).1; rwa [ecs_len] at this
      have hdiv : j / 5 < es.length := by omega
      obtain ⟨y, hy⟩ : ∃ y, es[j / 5]? = some y := ⟨_, List.getElem?_eq_getElem hdiv⟩
      have h1 := ecs_at es hy (j % 5) (by omega)
      rw [show j / 5 * 5 + j % 5 = j by omega, hu] at h1
      have h2 := (hH2.cell (i := j / 5) (c := j % 5) (by rw [hds, hlen]; exact hdiv) (by omega)).1
      rw [show 0 + j / 5 * 5 + j % 5 = j by omega] at h2
      have h3 : d'[j / 5]! = y := by
        have : d'.toList[j / 5]? = some y := by rw [hd]; exact hy
        rw [Array.getElem?_toList] at this
        rw [getElem!_pos _ _ (by rw [hds, hlen]; exact hdiv)]
        rw [Array.getElem?_eq_getElem (by rw [hds, hlen]; exact hdiv)] at this
        exact Option.some.inj this
      rw [h2, h3, getElem!_pos _ _ (by show j % 5 < 5; omega)]
      rw [List.getElem?_eq_getElem (by show j % 5 < 5; omega)] at h1
      exact h1.symm)
    clear hp hso hw1 hH hgl hbase hb hds hlen
    go_wp2_with fail
    go_ret
    exact HF.out
set_option maxRecDepth 100000 in
set_option maxHeartbeats 1000000 in
/-- List: the entries by rising keys. -/
theorem list_any (x : Nat) {o : Nat → Nat × Nat} {P b n : Nat} {l : List En} (hs : Srt l) (hz : l.length ≤ 2000000) (w : World) (h : IsM w o x P b n l) :
    Calls Tryd.prog 19 #[.pointer (some ⟨P, 0, none⟩)] w fun e w' => ∃ (a : Option Addr) (c : Nat), e = .returned (.slice a l.length c) ∧ Lst w' 5 a l.length (ecs l) ∧ Below w.heap.size w w' := by
  have c0 := h.cell
  have hb : Below w.heap.size w (w.alloc (.cells #[.map (some b)] 63)) := below_alloc _ _
  have SA := Lib.hid (sorted_any b n l hs w.heap.size hz (w.alloc (.cells #[.map (some b)] 63)) (by simp) (World.cell?_alloc_new _ _ _ _) (h.mp.fr (Fr.ofBelow (fun _ => False) o hb) id))
  have HB := Lib.hid hb
  have VA := Lib.hid (values_any (some b) w)
  clear h hb
  go_enter Tryd.func19, Tryd.ntmps19
  go_wp2_with fail
  refine VA.out.mono ?_
  rintro e w1 ⟨rfl, rfl⟩
  go_wp2_with fail
  refine SA.out.mono ?_
  rintro e w2 ⟨a, c, rfl, h1, h2⟩
  have HF := Lib.hid (And.intro h1 (HB.out.trans (h2.mono HB.out.size)))
  clear h1 h2 SA VA HB
  go_wp2_with fail
  go_ret
  exact ⟨a, c, rfl, HF.out.1, HF.out.2⟩
end Go.Proofs.YtpkmfckifnomeaaDoor
