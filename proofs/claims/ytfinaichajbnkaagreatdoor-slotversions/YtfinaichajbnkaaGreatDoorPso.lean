/-
  CutPrefix of the library, by its contract, laid at this program.
-/
import Derived.Shelf.Small.Wraps
import Derived.Test.YtfinaichajbnkaaGreatDoorProg
import Derived.Shelf.Sort.Plain
import Derived.Shelf.Slices.In.SortNone
import Derived.Test.YtfinaichajbnkaaGreatDoorSnw
namespace Go.Proofs
open Go.Shelf
def Tryz.lays103_ren : Go.Shelf.Ren := ⟨fun | 103 => 55 | 210 => 78 | 206 => 94 | n => n, fun | 9 => 9 | 4 => 4 | 24 => 103 | 3 => 3 | n => n, fun | n => n⟩
theorem Tryz.lays103 : Go.Proofs.Lays.n103 Tryz.prog Tryz.lays103_ren := {
  mixed := by kernel_rfl
  f103 := Tryz.func55.trans (congrArg some (by kernel_rfl))
  f206 := Tryz.func94.trans (congrArg some (by kernel_rfl))
  f210 := Tryz.func78.trans (congrArg some (by kernel_rfl))
  t3 := Tryz.underlying3
  a3 := Tryz.isAgg3
  z3 := Tryz.sizeOf3
  v3 := Tryz.zeroValue3
  t4 := Tryz.underlying4
  a4 := Tryz.isAgg4
  z4 := Tryz.sizeOf4
  v4 := Tryz.zeroValue4
  t9 := Tryz.underlying9
  a9 := Tryz.isAgg9
  z9 := Tryz.sizeOf9
  v9 := Tryz.zeroValue9
  t24 := Tryz.underlying103
  a24 := Tryz.isAgg103
  z24 := Tryz.sizeOf103
  v24 := Tryz.zeroValue103 }
open Go.RowKit in
set_option maxRecDepth 100000 in
theorem Tryz.strings_CutPrefix (s p : ByteArray) (w : World) :
    Calls Tryz.prog 55 #[.string s, .string p] w fun e w' => e = .returned (.tuple #[.string ⟨(Lib.trimPrefix s.data.toList p.data.toList).toArray⟩, .bool (Lib.hasPrefix s.data.toList p.data.toList)]) ∧ w' = w := Any.strings_CutPrefix Tryz.lays103 s p w
end Go.Proofs


namespace Go.Proofs
open Go.Shelf
def Tryz.lays190_ren : Go.Shelf.Ren := ⟨fun | 190 => 56 | 125 => 80 | 258 => 79 | 128 => 104 | 129 => 59 | 302 => 95 | 303 => 96 | 304 => 97 | 305 => 98 | 306 => 99 | 307 => 100 | 308 => 101 | 309 => 102 | 310 => 103 | 333 => 112 | 329 => 113 | 330 => 114 | 334 => 115 | 335 => 116 | 336 => 117 | 344 => 119 | n => n, fun | 31 => 99 | 9 => 9 | 3 => 3 | 46 => 117 | 0 => 0 | 51 => 114 | 53 => 92 | 4 => 4 | 183 => 148 | 182 => 147 | 131 => 67 | 5 => 5 | 218 => 162 | 222 => 166 | 228 => 170 | 229 => 171 | n => n, fun | n => n⟩
theorem Tryz.lays190 : Go.Proofs.Lays.n190 Tryz.prog Tryz.lays190_ren := {
  mixed := by kernel_rfl
  f125 := Tryz.func80.trans (congrArg some (by kernel_rfl))
  f128 := Tryz.func104.trans (congrArg some (by kernel_rfl))
  f129 := Tryz.func59.trans (congrArg some (by kernel_rfl))
  f190 := Tryz.func56.trans (congrArg some (by kernel_rfl))
  f258 := Tryz.func79.trans (congrArg some (by kernel_rfl))
  f302 := Tryz.func95.trans (congrArg some (by kernel_rfl))
  f303 := Tryz.func96.trans (congrArg some (by kernel_rfl))
  f304 := Tryz.func97.trans (congrArg some (by kernel_rfl))
  f305 := Tryz.func98.trans (congrArg some (by kernel_rfl))
  f306 := Tryz.func99.trans (congrArg some (by kernel_rfl))
  f307 := Tryz.func100.trans (congrArg some (by kernel_rfl))
  f308 := Tryz.func101.trans (congrArg some (by kernel_rfl))
  f309 := Tryz.func102.trans (congrArg some (by kernel_rfl))
  f310 := Tryz.func103.trans (congrArg some (by kernel_rfl))
  f329 := Tryz.func113.trans (congrArg some (by kernel_rfl))
  f330 := Tryz.func114.trans (congrArg some (by kernel_rfl))
  f333 := Tryz.func112.trans (congrArg some (by kernel_rfl))
  f334 := Tryz.func115.trans (congrArg some (by kernel_rfl))
  f335 := Tryz.func116.trans (congrArg some (by kernel_rfl))
  f336 := Tryz.func117.trans (congrArg some (by kernel_rfl))
  f344 := Tryz.func119.trans (congrArg some (by kernel_rfl))
  t0 := Tryz.underlying0
  a0 := Tryz.isAgg0
  z0 := Tryz.sizeOf0
  v0 := Tryz.zeroValue0
  t3 := Tryz.underlying3
  a3 := Tryz.isAgg3
  z3 := Tryz.sizeOf3
  v3 := Tryz.zeroValue3
  t4 := Tryz.underlying4
  a4 := Tryz.isAgg4
  z4 := Tryz.sizeOf4
  v4 := Tryz.zeroValue4
  t5 := Tryz.underlying5
  a5 := Tryz.isAgg5
  z5 := Tryz.sizeOf5
  v5 := Tryz.zeroValue5
  t9 := Tryz.underlying9
  a9 := Tryz.isAgg9
  z9 := Tryz.sizeOf9
  v9 := Tryz.zeroValue9
  t31 := Tryz.underlying99
  a31 := Tryz.isAgg99
  z31 := Tryz.sizeOf99
  v31 := Tryz.zeroValue99
  t46 := Tryz.underlying117
  a46 := Tryz.isAgg117
  z46 := Tryz.sizeOf117
  v46 := Tryz.zeroValue117
  t51 := Tryz.underlying114
  a51 := Tryz.isAgg114
  z51 := Tryz.sizeOf114
  v51 := Tryz.zeroValue114
  t53 := Tryz.underlying92
  a53 := Tryz.isAgg92
  z53 := Tryz.sizeOf92
  v53 := Tryz.zeroValue92
  t131 := Tryz.underlying67
  a131 := Tryz.isAgg67
  z131 := Tryz.sizeOf67
  v131 := Tryz.zeroValue67
  t182 := Tryz.underlying147
  a182 := Tryz.isAgg147
  z182 := Tryz.sizeOf147
  v182 := Tryz.zeroValue147
  t183 := Tryz.underlying148
  a183 := Tryz.isAgg148
  z183 := Tryz.sizeOf148
  v183 := Tryz.zeroValue148
  t218 := Tryz.underlying162
  a218 := Tryz.isAgg162
  z218 := Tryz.sizeOf162
  v218 := Tryz.zeroValue162
  t222 := Tryz.underlying166
  a222 := Tryz.isAgg166
  z222 := Tryz.sizeOf166
  v222 := Tryz.zeroValue166
  t228 := Tryz.underlying170
  a228 := Tryz.isAgg170
  z228 := Tryz.sizeOf170
  v228 := Tryz.zeroValue170
  t229 := Tryz.underlying171
  a229 := Tryz.isAgg171
  z229 := Tryz.sizeOf171
  v229 := Tryz.zeroValue171 }
open Go.Sort Go.RowKit in
set_option maxRecDepth 100000 in
theorem Tryz.slices_Sort_string (blk off cap : Nat) (ss : List (List UInt8)) (w : World) (hH : Holds encStr w blk off ss.toArray) (hblk : blk < w.heap.size) (hsz : ss.length < 4611686018427387904) :
    Calls Tryz.prog 56 #[.slice (some ⟨blk, off, none⟩) ss.length cap] w fun e w' =>
      e = .returned (.tuple #[]) ∧ ∃ n os, w' = grow (putRow encStr (Sort.ahead w n) blk off (ss.mergeSort fun x y => decide (x ≤ y)).toArray) os := Any.slices_Sort_string Tryz.lays190 blk off cap ss w hH hblk hsz
open Go.RowKit Go.Sort in
set_option maxRecDepth 100000 in
theorem Tryz.slices_Sort_string_none (p : Option Addr) (cap : Nat) (w : World) :
    Calls Tryz.prog 56 #[.slice p 0 cap] w fun e w' => e = .returned (.tuple #[]) ∧ w' = w := Any.slices_Sort_string_none Tryz.lays190 p cap w
end Go.Proofs


namespace Go.Proofs.YtfinaichajbnkaaGreatDoor
open Go.RowKit

theorem bl_lt : ∀ (x y : List UInt8), Op.bytesLess x y = decide (x < y)
  | [], [] => by simp [Op.bytesLess]
  | _ :: _, [] => by simp [Op.bytesLess]
  | [], _ :: _ => by simp [Op.bytesLess]
  | a :: x, b :: y => by
    rw [Op.bytesLess, bl_lt x y]
    simp only [List.cons_lt_cons_iff]
    by_cases h1 : a < b <;> by_cases h2 : a = b <;> by_cases h3 : x < y <;> simp [h1, h2, h3]
theorem bef_lt (a b : ByteArray) : bef a b = decide (a.data.toList < b.data.toList) := by
  unfold bef
  rw [bl_lt, ByteArray.toList_eq, ByteArray.toList_eq]
/-- Texts sorted. -/
theorem srt_merge (l : List ByteArray) (hn : l.Nodup) : ((l.map fun s => s.data.toList).mergeSort fun x y => decide (x ≤ y)).map (fun x => (⟨x.toArray⟩ : ByteArray)) = srtS l := by
  refine srtS_is ?_ ?_ hn
  · have h := (List.mergeSort_perm (l.map fun s => s.data.toList) fun x y => decide (x ≤ y)).map (fun x => (⟨x.toArray⟩ : ByteArray))
    rw [List.map_map] at h
    have e : ((fun x => (⟨x.toArray⟩ : ByteArray)) ∘ fun s : ByteArray => s.data.toList) = id := by
      funext s; rfl
    rw [e, List.map_id] at h
    exact h
  · rw [List.pairwise_map]
    have h := List.pairwise_mergeSort (le := fun x y : List UInt8 => decide (x ≤ y)) (fun a b c h1 h2 => by simp only [decide_eq_true_eq] at *; exact List.le_trans h1 h2) (fun a b => by simp only [Bool.or_eq_true, decide_eq_true_eq]; exact List.le_total a b) (l.map fun s => s.data.toList)
    refine h.imp (fun {a b} h => ?_)
    rw [bef_lt]
    simp only [decide_eq_true_eq] at h
    simp only [decide_eq_false_iff_not]
    exact List.not_lt.2 h
theorem srt_merge' (l : List ByteArray) (hn : l.Nodup) : ((l.map fun s => s.data.toList).mergeSort fun x y => decide (x ≤ y)) = (srtS l).map fun s => s.data.toList := by
  rw [← srt_merge l hn, List.map_map]
  have e : ((fun s : ByteArray => s.data.toList) ∘ fun x : List UInt8 => (⟨x.toArray⟩ : ByteArray)) = id := by
    funext s; simp
  rw [e, List.map_id]
set_option maxRecDepth 100000 in
/-- slices.Sort: a list of texts, none twice. -/
theorem psort_any {o : Nat → Nat × Nat} {t : Nat × Nat} (l : List ByteArray) (D : Value) (hn : l.length ≤ 1000000) (hd : l.Nodup) (w : World) (h : OwnK w o t 1 D l.length (strc l)) :
    Calls Tryz.prog 56 #[D] w fun e w' => e = .returned (.tuple #[]) ∧ OwnK w' o t 1 D l.length (strc (srtS l)) ∧ Fr (· = t) o o w w' := by
  by_cases h0 : l = []
  · subst h0
    obtain ⟨b, c, hD, _⟩ := h.form
    rw [hD] at h ⊢
    refine (Tryz.slices_Sort_string_none b c w).mono ?_
    rintro e w' ⟨rfl, rfl⟩
    exact ⟨rfl, h, Fr.refl _ _ _⟩
  · have hl0 : 0 < l.length := List.length_pos_iff.2 h0
    have hh := h
    obtain ⟨g, cap, rfl, hg, hgs, hcap, hmx, h6, h7⟩ := h.there hl0
    obtain ⟨ss, hss⟩ : ∃ ss : List (List UInt8), ss = l.map fun s => s.data.toList := ⟨_, rfl⟩
    have hsl : ss.length = l.length := by rw [hss, List.length_map]
    have hH : Sort.Holds encStr w g 0 ss.toArray := by
      intro j hj
      rw [List.size_toArray, hsl] at hj
      refine ⟨?_, by rw [Nat.zero_add]; exact (h7 j (by omega)).2⟩
      obtain ⟨k, hk⟩ : ∃ k, l[j]? = some k := ⟨_, List.getElem?_eq_getElem hj⟩
      rw [Nat.zero_add, h6 j _ (strc_at l hk)]
      have e : ss.toArray[j]! = k.data.toList := by
        have : ss[j]? = some k.data.toList := by rw [hss, List.getElem?_map, hk]; rfl
        simp [this]
      rw [e]
    have K := Tryz.slices_Sort_string g 0 cap ss w hH hgs (by omega)
    rw [hsl] at K
    refine K.mono ?_
    rintro e w' ⟨rfl, n, os, rfl⟩
    rw [hss, srt_merge' l hd]
    obtain ⟨m, hm⟩ : ∃ m, m = srtS l := ⟨_, rfl⟩
    have hml : m.length = l.length := by rw [hm]; exact (srtS_perm l).length_eq
    rw [← hm]
    obtain ⟨d, hdd⟩ : ∃ d : Array (List UInt8), d = (m.map fun s => s.data.toList).toArray := ⟨_, rfl⟩
    have hds : d.size = l.length := by rw [hdd]; simp [hml]
    rw [← hdd]
    have hHa : Sort.Holds encStr (Sort.ahead w n) g 0 ss.toArray := hH
    have hP := Sort.holds_putRow encStr (Sort.ahead w n) g 0 ss.toArray d hHa (by rw [hds, List.size_toArray, hsl])
    have hblk : ∀ b, b < w.heap.size → b ≠ g → (Sort.grow (Sort.putRow encStr (Sort.ahead w n) g 0 d) os).heap[b]? = w.heap[b]? := fun b hb hne => by
      have h1 : (Sort.putRow encStr (Sort.ahead w n) g 0 d).heap.size = w.heap.size := by rw [Sort.size_putRow]; rfl
      show ((Sort.putRow encStr (Sort.ahead w n) g 0 d).heap ++ os)[b]? = _
      rw [Array.getElem?_append_left (by rw [h1]; exact hb)]
      show (w.heap.modify g _)[b]? = _
      rw [Array.getElem?_modify, if_neg (fun e => hne e.symm)]
    have hcell : ∀ j, (Sort.grow (Sort.putRow encStr (Sort.ahead w n) g 0 d) os).cell? ⟨g, j, none⟩ = (Sort.putRow encStr (Sort.ahead w n) g 0 d).cell? ⟨g, j, none⟩ := fun j => by
      refine World.cell?_of_block (a := ⟨g, j, none⟩) ?_
      show ((Sort.putRow encStr (Sort.ahead w n) g 0 d).heap ++ os)[g]? = _
      rw [Array.getElem?_append_left (by rw [Sort.size_putRow]; exact hgs)]
    have hfro : ∀ j, (Sort.grow (Sort.putRow encStr (Sort.ahead w n) g 0 d) os).frozen? ⟨g, j, none⟩ = w.frozen? ⟨g, j, none⟩ := fun j => by
      have e : (Sort.grow (Sort.putRow encStr (Sort.ahead w n) g 0 d) os).frozen? ⟨g, j, none⟩ = (Sort.putRow encStr (Sort.ahead w n) g 0 d).frozen? ⟨g, j, none⟩ := by
        refine World.frozen?_of_block (a := ⟨g, j, none⟩) ?_
        show ((Sort.putRow encStr (Sort.ahead w n) g 0 d).heap ++ os)[g]? = _
        rw [Array.getElem?_append_left (by rw [Sort.size_putRow]; exact hgs)]
      rw [e, Sort.frozen?_putRow]; rfl
    have hsz : w.heap.size ≤ (Sort.grow (Sort.putRow encStr (Sort.ahead w n) g 0 d) os).heap.size := by
      rw [Sort.size_grow, Sort.size_putRow]
      exact Nat.le_add_right _ _
    refine ⟨rfl, ⟨by rw [strc_length, hml, Nat.mul_one], fun u hu => by
      obtain ⟨k, _, rfl⟩ := List.mem_map.1 hu; rfl, .inr ⟨g, cap, rfl, hg, Nat.lt_of_lt_of_le hgs hsz, hcap, hmx, fun j u hu => ?_, fun j hj => ?_⟩⟩, ⟨rfl, rfl, rfl, hsz, fun _ _ => rfl, fun b hb hne => hblk b hb (fun e => hne (by rw [e]; exact hg))⟩⟩
    · have hj : j < m.length := by have := (List.getElem?_eq_some_iff.1 hu).1; rwa [strc_length] at this
      obtain ⟨k, hk⟩ : ∃ k, m[j]? = some k := ⟨_, List.getElem?_eq_getElem hj⟩
      rw [strc_at m hk] at hu
      rw [hcell]
      have h8 := (hP j (by rw [hds, ← hml]; exact hj)).1
      rw [Nat.zero_add] at h8
      rw [h8, ← hu]
      have e : d[j]! = k.data.toList := by
        have : (m.map fun s => s.data.toList)[j]? = some k.data.toList := by rw [List.getElem?_map, hk]; rfl
        rw [hdd]; simp [this]
      rw [e]
    · rw [hfro, hcell]
      refine ⟨?_, (h7 j hj).2⟩
      by_cases hjl : j < l.length
      · have h8 := (hP j (by rw [hds]; exact hjl)).1
        rw [Nat.zero_add] at h8
        rw [h8]; rfl
      · rw [Sort.cell?_putRow_other _ _ _ _ _ _ (.inr (.inr (by show 0 + d.size ≤ j; omega)))]
        exact (h7 j hj).1
set_option maxRecDepth 100000 in
/-- CutPrefix of an "m". -/
theorem cutp_any (s : ByteArray) (w : World) : Calls Tryz.prog 55 #[.string s, .string ⟨#[109]⟩] w fun e w' => e = .returned (.tuple #[.string ((recOf s).getD s), .bool (recOf s).isSome]) ∧ w' = w := by
  refine (Tryz.strings_CutPrefix s ⟨#[109]⟩ w).mono ?_
  rintro e w' ⟨rfl, rfl⟩
  refine ⟨?_, rfl⟩
  have hp : Lib.hasPrefix s.data.toList [109] = (recOf s).isSome := by
    unfold Lib.hasPrefix recOf Wi.bt
    cases hs : s.data.toList with
    | nil => rfl
    | cons c r =>
      by_cases hc : c = 109
      · subst hc; rfl
      · have h1 : ¬ (c.toNat = 109) := fun e => hc (UInt8.toNat_inj.1 e)
        have h2 : ((109 : UInt8) == c) = false := by simp; exact fun e => hc e.symm
        simp [List.isPrefixOf, h2, h1]
  have ht : (⟨(Lib.trimPrefix s.data.toList [109]).toArray⟩ : ByteArray) = (recOf s).getD s := by
    unfold Lib.trimPrefix
    rw [hp]
    unfold recOf
    by_cases h0 : Wi.bt s 0 = 109
    · rw [if_pos h0]
      simp only [Option.isSome_some, if_true, Option.getD_some]
      refine ByteArray.ext ?_
      rw [ByteArray.data_extract]
      apply Array.ext'
      simp
      exact (List.take_of_length_le (by rw [List.length_tail, Wi.size_len]; exact Nat.le_refl _)).symm
    · rw [if_neg h0]
      simp
  show Ending.returned (.tuple #[.string ⟨(Lib.trimPrefix s.data.toList [109]).toArray⟩, .bool (Lib.hasPrefix s.data.toList [109])]) = _
  rw [ht, hp]
end Go.Proofs.YtfinaichajbnkaaGreatDoor
