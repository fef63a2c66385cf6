/-
  ModelRuns, walked.
-/
import Derived.Test.YtpkmfckifnomeaaDoorRunP
namespace Go.Proofs.YtpkmfckifnomeaaDoor
open Go.RowKit

open Go.Lib (TabIs pow10Tab)
set_option maxRecDepth 100000 in
set_option maxHeartbeats 4000000 in
theorem runs_any (w : World) (htab : TabIs Tryd.prog w "internal/strconv.uint64pow10" .u64 pow10Tab) : Calls Tryd.prog 3 #[] w fun e w' => e = .returned (.bool true) ∧ Below w.heap.size w w' := by
  have HTAB := Lib.hid htab
  clear htab
  go_enter Tryd.func3, Tryd.ntmps3
  go_wp2_with fail
  refine (ls_new w HTAB.out).mono ?_
  rintro e_ w0 ⟨P, o_, rfl, h_, z_⟩
  clear HTAB
  have HL := Lib.hid (And.intro h_ z_)
  clear h_ z_
  go_wp2_with fail
  refine (of_x 3 kA v5 0 0 1 rfl rfl _ HL.out.1 HL.out.2).mono ?_
  rintro e_ w1 ⟨p1, o1, rfl, h_, z_⟩
  clear HL
  have HL := Lib.hid (And.intro h_ z_)
  clear h_ z_
  obtain ⟨h_, z_⟩ := Ls.alloc HL.out.1 HL.out.2 6 [.int .i64 3, .slice (some ⟨p1, 0, none⟩) 1 1, .int .i64 1, .int .i64 0, .int .i64 1, .int .i64 0, .int .u64 0, .bool false, .string v5] 27
  clear HL
  have HL := Lib.hid (And.intro h_ z_)
  clear h_ z_
  go_wp2_with fail
  refine (ls_x s1 0 1 kA p1 1 0 rfl rfl rfl rfl (kpt (ab 2) u1) [u1] 2 0 nA run1.1 run1.2 rfl (by omega) (by decide) (by decide) _ HL.out.1 HL.out.2 (.tail _ (.head _))).mono ?_
  rintro e_ w2 ⟨o2, rfl, h_, z_⟩
  clear HL
  have HL := Lib.hid (And.intro h_ z_)
  clear h_ z_
  go_wp2_with fail
  refine (of_x 10 kA nA 10 10 0 rfl rfl _ HL.out.1 HL.out.2).mono ?_
  rintro e_ w3 ⟨p3, o3, rfl, h_, z_⟩
  clear HL
  have HL := Lib.hid (And.intro h_ z_)
  clear h_ z_
  go_wp2_with fail
  refine (ls_x (ofq 10 nA 10) 0 2 kA p3 1 10 rfl rfl rfl rfl (kpt ⟨8, 15, nA⟩ u2) [u2] 8 15 nA run2.1 run2.2 rfl (by omega) (by decide) (by decide) _ HL.out.1 HL.out.2 (.head _)).mono ?_
  rintro e_ w4 ⟨o4, rfl, h_, z_⟩
  clear HL
  have HL := Lib.hid (And.intro h_ z_)
  clear h_ z_
  go_wp2_with fail
  refine (of_x 1 kA nA 0 0 0 rfl rfl _ HL.out.1 HL.out.2).mono ?_
  rintro e_ w5 ⟨p5, o5, rfl, h_, z_⟩
  clear HL
  have HL := Lib.hid (And.intro h_ z_)
  clear h_ z_
  go_wp2_with fail
  refine (lg_x false 1 (ofq 1 nA 0) 0 3 kA p5 1 0 rfl rfl [u2] run3 (by decide) _ HL.out.1 HL.out.2 (.head _) (fun _ _ _ _ h => by cases h)).mono ?_
  rintro e_ w6 ⟨a6, m6, c6, o6, rfl, hm6, h_, z_⟩
  clear HL
  have HL := Lib.hid (And.intro h_ z_)
  clear h_ z_
  subst hm6
  obtain ⟨h_, z_⟩ := Ls.alloc HL.out.1 HL.out.2 3 [.int .i64 2, .slice none 0 0, .bool false, .int .u64 0, .string nA, .int .i64 0, .int .i64 0, .int .i64 0, .int .i64 0] 32
  clear HL
  have HL := Lib.hid (And.intro h_ z_)
  clear h_ z_
  obtain ⟨h_, z_⟩ := Ls.alloc HL.out.1 HL.out.2 3 [.int .i64 8, .slice none 0 0, .bool false, .int .u64 15, .string nA, .int .i64 0, .int .i64 0, .int .i64 0, .int .i64 0] 32
  simp only [World.size_alloc] at h_ z_
  clear HL
  have HL := Lib.hid (And.intro h_ z_)
  clear h_ z_
  obtain ⟨h_, z_⟩ := Ls.alloc HL.out.1 HL.out.2 3 [.int .i64 1, .slice a6 1 c6, .bool false, .int .u64 0, .string ⟨#[]⟩, .int .i64 0, .int .i64 0, .int .i64 0, .int .i64 0] 32
  simp only [World.size_alloc] at h_ z_
  clear HL
  have HL := Lib.hid (And.intro h_ z_)
  clear h_ z_
  go_wp2_with fail
  refine (of_x 4 kA nA 0 0 0 rfl rfl _ HL.out.1 HL.out.2).mono ?_
  rintro e_ w7 ⟨p7, o7, rfl, h_, z_⟩
  clear HL
  have HL := Lib.hid (And.intro h_ z_)
  clear h_ z_
  go_wp2_with fail
  refine (ls_x (ofq 4 nA 0) 0 4 kA p7 1 0 rfl rfl rfl rfl (tld (ab 3)) [u2] 3 0 nA run4.1 run4.2 rfl (by omega) (by decide) (by decide) _ HL.out.1 HL.out.2 (.head _)).mono ?_
  rintro e_ w8 ⟨o8, rfl, h_, z_⟩
  clear HL
  have HL := Lib.hid (And.intro h_ z_)
  clear h_ z_
  go_wp2_with fail
  refine (of_x 9 kA nA 0 0 0 rfl rfl _ HL.out.1 HL.out.2).mono ?_
  rintro e_ w9 ⟨p9, o9, rfl, h_, z_⟩
  clear HL
  have HL := Lib.hid (And.intro h_ z_)
  clear h_ z_
  go_wp2_with fail
  refine (ls_x (ofq 9 nA 0) 0 5 kA p9 1 0 rfl rfl rfl rfl (ab 6, e0, false, true) [] 6 0 nA run5.1 run5.2 rfl (by omega) (by decide) (by decide) _ HL.out.1 HL.out.2 (.head _)).mono ?_
  rintro e_ w10 ⟨o10, rfl, h_, z_⟩
  clear HL
  have HL := Lib.hid (And.intro h_ z_)
  clear h_ z_
  go_wp2_with fail
  refine (of_x 1 kA nA 0 0 0 rfl rfl _ HL.out.1 HL.out.2).mono ?_
  rintro e_ w11 ⟨p11, o11, rfl, h_, z_⟩
  clear HL
  have HL := Lib.hid (And.intro h_ z_)
  clear h_ z_
  go_wp2_with fail
  refine (lg_x false 2 (ofq 1 nA 0) 0 6 kA p11 1 0 rfl rfl [] run6 (by decide) _ HL.out.1 HL.out.2 (.head _) (fun _ _ _ _ h => by simp only [List.mem_cons, List.not_mem_nil, or_false, Prod.mk.injEq] at h; omega)).mono ?_
  rintro e_ w12 ⟨a12, m12, c12, o12, rfl, hm12, h_, z_⟩
  clear HL
  have HL := Lib.hid (And.intro h_ z_)
  clear h_ z_
  subst hm12
  obtain ⟨h_, z_⟩ := Ls.alloc HL.out.1 HL.out.2 3 [.int .i64 3, .slice none 0 0, .bool false, .int .u64 0, .string nA, .int .i64 0, .int .i64 0, .int .i64 0, .int .i64 0] 32
  clear HL
  have HL := Lib.hid (And.intro h_ z_)
  clear h_ z_
  obtain ⟨h_, z_⟩ := Ls.alloc HL.out.1 HL.out.2 3 [.int .i64 6, .slice none 0 0, .bool false, .int .u64 0, .string nA, .int .i64 0, .int .i64 0, .int .i64 0, .int .i64 0] 32
  simp only [World.size_alloc] at h_ z_
  clear HL
  have HL := Lib.hid (And.intro h_ z_)
  clear h_ z_
  obtain ⟨h_, z_⟩ := Ls.alloc HL.out.1 HL.out.2 3 [.int .i64 1, .slice a12 0 c12, .bool false, .int .u64 0, .string ⟨#[]⟩, .int .i64 0, .int .i64 0, .int .i64 0, .int .i64 0] 32
  simp only [World.size_alloc] at h_ z_
  clear HL
  have HL := Lib.hid (And.intro h_ z_)
  clear h_ z_
  have cS : (((w12.alloc (.cells #[.int .i64 3, .slice none 0 0, .bool false, .int .u64 0, .string nA, .int .i64 0, .int .i64 0, .int .i64 0, .int .i64 0] 32)).alloc (.cells #[.int .i64 6, .slice none 0 0, .bool false, .int .u64 0, .string nA, .int .i64 0, .int .i64 0, .int .i64 0, .int .i64 0] 32)).alloc (.cells #[.int .i64 1, .slice a12 0 c12, .bool false, .int .u64 0, .string ⟨#[]⟩, .int .i64 0, .int .i64 0, .int .i64 0, .int .i64 0] 32)).cell? ⟨w1.heap.size, 3, none⟩ = some (.int .i64 0) := HL.out.1.cell (.tail _ (.tail _ (.tail _ (.tail _ (.tail _ (.tail _ (.tail _ (.tail _ (.tail _ (.tail _ (.tail _ (.head _)))))))))))) rfl
  have d0 : (((w12.alloc (.cells #[.int .i64 3, .slice none 0 0, .bool false, .int .u64 0, .string nA, .int .i64 0, .int .i64 0, .int .i64 0, .int .i64 0] 32)).alloc (.cells #[.int .i64 6, .slice none 0 0, .bool false, .int .u64 0, .string nA, .int .i64 0, .int .i64 0, .int .i64 0, .int .i64 0] 32)).alloc (.cells #[.int .i64 1, .slice a12 0 c12, .bool false, .int .u64 0, .string ⟨#[]⟩, .int .i64 0, .int .i64 0, .int .i64 0, .int .i64 0] 32)).cell? ⟨w1.heap.size, 0, none⟩ = some (.int .i64 3) := HL.out.1.cell (.tail _ (.tail _ (.tail _ (.tail _ (.tail _ (.tail _ (.tail _ (.tail _ (.tail _ (.tail _ (.tail _ (.head _)))))))))))) rfl
  have d1 : (((w12.alloc (.cells #[.int .i64 3, .slice none 0 0, .bool false, .int .u64 0, .string nA, .int .i64 0, .int .i64 0, .int .i64 0, .int .i64 0] 32)).alloc (.cells #[.int .i64 6, .slice none 0 0, .bool false, .int .u64 0, .string nA, .int .i64 0, .int .i64 0, .int .i64 0, .int .i64 0] 32)).alloc (.cells #[.int .i64 1, .slice a12 0 c12, .bool false, .int .u64 0, .string ⟨#[]⟩, .int .i64 0, .int .i64 0, .int .i64 0, .int .i64 0] 32)).cell? ⟨w1.heap.size, 1, none⟩ = some (.slice (some ⟨p1, 0, none⟩) 1 1) := HL.out.1.cell (.tail _ (.tail _ (.tail _ (.tail _ (.tail _ (.tail _ (.tail _ (.tail _ (.tail _ (.tail _ (.tail _ (.head _)))))))))))) rfl
  have d2 : (((w12.alloc (.cells #[.int .i64 3, .slice none 0 0, .bool false, .int .u64 0, .string nA, .int .i64 0, .int .i64 0, .int .i64 0, .int .i64 0] 32)).alloc (.cells #[.int .i64 6, .slice none 0 0, .bool false, .int .u64 0, .string nA, .int .i64 0, .int .i64 0, .int .i64 0, .int .i64 0] 32)).alloc (.cells #[.int .i64 1, .slice a12 0 c12, .bool false, .int .u64 0, .string ⟨#[]⟩, .int .i64 0, .int .i64 0, .int .i64 0, .int .i64 0] 32)).cell? ⟨w1.heap.size, 2, none⟩ = some (.int .i64 1) := HL.out.1.cell (.tail _ (.tail _ (.tail _ (.tail _ (.tail _ (.tail _ (.tail _ (.tail _ (.tail _ (.tail _ (.tail _ (.head _)))))))))))) rfl
  have d4 : (((w12.alloc (.cells #[.int .i64 3, .slice none 0 0, .bool false, .int .u64 0, .string nA, .int .i64 0, .int .i64 0, .int .i64 0, .int .i64 0] 32)).alloc (.cells #[.int .i64 6, .slice none 0 0, .bool false, .int .u64 0, .string nA, .int .i64 0, .int .i64 0, .int .i64 0, .int .i64 0] 32)).alloc (.cells #[.int .i64 1, .slice a12 0 c12, .bool false, .int .u64 0, .string ⟨#[]⟩, .int .i64 0, .int .i64 0, .int .i64 0, .int .i64 0] 32)).cell? ⟨w1.heap.size, 4, none⟩ = some (.int .i64 1) := HL.out.1.cell (.tail _ (.tail _ (.tail _ (.tail _ (.tail _ (.tail _ (.tail _ (.tail _ (.tail _ (.tail _ (.tail _ (.head _)))))))))))) rfl
  have d5 : (((w12.alloc (.cells #[.int .i64 3, .slice none 0 0, .bool false, .int .u64 0, .string nA, .int .i64 0, .int .i64 0, .int .i64 0, .int .i64 0] 32)).alloc (.cells #[.int .i64 6, .slice none 0 0, .bool false, .int .u64 0, .string nA, .int .i64 0, .int .i64 0, .int .i64 0, .int .i64 0] 32)).alloc (.cells #[.int .i64 1, .slice a12 0 c12, .bool false, .int .u64 0, .string ⟨#[]⟩, .int .i64 0, .int .i64 0, .int .i64 0, .int .i64 0] 32)).cell? ⟨w1.heap.size, 5, none⟩ = some (.int .i64 0) := HL.out.1.cell (.tail _ (.tail _ (.tail _ (.tail _ (.tail _ (.tail _ (.tail _ (.tail _ (.tail _ (.tail _ (.tail _ (.head _)))))))))))) rfl
  have d6 : (((w12.alloc (.cells #[.int .i64 3, .slice none 0 0, .bool false, .int .u64 0, .string nA, .int .i64 0, .int .i64 0, .int .i64 0, .int .i64 0] 32)).alloc (.cells #[.int .i64 6, .slice none 0 0, .bool false, .int .u64 0, .string nA, .int .i64 0, .int .i64 0, .int .i64 0, .int .i64 0] 32)).alloc (.cells #[.int .i64 1, .slice a12 0 c12, .bool false, .int .u64 0, .string ⟨#[]⟩, .int .i64 0, .int .i64 0, .int .i64 0, .int .i64 0] 32)).cell? ⟨w1.heap.size, 6, none⟩ = some (.int .u64 0) := HL.out.1.cell (.tail _ (.tail _ (.tail _ (.tail _ (.tail _ (.tail _ (.tail _ (.tail _ (.tail _ (.tail _ (.tail _ (.head _)))))))))))) rfl
  have d7 : (((w12.alloc (.cells #[.int .i64 3, .slice none 0 0, .bool false, .int .u64 0, .string nA, .int .i64 0, .int .i64 0, .int .i64 0, .int .i64 0] 32)).alloc (.cells #[.int .i64 6, .slice none 0 0, .bool false, .int .u64 0, .string nA, .int .i64 0, .int .i64 0, .int .i64 0, .int .i64 0] 32)).alloc (.cells #[.int .i64 1, .slice a12 0 c12, .bool false, .int .u64 0, .string ⟨#[]⟩, .int .i64 0, .int .i64 0, .int .i64 0, .int .i64 0] 32)).cell? ⟨w1.heap.size, 7, none⟩ = some (.bool false) := HL.out.1.cell (.tail _ (.tail _ (.tail _ (.tail _ (.tail _ (.tail _ (.tail _ (.tail _ (.tail _ (.tail _ (.tail _ (.head _)))))))))))) rfl
  have d8 : (((w12.alloc (.cells #[.int .i64 3, .slice none 0 0, .bool false, .int .u64 0, .string nA, .int .i64 0, .int .i64 0, .int .i64 0, .int .i64 0] 32)).alloc (.cells #[.int .i64 6, .slice none 0 0, .bool false, .int .u64 0, .string nA, .int .i64 0, .int .i64 0, .int .i64 0, .int .i64 0] 32)).alloc (.cells #[.int .i64 1, .slice a12 0 c12, .bool false, .int .u64 0, .string ⟨#[]⟩, .int .i64 0, .int .i64 0, .int .i64 0, .int .i64 0] 32)).cell? ⟨w1.heap.size, 8, none⟩ = some (.string v5) := HL.out.1.cell (.tail _ (.tail _ (.tail _ (.tail _ (.tail _ (.tail _ (.tail _ (.tail _ (.tail _ (.tail _ (.tail _ (.head _)))))))))))) rfl
  have fS : (((w12.alloc (.cells #[.int .i64 3, .slice none 0 0, .bool false, .int .u64 0, .string nA, .int .i64 0, .int .i64 0, .int .i64 0, .int .i64 0] 32)).alloc (.cells #[.int .i64 6, .slice none 0 0, .bool false, .int .u64 0, .string nA, .int .i64 0, .int .i64 0, .int .i64 0, .int .i64 0] 32)).alloc (.cells #[.int .i64 1, .slice a12 0 c12, .bool false, .int .u64 0, .string ⟨#[]⟩, .int .i64 0, .int .i64 0, .int .i64 0, .int .i64 0] 32)).frozen? ⟨w1.heap.size, 3, none⟩ = false := HL.out.1.fz (.tail _ (.tail _ (.tail _ (.tail _ (.tail _ (.tail _ (.tail _ (.tail _ (.tail _ (.tail _ (.tail _ (.head _)))))))))))) (by show 3 < 9; omega)
  have HS := Lib.hid ((HL.out.1.sub (Nat.le_refl _) (vs' := [(w1.heap.size, 6, [.int .i64 3, .slice (some ⟨p1, 0, none⟩) 1 1, .int .i64 1, .int .i64 0, .int .i64 1, .int .i64 0, .int .u64 0, .bool false, .string v5]), (w12.heap.size + 1 + 1, 3, [.int .i64 1, .slice a12 0 c12, .bool false, .int .u64 0, .string ⟨#[]⟩, .int .i64 0, .int .i64 0, .int .i64 0, .int .i64 0]), (w12.heap.size + 1, 3, [.int .i64 6, .slice none 0 0, .bool false, .int .u64 0, .string nA, .int .i64 0, .int .i64 0, .int .i64 0, .int .i64 0]), (w12.heap.size, 3, [.int .i64 3, .slice none 0 0, .bool false, .int .u64 0, .string nA, .int .i64 0, .int .i64 0, .int .i64 0, .int .i64 0]), (p11, 3, [.string kA]), (p9, 3, [.string kA]), (p7, 3, [.string kA]), (w6.heap.size + 1 + 1, 3, [.int .i64 1, .slice a6 1 c6, .bool false, .int .u64 0, .string ⟨#[]⟩, .int .i64 0, .int .i64 0, .int .i64 0, .int .i64 0]), (w6.heap.size + 1, 3, [.int .i64 8, .slice none 0 0, .bool false, .int .u64 15, .string nA, .int .i64 0, .int .i64 0, .int .i64 0, .int .i64 0]), (w6.heap.size, 3, [.int .i64 2, .slice none 0 0, .bool false, .int .u64 0, .string nA, .int .i64 0, .int .i64 0, .int .i64 0, .int .i64 0]), (p5, 3, [.string kA]), (p3, 3, [.string kA]), (p1, 3, [.string kA])]) (os' := _) (fun x hx => by
    simp only [List.mem_cons, List.not_mem_nil, or_false] at hx ⊢
    rcases hx with rfl | rfl | rfl | rfl | rfl | rfl | rfl | rfl | rfl | rfl | rfl | rfl | rfl | rfl <;> simp) (fun x hx => hx)).set HL.out.2 (fun _ _ _ h => by
    simp only [List.mem_cons, List.not_mem_nil, or_false, Prod.mk.injEq] at h; omega) 3 (.int .i64 10) (by show 3 < 9; omega))
  clear HL
  have HL := HS
  clear HS
  go_wp2_with fail
  refine (ls_x s7 100 7 kA p1 1 0 rfl rfl rfl rfl (kpt (ab 2) u7) [u7] 2 0 nA run7.1 run7.2 rfl (by omega) (by decide) (by decide) _ HL.out.1 HL.out.2 (.tail _ (.tail _ (.tail _ (.tail _ (.tail _ (.tail _ (.tail _ (.tail _ (.tail _ (.tail _ (.tail _ (.tail _ (.head _)))))))))))))).mono ?_
  rintro e_ w13 ⟨o13, rfl, h_, z_⟩
  clear HL
  have HL := Lib.hid (And.intro h_ z_)
  clear h_ z_
  clear cS fS d0 d1 d2 d4 d5 d6 d7 d8
  go_wp2_with fail
  refine (of_x 1 kA nA 0 0 0 rfl rfl _ HL.out.1 HL.out.2).mono ?_
  rintro e_ w14 ⟨p14, o14, rfl, h_, z_⟩
  clear HL
  have HL := Lib.hid (And.intro h_ z_)
  clear h_ z_
  go_wp2_with fail
  refine (lg_x false 3 (ofq 1 nA 0) 109 8 kA p14 1 0 rfl rfl [u7] run8 (by decide) _ HL.out.1 HL.out.2 (.head _) (fun _ _ _ _ h => by simp only [List.mem_cons, List.not_mem_nil, or_false, Prod.mk.injEq] at h; omega)).mono ?_
  rintro e_ w15 ⟨a15, m15, c15, o15, rfl, hm15, h_, z_⟩
  clear HL
  have HL := Lib.hid (And.intro h_ z_)
  clear h_ z_
  subst hm15
  go_wp2_with fail
  refine (of_x 1 kA nA 0 0 0 rfl rfl _ HL.out.1 HL.out.2).mono ?_
  rintro e_ w16 ⟨p16, o16, rfl, h_, z_⟩
  clear HL
  have HL := Lib.hid (And.intro h_ z_)
  clear h_ z_
  go_wp2_with fail
  refine (lg_x false 4 (ofq 1 nA 0) 110 9 kA p16 1 0 rfl rfl [] run9 (by decide) _ HL.out.1 HL.out.2 (.head _) (fun _ _ _ _ h => by simp only [List.mem_cons, List.not_mem_nil, or_false, Prod.mk.injEq] at h; omega)).mono ?_
  rintro e_ w17 ⟨a17, m17, c17, o17, rfl, hm17, h_, z_⟩
  clear HL
  have HL := Lib.hid (And.intro h_ z_)
  clear h_ z_
  subst hm17
  obtain ⟨h_, z_⟩ := Ls.alloc HL.out.1 HL.out.2 3 [.int .i64 1, .slice a15 1 c15, .bool false, .int .u64 0, .string ⟨#[]⟩, .int .i64 0, .int .i64 0, .int .i64 0, .int .i64 0] 32
  clear HL
  have HL := Lib.hid (And.intro h_ z_)
  clear h_ z_
  obtain ⟨h_, z_⟩ := Ls.alloc HL.out.1 HL.out.2 3 [.int .i64 1, .slice a17 0 c17, .bool false, .int .u64 0, .string ⟨#[]⟩, .int .i64 0, .int .i64 0, .int .i64 0, .int .i64 0] 32
  simp only [World.size_alloc] at h_ z_
  clear HL
  have HL := Lib.hid (And.intro h_ z_)
  clear h_ z_
  have y1 : ((w17.alloc (.cells #[.int .i64 1, .slice a15 1 c15, .bool false, .int .u64 0, .string ⟨#[]⟩, .int .i64 0, .int .i64 0, .int .i64 0, .int .i64 0] 32)).alloc (.cells #[.int .i64 1, .slice a17 0 c17, .bool false, .int .u64 0, .string ⟨#[]⟩, .int .i64 0, .int .i64 0, .int .i64 0, .int .i64 0] 32)).cell? ⟨w6.heap.size, 0, none⟩ = some (.int .i64 2) := HL.out.1.cell (.tail _ (.tail _ (.tail _ (.tail _ (.tail _ (.tail _ (.tail _ (.tail _ (.tail _ (.tail _ (.tail _ (.tail _ (.tail _ (.head _)))))))))))))) rfl
  have y2 : ((w17.alloc (.cells #[.int .i64 1, .slice a15 1 c15, .bool false, .int .u64 0, .string ⟨#[]⟩, .int .i64 0, .int .i64 0, .int .i64 0, .int .i64 0] 32)).alloc (.cells #[.int .i64 1, .slice a17 0 c17, .bool false, .int .u64 0, .string ⟨#[]⟩, .int .i64 0, .int .i64 0, .int .i64 0, .int .i64 0] 32)).cell? ⟨w6.heap.size + 1, 3, none⟩ = some (.int .u64 15) := HL.out.1.cell (.tail _ (.tail _ (.tail _ (.tail _ (.tail _ (.tail _ (.tail _ (.tail _ (.tail _ (.tail _ (.tail _ (.tail _ (.head _))))))))))))) rfl
  have y3 : ((w17.alloc (.cells #[.int .i64 1, .slice a15 1 c15, .bool false, .int .u64 0, .string ⟨#[]⟩, .int .i64 0, .int .i64 0, .int .i64 0, .int .i64 0] 32)).alloc (.cells #[.int .i64 1, .slice a17 0 c17, .bool false, .int .u64 0, .string ⟨#[]⟩, .int .i64 0, .int .i64 0, .int .i64 0, .int .i64 0] 32)).cell? ⟨w6.heap.size + 1 + 1, 1, none⟩ = some (.slice a6 1 c6) := HL.out.1.cell (.tail _ (.tail _ (.tail _ (.tail _ (.tail _ (.tail _ (.tail _ (.tail _ (.tail _ (.tail _ (.tail _ (.head _)))))))))))) rfl
  have y4 : ((w17.alloc (.cells #[.int .i64 1, .slice a15 1 c15, .bool false, .int .u64 0, .string ⟨#[]⟩, .int .i64 0, .int .i64 0, .int .i64 0, .int .i64 0] 32)).alloc (.cells #[.int .i64 1, .slice a17 0 c17, .bool false, .int .u64 0, .string ⟨#[]⟩, .int .i64 0, .int .i64 0, .int .i64 0, .int .i64 0] 32)).cell? ⟨w12.heap.size, 0, none⟩ = some (.int .i64 3) := HL.out.1.cell (.tail _ (.tail _ (.tail _ (.tail _ (.tail _ (.tail _ (.tail _ (.head _)))))))) rfl
  have y5 : ((w17.alloc (.cells #[.int .i64 1, .slice a15 1 c15, .bool false, .int .u64 0, .string ⟨#[]⟩, .int .i64 0, .int .i64 0, .int .i64 0, .int .i64 0] 32)).alloc (.cells #[.int .i64 1, .slice a17 0 c17, .bool false, .int .u64 0, .string ⟨#[]⟩, .int .i64 0, .int .i64 0, .int .i64 0, .int .i64 0] 32)).cell? ⟨w12.heap.size + 1, 0, none⟩ = some (.int .i64 6) := HL.out.1.cell (.tail _ (.tail _ (.tail _ (.tail _ (.tail _ (.tail _ (.head _))))))) rfl
  have y6 : ((w17.alloc (.cells #[.int .i64 1, .slice a15 1 c15, .bool false, .int .u64 0, .string ⟨#[]⟩, .int .i64 0, .int .i64 0, .int .i64 0, .int .i64 0] 32)).alloc (.cells #[.int .i64 1, .slice a17 0 c17, .bool false, .int .u64 0, .string ⟨#[]⟩, .int .i64 0, .int .i64 0, .int .i64 0, .int .i64 0] 32)).cell? ⟨w12.heap.size + 1 + 1, 1, none⟩ = some (.slice a12 0 c12) := HL.out.1.cell (.tail _ (.tail _ (.tail _ (.tail _ (.tail _ (.head _)))))) rfl
  have y7 : ((w17.alloc (.cells #[.int .i64 1, .slice a15 1 c15, .bool false, .int .u64 0, .string ⟨#[]⟩, .int .i64 0, .int .i64 0, .int .i64 0, .int .i64 0] 32)).alloc (.cells #[.int .i64 1, .slice a17 0 c17, .bool false, .int .u64 0, .string ⟨#[]⟩, .int .i64 0, .int .i64 0, .int .i64 0, .int .i64 0] 32)).cell? ⟨w17.heap.size, 1, none⟩ = some (.slice a15 1 c15) := HL.out.1.cell (.tail _ (.head _)) rfl
  have y8 : ((w17.alloc (.cells #[.int .i64 1, .slice a15 1 c15, .bool false, .int .u64 0, .string ⟨#[]⟩, .int .i64 0, .int .i64 0, .int .i64 0, .int .i64 0] 32)).alloc (.cells #[.int .i64 1, .slice a17 0 c17, .bool false, .int .u64 0, .string ⟨#[]⟩, .int .i64 0, .int .i64 0, .int .i64 0, .int .i64 0] 32)).cell? ⟨w17.heap.size + 1, 1, none⟩ = some (.slice a17 0 c17) := HL.out.1.cell (.head _) rfl
  obtain ⟨gg, hg, x0, x1, x2, x3⟩ : ∃ gg, a6 = some ⟨gg, 0, none⟩ ∧ ((w17.alloc (.cells #[.int .i64 1, .slice a15 1 c15, .bool false, .int .u64 0, .string ⟨#[]⟩, .int .i64 0, .int .i64 0, .int .i64 0, .int .i64 0] 32)).alloc (.cells #[.int .i64 1, .slice a17 0 c17, .bool false, .int .u64 0, .string ⟨#[]⟩, .int .i64 0, .int .i64 0, .int .i64 0, .int .i64 0] 32)).cell? ⟨gg, 0, none⟩ = some (.string ⟨#[97]⟩) ∧ ((w17.alloc (.cells #[.int .i64 1, .slice a15 1 c15, .bool false, .int .u64 0, .string ⟨#[]⟩, .int .i64 0, .int .i64 0, .int .i64 0, .int .i64 0] 32)).alloc (.cells #[.int .i64 1, .slice a17 0 c17, .bool false, .int .u64 0, .string ⟨#[]⟩, .int .i64 0, .int .i64 0, .int .i64 0, .int .i64 0] 32)).cell? ⟨gg, 1, none⟩ = some (.int .i64 1) ∧ ((w17.alloc (.cells #[.int .i64 1, .slice a15 1 c15, .bool false, .int .u64 0, .string ⟨#[]⟩, .int .i64 0, .int .i64 0, .int .i64 0, .int .i64 0] 32)).alloc (.cells #[.int .i64 1, .slice a17 0 c17, .bool false, .int .u64 0, .string ⟨#[]⟩, .int .i64 0, .int .i64 0, .int .i64 0, .int .i64 0] 32)).cell? ⟨gg, 2, none⟩ = some (.string ⟨#[49, 53]⟩) ∧ ((w17.alloc (.cells #[.int .i64 1, .slice a15 1 c15, .bool false, .int .u64 0, .string ⟨#[]⟩, .int .i64 0, .int .i64 0, .int .i64 0, .int .i64 0] 32)).alloc (.cells #[.int .i64 1, .slice a17 0 c17, .bool false, .int .u64 0, .string ⟨#[]⟩, .int .i64 0, .int .i64 0, .int .i64 0, .int .i64 0] 32)).cell? ⟨gg, 3, none⟩ = some (.int .i64 2) := by
    obtain ⟨gg, cap, e, _, _, _, _, hc, _⟩ := (HL.out.1.s 1 _ _ _ (.tail _ (.tail _ (.tail _ (.head _))))).there (by decide)
    injection e with e1 _ _
    exact ⟨gg, e1, hc 0 _ rfl, hc 1 _ rfl, hc 2 _ rfl, hc 3 _ rfl⟩
  subst hg
  have HB : Hid (Below w.heap.size w ((w17.alloc (.cells #[.int .i64 1, .slice a15 1 c15, .bool false, .int .u64 0, .string ⟨#[]⟩, .int .i64 0, .int .i64 0, .int .i64 0, .int .i64 0] 32)).alloc (.cells #[.int .i64 1, .slice a17 0 c17, .bool false, .int .u64 0, .string ⟨#[]⟩, .int .i64 0, .int .i64 0, .int .i64 0, .int .i64 0] 32))) := Lib.hid HL.out.2.b
  clear HL
  go_wp2_with fail
  go_ret
  exact ⟨rfl, HB.out⟩
end Go.Proofs.YtpkmfckifnomeaaDoor
