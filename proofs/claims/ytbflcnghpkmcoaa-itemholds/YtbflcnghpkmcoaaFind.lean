/-
  FIND of the program: the link that leads to a key's entry.
-/
import Derived.Test.YtbflcnghpkmcoaaCh
import Derived.WalkMore
namespace Go.Proofs.Ytbflcnghpkmcoaa
open Go.RowKit

/-- The link behind the entries pre of a bucket. -/
def lnk (G i : Nat) (pre : List Ent) : Addr := match pre.getLast? with
  | none => ⟨G, i, none⟩
  | some e => ⟨e.b, 2, none⟩
theorem lnk_nil (G i : Nat) : lnk G i [] = ⟨G, i, none⟩ := rfl
theorem lnk_end (G i : Nat) (pre : List Ent) (e : Ent) : lnk G i (pre ++ [e]) = ⟨e.b, 2, none⟩ := by simp [lnk]
/-- How many are behind a link. -/
def remF : List Ent → Nat → Nat
  | [], _ => 0
  | e :: l, b => if b = e.b then l.length else remF l b
theorem remF_at : ∀ (pre : List Ent) (e : Ent) (post : List Ent), (∀ q ∈ pre, q.b ≠ e.b) → remF (pre ++ e :: post) e.b = post.length
  | [], e, post, _ => by simp [remF]
  | q :: pre, e, post, h => by
    show (if _ then _ else remF (pre ++ e :: post) _) = _
    rw [if_neg (fun he => h q List.mem_cons_self he.symm)]
    exact remF_at pre e post (fun q hq => h q (List.mem_cons_of_mem _ hq))
def blk : Value → Nat
  | .pointer (some p) => p.block
  | _ => 0
def remV (G : Nat) (L : List Ent) (v : Value) : Nat := if blk v = G then L.length else remF L (blk v)
/-- What stands at a link. -/
theorem RowR.link {w : World} {o : Nat → Nat × Nat} {x G n i : Nat} {E : Nat → List Ent} (h : RowR w o x G n E) (hi : i < n) {pre post : List Ent} (he : E i = pre ++ post) : w.cell? (lnk G i pre) = some (hd post) ∧ w.frozen? (lnk G i pre) = false := by
  rcases List.eq_nil_or_concat pre with rfl | ⟨p, e, rfl⟩
  · rw [List.nil_append] at he
    rw [lnk_nil, h.cl i hi, he]; exact ⟨rfl, h.fz i hi⟩
  · have hc := h.ch i hi
    rw [he] at hc
    simp only [List.concat_eq_append, List.append_assoc, List.singleton_append] at hc ⊢
    have := hc.tail.1
    rw [lnk_end]; exact ⟨this.c2, this.f2⟩
/-- Entries of one bucket, with keys of their own, lie in blocks of their own. -/
theorem Chn.apart {w : World} {o : Nat → Nat × Nat} {x : Nat} {pre post : List Ent} {e : Ent} (h : Chn w o x (pre ++ e :: post)) (hn : ((pre ++ e :: post).map Ent.kv |>.map (·.1)).Nodup) : (∀ q ∈ pre, q.b ≠ e.b) ∧ ∀ q ∈ post, q.b ≠ e.b := by
  rw [List.map_append, List.map_cons] at hn
  obtain ⟨n1, n2, _⟩ := nd_mid (k := e.k) (v := e.v) hn
  obtain ⟨_, he⟩ := h.mem (e := e) (by simp)
  constructor
  · intro q hq hb
    obtain ⟨_, h'⟩ := h.mem (e := q) (by simp [hq])
    exact n1 _ (List.mem_map_of_mem hq) (h'.key he hb)
  · intro q hq hb
    obtain ⟨_, h'⟩ := h.mem (e := q) (by simp [hq])
    exact n2 _ (List.mem_map_of_mem hq) (h'.key he hb)
/-- What find tells. -/
def FindP (w : World) (a : A) (E : Bool → Nat → List Ent) (G : Bool → Nat) (k : ByteArray) (w' : World) (p : Addr) : Prop :=
  ∃ pre post, E (a.row k) (a.at_ k) = pre ++ post ∧ p = lnk (G (a.row k)) (a.at_ k) pre ∧ (∀ e ∈ pre, e.k ≠ k) ∧ (post = [] ∨ ∃ e t, post = e :: t ∧ e.k = k) ∧ Below w.heap.size w w'
set_option maxRecDepth 100000 in
set_option maxHeartbeats 2000000 in
theorem find_any (x C : Nat) (a : A) (k : ByteArray) (hk : k.size ≤ 140737488355328) (w : World) (o : Nat → Nat × Nat) (E : Bool → Nat → List Ent) (G : Bool → Nat) (h : IsC w o x C a E G) :
    Calls Try.prog 54 #[.pointer (some ⟨C, 0, none⟩), .string k] w fun e w' => ∃ p, e = .returned (.pointer (some p)) ∧ FindP w a E G k w' p := by
  have c0 := h.c0
  have c1 := h.c1
  have c2 := h.c2
  have c3 := h.c3
  obtain ⟨s, hs⟩ := oldV_form a.m (G false)
  rw [hs] at c0
  have HC : Hid (IsC w o x C a E G) := h
  have HS : Hid (oldV a.m (G false) = .slice s a.m a.m) := hs
  clear h hs
  go_enter Try.func54, Try.ntmps54
  go_wp2_with fail
  go_step3
  go_wp2_with fail
  refine (hash_any k hk _).mono ?_
  rintro e w2 ⟨rfl, rfl⟩
  rw [hsn_eq]
  go_wp2_with fail
  go_step3
  go_wp2_with fail
  go_quiet (fail)
  go_wp2_with fail
  have HB0 : Hid (Below w.heap.size w (w.drewN nq)) := below_drewN (Below.refl _ _) nq
  go_loopw [6, 22] (fun l y wr => ∃ j : Nat, y = .int .i64 (j : Int) ∧ l = .pointer none ∧ (j = 0 ∨ j = 1 ∧ Hid (a.row k = true)) ∧ Hid (Below w.heap.size w wr)) (fun _ y _ => 2 - (intOf y).toNat)
  case atStart => exact ⟨0, rfl, rfl, .inl rfl, HB0⟩
  case round =>
    clear HB0
    obtain ⟨j, rfl, rfl, hj, HB⟩ := hrel
    have hok := HC.out.has.ok
    have hn1 := hok.1
    have hn2 := hok.2.1
    have hm2 : a.m ≤ 8192 := by have := hok.2.2; omega
    have hh := hsn_lt k
    have hsz := HB.out.size
    have i0 : ∀ w : World, (Instr.index 125 (.agg #[.slice s a.m a.m, .int .i64 ((a.mv : Nat) : Int), .slice (some ⟨G true, 0, none⟩) a.n a.n, .int .i64 0]) (.int .i64 0)).run Try.prog w = .ok (.agg #[.slice s a.m a.m, .int .i64 ((a.mv : Nat) : Int)]) w := fun _ => by kernel_rfl
    have i1 : ∀ w : World, (Instr.index 125 (.agg #[.slice s a.m a.m, .int .i64 ((a.mv : Nat) : Int), .slice (some ⟨G true, 0, none⟩) a.n a.n, .int .i64 0]) (.int .i64 1)).run Try.prog w = .ok (.agg #[.slice (some ⟨G true, 0, none⟩) a.n a.n, .int .i64 0]) w := fun _ => by kernel_rfl
    rcases hj with rfl | ⟨rfl, hr1⟩
    · by_cases hr : a.row k = false
      · have hmm : 0 < a.m ∧ a.mv ≤ hsn k % a.m := by
          unfold A.row at hr
          simpa using hr
        have hm0 := hmm.1
        have dd : decide (0 < a.m ∧ a.mv ≤ hsn k % a.m) = true := by simpa using hmm
        have nn : (if a.m = 0 then 0 else hsn k % a.m) = hsn k % a.m := if_neg (by omega)
        have es := HS.out
        rw [oldV_pos (by omega)] at es
        injection es with es
        subst es
        clear hmm
        go_wp2_with fail
        refine (place_any wr.heap.size 0 a.m a.m a.mv (hsn k) (some ⟨G false, 0, none⟩) hm2 hh _ (by rw [World.cell?_alloc_new]; rfl) (by rw [World.cell?_alloc_new]; rfl)).mono ?_
        rintro e w2 ⟨rfl, q, rfl⟩
        rw [dd, nn]
        clear dd nn
        obtain ⟨W2, hW2⟩ : ∃ W2, W2 = (wr.alloc (.cells #[.slice (some ⟨G false, 0, none⟩) a.m a.m, .int .i64 ((a.mv : Nat) : Int)] 108)).drewN q := ⟨_, rfl⟩
        have B2 : Below w.heap.size w W2 := by rw [hW2]; exact below_drewN (HB.out.alloc HB.out.size _) q
        have d0 : W2.cell? ⟨wr.heap.size, 0, none⟩ = some (.slice (some ⟨G false, 0, none⟩) a.m a.m) := by rw [hW2]; show (wr.alloc _).cell? _ = _; rw [World.cell?_alloc_new]; rfl
        rw [← hW2]
        have RR := (HC.out.below B2).row false hm0
        have hn := HC.out.has.nd false (a.at_ k) (by rw [← hr]; exact A.at_lt hok k)
        have hat : a.at_ k < a.m := by have := A.at_lt hok k; rw [hr] at this; exact this
        have ea : hsn k % a.m = a.at_ k := by unfold A.at_; rw [hr]; rfl
        have HR : Hid (RowR W2 o x (G false) (a.cnt false) (E false)) := RR
        have HN : Hid (((E false (a.at_ k)).map Ent.kv |>.map (·.1)).Nodup) := hn
        have HB2 : Hid (Below w.heap.size w W2) := B2
        have hr0 : Hid (a.row k = false) := hr
        obtain ⟨t, ht⟩ : ∃ t, t = a.at_ k := ⟨_, rfl⟩
        have HT : Hid (t = a.at_ k) := ht
        rw [← ht] at hat ea HN
        rw [ea]
        have ti : (t : Int) < ((a.m : Nat) : Int) := by omega
        clear hW2 B2 RR hn hr ht HB ea hsz i0 i1
        go_wp2_with fail
        go_loopw [6] (fun l wi => ∃ pre post, Hid (E false t = pre ++ post) ∧ l = .pointer (some (lnk (G false) t pre)) ∧ Hid (∀ e ∈ pre, e.k ≠ k) ∧ W2 = wi) (fun l _ => remV (G false) (E false t) l)
        case atStart => exact ⟨[], E false t, rfl, rfl, fun e he => (by cases he), rfl⟩
        case round =>
          obtain ⟨pre, post, HE, rfl, HP, rfl⟩ := hrel
          obtain ⟨l1, l2⟩ := HR.out.link (by exact hat) HE.out
          have hch := HR.out.ch t hat
          rw [HE.out] at hch
          have ofind : ∀ (post' : List Ent), post = post' → (post' = [] ∨ ∃ e t, post' = e :: t ∧ e.k = k) → FindP w a E G k W2 (lnk (G false) t pre) := fun post' e h => by
            subst e
            refine ⟨pre, post, ?_, ?_, HP.out, h, HB2.out⟩
            · rw [hr0.out, ← HT.out]; exact HE.out
            · rw [hr0.out, ← HT.out]
          have OF : Hid (∀ (post' : List Ent), post = post' → (post' = [] ∨ ∃ e t, post' = e :: t ∧ e.k = k) → FindP w a E G k W2 (lnk (G false) t pre)) := ofind
          have hrem : Hid (remV (G false) (E false t) (.pointer (some (lnk (G false) t pre))) = post.length) := by
            show _ = _
            unfold remV
            rcases List.eq_nil_or_concat pre with rfl | ⟨p, e, rfl⟩
            · rw [lnk_nil, if_pos (show blk (Value.pointer (some ⟨G false, t, none⟩)) = G false from rfl), HE.out]; rfl
            · simp only [List.concat_eq_append] at HE hch ⊢
              have hch2 := hch
              rw [List.append_assoc, List.singleton_append] at hch
              have he := hch.tail.1
              have hnn := HN.out
              rw [HE.out, List.append_assoc, List.singleton_append] at hnn
              obtain ⟨q1, q2⟩ := hch.apart hnn
              rw [lnk_end, if_neg (fun h => by have h1 := HR.out.og; rw [← (show e.b = G false from h), he.ob] at h1; injection h1 with _ h1; cases h1), HE.out, List.append_assoc, List.singleton_append]
              exact remF_at p e post q1
          clear ofind l2
          obtain ⟨pb, po, hp⟩ : ∃ pb po, lnk (G false) t pre = ⟨pb, po, none⟩ := by
            unfold lnk; split
            · exact ⟨_, _, rfl⟩
            · exact ⟨_, _, rfl⟩
          have HPB : Hid (lnk (G false) t pre = ⟨pb, po, none⟩) := hp
          rw [hp] at l1 ⊢
          clear hp
          cases post with
          | nil =>
            replace l1 : W2.cell? ⟨pb, po, none⟩ = some (.pointer none) := l1
            clear hch
            go_wp2_with fail
            simp only [Exit.noGoto_ret]
            go_ret
            exact ⟨_, rfl, by rw [← HPB.out]; exact OF.out [] rfl (.inl rfl)⟩
          | cons e post =>
            replace l1 : W2.cell? ⟨pb, po, none⟩ = some (.pointer (some ⟨e.b, 0, none⟩)) := l1
            have he := hch.tail.1
            have e0 := he.c0
            have hnn := HN.out
            rw [HE.out] at hnn
            have hap : Hid ((∀ q ∈ pre, q.b ≠ e.b) ∧ ∀ q ∈ post, q.b ≠ e.b) := hch.apart hnn
            have hge : Hid (e.b ≠ G false) := fun h => by have h1 := HR.out.og; rw [← h, he.ob] at h1; injection h1 with _ h1; cases h1
            clear he hch hnn
            by_cases hek : e.k = k
            · have s1 : (e.k.toList == k.toList) = true := by rw [str_beq, hek]; simp
              have HEK : Hid (e.k = k) := hek
              clear hek
              go_wp2_with fail
              simp only [Exit.noGoto_ret]
              go_ret
              exact ⟨_, rfl, by rw [← HPB.out]; exact OF.out _ rfl (.inr ⟨e, post, rfl, HEK.out⟩)⟩
            · have s1 : (e.k.toList == k.toList) = false := by rw [str_beq, decide_eq_false hek]
              have HEK : Hid (e.k ≠ k) := hek
              clear hek
              go_wp2_with fail
              refine ⟨⟨pre ++ [e], post, by show _ = _; rw [HE.out]; simp, by rw [lnk_end], fun q hq => ?_, trivial⟩, ?_⟩
              · rcases List.mem_append.1 hq with hq | hq
                · exact HP.out q hq
                · rw [List.mem_singleton.1 hq]; exact HEK.out
              · have h1 := hrem.out
                rw [HPB.out] at h1
                rw [h1]
                unfold remV
                rw [if_neg (show ¬ (blk (Value.pointer (some ⟨e.b, 2, none⟩)) = G false) from hge.out)]
                show remF _ e.b < _
                rw [HE.out, remF_at pre e post hap.out.1]
                simp
      · have hr2 : a.row k = true := by simpa using hr
        have dd : decide (0 < a.m ∧ a.mv ≤ hsn k % a.m) = false := by
          unfold A.row at hr2
          simp only [Bool.not_eq_true', decide_eq_false_iff_not] at hr2 ⊢
          exact hr2
        have HR2 : Hid (a.row k = true) := hr2
        clear hr hr2
        go_wp2_with fail
        refine (place_any wr.heap.size 0 a.m a.m a.mv (hsn k) s hm2 hh _ (by rw [World.cell?_alloc_new]; rfl) (by rw [World.cell?_alloc_new]; rfl)).mono ?_
        rintro e w2 ⟨rfl, q, rfl⟩
        rw [dd]
        clear dd
        obtain ⟨z, hz⟩ : ∃ z, z = (if a.m = 0 then 0 else hsn k % a.m) := ⟨_, rfl⟩
        rw [← hz]
        clear hz
        have HB3 : Hid (Below w.heap.size w ((wr.alloc (.cells #[.slice s a.m a.m, .int .i64 ((a.mv : Nat) : Int)] 108)).drewN q)) := below_drewN (HB.out.alloc HB.out.size _) q
        go_wp2_with fail
        exact ⟨⟨1, rfl, rfl, .inr ⟨rfl, HR2⟩, HB3⟩, by simp [intOf]⟩
    · have hr : a.row k = true := hr1.out
      have dd : decide (0 < a.n ∧ 0 ≤ hsn k % a.n) = true := by simp; omega
      have nn : (if a.n = 0 then 0 else hsn k % a.n) = hsn k % a.n := if_neg (by omega)
      go_wp2_with fail
      refine (place_any wr.heap.size 0 a.n a.n 0 (hsn k) (some ⟨G true, 0, none⟩) hn2 hh _ (by rw [World.cell?_alloc_new]; rfl) (by rw [World.cell?_alloc_new]; rfl)).mono ?_
      rintro e w2 ⟨rfl, q, rfl⟩
      rw [dd, nn]
      clear dd nn
      obtain ⟨W2, hW2⟩ : ∃ W2, W2 = (wr.alloc (.cells #[.slice (some ⟨G true, 0, none⟩) a.n a.n, .int .i64 0] 108)).drewN q := ⟨_, rfl⟩
      have B2 : Below w.heap.size w W2 := by rw [hW2]; exact below_drewN (HB.out.alloc HB.out.size _) q
      have d0 : W2.cell? ⟨wr.heap.size, 0, none⟩ = some (.slice (some ⟨G true, 0, none⟩) a.n a.n) := by rw [hW2]; show (wr.alloc _).cell? _ = _; rw [World.cell?_alloc_new]; rfl
      rw [← hW2]
      have RR := (HC.out.below B2).row true hn1
      have hn := HC.out.has.nd true (a.at_ k) (by rw [← hr]; exact A.at_lt hok k)
      have hat : a.at_ k < a.n := by have := A.at_lt hok k; rw [hr] at this; exact this
      have ea : hsn k % a.n = a.at_ k := by unfold A.at_; rw [hr]; rfl
      have HR : Hid (RowR W2 o x (G true) (a.cnt true) (E true)) := RR
      have HN : Hid (((E true (a.at_ k)).map Ent.kv |>.map (·.1)).Nodup) := hn
      have HB2 : Hid (Below w.heap.size w W2) := B2
      have hr0 : Hid (a.row k = true) := hr
      obtain ⟨t, ht⟩ : ∃ t, t = a.at_ k := ⟨_, rfl⟩
      have HT : Hid (t = a.at_ k) := ht
      rw [← ht] at hat ea HN
      rw [ea]
      have ti : (t : Int) < ((a.n : Nat) : Int) := by omega
      clear hW2 B2 RR hn hr ht HB ea hsz i0 i1
      go_wp2_with fail
      go_loopw [6] (fun l wi => ∃ pre post, Hid (E true t = pre ++ post) ∧ l = .pointer (some (lnk (G true) t pre)) ∧ Hid (∀ e ∈ pre, e.k ≠ k) ∧ W2 = wi) (fun l _ => remV (G true) (E true t) l)
      case atStart => exact ⟨[], E true t, rfl, rfl, fun e he => (by cases he), rfl⟩
      case round =>
        obtain ⟨pre, post, HE, rfl, HP, rfl⟩ := hrel
        obtain ⟨l1, l2⟩ := HR.out.link (by exact hat) HE.out
        have hch := HR.out.ch t hat
        rw [HE.out] at hch
        have ofind : ∀ (post' : List Ent), post = post' → (post' = [] ∨ ∃ e t, post' = e :: t ∧ e.k = k) → FindP w a E G k W2 (lnk (G true) t pre) := fun post' e h => by
          subst e
          refine ⟨pre, post, ?_, ?_, HP.out, h, HB2.out⟩
          · rw [hr0.out, ← HT.out]; exact HE.out
          · rw [hr0.out, ← HT.out]
        have OF : Hid (∀ (post' : List Ent), post = post' → (post' = [] ∨ ∃ e t, post' = e :: t ∧ e.k = k) → FindP w a E G k W2 (lnk (G true) t pre)) := ofind
        have hrem : Hid (remV (G true) (E true t) (.pointer (some (lnk (G true) t pre))) = post.length) := by
          show _ = _
          unfold remV
          rcases List.eq_nil_or_concat pre with rfl | ⟨p, e, rfl⟩
          · rw [lnk_nil, if_pos (show blk (Value.pointer (some ⟨G true, t, none⟩)) = G true from rfl), HE.out]; rfl
          · simp only [List.concat_eq_append] at HE hch ⊢
            have hch2 := hch
            rw [List.append_assoc, List.singleton_append] at hch
            have he := hch.tail.1
            have hnn := HN.out
            rw [HE.out, List.append_assoc, List.singleton_append] at hnn
            obtain ⟨q1, q2⟩ := hch.apart hnn
            rw [lnk_end, if_neg (fun h => by have h1 := HR.out.og; rw [← (show e.b = G true from h), he.ob] at h1; injection h1 with _ h1; cases h1), HE.out, List.append_assoc, List.singleton_append]
            exact remF_at p e post q1
        clear ofind l2
        obtain ⟨pb, po, hp⟩ : ∃ pb po, lnk (G true) t pre = ⟨pb, po, none⟩ := by
          unfold lnk; split
          · exact ⟨_, _, rfl⟩
          · exact ⟨_, _, rfl⟩
        have HPB : Hid (lnk (G true) t pre = ⟨pb, po, none⟩) := hp
        rw [hp] at l1 ⊢
        clear hp
        cases post with
        | nil =>
          replace l1 : W2.cell? ⟨pb, po, none⟩ = some (.pointer none) := l1
          clear hch
          go_wp2_with fail
          simp only [Exit.noGoto_ret]
          go_ret
          exact ⟨_, rfl, by rw [← HPB.out]; exact OF.out [] rfl (.inl rfl)⟩
        | cons e post =>
          replace l1 : W2.cell? ⟨pb, po, none⟩ = some (.pointer (some ⟨e.b, 0, none⟩)) := l1
          have he := hch.tail.1
          have e0 := he.c0
          have hnn := HN.out
          rw [HE.out] at hnn
          have hap : Hid ((∀ q ∈ pre, q.b ≠ e.b) ∧ ∀ q ∈ post, q.b ≠ e.b) := hch.apart hnn
          have hge : Hid (e.b ≠ G true) := fun h => by have h1 := HR.out.og; rw [← h, he.ob] at h1; injection h1 with _ h1; cases h1
          clear he hch hnn
          by_cases hek : e.k = k
          · have s1 : (e.k.toList == k.toList) = true := by rw [str_beq, hek]; simp
            have HEK : Hid (e.k = k) := hek
            clear hek
            go_wp2_with fail
            simp only [Exit.noGoto_ret]
            go_ret
            exact ⟨_, rfl, by rw [← HPB.out]; exact OF.out _ rfl (.inr ⟨e, post, rfl, HEK.out⟩)⟩
          · have s1 : (e.k.toList == k.toList) = false := by rw [str_beq, decide_eq_false hek]
            have HEK : Hid (e.k ≠ k) := hek
            clear hek
            go_wp2_with fail
            refine ⟨⟨pre ++ [e], post, by show _ = _; rw [HE.out]; simp, by rw [lnk_end], fun q hq => ?_, trivial⟩, ?_⟩
            · rcases List.mem_append.1 hq with hq | hq
              · exact HP.out q hq
              · rw [List.mem_singleton.1 hq]; exact HEK.out
            · have h1 := hrem.out
              rw [HPB.out] at h1
              rw [h1]
              unfold remV
              rw [if_neg (show ¬ (blk (Value.pointer (some ⟨e.b, 2, none⟩)) = G true) from hge.out)]
              show remF _ e.b < _
              rw [HE.out, remF_at pre e post hap.out.1]
              simp
end Go.Proofs.Ytbflcnghpkmcoaa
