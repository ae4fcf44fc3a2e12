/-
  Layer 15: the statements' own comparison of a table with the reference's.
-/
import Derived.Test.YtccldbophonloaaBRf7
namespace Go.Proofs.Ytccldbophonloaa
open Go Go.RowKit

theorem getR_eq {T : Tb} (h : TbOk T) (k : Nat) : getR T k = (atT T k, (T.f k).isSome) := by
  unfold getR
  by_cases hk : k < 64
  · rw [if_pos hk]
  · rw [if_neg hk]
    unfold atT
    rw [h.none (by omega)]
    rfl
/-- A row of members that may be written to. -/
def RowI (w : World) (g n : Nat) : Prop := ∃ cur, w.heap[g]? = some (.cells cur 32 (0, 0)) ∧ ∀ i, i < n → ∃ z : Int, cur[i * 3 + 2]? = some (.int .i64 z)
theorem RowI.get {w : World} {g n : Nat} (h : RowI w g n) {i : Nat} (hi : i < n) : ∃ z : Int, w.cell? ⟨g, i * 3 + 2, none⟩ = some (.int .i64 z) ∧ w.frozen? ⟨g, i * 3 + 2, none⟩ = false := by
  obtain ⟨cur, h1, h2⟩ := h
  obtain ⟨z, hz⟩ := h2 i hi
  exact ⟨z, by rw [cellE h1]; exact hz, by simp [World.frozen?, h1]⟩
theorem RowI.set {w : World} {g n : Nat} (h : RowI w g n) (i : Nat) (z : Int) : RowI (w.setCell ⟨g, i * 3 + 2, none⟩ (.int .i64 z)) g n := by
  obtain ⟨cur, h1, h2⟩ := h
  refine ⟨cur.setIfInBounds (i * 3 + 2) (.int .i64 z), ?_, fun j hj => ?_⟩
  · simp [World.setCell, Array.getElem?_modify, h1]
  · obtain ⟨y, hy⟩ := h2 j hj
    rw [Array.getElem?_setIfInBounds]
    by_cases e : i * 3 + 2 = j * 3 + 2
    · rw [if_pos e]
      have := (Array.getElem?_eq_some_iff.1 hy).1
      rw [if_pos (by omega)]
      exact ⟨z, rfl⟩
    · rw [if_neg e]
      exact ⟨y, hy⟩
theorem OwnMx.rowI {w : World} {B : Nat} {a : Option Addr} {n c : Nat} {L : List Mem} (h : OwnMx w B (.slice a n c) L) (h0 : 0 < L.length) : ∃ g, a = some ⟨g, 0, none⟩ ∧ B ≤ g ∧ g < w.heap.size ∧ n = L.length ∧ RowI w g n := by
  have hm := h.mems
  rcases h.2 with ⟨e, h1⟩ | ⟨g, cap, cur, e, hb, hg, -, -, -, -⟩
  · omega
  · simp only [Value.slice.injEq] at e
    obtain ⟨rfl, rfl, -⟩ := e
    refine ⟨g, rfl, hb, ltE hg, rfl, cur, hg, fun i hi => ?_⟩
    obtain ⟨b, o, e2, -, -, -, h2⟩ := hm.cells i hi
    obtain ⟨rfl, rfl⟩ : g = b ∧ 0 = o := by cases e2; exact ⟨rfl, rfl⟩
    rw [cellE hg, Nat.zero_add] at h2
    exact ⟨_, h2⟩

set_option maxRecDepth 100000 in
set_option maxHeartbeats 16000000 in
theorem bsame_any (b : Nat) (T : Tb) (hok : TbOk T) (a : Option Addr) (n c : Nat) (k : Nat) (w : World) (hT : TabBlk w b T) (hM : MemsAt w a (memsB T)) (hn : n = (memsB T).length) :
    Calls Try.prog 14 #[.pointer (some ⟨b, 0, none⟩), .agg #[.int .u16 (T.s : Int), .slice a n c], .int .u16 (k : Int)] w fun e w' => e = .returned (.bool true) ∧ Below w.heap.size w w' := by
  have e1 := (Below.refl w.heap.size w).alloc (Nat.le_refl _) (.cells #[.int .u16 (T.s : Int), .slice a n c] 28)
  have r1 := RtB.new w (T.s : Int) a n c
  have hl : (memsB T).length ≤ 64 := memsB_len T
  have HP := Lib.hid (memsB_pos hok)
  have HK := Lib.hid hok
  have HN := Lib.hid hn
  have HAl := Lib.hid (hM.ltB HP.out)
  have hb := hT.lt
  obtain ⟨g, hg⟩ : ∃ g, g = atT T k := ⟨_, rfl⟩
  obtain ⟨gb, hgb⟩ : ∃ gb, gb = (T.f k).isSome := ⟨_, rfl⟩
  have HG1 := Lib.hid (fun u (hu : TabBlk u b T) => bGet_any b T k u hu g gb (by rw [getR_eq HK.out, hg, hgb]))
  have HG2 := Lib.hid (fun u (hu : MemsAt u a (memsB T)) => brGet_any (T.s : Int) a n c (memsB T) k u hu HN.out (by omega) g gb (by rw [getRl_mems HK.out, hg, hgb]))
  obtain ⟨x, hx⟩ := hok.me
  have HS1 := Lib.hid (fun u (hu : TabBlk u b T) => bSelf_any b T x T.s rfl HK.out.s hx u hu)
  have HS2 := Lib.hid (fun u (hu : MemsAt u a (memsB T)) => brSelf_any T.s a n c (memsB T) u hu HN.out (by omega) x true (by rw [getRl_mems HK.out]; unfold atT; rw [hx]; rfl))
  have HT1 := Lib.hid (fun u (hu : TabBlk u b T) => bThere_any b T u hu)
  have HT2 := Lib.hid (fun u (hu : MemsAt u a (memsB T)) => brThere_any (T.s : Int) a n c (memsB T) u hu HN.out (by omega))
  have HP1 := Lib.hid (fun u (hu : TabBlk u b T) => bPosition_any b T HK.out u hu)
  have HP2 : Hid (∀ u, MemsAt u a (memsB T) → Calls Try.prog 34 #[.agg #[.int .u16 (T.s : Int), .slice a n c]] u fun e w' => e = .returned (.int .i64 (posB T : Int)) ∧ Below u.heap.size u w') := Lib.hid (fun u hu => brPosition_any T.s a n c (memsB T) u hu HN.out (by omega))
  have HL1 := Lib.hid (fun u (hu : TabBlk u b T) => bList_any b T u hu)
  have HSm := Lib.hid (fun (y : Option Addr) (m d : Nat) (u : World) (hy : MemsAt u y (memsB T)) (hu : MemsAt u a (memsB T)) (hm : m = (memsB T).length) => ySameM_any y a d c (memsB T) (memsB T) u hy hu (by omega) m n hm HN.out)
  rw [(sameMs_iff _ _).2 rfl] at HSm
  clear hg hgb hx hok
  obtain ⟨gn, gs, gi⟩ := g
  obtain ⟨xn, xs, xi⟩ := x
  dsimp only at HG1 HG2 HS1 HS2
  have HQ := Lib.hid (And.intro e1 (And.intro r1 (And.intro (hT.on e1) (hM.on e1))))
  have HLo := Lib.hid hl
  clear e1 r1 hT hM hn hl
  have HB0 := Lib.hid hb
  have HGA := Lib.hid (HG1.out _ HQ.out.2.2.1)
  go_enter Try.func14, Try.ntmps14
  go_wp2_with (go_at_call 20; refine HGA.out.mono ?_; rintro e w1 ⟨rfl, q1⟩; replace q1 := Lib.hid q1; refine Hid.out ?_)
  refine Lib.hid ?_
  have d2 := (Below.refl w1.heap.size w1).alloc (Nat.le_refl _) (.cells #[.int .u16 gn, .int .u8 gs, .int .i64 gi] 32)
  have HQ2 : Hid (Below w.heap.size w (w1.alloc (.cells #[.int .u16 gn, .int .u8 gs, .int .i64 gi] 32)) ∧ RtB (w1.alloc (.cells #[.int .u16 gn, .int .u8 gs, .int .i64 gi] 32)) w.heap.size (T.s : Int) a n c ∧ TabBlk (w1.alloc (.cells #[.int .u16 gn, .int .u8 gs, .int .i64 gi] 32)) b T ∧ MemsAt (w1.alloc (.cells #[.int .u16 gn, .int .u8 gs, .int .i64 gi] 32)) a (memsB T) ∧ Mb (w1.alloc (.cells #[.int .u16 gn, .int .u8 gs, .int .i64 gi] 32)) w1.heap.size ⟨gn, gs, gi⟩) := Lib.hid ⟨(HQ.out.1.trans (q1.out.mono HQ.out.1.size)).alloc (Nat.le_trans HQ.out.1.size q1.out.size) _, (HQ.out.2.1.on q1.out).on d2, (HQ.out.2.2.1.on q1.out).on d2, (HQ.out.2.2.2.on q1.out).on d2, Mb.new w1 ⟨gn, gs, gi⟩⟩
  have c0 := HQ2.out.2.1.c0; have c1 := HQ2.out.2.1.c1
  have HGB := Lib.hid (HG2.out _ HQ2.out.2.2.2.1)
  clear HGA HQ q1 d2 HG1
  go_wp2_with (go_at_call 29; refine HGB.out.mono ?_; rintro e w2 ⟨rfl, q2⟩; replace q2 := Lib.hid q2; refine Hid.out ?_)
  refine Lib.hid ?_
  have d3 := (Below.refl w2.heap.size w2).alloc (Nat.le_refl _) (.cells #[.int .u16 gn, .int .u8 gs, .int .i64 gi] 32)
  have HQ3 : Hid (Below w.heap.size w (w2.alloc (.cells #[.int .u16 gn, .int .u8 gs, .int .i64 gi] 32)) ∧ RtB (w2.alloc (.cells #[.int .u16 gn, .int .u8 gs, .int .i64 gi] 32)) w.heap.size (T.s : Int) a n c ∧ TabBlk (w2.alloc (.cells #[.int .u16 gn, .int .u8 gs, .int .i64 gi] 32)) b T ∧ MemsAt (w2.alloc (.cells #[.int .u16 gn, .int .u8 gs, .int .i64 gi] 32)) a (memsB T) ∧ Mb (w2.alloc (.cells #[.int .u16 gn, .int .u8 gs, .int .i64 gi] 32)) w1.heap.size ⟨gn, gs, gi⟩ ∧ Mb (w2.alloc (.cells #[.int .u16 gn, .int .u8 gs, .int .i64 gi] 32)) w2.heap.size ⟨gn, gs, gi⟩) := Lib.hid ⟨(HQ2.out.1.trans (q2.out.mono HQ2.out.1.size)).alloc (Nat.le_trans HQ2.out.1.size q2.out.size) _, (HQ2.out.2.1.on q2.out).on d3, (HQ2.out.2.2.1.on q2.out).on d3, (HQ2.out.2.2.2.1.on q2.out).on d3, (HQ2.out.2.2.2.2.on q2.out).on d3, Mb.new w2 ⟨gn, gs, gi⟩⟩
  have HLA := Lib.hid (HL1.out _ HQ3.out.2.2.1)
  clear HGB HQ2 q2 d3 c0 c1 HG2
  go_wp2_with (go_at_call 22; refine HLA.out.mono ?_; rintro e w3 ⟨al, nl, cl, rfl, hnl, hol, q3⟩; replace hnl := Lib.hid hnl; replace hol := Lib.hid hol; replace q3 := Lib.hid q3; refine Hid.out ?_)
  refine Lib.hid ?_
  have HQ4 : Hid (Below w.heap.size w w3 ∧ RtB w3 w.heap.size (T.s : Int) a n c ∧ TabBlk w3 b T ∧ MemsAt w3 a (memsB T) ∧ Mb w3 w1.heap.size ⟨gn, gs, gi⟩ ∧ Mb w3 w2.heap.size ⟨gn, gs, gi⟩) := Lib.hid ⟨HQ3.out.1.trans (q3.out.mono HQ3.out.1.size), HQ3.out.2.1.on q3.out, HQ3.out.2.2.1.on q3.out, HQ3.out.2.2.2.1.on q3.out, HQ3.out.2.2.2.2.1.on q3.out, HQ3.out.2.2.2.2.2.on q3.out⟩
  have HOl : Hid (OwnMx w3 w.heap.size (.slice al nl cl) (memsB T) ∧ ∀ q, al = some q → w.heap.size < q.block) := Lib.hid (by
    refine ⟨hol.out.base HQ3.out.1.size, fun q e => ?_⟩
    obtain ⟨x, y, e2, -, h1, -⟩ := hol.out.form
    simp only [Value.slice.injEq] at e2
    have h2 := (h1 q (e2.1.symm.trans e)).1
    have h3 := HQ3.out.2.1.lt
    omega)
  clear HQ3 HLA hol q3
  go_wp2_with fail
  generalize w1.heap.size = b7 at *
  generalize w2.heap.size = b9 at *
  have HC : Hid (∀ u, Below w3.heap.size w3 u → Below w.heap.size w u ∧ RtB u w.heap.size (T.s : Int) a n c ∧ TabBlk u b T ∧ MemsAt u a (memsB T) ∧ Mb u b7 ⟨gn, gs, gi⟩ ∧ Mb u b9 ⟨gn, gs, gi⟩ ∧ MemsAt u al (memsB T)) := Lib.hid (fun u hu => ⟨HQ4.out.1.trans (hu.mono HQ4.out.1.size), HQ4.out.2.1.on hu, HQ4.out.2.2.1.on hu, HQ4.out.2.2.2.1.on hu, HQ4.out.2.2.2.2.1.on hu, HQ4.out.2.2.2.2.2.on hu, HOl.out.1.mems.on hu⟩)
  have HX1 := Lib.hid (fun u (hu : Below w3.heap.size w3 u) => HSm.out al nl cl u (HC.out u hu).2.2.2.2.2.2 (HC.out u hu).2.2.2.1 hnl.out)
  have HX2 := Lib.hid (fun u (hu : Below w3.heap.size w3 u) => HS1.out u (HC.out u hu).2.2.1)
  have HX3 := Lib.hid (fun u (hu : Below w3.heap.size w3 u) => HS2.out u (HC.out u hu).2.2.2.1)
  have HX4 := Lib.hid (fun u (hu : Below w3.heap.size w3 u) => HT1.out u (HC.out u hu).2.2.1)
  have HX5 : Hid (∀ u, Below w3.heap.size w3 u → Calls Try.prog 33 #[.agg #[.int .u16 (T.s : Int), .slice a n c]] u (bTherePost (thereB T) u)) := Lib.hid (fun u hu => HT2.out u (HC.out u hu).2.2.2.1)
  have HX6 := Lib.hid (fun u (hu : Below w3.heap.size w3 u) => HP1.out u (HC.out u hu).2.2.1)
  have HX7 := Lib.hid (fun u (hu : Below w3.heap.size w3 u) => HP2.out u (HC.out u hu).2.2.2.1)
  have HTl : Hid ((thereB T).length ≤ 100000) := Lib.hid (by have := thereL_len (memsB T); have := HLo.out; unfold thereB; omega)
  clear HS1 HS2 HT1 HT2 HP1 HP2
  refine wp_region_any (by kernel_rfl) ?_
  change wpAny _ _ _ _ _ _ _ (World.drew _)
  have hS : (fun w' : World => Below w3.heap.size w3 w') w3.drew := (Below.refl _ w3).drew
  refine wpAny_of_held (S := fun w' => Below w3.heap.size w3 w') _ _ _ _ ?_
  refine wpAnyH_takeE (i := 0) (some 28) (v := ?_) rfl rfl (by as_aux_lemma => kernel_rfl) (by as_aux_lemma => kernel_rfl) (by as_aux_lemma => kernel_rfl) (fun _ _ _ h => h) (Or.inl ⟨by kernel_rfl, ?_⟩) hS ?_
  rotate_left
  · intro w hSw; have y0 := HC.out _ hSw; have c0 := y0.2.1.c0; have c1 := y0.2.1.c1; have a0 := y0.2.2.2.2.1.c0; have a1 := y0.2.2.2.2.1.c1; have a2 := y0.2.2.2.2.1.c2; have e0 := y0.2.2.2.2.2.1.c0; have e1 := y0.2.2.2.2.2.1.c1; have e2 := y0.2.2.2.2.2.1.c2; clear y0; dsimp only at a0 a1 a2 e0 e1 e2; go_simp
    first | done | with_reducible rfl
  refine wpAnyH_takeE (i := 1) (some 29) (v := ?_) rfl rfl (by as_aux_lemma => kernel_rfl) (by as_aux_lemma => kernel_rfl) (by as_aux_lemma => kernel_rfl) (fun _ _ _ h => h) (Or.inl ⟨by kernel_rfl, ?_⟩) hS ?_
  rotate_left
  · intro w hSw; have y0 := HC.out _ hSw; have c0 := y0.2.1.c0; have c1 := y0.2.1.c1; have a0 := y0.2.2.2.2.1.c0; have a1 := y0.2.2.2.2.1.c1; have a2 := y0.2.2.2.2.1.c2; have e0 := y0.2.2.2.2.2.1.c0; have e1 := y0.2.2.2.2.2.1.c1; have e2 := y0.2.2.2.2.2.1.c2; clear y0; dsimp only at a0 a1 a2 e0 e1 e2; go_simp
    first | done | with_reducible rfl
  refine wpAnyH_takeE (i := 2) (some 30) (v := ?_) rfl rfl (by as_aux_lemma => kernel_rfl) (by as_aux_lemma => kernel_rfl) (by as_aux_lemma => kernel_rfl) (fun _ _ _ h => h) (Or.inl ⟨by kernel_rfl, ?_⟩) hS ?_
  rotate_left
  · intro w hSw; have y0 := HC.out _ hSw; have c0 := y0.2.1.c0; have c1 := y0.2.1.c1; have a0 := y0.2.2.2.2.1.c0; have a1 := y0.2.2.2.2.1.c1; have a2 := y0.2.2.2.2.1.c2; have e0 := y0.2.2.2.2.2.1.c0; have e1 := y0.2.2.2.2.2.1.c1; have e2 := y0.2.2.2.2.2.1.c2; clear y0; dsimp only at a0 a1 a2 e0 e1 e2; go_simp
    first | done | with_reducible rfl
  refine wpAnyH_ready (rs := [3]) (by as_aux_lemma => kernel_rfl) (by simp) ?_
  refine AllReadyH.cons rfl (fun K hK => ?_) AllReadyH.nil
  go_simp
  go_wp2_with (go_at_call 25; refine (HX1.out _ hS).mono ?_; rintro e v1 ⟨rfl, q1⟩)
  refine hK.out _ _ ?_ (fun hS => ?_)
  · exact hS.trans (q1.mono hS.size)
  clear hK K
  refine wpAnyH_takeE (i := 4) (some 32) (v := ?_) rfl rfl (by as_aux_lemma => kernel_rfl) (by as_aux_lemma => kernel_rfl) (by as_aux_lemma => kernel_rfl) (fun _ _ _ h => h) (Or.inl ⟨by kernel_rfl, ?_⟩) hS ?_
  rotate_left
  · intro w hSw; have y0 := HC.out _ hSw; have c0 := y0.2.1.c0; have c1 := y0.2.1.c1; have a0 := y0.2.2.2.2.1.c0; have a1 := y0.2.2.2.2.1.c1; have a2 := y0.2.2.2.2.1.c2; have e0 := y0.2.2.2.2.2.1.c0; have e1 := y0.2.2.2.2.2.1.c1; have e2 := y0.2.2.2.2.2.1.c2; clear y0; dsimp only at a0 a1 a2 e0 e1 e2; go_simp
    first | done | with_reducible rfl
  refine wpAnyH_takeE (i := 5) (some 33) (v := ?_) rfl rfl (by as_aux_lemma => kernel_rfl) (by as_aux_lemma => kernel_rfl) (by as_aux_lemma => kernel_rfl) (fun _ _ _ h => h) (Or.inl ⟨by kernel_rfl, ?_⟩) hS ?_
  rotate_left
  · intro w hSw; have y0 := HC.out _ hSw; have c0 := y0.2.1.c0; have c1 := y0.2.1.c1; have a0 := y0.2.2.2.2.1.c0; have a1 := y0.2.2.2.2.1.c1; have a2 := y0.2.2.2.2.1.c2; have e0 := y0.2.2.2.2.2.1.c0; have e1 := y0.2.2.2.2.2.1.c1; have e2 := y0.2.2.2.2.2.1.c2; clear y0; dsimp only at a0 a1 a2 e0 e1 e2; go_simp
    first | done | with_reducible rfl
  refine wpAnyH_takeE (i := 6) (some 34) (v := ?_) rfl rfl (by as_aux_lemma => kernel_rfl) (by as_aux_lemma => kernel_rfl) (by as_aux_lemma => kernel_rfl) (fun _ _ _ h => h) (Or.inl ⟨by kernel_rfl, ?_⟩) hS ?_
  rotate_left
  · intro w hSw; have y0 := HC.out _ hSw; have c0 := y0.2.1.c0; have c1 := y0.2.1.c1; have a0 := y0.2.2.2.2.1.c0; have a1 := y0.2.2.2.2.1.c1; have a2 := y0.2.2.2.2.1.c2; have e0 := y0.2.2.2.2.2.1.c0; have e1 := y0.2.2.2.2.2.1.c1; have e2 := y0.2.2.2.2.2.1.c2; clear y0; dsimp only at a0 a1 a2 e0 e1 e2; go_simp
    first | done | with_reducible rfl
  refine wpAnyH_takeE (i := 7) (some 35) (v := ?_) rfl rfl (by as_aux_lemma => kernel_rfl) (by as_aux_lemma => kernel_rfl) (by as_aux_lemma => kernel_rfl) (fun _ _ _ h => h) (Or.inl ⟨by kernel_rfl, ?_⟩) hS ?_
  rotate_left
  · intro w hSw; have y0 := HC.out _ hSw; have c0 := y0.2.1.c0; have c1 := y0.2.1.c1; have a0 := y0.2.2.2.2.1.c0; have a1 := y0.2.2.2.2.1.c1; have a2 := y0.2.2.2.2.1.c2; have e0 := y0.2.2.2.2.2.1.c0; have e1 := y0.2.2.2.2.2.1.c1; have e2 := y0.2.2.2.2.2.1.c2; clear y0; dsimp only at a0 a1 a2 e0 e1 e2; go_simp
    first | done | with_reducible rfl
  refine wpAnyH_takeE (i := 8) (some 36) (v := ?_) rfl rfl (by as_aux_lemma => kernel_rfl) (by as_aux_lemma => kernel_rfl) (by as_aux_lemma => kernel_rfl) (fun _ _ _ h => h) (Or.inl ⟨by kernel_rfl, ?_⟩) hS ?_
  rotate_left
  · intro w hSw; have y0 := HC.out _ hSw; have c0 := y0.2.1.c0; have c1 := y0.2.1.c1; have a0 := y0.2.2.2.2.1.c0; have a1 := y0.2.2.2.2.1.c1; have a2 := y0.2.2.2.2.1.c2; have e0 := y0.2.2.2.2.2.1.c0; have e1 := y0.2.2.2.2.2.1.c1; have e2 := y0.2.2.2.2.2.1.c2; clear y0; dsimp only at a0 a1 a2 e0 e1 e2; go_simp
    first | done | with_reducible rfl
  refine wpAnyH_takeE (i := 9) (some 37) (v := ?_) rfl rfl (by as_aux_lemma => kernel_rfl) (by as_aux_lemma => kernel_rfl) (by as_aux_lemma => kernel_rfl) (fun _ _ _ h => h) (Or.inl ⟨by kernel_rfl, ?_⟩) hS ?_
  rotate_left
  · intro w hSw; have y0 := HC.out _ hSw; have c0 := y0.2.1.c0; have c1 := y0.2.1.c1; have a0 := y0.2.2.2.2.1.c0; have a1 := y0.2.2.2.2.1.c1; have a2 := y0.2.2.2.2.1.c2; have e0 := y0.2.2.2.2.2.1.c0; have e1 := y0.2.2.2.2.2.1.c1; have e2 := y0.2.2.2.2.2.1.c2; clear y0; dsimp only at a0 a1 a2 e0 e1 e2; go_simp
    first | done | with_reducible rfl
  refine wpAnyH_takeE (i := 10) (some 38) (v := ?_) rfl rfl (by as_aux_lemma => kernel_rfl) (by as_aux_lemma => kernel_rfl) (by as_aux_lemma => kernel_rfl) (fun _ _ _ h => h) (Or.inl ⟨by kernel_rfl, ?_⟩) hS ?_
  rotate_left
  · intro w hSw; have y0 := HC.out _ hSw; have c0 := y0.2.1.c0; have c1 := y0.2.1.c1; have a0 := y0.2.2.2.2.1.c0; have a1 := y0.2.2.2.2.1.c1; have a2 := y0.2.2.2.2.1.c2; have e0 := y0.2.2.2.2.2.1.c0; have e1 := y0.2.2.2.2.2.1.c1; have e2 := y0.2.2.2.2.2.1.c2; clear y0; dsimp only at a0 a1 a2 e0 e1 e2; go_simp
    first | done | with_reducible rfl
  refine wpAnyH_takeE (i := 11) (some 39) (v := ?_) rfl rfl (by as_aux_lemma => kernel_rfl) (by as_aux_lemma => kernel_rfl) (by as_aux_lemma => kernel_rfl) (fun _ _ _ h => h) (Or.inl ⟨by kernel_rfl, ?_⟩) hS ?_
  rotate_left
  · intro w hSw; have y0 := HC.out _ hSw; have c0 := y0.2.1.c0; have c1 := y0.2.1.c1; have a0 := y0.2.2.2.2.1.c0; have a1 := y0.2.2.2.2.1.c1; have a2 := y0.2.2.2.2.1.c2; have e0 := y0.2.2.2.2.2.1.c0; have e1 := y0.2.2.2.2.2.1.c1; have e2 := y0.2.2.2.2.2.1.c2; clear y0; dsimp only at a0 a1 a2 e0 e1 e2; go_simp
    first | done | with_reducible rfl
  refine wpAnyH_takeE (i := 12) (some 40) (v := ?_) rfl rfl (by as_aux_lemma => kernel_rfl) (by as_aux_lemma => kernel_rfl) (by as_aux_lemma => kernel_rfl) (fun _ _ _ h => h) (Or.inl ⟨by kernel_rfl, ?_⟩) hS ?_
  rotate_left
  · intro w hSw; have y0 := HC.out _ hSw; have c0 := y0.2.1.c0; have c1 := y0.2.1.c1; have a0 := y0.2.2.2.2.1.c0; have a1 := y0.2.2.2.2.1.c1; have a2 := y0.2.2.2.2.1.c2; have e0 := y0.2.2.2.2.2.1.c0; have e1 := y0.2.2.2.2.2.1.c1; have e2 := y0.2.2.2.2.2.1.c2; clear y0; dsimp only at a0 a1 a2 e0 e1 e2; go_simp
    first | done | with_reducible rfl
  refine wpAnyH_takeE (i := 13) (some 41) (v := ?_) rfl rfl (by as_aux_lemma => kernel_rfl) (by as_aux_lemma => kernel_rfl) (by as_aux_lemma => kernel_rfl) (fun _ _ _ h => h) (Or.inl ⟨by kernel_rfl, ?_⟩) hS ?_
  rotate_left
  · intro w hSw; have y0 := HC.out _ hSw; have c0 := y0.2.1.c0; have c1 := y0.2.1.c1; have a0 := y0.2.2.2.2.1.c0; have a1 := y0.2.2.2.2.1.c1; have a2 := y0.2.2.2.2.1.c2; have e0 := y0.2.2.2.2.2.1.c0; have e1 := y0.2.2.2.2.2.1.c1; have e2 := y0.2.2.2.2.2.1.c2; clear y0; dsimp only at a0 a1 a2 e0 e1 e2; go_simp
    first | done | with_reducible rfl
  refine wpAnyH_takeE (i := 14) (some 42) (v := ?_) rfl rfl (by as_aux_lemma => kernel_rfl) (by as_aux_lemma => kernel_rfl) (by as_aux_lemma => kernel_rfl) (fun _ _ _ h => h) (Or.inl ⟨by kernel_rfl, ?_⟩) hS ?_
  rotate_left
  · intro w hSw; have y0 := HC.out _ hSw; have c0 := y0.2.1.c0; have c1 := y0.2.1.c1; have a0 := y0.2.2.2.2.1.c0; have a1 := y0.2.2.2.2.1.c1; have a2 := y0.2.2.2.2.1.c2; have e0 := y0.2.2.2.2.2.1.c0; have e1 := y0.2.2.2.2.2.1.c1; have e2 := y0.2.2.2.2.2.1.c2; clear y0; dsimp only at a0 a1 a2 e0 e1 e2; go_simp
    first | done | with_reducible rfl
  refine wpAnyH_takeE (i := 15) (some 43) (v := ?_) rfl rfl (by as_aux_lemma => kernel_rfl) (by as_aux_lemma => kernel_rfl) (by as_aux_lemma => kernel_rfl) (fun _ _ _ h => h) (Or.inl ⟨by kernel_rfl, ?_⟩) hS ?_
  rotate_left
  · intro w hSw; have y0 := HC.out _ hSw; have c0 := y0.2.1.c0; have c1 := y0.2.1.c1; have a0 := y0.2.2.2.2.1.c0; have a1 := y0.2.2.2.2.1.c1; have a2 := y0.2.2.2.2.1.c2; have e0 := y0.2.2.2.2.2.1.c0; have e1 := y0.2.2.2.2.2.1.c1; have e2 := y0.2.2.2.2.2.1.c2; clear y0; dsimp only at a0 a1 a2 e0 e1 e2; go_simp
    first | done | with_reducible rfl
  refine wpAnyH_takeE (i := 17) (some 45) (v := ?_) rfl rfl (by as_aux_lemma => kernel_rfl) (by as_aux_lemma => kernel_rfl) (by as_aux_lemma => kernel_rfl) (fun _ _ _ h => h) (Or.inl ⟨by kernel_rfl, ?_⟩) hS ?_
  rotate_left
  · intro w hSw; have y0 := HC.out _ hSw; have c0 := y0.2.1.c0; have c1 := y0.2.1.c1; have a0 := y0.2.2.2.2.1.c0; have a1 := y0.2.2.2.2.1.c1; have a2 := y0.2.2.2.2.1.c2; have e0 := y0.2.2.2.2.2.1.c0; have e1 := y0.2.2.2.2.2.1.c1; have e2 := y0.2.2.2.2.2.1.c2; clear y0; dsimp only at a0 a1 a2 e0 e1 e2; go_simp
    first | done | with_reducible rfl
  refine wpAnyH_ready (rs := [16]) (by as_aux_lemma => kernel_rfl) (by simp) ?_
  refine AllReadyH.cons rfl (fun K hK => ?_) AllReadyH.nil
  go_simp
  go_wp2_with (go_at_call 21; refine (HX2.out _ hS).mono ?_; rintro e v2 ⟨rfl, q2⟩)
  refine hK.out _ _ ?_ (fun hS => ?_)
  · exact hS.trans (q2.mono hS.size)
  clear hK K
  refine wpAnyH_ready (rs := [18]) (by as_aux_lemma => kernel_rfl) (by simp) ?_
  refine AllReadyH.cons rfl (fun K hK => ?_) AllReadyH.nil
  go_simp
  go_wp2_with (go_at_call 31; refine (HX3.out _ hS).mono ?_; rintro e v3 ⟨rfl, q3⟩)
  refine hK.out _ _ ?_ (fun hS => ?_)
  · exact hS.trans (q3.mono hS.size)
  clear hK K
  refine wpAnyH_takeE (i := 19) (some 47) (v := ?_) rfl rfl (by as_aux_lemma => kernel_rfl) (by as_aux_lemma => kernel_rfl) (by as_aux_lemma => kernel_rfl) (fun _ _ _ h => h) (Or.inl ⟨by kernel_rfl, ?_⟩) hS ?_
  rotate_left
  · intro w hSw; have y0 := HC.out _ hSw; have c0 := y0.2.1.c0; have c1 := y0.2.1.c1; have a0 := y0.2.2.2.2.1.c0; have a1 := y0.2.2.2.2.1.c1; have a2 := y0.2.2.2.2.1.c2; have e0 := y0.2.2.2.2.2.1.c0; have e1 := y0.2.2.2.2.2.1.c1; have e2 := y0.2.2.2.2.2.1.c2; clear y0; dsimp only at a0 a1 a2 e0 e1 e2; go_simp
    first | done | with_reducible rfl
  refine wpAnyH_takeE (i := 20) (some 48) (v := ?_) rfl rfl (by as_aux_lemma => kernel_rfl) (by as_aux_lemma => kernel_rfl) (by as_aux_lemma => kernel_rfl) (fun _ _ _ h => h) (Or.inl ⟨by kernel_rfl, ?_⟩) hS ?_
  rotate_left
  · intro w hSw; have y0 := HC.out _ hSw; have c0 := y0.2.1.c0; have c1 := y0.2.1.c1; have a0 := y0.2.2.2.2.1.c0; have a1 := y0.2.2.2.2.1.c1; have a2 := y0.2.2.2.2.1.c2; have e0 := y0.2.2.2.2.2.1.c0; have e1 := y0.2.2.2.2.2.1.c1; have e2 := y0.2.2.2.2.2.1.c2; clear y0; dsimp only at a0 a1 a2 e0 e1 e2; go_simp
    first | done | with_reducible rfl
  refine wpAnyH_takeE (i := 21) (some 49) (v := ?_) rfl rfl (by as_aux_lemma => kernel_rfl) (by as_aux_lemma => kernel_rfl) (by as_aux_lemma => kernel_rfl) (fun _ _ _ h => h) (Or.inl ⟨by kernel_rfl, ?_⟩) hS ?_
  rotate_left
  · intro w hSw; have y0 := HC.out _ hSw; have c0 := y0.2.1.c0; have c1 := y0.2.1.c1; have a0 := y0.2.2.2.2.1.c0; have a1 := y0.2.2.2.2.1.c1; have a2 := y0.2.2.2.2.1.c2; have e0 := y0.2.2.2.2.2.1.c0; have e1 := y0.2.2.2.2.2.1.c1; have e2 := y0.2.2.2.2.2.1.c2; clear y0; dsimp only at a0 a1 a2 e0 e1 e2; go_simp
    first | done | with_reducible rfl
  refine wpAnyH_takeE (i := 22) (some 50) (v := ?_) rfl rfl (by as_aux_lemma => kernel_rfl) (by as_aux_lemma => kernel_rfl) (by as_aux_lemma => kernel_rfl) (fun _ _ _ h => h) (Or.inl ⟨by kernel_rfl, ?_⟩) hS ?_
  rotate_left
  · intro w hSw; have y0 := HC.out _ hSw; have c0 := y0.2.1.c0; have c1 := y0.2.1.c1; have a0 := y0.2.2.2.2.1.c0; have a1 := y0.2.2.2.2.1.c1; have a2 := y0.2.2.2.2.1.c2; have e0 := y0.2.2.2.2.2.1.c0; have e1 := y0.2.2.2.2.2.1.c1; have e2 := y0.2.2.2.2.2.1.c2; clear y0; dsimp only at a0 a1 a2 e0 e1 e2; go_simp
    first | done | with_reducible rfl
  refine wpAnyH_takeE (i := 24) (some 52) (v := ?_) rfl rfl (by as_aux_lemma => kernel_rfl) (by as_aux_lemma => kernel_rfl) (by as_aux_lemma => kernel_rfl) (fun _ _ _ h => h) (Or.inl ⟨by kernel_rfl, ?_⟩) hS ?_
  rotate_left
  · intro w hSw; have y0 := HC.out _ hSw; have c0 := y0.2.1.c0; have c1 := y0.2.1.c1; have a0 := y0.2.2.2.2.1.c0; have a1 := y0.2.2.2.2.1.c1; have a2 := y0.2.2.2.2.1.c2; have e0 := y0.2.2.2.2.2.1.c0; have e1 := y0.2.2.2.2.2.1.c1; have e2 := y0.2.2.2.2.2.1.c2; clear y0; dsimp only at a0 a1 a2 e0 e1 e2; go_simp
    first | done | with_reducible rfl
  refine wpAnyH_ready (rs := [23]) (by as_aux_lemma => kernel_rfl) (by simp) ?_
  refine AllReadyH.cons rfl (fun K hK => ?_) AllReadyH.nil
  go_simp
  go_wp2_with (go_at_call 23; refine (HX4.out _ hS).mono ?_; rintro e v4 ⟨a4, n4, k4, rfl, hn4, ho4, q4⟩; replace hn4 := Lib.hid hn4)
  refine hK.out _ _ ?_ (fun hS => ?_)
  · exact hS.trans (q4.mono hS.size)
  clear hK K
  refine wpAnyH_ready (rs := [25]) (by as_aux_lemma => kernel_rfl) (by simp) ?_
  refine AllReadyH.cons rfl (fun K hK => ?_) AllReadyH.nil
  go_simp
  go_wp2_with (go_at_call 33; refine (HX5.out _ hS).mono ?_; rintro e v5 ⟨a5, n5, k5, rfl, hn5, ho5, q5⟩; replace hn5 := Lib.hid hn5)
  refine hK.out _ _ ?_ (fun hS => ?_)
  · exact hS.trans (q5.mono hS.size)
  clear hK K
  obtain rfl : n5 = n4 := hn5.out.trans hn4.out.symm
  have HSN := Lib.hid (brSameN_yes a4 a5 n5 k4 k5 (thereB T) v5 (by
    obtain ⟨x, y, e, -, h2⟩ := ho4.form
    simp only [Value.slice.injEq] at e
    obtain ⟨rfl, -⟩ := e
    exact h2.on q5) (by
    obtain ⟨x, y, e, -, h2⟩ := ho5.form
    simp only [Value.slice.injEq] at e
    obtain ⟨rfl, -⟩ := e
    exact h2) hn5.out HTl.out)
  clear hn4 ho4 ho5
  refine wpAnyH_ready (rs := [26]) (by as_aux_lemma => kernel_rfl) (by simp) ?_
  refine AllReadyH.cons rfl (fun K hK => ?_) AllReadyH.nil
  go_simp
  go_wp2_with (go_at_call 32; refine (HSN.out).mono ?_; rintro e v6 ⟨rfl, q6⟩)
  refine hK.out _ _ ?_ (fun hS => ?_)
  · exact hS.trans (q6.mono hS.size)
  clear hK K
  refine wpAnyH_takeE (i := 27) (some 55) (v := ?_) rfl rfl (by as_aux_lemma => kernel_rfl) (by as_aux_lemma => kernel_rfl) (by as_aux_lemma => kernel_rfl) (fun _ _ _ h => h) (Or.inl ⟨by kernel_rfl, ?_⟩) hS ?_
  rotate_left
  · intro w hSw; have y0 := HC.out _ hSw; have c0 := y0.2.1.c0; have c1 := y0.2.1.c1; have a0 := y0.2.2.2.2.1.c0; have a1 := y0.2.2.2.2.1.c1; have a2 := y0.2.2.2.2.1.c2; have e0 := y0.2.2.2.2.2.1.c0; have e1 := y0.2.2.2.2.2.1.c1; have e2 := y0.2.2.2.2.2.1.c2; clear y0; dsimp only at a0 a1 a2 e0 e1 e2; go_simp
    first | done | with_reducible rfl
  refine wpAnyH_takeE (i := 28) (some 56) (v := ?_) rfl rfl (by as_aux_lemma => kernel_rfl) (by as_aux_lemma => kernel_rfl) (by as_aux_lemma => kernel_rfl) (fun _ _ _ h => h) (Or.inl ⟨by kernel_rfl, ?_⟩) hS ?_
  rotate_left
  · intro w hSw; have y0 := HC.out _ hSw; have c0 := y0.2.1.c0; have c1 := y0.2.1.c1; have a0 := y0.2.2.2.2.1.c0; have a1 := y0.2.2.2.2.1.c1; have a2 := y0.2.2.2.2.1.c2; have e0 := y0.2.2.2.2.2.1.c0; have e1 := y0.2.2.2.2.2.1.c1; have e2 := y0.2.2.2.2.2.1.c2; clear y0; dsimp only at a0 a1 a2 e0 e1 e2; go_simp
    first | done | with_reducible rfl
  refine wpAnyH_takeE (i := 29) (some 57) (v := ?_) rfl rfl (by as_aux_lemma => kernel_rfl) (by as_aux_lemma => kernel_rfl) (by as_aux_lemma => kernel_rfl) (fun _ _ _ h => h) (Or.inl ⟨by kernel_rfl, ?_⟩) hS ?_
  rotate_left
  · intro w hSw; have y0 := HC.out _ hSw; have c0 := y0.2.1.c0; have c1 := y0.2.1.c1; have a0 := y0.2.2.2.2.1.c0; have a1 := y0.2.2.2.2.1.c1; have a2 := y0.2.2.2.2.1.c2; have e0 := y0.2.2.2.2.2.1.c0; have e1 := y0.2.2.2.2.2.1.c1; have e2 := y0.2.2.2.2.2.1.c2; clear y0; dsimp only at a0 a1 a2 e0 e1 e2; go_simp
    first | done | with_reducible rfl
  refine wpAnyH_takeE (i := 31) (some 59) (v := ?_) rfl rfl (by as_aux_lemma => kernel_rfl) (by as_aux_lemma => kernel_rfl) (by as_aux_lemma => kernel_rfl) (fun _ _ _ h => h) (Or.inl ⟨by kernel_rfl, ?_⟩) hS ?_
  rotate_left
  · intro w hSw; have y0 := HC.out _ hSw; have c0 := y0.2.1.c0; have c1 := y0.2.1.c1; have a0 := y0.2.2.2.2.1.c0; have a1 := y0.2.2.2.2.1.c1; have a2 := y0.2.2.2.2.1.c2; have e0 := y0.2.2.2.2.2.1.c0; have e1 := y0.2.2.2.2.2.1.c1; have e2 := y0.2.2.2.2.2.1.c2; clear y0; dsimp only at a0 a1 a2 e0 e1 e2; go_simp
    first | done | with_reducible rfl
  refine wpAnyH_ready (rs := [30]) (by as_aux_lemma => kernel_rfl) (by simp) ?_
  refine AllReadyH.cons rfl (fun K hK => ?_) AllReadyH.nil
  go_simp
  go_wp2_with (go_at_call 24; refine (HX6.out _ hS).mono ?_; rintro e v7 ⟨rfl, q7⟩)
  refine hK.out _ _ ?_ (fun hS => ?_)
  · exact hS.trans (q7.mono hS.size)
  clear hK K
  refine wpAnyH_ready (rs := [32]) (by as_aux_lemma => kernel_rfl) (by simp) ?_
  refine AllReadyH.cons rfl (fun K hK => ?_) AllReadyH.nil
  go_simp
  go_wp2_with (go_at_call 34; refine (HX7.out _ hS).mono ?_; rintro e v8 ⟨rfl, q8⟩)
  refine hK.out _ _ ?_ (fun hS => ?_)
  · exact hS.trans (q8.mono hS.size)
  clear hK K
  refine wpAnyH_takeE (i := 33) (some 61) (v := ?_) rfl rfl (by as_aux_lemma => kernel_rfl) (by as_aux_lemma => kernel_rfl) (by as_aux_lemma => kernel_rfl) (fun _ _ _ h => h) (Or.inl ⟨by kernel_rfl, ?_⟩) hS ?_
  rotate_left
  · intro w hSw; have y0 := HC.out _ hSw; have c0 := y0.2.1.c0; have c1 := y0.2.1.c1; have a0 := y0.2.2.2.2.1.c0; have a1 := y0.2.2.2.2.1.c1; have a2 := y0.2.2.2.2.1.c2; have e0 := y0.2.2.2.2.2.1.c0; have e1 := y0.2.2.2.2.2.1.c1; have e2 := y0.2.2.2.2.2.1.c2; clear y0; dsimp only at a0 a1 a2 e0 e1 e2; go_simp
    first | done | with_reducible rfl
  refine wpAnyH_takeE (i := 34) (some 62) (v := ?_) rfl rfl (by as_aux_lemma => kernel_rfl) (by as_aux_lemma => kernel_rfl) (by as_aux_lemma => kernel_rfl) (fun _ _ _ h => h) (Or.inl ⟨by kernel_rfl, ?_⟩) hS ?_
  rotate_left
  · intro w hSw; have y0 := HC.out _ hSw; have c0 := y0.2.1.c0; have c1 := y0.2.1.c1; have a0 := y0.2.2.2.2.1.c0; have a1 := y0.2.2.2.2.1.c1; have a2 := y0.2.2.2.2.1.c2; have e0 := y0.2.2.2.2.2.1.c0; have e1 := y0.2.2.2.2.2.1.c1; have e2 := y0.2.2.2.2.2.1.c2; clear y0; dsimp only at a0 a1 a2 e0 e1 e2; go_simp
    first | done | with_reducible rfl
  refine wpAnyH_takeE (i := 35) (some 12) (v := ?_) rfl rfl (by as_aux_lemma => kernel_rfl) (by as_aux_lemma => kernel_rfl) (by as_aux_lemma => kernel_rfl) (fun _ _ _ h => h) (Or.inl ⟨by kernel_rfl, ?_⟩) hS ?_
  rotate_left
  · intro w hSw; have y0 := HC.out _ hSw; have c0 := y0.2.1.c0; have c1 := y0.2.1.c1; have a0 := y0.2.2.2.2.1.c0; have a1 := y0.2.2.2.2.1.c1; have a2 := y0.2.2.2.2.1.c2; have e0 := y0.2.2.2.2.2.1.c0; have e1 := y0.2.2.2.2.2.1.c1; have e2 := y0.2.2.2.2.2.1.c2; clear y0; dsimp only at a0 a1 a2 e0 e1 e2; go_simp
    first | done | with_reducible rfl
  refine wpAnyH_done (by kernel_rfl) ?_ _
  obtain ⟨gl, rfl, hgl, hgs, hnl2, hrow⟩ := HOl.out.1.rowI HP.out
  have hgw := HOl.out.2 _ rfl
  have HR8 : Hid (RowI v8 gl nl) := Lib.hid (by
    obtain ⟨cur, h1, h2⟩ := hrow
    exact ⟨cur, (hS.block gl hgs).trans h1, h2⟩)
  have HC8 := Lib.hid (HC.out v8 hS)
  have hn64 : nl ≤ 64 := by have := HLo.out; omega
  have HGw := Lib.hid hgw
  clear hS hrow HSN q1 q2 q3 q4 q5 q6 q7 q8 hn5 HX1 HX2 HX3 HX4 HX5 HX6 HX7 HC HQ4 HOl hgl hgs hgw
  generalize posB T = pT at *
  go_simp
  go_wp2
  go_loopw [13] (fun x wr => ∃ (i : Nat), i ≤ nl ∧ x = .int .i64 (i : Int) ∧ Hid (RowI wr gl nl ∧ v8.grownBy wr (some gl))) (fun x _ => nl - (intOf x).toNat)
  case atStart => exact ⟨0, Nat.zero_le _, rfl, Lib.hid ⟨HR8.out, grownBy_refl _ _⟩⟩
  case round =>
    clear HR8
    obtain ⟨i, hi, rfl, HW⟩ := hrel
    by_cases hlt : i < nl
    case pos =>
      have hkl : (i : Int) < (nl : Int) := by omega
      obtain ⟨z, hz, hf⟩ := HW.out.1.get hlt
      have HST : Hid (∀ y : Int, RowI (wr.setCell ⟨gl, i * 3 + 2, none⟩ (.int .i64 y)) gl nl ∧ v8.grownBy (wr.setCell ⟨gl, i * 3 + 2, none⟩ (.int .i64 y)) (some gl)) := Lib.hid (fun y => ⟨HW.out.1.set i y, grownBy_trans HW.out.2 (grownBy_setCell _ _ _ _)⟩)
      clear HW
      go_wp2
      go_roundw
      case rel => exact ⟨i + 1, by omega, by go_num, Lib.hid (HST.out _)⟩
      case measure => simp [intOf]; omega
    case neg =>
      have hkl : ¬ (i : Int) < (nl : Int) := by omega
      have HC9 : Hid (Below w.heap.size w wr ∧ RtB wr w.heap.size (T.s : Int) a n c ∧ TabBlk wr b T ∧ MemsAt wr a (memsB T)) := Lib.hid (by
        have hg := HW.out.2
        have hc := HC8.out
        have hgw := HGw.out
        have hbb := HB0.out
        refine ⟨hc.1.grown hg hc.1.size (fun j e => by cases e; omega), hc.2.1.kept hg (by simp; omega), hc.2.2.1.kept hg (by simp; omega), hc.2.2.2.1.skip hg (fun q e => ?_)⟩
        have := HAl.out q e
        omega)
      clear HW HC8 HGw
      go_wp2_with fail
      have HC : Hid (∀ u, Below wr.heap.size wr u → RtB u w.heap.size (T.s : Int) a n c ∧ TabBlk u b T ∧ MemsAt u a (memsB T)) := Lib.hid (fun u hu => ⟨HC9.out.2.1.on hu, HC9.out.2.2.1.on hu, HC9.out.2.2.2.on hu⟩)
      have HX1 := Lib.hid (fun u (hu : Below wr.heap.size wr u) => HL1.out u (HC.out u hu).2.1)
      refine wp_region_any (by kernel_rfl) ?_
      change wpAny _ _ _ _ _ _ _ (World.drew _)
      have hS : (fun w' : World => Below wr.heap.size wr w') wr.drew := (Below.refl _ wr).drew
      refine wpAny_of_held (S := fun w' => Below wr.heap.size wr w') _ _ _ _ ?_
      refine wpAnyH_takeE (i := 0) (some 77) (v := ?_) rfl rfl (by as_aux_lemma => kernel_rfl) (by as_aux_lemma => kernel_rfl) (by as_aux_lemma => kernel_rfl) (fun _ _ _ h => h) (Or.inl ⟨by kernel_rfl, ?_⟩) hS ?_
      rotate_left
      · intro w hSw; have y0 := HC.out _ hSw; have c0 := y0.1.c0; have c1 := y0.1.c1; clear y0; go_simp
        first | done | with_reducible rfl
      refine wpAnyH_takeE (i := 1) (some 78) (v := ?_) rfl rfl (by as_aux_lemma => kernel_rfl) (by as_aux_lemma => kernel_rfl) (by as_aux_lemma => kernel_rfl) (fun _ _ _ h => h) (Or.inl ⟨by kernel_rfl, ?_⟩) hS ?_
      rotate_left
      · intro w hSw; have y0 := HC.out _ hSw; have c0 := y0.1.c0; have c1 := y0.1.c1; clear y0; go_simp
        first | done | with_reducible rfl
      refine wpAnyH_takeE (i := 2) (some 79) (v := ?_) rfl rfl (by as_aux_lemma => kernel_rfl) (by as_aux_lemma => kernel_rfl) (by as_aux_lemma => kernel_rfl) (fun _ _ _ h => h) (Or.inl ⟨by kernel_rfl, ?_⟩) hS ?_
      rotate_left
      · intro w hSw; have y0 := HC.out _ hSw; have c0 := y0.1.c0; have c1 := y0.1.c1; clear y0; go_simp
        first | done | with_reducible rfl
      refine wpAnyH_takeE (i := 4) (some 81) (v := ?_) rfl rfl (by as_aux_lemma => kernel_rfl) (by as_aux_lemma => kernel_rfl) (by as_aux_lemma => kernel_rfl) (fun _ _ _ h => h) (Or.inl ⟨by kernel_rfl, ?_⟩) hS ?_
      rotate_left
      · intro w hSw; have y0 := HC.out _ hSw; have c0 := y0.1.c0; have c1 := y0.1.c1; clear y0; go_simp
        first | done | with_reducible rfl
      refine wpAnyH_takeE (i := 5) (some 82) (v := ?_) rfl rfl (by as_aux_lemma => kernel_rfl) (by as_aux_lemma => kernel_rfl) (by as_aux_lemma => kernel_rfl) (fun _ _ _ h => h) (Or.inl ⟨by kernel_rfl, ?_⟩) hS ?_
      rotate_left
      · intro w hSw; have y0 := HC.out _ hSw; have c0 := y0.1.c0; have c1 := y0.1.c1; clear y0; go_simp
        first | done | with_reducible rfl
      refine wpAnyH_ready (rs := [3]) (by as_aux_lemma => kernel_rfl) (by simp) ?_
      refine AllReadyH.cons rfl (fun K hK => ?_) AllReadyH.nil
      go_simp
      go_wp2_with (go_at_call 22; refine (HX1.out _ hS).mono ?_; rintro e v9 ⟨a9, n9, k9, rfl, hn9, ho9, q9⟩; replace hn9 := Lib.hid hn9)
      refine hK.out _ _ ?_ (fun hS => ?_)
      · exact hS.trans (q9.mono hS.size)
      clear hK K
      have HX2 := Lib.hid (HSm.out a9 n9 k9 v9 ho9.mems (HC.out _ hS).2.2 hn9.out)
      clear ho9 hn9
      refine wpAnyH_ready (rs := [6]) (by as_aux_lemma => kernel_rfl) (by simp) ?_
      refine AllReadyH.cons rfl (fun K hK => ?_) AllReadyH.nil
      go_simp
      go_wp2_with (go_at_call 25; refine HX2.out.mono ?_; rintro e va ⟨rfl, qa⟩)
      refine hK.out _ _ ?_ (fun hS => ?_)
      · exact hS.trans (qa.mono hS.size)
      clear hK K
      refine wpAnyH_takeE (i := 7) (some 84) (v := ?_) rfl rfl (by as_aux_lemma => kernel_rfl) (by as_aux_lemma => kernel_rfl) (by as_aux_lemma => kernel_rfl) (fun _ _ _ h => h) (Or.inl ⟨by kernel_rfl, ?_⟩) hS ?_
      rotate_left
      · intro w hSw; have y0 := HC.out _ hSw; have c0 := y0.1.c0; have c1 := y0.1.c1; clear y0; go_simp
        first | done | with_reducible rfl
      refine wpAnyH_takeE (i := 8) (some 6) (v := ?_) rfl rfl (by as_aux_lemma => kernel_rfl) (by as_aux_lemma => kernel_rfl) (by as_aux_lemma => kernel_rfl) (fun _ _ _ h => h) (Or.inl ⟨by kernel_rfl, ?_⟩) hS ?_
      rotate_left
      · intro w hSw; have y0 := HC.out _ hSw; have c0 := y0.1.c0; have c1 := y0.1.c1; clear y0; go_simp
        first | done | with_reducible rfl
      refine wpAnyH_done (by kernel_rfl) ?_ _
      have HE := Lib.hid (HC9.out.1.trans (hS.mono HC9.out.1.size))
      go_simp
      go_wp2
      go_ret
      exact ⟨rfl, HE.out⟩

end Go.Proofs.Ytccldbophonloaa
