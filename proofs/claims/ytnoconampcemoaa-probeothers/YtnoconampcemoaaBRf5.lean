/-
  The reference of layer 15: Hear, walked.
-/
import Derived.Test.YtnoconampcemoaaBRf4
namespace Go.Proofs.Ytnoconampcemoaa
open Go Go.RowKit

set_option maxRecDepth 20000 in
set_option maxHeartbeats 8000000 in
theorem brHear_bad (a : Option Addr) (n c : Nat) (T : Tb) (hok : TbOk T) (k : Nat) (ms mi : Int) (w : World) (hM : MemsAt w a (memsB T)) (hn : n = (memsB T).length) (hmay : mayM ⟨(k : Int), ms, mi⟩ = false) :
    Calls Try.prog 28 #[.agg #[.int .u16 (T.s : Int), .slice a n c], .agg #[.int .u16 (k : Int), .int .u8 ms, .int .i64 mi]] w (HearRPost a T ⟨(k : Int), ms, mi⟩ w) := by
  have hno : newsB T ⟨(k : Int), ms, mi⟩ = false := by unfold newsB; rw [hmay]; rfl
  have HMw := Lib.hid hM
  have HNn : Hid (hearB T ⟨(k : Int), ms, mi⟩ = T) := Lib.hid (hearR_no hno)
  have HNw : Hid (heardM T ⟨(k : Int), ms, mi⟩ = zM ∧ newsB T ⟨(k : Int), ms, mi⟩ = false) := Lib.hid ⟨by unfold heardM; rw [hno]; rfl, hno⟩
  clear hno
  have e1 := (Below.refl w.heap.size w).alloc (Nat.le_refl _) (.cells #[.int .u16 (T.s : Int), .slice a n c] 35)
  have e2 := e1.alloc (by simp) (.cells #[.int .u16 (k : Int), .int .u8 ms, .int .i64 mi] 43)
  have e3 := e2.alloc (by simp; omega) (.cells #[.int .u16 0, .slice none 0 0] 35)
  have e4 := e3.alloc (by simp; omega) (.cells #[.int .u16 0, .int .u8 0, .int .i64 0] 43)
  have r2 := (((RtB.new w (T.s : Int) a n c).on ((Below.refl _ _).alloc (Nat.le_refl _) (.cells #[.int .u16 (k : Int), .int .u8 ms, .int .i64 mi] 43))).on ((Below.refl _ _).alloc (Nat.le_refl _) (.cells #[.int .u16 0, .slice none 0 0] 35))).on ((Below.refl _ _).alloc (Nat.le_refl _) (.cells #[.int .u16 0, .int .u8 0, .int .i64 0] 43))
  have b3 := ((Mb.new2 w (.cells #[.int .u16 (T.s : Int), .slice a n c] 35) ⟨(k : Int), ms, mi⟩).on ((Below.refl _ _).alloc (Nat.le_refl _) (.cells #[.int .u16 0, .slice none 0 0] 35))).on ((Below.refl _ _).alloc (Nat.le_refl _) (.cells #[.int .u16 0, .int .u8 0, .int .i64 0] 43))
  have r4 := (RtB.new ((w.alloc (.cells #[.int .u16 (T.s : Int), .slice a n c] 35)).alloc (.cells #[.int .u16 (k : Int), .int .u8 ms, .int .i64 mi] 43)) 0 none 0 0).on ((Below.refl _ _).alloc (Nat.le_refl _) (.cells #[.int .u16 0, .int .u8 0, .int .i64 0] 43))
  have b5 := Mb.new (((w.alloc (.cells #[.int .u16 (T.s : Int), .slice a n c] 35)).alloc (.cells #[.int .u16 (k : Int), .int .u8 ms, .int .i64 mi] 43)).alloc (.cells #[.int .u16 0, .slice none 0 0] 35)) zM
  have hl : (memsB T).length ≤ 64 := memsB_len T
  have hn1 : n ≤ 64 := by omega
  have HN := Lib.hid hn
  have HM := Lib.hid (hM.on e4)
  have HQ := Lib.hid (And.intro e4 (And.intro r2 (And.intro b3 (And.intro r4 b5))))
  simp only [World.size_alloc] at HQ
  have HK := Lib.hid hok
  clear hM hn e1 e2 e3 e4 r2 b3 r4 b5 hok
  unfold HearRPost
  obtain ⟨G, hG⟩ : ∃ G, G = memsB (hearB T ⟨(k : Int), ms, mi⟩) := ⟨_, rfl⟩
  rw [← hG]
  replace hG := Lib.hid hG
  skip
  go_enter Try.func28, Try.ntmps28
  go_wp2_with fail
  generalize (((w.alloc (.cells #[.int .u16 (T.s : Int), .slice a n c] 35)).alloc (.cells #[.int .u16 (k : Int), .int .u8 ms, .int .i64 mi] 43)).alloc (.cells #[.int .u16 0, .slice none 0 0] 35)).alloc (.cells #[.int .u16 0, .int .u8 0, .int .i64 0] 43) = W at *
  have HC : Hid (∀ u, Below W.heap.size W u → RtB u w.heap.size (T.s : Int) a n c ∧ Mb u (w.heap.size + 1) ⟨(k : Int), ms, mi⟩ ∧ RtB u (w.heap.size + 1 + 1) 0 none 0 0 ∧ Mb u (w.heap.size + 1 + 1 + 1) zM ∧ MemsAt u a (memsB T) ∧ Below w.heap.size w u) := Lib.hid (fun u hu => ⟨HQ.out.2.1.on hu, HQ.out.2.2.1.on hu, HQ.out.2.2.2.1.on hu, HQ.out.2.2.2.2.on hu, HM.out.on hu, HQ.out.1.trans (hu.mono HQ.out.1.size)⟩)
  have HSz2 : Hid (w.heap.size + 4 ≤ W.heap.size) := Lib.hid (by have := HQ.out.2.2.2.2.lt; omega)
  clear HQ
  obtain ⟨r2, b3, -, -, hmm, -⟩ := HC.out W (Below.refl _ _)
  have c0 := r2.c0; have c1 := r2.c1; have m0 := b3.c0
  dsimp only at m0
  obtain ⟨g, hg⟩ : ∃ g, g = atT T k := ⟨_, rfl⟩
  obtain ⟨gb, hgb⟩ : ∃ gb, gb = (T.f k).isSome := ⟨_, rfl⟩
  have HG0 := Lib.hid (brGet_any (T.s : Int) a n c (memsB T) k W hmm HN.out (by omega) g gb (by rw [getRl_mems HK.out, hg, hgb]))
  have Hg := Lib.hid hg
  have Hgb := Lib.hid hgb
  clear hg hgb r2 b3 hmm
  obtain ⟨gn, gs, gi⟩ := g
  dsimp only at HG0
  go_wp2_with (go_at_call 42; refine HG0.out.mono ?_; rintro e w1 ⟨rfl, q1⟩; replace q1 := Lib.hid q1; refine Hid.out ?_)
  refine Lib.hid ?_
  have HB1 : Hid (Below W.heap.size W (w1.alloc (.cells #[.int .u16 gn, .int .u8 gs, .int .i64 gi] 43))) := Lib.hid (q1.out.alloc q1.out.size _)
  have HY : Hid (Mb (w1.alloc (.cells #[.int .u16 gn, .int .u8 gs, .int .i64 gi] 43)) w1.heap.size ⟨gn, gs, gi⟩ ∧ W.heap.size ≤ w1.heap.size) := Lib.hid ⟨Mb.new w1 ⟨gn, gs, gi⟩, q1.out.size⟩
  clear HG0 q1 c0 c1 m0
  obtain ⟨w2, hw2⟩ : ∃ w2, w2 = w1.alloc (.cells #[.int .u16 gn, .int .u8 gs, .int .i64 gi] 43) := ⟨_, rfl⟩
  rw [← hw2] at HB1 HY
  obtain ⟨r2, b3, -, -, -, -⟩ := HC.out _ HB1.out
  have c0 := r2.c0; have c1 := r2.c1
  have m0 := b3.c0; have m1 := b3.c1; have m2 := b3.c2
  have y0 := HY.out.1.c0; have y1 := HY.out.1.c1; have y2 := HY.out.1.c2
  dsimp only at m0 m1 m2 y0 y1 y2
  clear r2 b3
  have HMay := Lib.hid (brMay_any ⟨(k : Int), ms, mi⟩ w2)
  have HAb := Lib.hid (fun u => brAbove_any ⟨(k : Int), ms, mi⟩ ⟨gn, gs, gi⟩ u)
  dsimp only at HMay HAb
  subst hw2
  rw [hmay] at HMay
  clear hmay HAb
  go_wp2_with (go_at_call 43; refine HMay.out.mono ?_; rintro e w3 ⟨rfl, q3⟩; skip; replace q3 := Lib.hid q3; refine Hid.out ?_)
  refine Lib.hid ?_
  have HB3 := Lib.hid (HB1.out.trans (q3.out.mono HB1.out.size))
  clear HB1 HY q3 c0 c1 m0 m1 m2 y0 y1 y2 HMay
  obtain ⟨r2, b3, r4, b5, -, hb4⟩ := HC.out _ HB3.out
  have c0 := r2.c0; have c1 := r2.c1
  have m0 := b3.c0; have m1 := b3.c1; have m2 := b3.c2; have mf := b3.f
  have z0 := r4.c0; have z1 := r4.c1; have zf := r4.f
  have x0 := b5.c0; have x1 := b5.c1; have x2 := b5.c2; have xf := b5.f
  dsimp only at m0 m1 m2 x0 x1 x2
  have HS4 : Hid (RtB (stM (stR w3 (w.heap.size + 1 + 1) (T.s : Int) a n c) (w.heap.size + 1 + 1 + 1) zM) (w.heap.size + 1 + 1) (T.s : Int) a n c ∧ Mb (stM (stR w3 (w.heap.size + 1 + 1) (T.s : Int) a n c) (w.heap.size + 1 + 1 + 1) zM) (w.heap.size + 1 + 1 + 1) zM ∧ Below w.heap.size w (stM (stR w3 (w.heap.size + 1 + 1) (T.s : Int) a n c) (w.heap.size + 1 + 1 + 1) zM) ∧ MemsAt (stM (stR w3 (w.heap.size + 1 + 1) (T.s : Int) a n c) (w.heap.size + 1 + 1 + 1) zM) a G) := Lib.hid (by
    have hbz := stM_below (stR_below (B := w.heap.size + 1 + 1) hb4 (by omega) (T.s : Int) a n c) (B := w.heap.size + 1 + 1 + 1) (by omega) zM
    refine ⟨(r4.store _ _ _ _).stM (by omega) _, (b5.stR (by omega) _ _ _ _).store _, hbz, ?_⟩
    rw [hG.out, HNn.out]
    exact HMw.out.on hbz)
  clear r2 b3 r4 b5 hb4
  go_wp2
  exact bodyPost_ret (results_rt3 rfl _ _ _ _ rfl rfl HS4.out.1 HS4.out.2.1) rfl ⟨a, n, c, by rw [HNw.out.1, HNw.out.2]; rfl, by rw [hG.out, HNn.out]; exact HN.out, HS4.out.2.2.2, fun q e => .inl e, HS4.out.2.2.1⟩

set_option maxRecDepth 20000 in
set_option maxHeartbeats 8000000 in
theorem brHear_low (a : Option Addr) (n c : Nat) (T : Tb) (hok : TbOk T) (k : Nat) (ms mi : Int) (w : World) (hM : MemsAt w a (memsB T)) (hn : n = (memsB T).length) (hmay : mayM ⟨(k : Int), ms, mi⟩ = true) (x : Mem) (hf : T.f k = some x) (hab : aboveM ⟨(k : Int), ms, mi⟩ x = false) :
    Calls Try.prog 28 #[.agg #[.int .u16 (T.s : Int), .slice a n c], .agg #[.int .u16 (k : Int), .int .u8 ms, .int .i64 mi]] w (HearRPost a T ⟨(k : Int), ms, mi⟩ w) := by
  have hno : newsB T ⟨(k : Int), ms, mi⟩ = false := by unfold newsB; rw [hmay]; dsimp only; rw [Int.toNat_natCast, hf]; simpa using hab
  have HMw := Lib.hid hM
  have HNn : Hid (hearB T ⟨(k : Int), ms, mi⟩ = T) := Lib.hid (hearR_no hno)
  have HNw : Hid (heardM T ⟨(k : Int), ms, mi⟩ = zM ∧ newsB T ⟨(k : Int), ms, mi⟩ = false) := Lib.hid ⟨by unfold heardM; rw [hno]; rfl, hno⟩
  clear hno
  have hat : atT T k = x := by unfold atT; rw [hf]; rfl
  have his : (T.f k).isSome = true := by rw [hf]; rfl
  have HAt := Lib.hid hat
  have HIs := Lib.hid his
  clear hf hat his
  have e1 := (Below.refl w.heap.size w).alloc (Nat.le_refl _) (.cells #[.int .u16 (T.s : Int), .slice a n c] 35)
  have e2 := e1.alloc (by simp) (.cells #[.int .u16 (k : Int), .int .u8 ms, .int .i64 mi] 43)
  have e3 := e2.alloc (by simp; omega) (.cells #[.int .u16 0, .slice none 0 0] 35)
  have e4 := e3.alloc (by simp; omega) (.cells #[.int .u16 0, .int .u8 0, .int .i64 0] 43)
  have r2 := (((RtB.new w (T.s : Int) a n c).on ((Below.refl _ _).alloc (Nat.le_refl _) (.cells #[.int .u16 (k : Int), .int .u8 ms, .int .i64 mi] 43))).on ((Below.refl _ _).alloc (Nat.le_refl _) (.cells #[.int .u16 0, .slice none 0 0] 35))).on ((Below.refl _ _).alloc (Nat.le_refl _) (.cells #[.int .u16 0, .int .u8 0, .int .i64 0] 43))
  have b3 := ((Mb.new2 w (.cells #[.int .u16 (T.s : Int), .slice a n c] 35) ⟨(k : Int), ms, mi⟩).on ((Below.refl _ _).alloc (Nat.le_refl _) (.cells #[.int .u16 0, .slice none 0 0] 35))).on ((Below.refl _ _).alloc (Nat.le_refl _) (.cells #[.int .u16 0, .int .u8 0, .int .i64 0] 43))
  have r4 := (RtB.new ((w.alloc (.cells #[.int .u16 (T.s : Int), .slice a n c] 35)).alloc (.cells #[.int .u16 (k : Int), .int .u8 ms, .int .i64 mi] 43)) 0 none 0 0).on ((Below.refl _ _).alloc (Nat.le_refl _) (.cells #[.int .u16 0, .int .u8 0, .int .i64 0] 43))
  have b5 := Mb.new (((w.alloc (.cells #[.int .u16 (T.s : Int), .slice a n c] 35)).alloc (.cells #[.int .u16 (k : Int), .int .u8 ms, .int .i64 mi] 43)).alloc (.cells #[.int .u16 0, .slice none 0 0] 35)) zM
  have hl : (memsB T).length ≤ 64 := memsB_len T
  have hn1 : n ≤ 64 := by omega
  have HN := Lib.hid hn
  have HM := Lib.hid (hM.on e4)
  have HQ := Lib.hid (And.intro e4 (And.intro r2 (And.intro b3 (And.intro r4 b5))))
  simp only [World.size_alloc] at HQ
  have HK := Lib.hid hok
  clear hM hn e1 e2 e3 e4 r2 b3 r4 b5 hok
  unfold HearRPost
  obtain ⟨G, hG⟩ : ∃ G, G = memsB (hearB T ⟨(k : Int), ms, mi⟩) := ⟨_, rfl⟩
  rw [← hG]
  replace hG := Lib.hid hG
  skip
  go_enter Try.func28, Try.ntmps28
  go_wp2_with fail
  generalize (((w.alloc (.cells #[.int .u16 (T.s : Int), .slice a n c] 35)).alloc (.cells #[.int .u16 (k : Int), .int .u8 ms, .int .i64 mi] 43)).alloc (.cells #[.int .u16 0, .slice none 0 0] 35)).alloc (.cells #[.int .u16 0, .int .u8 0, .int .i64 0] 43) = W at *
  have HC : Hid (∀ u, Below W.heap.size W u → RtB u w.heap.size (T.s : Int) a n c ∧ Mb u (w.heap.size + 1) ⟨(k : Int), ms, mi⟩ ∧ RtB u (w.heap.size + 1 + 1) 0 none 0 0 ∧ Mb u (w.heap.size + 1 + 1 + 1) zM ∧ MemsAt u a (memsB T) ∧ Below w.heap.size w u) := Lib.hid (fun u hu => ⟨HQ.out.2.1.on hu, HQ.out.2.2.1.on hu, HQ.out.2.2.2.1.on hu, HQ.out.2.2.2.2.on hu, HM.out.on hu, HQ.out.1.trans (hu.mono HQ.out.1.size)⟩)
  have HSz2 : Hid (w.heap.size + 4 ≤ W.heap.size) := Lib.hid (by have := HQ.out.2.2.2.2.lt; omega)
  clear HQ
  obtain ⟨r2, b3, -, -, hmm, -⟩ := HC.out W (Below.refl _ _)
  have c0 := r2.c0; have c1 := r2.c1; have m0 := b3.c0
  dsimp only at m0
  obtain ⟨g, hg⟩ : ∃ g, g = atT T k := ⟨_, rfl⟩
  obtain ⟨gb, hgb⟩ : ∃ gb, gb = (T.f k).isSome := ⟨_, rfl⟩
  have HG0 := Lib.hid (brGet_any (T.s : Int) a n c (memsB T) k W hmm HN.out (by omega) g gb (by rw [getRl_mems HK.out, hg, hgb]))
  have Hg := Lib.hid hg
  have Hgb := Lib.hid hgb
  clear hg hgb r2 b3 hmm
  obtain ⟨gn, gs, gi⟩ := g
  dsimp only at HG0
  go_wp2_with (go_at_call 42; refine HG0.out.mono ?_; rintro e w1 ⟨rfl, q1⟩; replace q1 := Lib.hid q1; refine Hid.out ?_)
  refine Lib.hid ?_
  have HB1 : Hid (Below W.heap.size W (w1.alloc (.cells #[.int .u16 gn, .int .u8 gs, .int .i64 gi] 43))) := Lib.hid (q1.out.alloc q1.out.size _)
  have HY : Hid (Mb (w1.alloc (.cells #[.int .u16 gn, .int .u8 gs, .int .i64 gi] 43)) w1.heap.size ⟨gn, gs, gi⟩ ∧ W.heap.size ≤ w1.heap.size) := Lib.hid ⟨Mb.new w1 ⟨gn, gs, gi⟩, q1.out.size⟩
  clear HG0 q1 c0 c1 m0
  obtain ⟨w2, hw2⟩ : ∃ w2, w2 = w1.alloc (.cells #[.int .u16 gn, .int .u8 gs, .int .i64 gi] 43) := ⟨_, rfl⟩
  rw [← hw2] at HB1 HY
  obtain ⟨r2, b3, -, -, -, -⟩ := HC.out _ HB1.out
  have c0 := r2.c0; have c1 := r2.c1
  have m0 := b3.c0; have m1 := b3.c1; have m2 := b3.c2
  have y0 := HY.out.1.c0; have y1 := HY.out.1.c1; have y2 := HY.out.1.c2
  dsimp only at m0 m1 m2 y0 y1 y2
  clear r2 b3
  have HMay := Lib.hid (brMay_any ⟨(k : Int), ms, mi⟩ w2)
  have HAb := Lib.hid (fun u => brAbove_any ⟨(k : Int), ms, mi⟩ ⟨gn, gs, gi⟩ u)
  dsimp only at HMay HAb
  subst hw2
  rw [hmay] at HMay
  obtain rfl : gb = true := Hgb.out.trans HIs.out
  rw [Hg.out.trans HAt.out, hab] at HAb
  clear hmay hab
  go_wp2_with (go_at_call 43; refine HMay.out.mono ?_; rintro e w3 ⟨rfl, q3⟩; have k0 := ((HC.out _ HB1.out).2.1.on q3).c0; have k1 := ((HC.out _ HB1.out).2.1.on q3).c1; have k2 := ((HC.out _ HB1.out).2.1.on q3).c2; have j0 := (HY.out.1.on q3).c0; have j1 := (HY.out.1.on q3).c1; have j2 := (HY.out.1.on q3).c2; dsimp only at k0 k1 k2 j0 j1 j2; replace q3 := Lib.hid q3; refine Hid.out ?_)
  refine Lib.hid ?_
  have HB3 := Lib.hid (HB1.out.trans (q3.out.mono HB1.out.size))
  clear HB1 q3 c0 c1 m0 m1 m2 y0 y1 y2 HMay
  go_wp2_with (go_at_call 44; refine (HAb.out _).mono ?_; rintro e w4 ⟨rfl, q4⟩; replace q4 := Lib.hid q4; refine Hid.out ?_)
  refine Lib.hid ?_
  have HB4 := Lib.hid (HB3.out.trans (q4.out.mono HB3.out.size))
  clear HB3 q4 HY k0 k1 k2 j0 j1 j2
  obtain ⟨r2, b3, r4, b5, -, hb4⟩ := HC.out _ HB4.out
  have c0 := r2.c0; have c1 := r2.c1
  have m0 := b3.c0; have m1 := b3.c1; have m2 := b3.c2; have mf := b3.f
  have z0 := r4.c0; have z1 := r4.c1; have zf := r4.f
  have x0 := b5.c0; have x1 := b5.c1; have x2 := b5.c2; have xf := b5.f
  dsimp only at m0 m1 m2 x0 x1 x2
  have HS4 : Hid (RtB (stM (stR w4 (w.heap.size + 1 + 1) (T.s : Int) a n c) (w.heap.size + 1 + 1 + 1) zM) (w.heap.size + 1 + 1) (T.s : Int) a n c ∧ Mb (stM (stR w4 (w.heap.size + 1 + 1) (T.s : Int) a n c) (w.heap.size + 1 + 1 + 1) zM) (w.heap.size + 1 + 1 + 1) zM ∧ Below w.heap.size w (stM (stR w4 (w.heap.size + 1 + 1) (T.s : Int) a n c) (w.heap.size + 1 + 1 + 1) zM) ∧ MemsAt (stM (stR w4 (w.heap.size + 1 + 1) (T.s : Int) a n c) (w.heap.size + 1 + 1 + 1) zM) a G) := Lib.hid (by
    have hbz := stM_below (stR_below (B := w.heap.size + 1 + 1) hb4 (by omega) (T.s : Int) a n c) (B := w.heap.size + 1 + 1 + 1) (by omega) zM
    refine ⟨(r4.store _ _ _ _).stM (by omega) _, (b5.stR (by omega) _ _ _ _).store _, hbz, ?_⟩
    rw [hG.out, HNn.out]
    exact HMw.out.on hbz)
  clear r2 b3 r4 b5 hb4
  go_wp2
  exact bodyPost_ret (results_rt3 rfl _ _ _ _ rfl rfl HS4.out.1 HS4.out.2.1) rfl ⟨a, n, c, by rw [HNw.out.1, HNw.out.2]; rfl, by rw [hG.out, HNn.out]; exact HN.out, HS4.out.2.2.2, fun q e => .inl e, HS4.out.2.2.1⟩

end Go.Proofs.Ytnoconampcemoaa
