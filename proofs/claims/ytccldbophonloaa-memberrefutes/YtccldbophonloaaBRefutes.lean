/-
  The walk of MemberRefutes.
-/
import Derived.Test.YtccldbophonloaaBW
namespace Go.Proofs.Ytccldbophonloaa
open Go Go.RowKit

theorem newB_self (s : Nat) : (newB s).f s = some ⟨s, 0, 0⟩ := by simp [newB]
theorem newB_other {s o : Nat} (h : s ≠ o) : (newB o).f s = none := by simp [newB, h]
theorem hear_yes {T : Tb} {m : Mem} {k : Nat} (hk : m.n = (k : Int)) (h : newsB T m = true) : (hearB T m).f k = some (saidM T m) := by
  unfold hearB
  rw [if_pos h]
  show (if k = (saidM T m).n.toNat then _ else _) = _
  rw [saidM_n, if_pos (by omega)]
theorem hear_no {T : Tb} {m : Mem} (h : newsB T m = false) : hearB T m = T := by
  unfold hearB
  rw [h]
  rfl
/-- Who is suspected says that it is alive; who hears both sees it alive. -/
theorem refutes_pure {s o : Nat} (hs : s < 64) (hne : s ≠ o) {ms mi : Int} (h0 : 0 ≤ ms) (hmay : mayM ⟨(s : Int), ms, mi⟩ = true) (hi : mi ≠ 1073741824) :
    ∃ xi : Int, (hearB (newB s) ⟨(s : Int), ms, mi⟩).f s = some ⟨(s : Int), 0, xi⟩ ∧ aboveM ⟨(s : Int), ms, mi⟩ ⟨(s : Int), 0, xi⟩ = false ∧ (newsB (newB s) ⟨(s : Int), ms, mi⟩ = true → saidM (newB s) ⟨(s : Int), ms, mi⟩ = ⟨(s : Int), 0, xi⟩) ∧
      (hearB (hearB (newB o) ⟨(s : Int), ms, mi⟩) ⟨(s : Int), 0, xi⟩).f s = some ⟨(s : Int), 0, xi⟩ := by
  obtain ⟨m1, m2, m3, m4⟩ := (mayM_iff _).1 hmay
  dsimp only at m1 m2 m3 m4
  have hu1 : newsB (newB o) ⟨(s : Int), ms, mi⟩ = true := by
    unfold newsB
    dsimp only
    rw [hmay, Int.toNat_natCast, newB_other hne]
    rfl
  have hsaid : saidM (newB o) ⟨(s : Int), ms, mi⟩ = ⟨(s : Int), ms, mi⟩ := by
    unfold saidM
    rw [if_neg (by show ¬ (s : Int) = (o : Int); omega)]
  have hu2 : (hearB (newB o) ⟨(s : Int), ms, mi⟩).f s = some ⟨(s : Int), ms, mi⟩ := by rw [hear_yes rfl hu1, hsaid]
  have hus : (hearB (newB o) ⟨(s : Int), ms, mi⟩).s = o := hearB_s _ _
  -- the second hearing
  have second : ∀ xi : Int, mayM ⟨(s : Int), 0, xi⟩ = true → (aboveM ⟨(s : Int), 0, xi⟩ ⟨(s : Int), ms, mi⟩ = true ∨ (ms = 0 ∧ xi = mi)) → (hearB (hearB (newB o) ⟨(s : Int), ms, mi⟩) ⟨(s : Int), 0, xi⟩).f s = some ⟨(s : Int), 0, xi⟩ := by
    intro xi hx h
    have hn : newsB (hearB (newB o) ⟨(s : Int), ms, mi⟩) ⟨(s : Int), 0, xi⟩ = aboveM ⟨(s : Int), 0, xi⟩ ⟨(s : Int), ms, mi⟩ := by
      unfold newsB
      dsimp only
      rw [hx, Int.toNat_natCast, hu2]
      rfl
    rcases h with h | ⟨rfl, rfl⟩
    · rw [hear_yes (k := s) rfl (hn.trans h)]
      unfold saidM
      rw [if_neg (by rw [hus]; show ¬ (s : Int) = (o : Int); omega)]
    · have : aboveM ⟨(s : Int), 0, xi⟩ ⟨(s : Int), 0, xi⟩ = false := by rw [aboveM_not]; omega
      rw [hear_no (hn.trans this)]
      exact hu2
  have hnews : newsB (newB s) ⟨(s : Int), ms, mi⟩ = aboveM ⟨(s : Int), ms, mi⟩ ⟨(s : Int), 0, 0⟩ := by
    unfold newsB
    dsimp only
    rw [hmay, Int.toNat_natCast, newB_self]
    rfl
  cases hab : aboveM ⟨(s : Int), ms, mi⟩ ⟨(s : Int), 0, 0⟩ with
  | false =>
    have hz := (aboveM_not _ _).1 hab
    dsimp only at hz
    refine ⟨0, ?_, hab, fun h => absurd (h.symm.trans (hnews.trans hab)) (by simp), second 0 (by rw [mayM_iff]; dsimp only; omega) (.inr (by omega))⟩
    rw [hear_no (hnews.trans hab)]
    exact newB_self s
  | true =>
    have hsd : saidM (newB s) ⟨(s : Int), ms, mi⟩ = denyM ⟨(s : Int), ms, mi⟩ := by
      unfold saidM
      exact if_pos rfl
    have hy := hear_yes (T := newB s) (m := ⟨(s : Int), ms, mi⟩) (k := s) rfl (hnews.trans hab)
    rw [hsd] at hy ⊢
    by_cases hms : ms = 0
    · subst hms
      have hd : denyM ⟨(s : Int), 0, mi⟩ = ⟨(s : Int), 0, mi⟩ := by unfold denyM; rw [if_pos (.inl rfl)]
      rw [hd] at hy ⊢
      exact ⟨mi, hy, by rw [aboveM_not]; omega, fun _ => rfl, second mi hmay (.inr ⟨rfl, rfl⟩)⟩
    · have hd : denyM ⟨(s : Int), ms, mi⟩ = ⟨(s : Int), 0, mi + 1⟩ := by unfold denyM; rw [if_neg (by rintro (h | h) <;> contradiction)]
      rw [hd] at hy ⊢
      exact ⟨mi + 1, hy, by rw [aboveM_not]; dsimp only; omega, fun _ => rfl, second (mi + 1) (by rw [mayM_iff]; dsimp only; omega) (.inl (by rw [aboveM_iff]; dsimp only; omega))⟩
/-- What is there while two tables hear of one of them. -/
structure FSt (W w : World) (B bt bu : Nat) (m : Mem) (T U : Tb) : Prop where
  m : Mb w B m
  t : TabBlk w bt T
  u : TabBlk w bu U
  le : W.heap.size ≤ B
  lt : B < bt
  lu : bt < bu
  below : Below W.heap.size W w
theorem FSt.on {W w v : World} {B bt bu : Nat} {m : Mem} {T U : Tb} (h : FSt W w B bt bu m T U) (q : Below w.heap.size w v) : FSt W v B bt bu m T U :=
  ⟨h.m.on q, h.t.on q, h.u.on q, h.le, h.lt, h.lu, h.below.trans (q.mono h.below.size)⟩
theorem FSt.alloc {W w : World} {B bt bu : Nat} {m : Mem} {T U : Tb} (h : FSt W w B bt bu m T U) (x : Obj) : FSt W (w.alloc x) B bt bu m T U := h.on ((Below.refl _ w).alloc (Nat.le_refl _) x)
theorem FSt.hearT {W w v : World} {B bt bu : Nat} {m : Mem} {T U T' : Tb} (h : FSt W w B bt bu m T U) (g : w.grownBy v (some bt)) (ht : TabBlk v bt T') : FSt W v B bt bu m T' U :=
  ⟨h.m.kept g (by have := h.lt; simp; omega), ht, h.u.kept g (by have := h.lu; simp; omega), h.le, h.lt, h.lu, h.below.grown g h.below.size (fun j e => by cases e; have := h.le; have := h.lt; omega)⟩
theorem FSt.hearU {W w v : World} {B bt bu : Nat} {m : Mem} {T U U' : Tb} (h : FSt W w B bt bu m T U) (g : w.grownBy v (some bu)) (hu : TabBlk v bu U') : FSt W v B bt bu m T U' :=
  ⟨h.m.kept g (by have := h.lt; have := h.lu; simp; omega), h.t.kept g (by have := h.lu; simp; omega), hu, h.le, h.lt, h.lu, h.below.grown g h.below.size (fun j e => by cases e; have := h.le; have := h.lt; have := h.lu; omega)⟩

set_option maxRecDepth 100000 in
set_option maxHeartbeats 16000000 in
theorem refutes_walk (me : Nat) (m : Mem) (ot : Nat) (W : World) (h0 : 0 ≤ m.s) :
    Calls Try.prog 7 #[.int .u16 (me : Int), .agg #[.int .u16 m.n, .int .u8 m.s, .int .i64 m.i], .int .u16 (ot : Int)] W fun e w' => e = .returned (.bool true) ∧ Below W.heap.size W w' := by
  have HAw := Lib.hid (fun u => bawake_any u)
  obtain ⟨s, hs, hs2⟩ : ∃ s : Nat, (me : Int) % 64 = (s : Int) ∧ me % 64 = s := ⟨me % 64, by omega, rfl⟩
  obtain ⟨o, ho, ho2⟩ : ∃ o : Nat, (ot : Int) % 64 = (o : Int) ∧ ot % 64 = o := ⟨ot % 64, by omega, rfl⟩
  have hs64 : s < 64 := by omega
  have HS2 := Lib.hid hs2
  have HO2 := Lib.hid ho2
  have HS64 := Lib.hid hs64
  clear hs2 ho2 hs64
  obtain ⟨mn, ms, mi⟩ := m
  dsimp only at h0 ⊢
  have H0 := Lib.hid h0
  clear h0
  obtain ⟨X, hX⟩ : ∃ X, X = (W.alloc (.cells #[.int .u16 (s : Int), .int .u8 ms, .int .i64 mi] 32)) := ⟨_, rfl⟩
  have HXm : Hid (Mb X W.heap.size ⟨(s : Int), ms, mi⟩ ∧ Below W.heap.size W X) := Lib.hid (by subst hX; exact ⟨Mb.new W ⟨(s : Int), ms, mi⟩, (Below.refl _ W).alloc (Nat.le_refl _) _⟩)
  have c0 := HXm.out.1.c0; have c1 := HXm.out.1.c1; have c2 := HXm.out.1.c2
  have HMay := Lib.hid (brMay_any ⟨(s : Int), ms, mi⟩ X)
  subst hX
  cases hmay : mayM ⟨(s : Int), ms, mi⟩ with
  | false =>
    rw [hmay] at HMay
    clear hmay
    go_enter Try.func7, Try.ntmps7
    go_wp2_with (go_at_call 26; refine HMay.out.mono ?_; rintro e w1 ⟨rfl, q1⟩; replace q1 := Lib.hid q1; refine Hid.out ?_)
    refine Lib.hid ?_
    have HE := Lib.hid (fun u (hu : Below w1.heap.size w1 u) => HXm.out.2.trans ((q1.out.trans (hu.mono q1.out.size)).mono HXm.out.2.size))
    go_wp2_with (go_at_call 9; refine (HAw.out _).mono ?_; rintro e w2 ⟨rfl, q2⟩; replace q2 := Lib.hid q2; refine Hid.out ?_)
    refine Lib.hid ?_
    have HF := Lib.hid (HE.out _ q2.out)
    go_wp2
    go_ret
    exact ⟨rfl, HF.out⟩
  | true =>
    rw [hmay] at HMay
    replace hmay := Lib.hid hmay
    by_cases hmx : mi = 1073741824
    · subst hmx
      go_enter Try.func7, Try.ntmps7
      go_wp2_with (go_at_call 26; refine HMay.out.mono ?_; rintro e w1 ⟨rfl, q1⟩; have k2 := (HXm.out.1.on q1).c2; replace q1 := Lib.hid q1; refine Hid.out ?_)
      refine Lib.hid ?_
      have HE := Lib.hid (fun u (hu : Below w1.heap.size w1 u) => HXm.out.2.trans ((q1.out.trans (hu.mono q1.out.size)).mono HXm.out.2.size))
      go_wp2_with (go_at_call 9; refine (HAw.out _).mono ?_; rintro e w2 ⟨rfl, q2⟩; replace q2 := Lib.hid q2; refine Hid.out ?_)
      refine Lib.hid ?_
      have HF := Lib.hid (HE.out _ q2.out)
      go_wp2
      go_ret
      exact ⟨rfl, HF.out⟩
    have hm1 : (mi == 1073741824) = false := by simpa using hmx
    by_cases hso : s = o
    · subst hso
      go_enter Try.func7, Try.ntmps7
      go_wp2_with (go_at_call 26; refine HMay.out.mono ?_; rintro e w1 ⟨rfl, q1⟩; have k2 := (HXm.out.1.on q1).c2; replace q1 := Lib.hid q1; refine Hid.out ?_)
      refine Lib.hid ?_
      have HE := Lib.hid (fun u (hu : Below w1.heap.size w1 u) => HXm.out.2.trans ((q1.out.trans (hu.mono q1.out.size)).mono HXm.out.2.size))
      go_wp2_with (go_at_call 9; refine (HAw.out _).mono ?_; rintro e w2 ⟨rfl, q2⟩; replace q2 := Lib.hid q2; refine Hid.out ?_)
      refine Lib.hid ?_
      have HF := Lib.hid (HE.out _ q2.out)
      go_wp2
      go_ret
      exact ⟨rfl, HF.out⟩
    have hso1 : ((s : Int) == (o : Int)) = false := by simp; omega
    obtain ⟨xi, hx1, hx2, hx3, hx4⟩ := refutes_pure HS64.out hso H0.out hmay.out hmx
    replace hx1 := Lib.hid hx1
    replace hx2 := Lib.hid hx2
    replace hx3 := Lib.hid hx3
    replace hx4 := Lib.hid hx4
    replace hso := Lib.hid hso
    go_enter Try.func7, Try.ntmps7
    go_wp2_with (go_at_call 26; refine HMay.out.mono ?_; rintro e w1 ⟨rfl, q1⟩; have k2 := (HXm.out.1.on q1).c2; replace q1 := Lib.hid q1; refine Hid.out ?_)
    refine Lib.hid ?_
    have HM1 := Lib.hid (HXm.out.1.on q1.out)
    have HB1 := Lib.hid (HXm.out.2.trans (q1.out.mono HXm.out.2.size))
    have HNw := Lib.hid (bNew_any me w1)
    rw [HS2.out] at HNw
    clear HMay q1 HXm c0 c1 c2
    go_wp2_with (go_at_call 10; refine HNw.out.mono ?_; rintro e w3 ⟨rfl, t3, q3⟩; replace t3 := Lib.hid t3; replace q3 := Lib.hid q3; refine Hid.out ?_)
    refine Lib.hid ?_
    have HNv := Lib.hid (bNew_any ot w3)
    rw [HO2.out] at HNv
    go_wp2_with (go_at_call 10; refine HNv.out.mono ?_; rintro e w4 ⟨rfl, t4, q4⟩; replace t4 := Lib.hid t4; replace q4 := Lib.hid q4; refine Hid.out ?_)
    refine Lib.hid ?_
    have HO : Hid (FSt W w4 W.heap.size w1.heap.size w3.heap.size ⟨(s : Int), ms, mi⟩ (newB s) (newB o)) := Lib.hid ⟨(HM1.out.on q3.out).on q4.out, t3.out.on q4.out, t4.out, Nat.le_refl _, HM1.out.lt, t3.out.lt, HB1.out.trans ((q3.out.trans (q4.out.mono q3.out.size)).mono HB1.out.size)⟩
    clear HNw HNv t3 q3 t4 q4 HM1 HB1 k2
    generalize w1.heap.size = bt at *
    generalize w3.heap.size = bu at *
    have c0 := HO.out.m.c0; have c1 := HO.out.m.c1; have c2 := HO.out.m.c2
    have HH1 := Lib.hid (bHear_any bt (newB s) ⟨(s : Int), ms, mi⟩ (by dsimp only; omega) w4 HO.out.t)
    unfold HearPost at HH1
    dsimp only at HH1
    have HTs : Hid ((hearB (newB s) ⟨(s : Int), ms, mi⟩).s = s) := Lib.hid (hearB_s _ _)
    have HUs : Hid ((hearB (newB o) ⟨(s : Int), ms, mi⟩).s = o) := Lib.hid (hearB_s _ _)
    have HHd : Hid (heardM (newB s) ⟨(s : Int), ms, mi⟩ = if newsB (newB s) ⟨(s : Int), ms, mi⟩ = true then ⟨(s : Int), 0, xi⟩ else zM) := Lib.hid (by
      unfold heardM
      by_cases h : newsB (newB s) ⟨(s : Int), ms, mi⟩ = true
      · rw [if_pos h, if_pos h, hx3.out h]
      · rw [if_neg h, if_neg h])
    generalize hearB (newB s) ⟨(s : Int), ms, mi⟩ = T1 at *
    generalize newsB (newB s) ⟨(s : Int), ms, mi⟩ = r1 at *
    rw [HHd.out] at HH1
    obtain ⟨d1, hd1⟩ : ∃ d, d = (if r1 = true then (⟨(s : Int), 0, xi⟩ : Mem) else zM) := ⟨_, rfl⟩
    rw [← hd1] at HH1
    replace hd1 := Lib.hid hd1
    obtain ⟨dn, ds, di⟩ := d1
    dsimp only at HH1
    go_wp2_with (go_at_call 12; refine HH1.out.mono ?_; rintro e w5 ⟨rfl, t5, g5⟩; replace t5 := Lib.hid t5; replace g5 := Lib.hid g5; refine Hid.out ?_)
    refine Lib.hid ?_
    have HO5 := Lib.hid ((HO.out.hearT g5.out t5.out).alloc (.cells #[.int .u16 dn, .int .u8 ds, .int .i64 di] 32))
    have HD5 : Hid (Mb (w5.alloc (.cells #[.int .u16 dn, .int .u8 ds, .int .i64 di] 32)) w5.heap.size ⟨dn, ds, di⟩) := Lib.hid (Mb.new w5 ⟨dn, ds, di⟩)
    have HL5 : Hid (bu < w5.heap.size) := Lib.hid (HO.out.hearT g5.out t5.out).u.lt
    obtain ⟨w6, hw6⟩ : ∃ w6, w6 = (w5.alloc (.cells #[.int .u16 dn, .int .u8 ds, .int .i64 di] 32)) := ⟨_, rfl⟩
    rw [← hw6] at HO5 HD5
    have c0 := HO5.out.m.c0; have c1 := HO5.out.m.c1; have c2 := HO5.out.m.c2
    have HH2 := Lib.hid (bHear_any bu (newB o) ⟨(s : Int), ms, mi⟩ (by dsimp only; omega) w6 HO5.out.u)
    unfold HearPost at HH2
    dsimp only at HH2
    clear HH1 HO t5 g5
    generalize heardM (newB o) ⟨(s : Int), ms, mi⟩ = d2 at *
    generalize newsB (newB o) ⟨(s : Int), ms, mi⟩ = r2 at *
    generalize hearB (newB o) ⟨(s : Int), ms, mi⟩ = U1 at *
    obtain ⟨d2n, d2s, d2i⟩ := d2
    generalize hX5 : w5.heap.size = b11 at *
    subst hw6
    go_wp2_with (go_at_call 12; refine HH2.out.mono ?_; rintro e w7 ⟨rfl, t7, g7⟩; replace t7 := Lib.hid t7; replace g7 := Lib.hid g7; refine Hid.out ?_)
    refine Lib.hid ?_
    have HO7 := Lib.hid (HO5.out.hearU g7.out t7.out)
    have HD7 := Lib.hid (HD5.out.kept g7.out (by have := HL5.out; simp; omega))
    clear HH2 HO5 t7 g7 HD5 c0 c1 c2
    have HSe := Lib.hid (fun u (hu : TabBlk u bt T1) => bSelf_any bt T1 ⟨(s : Int), 0, xi⟩ s HTs.out HS64.out hx1.out u hu)
    dsimp only at HSe
    have HS7 := Lib.hid (HSe.out w7 HO7.out.t)
    go_wp2_with (go_at_call 21; refine HS7.out.mono ?_; rintro e w8 ⟨rfl, q8⟩; replace q8 := Lib.hid q8; refine Hid.out ?_)
    refine Lib.hid ?_
    have HO8 := Lib.hid (HO7.out.on q8.out)
    have HD8 := Lib.hid (HD7.out.on q8.out)
    have HH3 := Lib.hid (bHear_any bu U1 ⟨(s : Int), 0, xi⟩ (by dsimp only; omega) w8 HO8.out.u)
    unfold HearPost at HH3
    dsimp only at HH3
    clear HS7 HO7 HD7 q8
    generalize heardM U1 ⟨(s : Int), 0, xi⟩ = d3 at *
    generalize newsB U1 ⟨(s : Int), 0, xi⟩ = r3 at *
    generalize hearB U1 ⟨(s : Int), 0, xi⟩ = U2 at *
    obtain ⟨d3n, d3s, d3i⟩ := d3
    go_wp2_with (go_at_call 12; refine HH3.out.mono ?_; rintro e w9 ⟨rfl, t9, g9⟩; replace t9 := Lib.hid t9; replace g9 := Lib.hid g9; refine Hid.out ?_)
    refine Lib.hid ?_
    have HO9 := Lib.hid (HO8.out.hearU g9.out t9.out)
    have HD9 := Lib.hid (HD8.out.kept g9.out (by have := HL5.out; simp; omega))
    clear HH3 HO8 t9 g9 HD8
    have HGe := Lib.hid (bGet_any bu U2 s w9 HO9.out.u ⟨(s : Int), 0, xi⟩ true (getR_in HS64.out hx4.out))
    dsimp only at HGe
    go_wp2_with (go_at_call 20; refine HGe.out.mono ?_; rintro e wa ⟨rfl, qa⟩; replace qa := Lib.hid qa; refine Hid.out ?_)
    refine Lib.hid ?_
    have HOa := Lib.hid ((HO9.out.on qa.out).alloc (.cells #[.int .u16 (s : Int), .int .u8 0, .int .i64 xi] 32))
    have HDa := Lib.hid ((HD9.out.on qa.out).on ((Below.refl _ wa).alloc (Nat.le_refl _) (.cells #[.int .u16 (s : Int), .int .u8 0, .int .i64 xi] 32)))
    have HXa : Hid (Mb (wa.alloc (.cells #[.int .u16 (s : Int), .int .u8 0, .int .i64 xi] 32)) wa.heap.size ⟨(s : Int), 0, xi⟩) := Lib.hid (Mb.new wa ⟨(s : Int), 0, xi⟩)
    clear HGe HO9 HD9 qa
    go_wp2_with fail
    generalize hwb : wa.alloc (.cells #[.int .u16 (s : Int), .int .u8 0, .int .i64 xi] 32) = wb at *
    generalize wa.heap.size = b13 at *
    clear hwb
    have HC : Hid (∀ u, Below wb.heap.size wb u → Mb u W.heap.size ⟨(s : Int), ms, mi⟩ ∧ Mb u b11 ⟨dn, ds, di⟩ ∧ Mb u b13 ⟨(s : Int), 0, xi⟩) := Lib.hid (fun u hu => ⟨HOa.out.m.on hu, HDa.out.on hu, HXa.out.on hu⟩)
    have HSx := Lib.hid (fun u (hu : Below wb.heap.size wb u) => HSe.out u (HOa.out.t.on hu))
    have HAb := Lib.hid (fun u => bAbove_any ⟨(s : Int), ms, mi⟩ ⟨(s : Int), 0, xi⟩ u)
    rw [hx2.out] at HAb
    dsimp only at HAb
    have HWb := Lib.hid HOa.out.below
    clear HSe HOa HDa HXa
    cases r1 with
    | true =>
      obtain ⟨rfl, rfl, rfl⟩ := Mem.mk.inj (hd1.out.trans (if_pos rfl))
      refine wp_region_any (by kernel_rfl) ?_
      change wpAny _ _ _ _ _ _ _ (World.drew _)
      have hS : (fun w' : World => Below wb.heap.size wb w') wb.drew := (Below.refl _ wb).drew
      refine wpAny_of_held (S := fun w' => Below wb.heap.size wb w') _ _ _ _ ?_
      refine wpAnyH_takeE (i := 0) (some 58) (v := ?_) rfl rfl (by as_aux_lemma => kernel_rfl) (by as_aux_lemma => kernel_rfl) (by as_aux_lemma => kernel_rfl) (fun _ _ _ h => h) (Or.inl ⟨by kernel_rfl, ?_⟩) hS ?_
      rotate_left
      · intro w hSw; obtain ⟨y0, y1, y2⟩ := HC.out _ hSw; have a0 := y0.c0; have a1 := y0.c1; have a2 := y0.c2; have e0 := y1.c0; have e1 := y1.c1; have e2 := y1.c2; have f0 := y2.c0; have f1 := y2.c1; have f2 := y2.c2; clear y0 y1 y2; go_simp
        first | done | with_reducible rfl
      refine wpAnyH_takeE (i := 1) (some 59) (v := ?_) rfl rfl (by as_aux_lemma => kernel_rfl) (by as_aux_lemma => kernel_rfl) (by as_aux_lemma => kernel_rfl) (fun _ _ _ h => h) (Or.inl ⟨by kernel_rfl, ?_⟩) hS ?_
      rotate_left
      · intro w hSw; obtain ⟨y0, y1, y2⟩ := HC.out _ hSw; have a0 := y0.c0; have a1 := y0.c1; have a2 := y0.c2; have e0 := y1.c0; have e1 := y1.c1; have e2 := y1.c2; have f0 := y2.c0; have f1 := y2.c1; have f2 := y2.c2; clear y0 y1 y2; go_simp
        first | done | with_reducible rfl
      refine wpAnyH_takeE (i := 2) (some 60) (v := ?_) rfl rfl (by as_aux_lemma => kernel_rfl) (by as_aux_lemma => kernel_rfl) (by as_aux_lemma => kernel_rfl) (fun _ _ _ h => h) (Or.inl ⟨by kernel_rfl, ?_⟩) hS ?_
      rotate_left
      · intro w hSw; obtain ⟨y0, y1, y2⟩ := HC.out _ hSw; have a0 := y0.c0; have a1 := y0.c1; have a2 := y0.c2; have e0 := y1.c0; have e1 := y1.c1; have e2 := y1.c2; have f0 := y2.c0; have f1 := y2.c1; have f2 := y2.c2; clear y0 y1 y2; go_simp
        first | done | with_reducible rfl
      refine wpAnyH_takeE (i := 3) (some 61) (v := ?_) rfl rfl (by as_aux_lemma => kernel_rfl) (by as_aux_lemma => kernel_rfl) (by as_aux_lemma => kernel_rfl) (fun _ _ _ h => h) (Or.inl ⟨by kernel_rfl, ?_⟩) hS ?_
      rotate_left
      · intro w hSw; obtain ⟨y0, y1, y2⟩ := HC.out _ hSw; have a0 := y0.c0; have a1 := y0.c1; have a2 := y0.c2; have e0 := y1.c0; have e1 := y1.c1; have e2 := y1.c2; have f0 := y2.c0; have f1 := y2.c1; have f2 := y2.c2; clear y0 y1 y2; go_simp
        first | done | with_reducible rfl
      refine wpAnyH_takeE (i := 4) (some 62) (v := ?_) rfl rfl (by as_aux_lemma => kernel_rfl) (by as_aux_lemma => kernel_rfl) (by as_aux_lemma => kernel_rfl) (fun _ _ _ h => h) (Or.inl ⟨by kernel_rfl, ?_⟩) hS ?_
      rotate_left
      · intro w hSw; obtain ⟨y0, y1, y2⟩ := HC.out _ hSw; have a0 := y0.c0; have a1 := y0.c1; have a2 := y0.c2; have e0 := y1.c0; have e1 := y1.c1; have e2 := y1.c2; have f0 := y2.c0; have f1 := y2.c1; have f2 := y2.c2; clear y0 y1 y2; go_simp
        first | done | with_reducible rfl
      refine wpAnyH_ready (rs := [5]) (by as_aux_lemma => kernel_rfl) (by simp) ?_
      refine AllReadyH.cons rfl (fun K hK => ?_) AllReadyH.nil
      go_simp
      go_wp2_with (go_at_call 21; refine (HSx.out _ hS).mono ?_; rintro e vq1 ⟨rfl, q1⟩)
      refine hK.out _ _ ?_ (fun hS => ?_)
      · exact hS.trans (q1.mono hS.size)
      clear hK K
      refine wpAnyH_takeE (i := 6) (some 64) (v := ?_) rfl rfl (by as_aux_lemma => kernel_rfl) (by as_aux_lemma => kernel_rfl) (by as_aux_lemma => kernel_rfl) (fun _ _ _ h => h) (Or.inl ⟨by kernel_rfl, ?_⟩) hS ?_
      rotate_left
      · intro w hSw; obtain ⟨y0, y1, y2⟩ := HC.out _ hSw; have a0 := y0.c0; have a1 := y0.c1; have a2 := y0.c2; have e0 := y1.c0; have e1 := y1.c1; have e2 := y1.c2; have f0 := y2.c0; have f1 := y2.c1; have f2 := y2.c2; clear y0 y1 y2; go_simp
        first | done | with_reducible rfl
      refine wpAnyH_takeE (i := 7) (some 65) (v := ?_) rfl rfl (by as_aux_lemma => kernel_rfl) (by as_aux_lemma => kernel_rfl) (by as_aux_lemma => kernel_rfl) (fun _ _ _ h => h) (Or.inl ⟨by kernel_rfl, ?_⟩) hS ?_
      rotate_left
      · intro w hSw; obtain ⟨y0, y1, y2⟩ := HC.out _ hSw; have a0 := y0.c0; have a1 := y0.c1; have a2 := y0.c2; have e0 := y1.c0; have e1 := y1.c1; have e2 := y1.c2; have f0 := y2.c0; have f1 := y2.c1; have f2 := y2.c2; clear y0 y1 y2; go_simp
        first | done | with_reducible rfl
      refine wpAnyH_takeE (i := 8) (some 66) (v := ?_) rfl rfl (by as_aux_lemma => kernel_rfl) (by as_aux_lemma => kernel_rfl) (by as_aux_lemma => kernel_rfl) (fun _ _ _ h => h) (Or.inl ⟨by kernel_rfl, ?_⟩) hS ?_
      rotate_left
      · intro w hSw; obtain ⟨y0, y1, y2⟩ := HC.out _ hSw; have a0 := y0.c0; have a1 := y0.c1; have a2 := y0.c2; have e0 := y1.c0; have e1 := y1.c1; have e2 := y1.c2; have f0 := y2.c0; have f1 := y2.c1; have f2 := y2.c2; clear y0 y1 y2; go_simp
        first | done | with_reducible rfl
      refine wpAnyH_takeE (i := 9) (some 67) (v := ?_) rfl rfl (by as_aux_lemma => kernel_rfl) (by as_aux_lemma => kernel_rfl) (by as_aux_lemma => kernel_rfl) (fun _ _ _ h => h) (Or.inl ⟨by kernel_rfl, ?_⟩) hS ?_
      rotate_left
      · intro w hSw; obtain ⟨y0, y1, y2⟩ := HC.out _ hSw; have a0 := y0.c0; have a1 := y0.c1; have a2 := y0.c2; have e0 := y1.c0; have e1 := y1.c1; have e2 := y1.c2; have f0 := y2.c0; have f1 := y2.c1; have f2 := y2.c2; clear y0 y1 y2; go_simp
        first | done | with_reducible rfl
      refine wpAnyH_takeE (i := 10) (some 68) (v := ?_) rfl rfl (by as_aux_lemma => kernel_rfl) (by as_aux_lemma => kernel_rfl) (by as_aux_lemma => kernel_rfl) (fun _ _ _ h => h) (Or.inl ⟨by kernel_rfl, ?_⟩) hS ?_
      rotate_left
      · intro w hSw; obtain ⟨y0, y1, y2⟩ := HC.out _ hSw; have a0 := y0.c0; have a1 := y0.c1; have a2 := y0.c2; have e0 := y1.c0; have e1 := y1.c1; have e2 := y1.c2; have f0 := y2.c0; have f1 := y2.c1; have f2 := y2.c2; clear y0 y1 y2; go_simp
        first | done | with_reducible rfl
      refine wpAnyH_takeE (i := 11) (some 69) (v := ?_) rfl rfl (by as_aux_lemma => kernel_rfl) (by as_aux_lemma => kernel_rfl) (by as_aux_lemma => kernel_rfl) (fun _ _ _ h => h) (Or.inl ⟨by kernel_rfl, ?_⟩) hS ?_
      rotate_left
      · intro w hSw; obtain ⟨y0, y1, y2⟩ := HC.out _ hSw; have a0 := y0.c0; have a1 := y0.c1; have a2 := y0.c2; have e0 := y1.c0; have e1 := y1.c1; have e2 := y1.c2; have f0 := y2.c0; have f1 := y2.c1; have f2 := y2.c2; clear y0 y1 y2; go_simp
        first | done | with_reducible rfl
      refine wpAnyH_takeE (i := 12) (some 70) (v := ?_) rfl rfl (by as_aux_lemma => kernel_rfl) (by as_aux_lemma => kernel_rfl) (by as_aux_lemma => kernel_rfl) (fun _ _ _ h => h) (Or.inl ⟨by kernel_rfl, ?_⟩) hS ?_
      rotate_left
      · intro w hSw; obtain ⟨y0, y1, y2⟩ := HC.out _ hSw; have a0 := y0.c0; have a1 := y0.c1; have a2 := y0.c2; have e0 := y1.c0; have e1 := y1.c1; have e2 := y1.c2; have f0 := y2.c0; have f1 := y2.c1; have f2 := y2.c2; clear y0 y1 y2; go_simp
        first | done | with_reducible rfl
      refine wpAnyH_takeE (i := 13) (some 71) (v := ?_) rfl rfl (by as_aux_lemma => kernel_rfl) (by as_aux_lemma => kernel_rfl) (by as_aux_lemma => kernel_rfl) (fun _ _ _ h => h) (Or.inl ⟨by kernel_rfl, ?_⟩) hS ?_
      rotate_left
      · intro w hSw; obtain ⟨y0, y1, y2⟩ := HC.out _ hSw; have a0 := y0.c0; have a1 := y0.c1; have a2 := y0.c2; have e0 := y1.c0; have e1 := y1.c1; have e2 := y1.c2; have f0 := y2.c0; have f1 := y2.c1; have f2 := y2.c2; clear y0 y1 y2; go_simp
        first | done | with_reducible rfl
      refine wpAnyH_ready (rs := [14]) (by as_aux_lemma => kernel_rfl) (by simp) ?_
      refine AllReadyH.cons rfl (fun K hK => ?_) AllReadyH.nil
      go_simp
      go_wp2_with (go_at_call 21; refine (HSx.out _ hS).mono ?_; rintro e vq2 ⟨rfl, q2⟩)
      refine hK.out _ _ ?_ (fun hS => ?_)
      · exact hS.trans (q2.mono hS.size)
      clear hK K
      refine wpAnyH_takeE (i := 15) (some 73) (v := ?_) rfl rfl (by as_aux_lemma => kernel_rfl) (by as_aux_lemma => kernel_rfl) (by as_aux_lemma => kernel_rfl) (fun _ _ _ h => h) (Or.inl ⟨by kernel_rfl, ?_⟩) hS ?_
      rotate_left
      · intro w hSw; obtain ⟨y0, y1, y2⟩ := HC.out _ hSw; have a0 := y0.c0; have a1 := y0.c1; have a2 := y0.c2; have e0 := y1.c0; have e1 := y1.c1; have e2 := y1.c2; have f0 := y2.c0; have f1 := y2.c1; have f2 := y2.c2; clear y0 y1 y2; go_simp
        first | done | with_reducible rfl
      refine wpAnyH_takeE (i := 16) (some 74) (v := ?_) rfl rfl (by as_aux_lemma => kernel_rfl) (by as_aux_lemma => kernel_rfl) (by as_aux_lemma => kernel_rfl) (fun _ _ _ h => h) (Or.inl ⟨by kernel_rfl, ?_⟩) hS ?_
      rotate_left
      · intro w hSw; obtain ⟨y0, y1, y2⟩ := HC.out _ hSw; have a0 := y0.c0; have a1 := y0.c1; have a2 := y0.c2; have e0 := y1.c0; have e1 := y1.c1; have e2 := y1.c2; have f0 := y2.c0; have f1 := y2.c1; have f2 := y2.c2; clear y0 y1 y2; go_simp
        first | done | with_reducible rfl
      refine wpAnyH_takeE (i := 17) (some 75) (v := ?_) rfl rfl (by as_aux_lemma => kernel_rfl) (by as_aux_lemma => kernel_rfl) (by as_aux_lemma => kernel_rfl) (fun _ _ _ h => h) (Or.inl ⟨by kernel_rfl, ?_⟩) hS ?_
      rotate_left
      · intro w hSw; obtain ⟨y0, y1, y2⟩ := HC.out _ hSw; have a0 := y0.c0; have a1 := y0.c1; have a2 := y0.c2; have e0 := y1.c0; have e1 := y1.c1; have e2 := y1.c2; have f0 := y2.c0; have f1 := y2.c1; have f2 := y2.c2; clear y0 y1 y2; go_simp
        first | done | with_reducible rfl
      refine wpAnyH_takeE (i := 18) (some 76) (v := ?_) rfl rfl (by as_aux_lemma => kernel_rfl) (by as_aux_lemma => kernel_rfl) (by as_aux_lemma => kernel_rfl) (fun _ _ _ h => h) (Or.inl ⟨by kernel_rfl, ?_⟩) hS ?_
      rotate_left
      · intro w hSw; obtain ⟨y0, y1, y2⟩ := HC.out _ hSw; have a0 := y0.c0; have a1 := y0.c1; have a2 := y0.c2; have e0 := y1.c0; have e1 := y1.c1; have e2 := y1.c2; have f0 := y2.c0; have f1 := y2.c1; have f2 := y2.c2; clear y0 y1 y2; go_simp
        first | done | with_reducible rfl
      refine wpAnyH_takeE (i := 19) (some 77) (v := ?_) rfl rfl (by as_aux_lemma => kernel_rfl) (by as_aux_lemma => kernel_rfl) (by as_aux_lemma => kernel_rfl) (fun _ _ _ h => h) (Or.inl ⟨by kernel_rfl, ?_⟩) hS ?_
      rotate_left
      · intro w hSw; obtain ⟨y0, y1, y2⟩ := HC.out _ hSw; have a0 := y0.c0; have a1 := y0.c1; have a2 := y0.c2; have e0 := y1.c0; have e1 := y1.c1; have e2 := y1.c2; have f0 := y2.c0; have f1 := y2.c1; have f2 := y2.c2; clear y0 y1 y2; go_simp
        first | done | with_reducible rfl
      refine wpAnyH_takeE (i := 20) (some 78) (v := ?_) rfl rfl (by as_aux_lemma => kernel_rfl) (by as_aux_lemma => kernel_rfl) (by as_aux_lemma => kernel_rfl) (fun _ _ _ h => h) (Or.inl ⟨by kernel_rfl, ?_⟩) hS ?_
      rotate_left
      · intro w hSw; obtain ⟨y0, y1, y2⟩ := HC.out _ hSw; have a0 := y0.c0; have a1 := y0.c1; have a2 := y0.c2; have e0 := y1.c0; have e1 := y1.c1; have e2 := y1.c2; have f0 := y2.c0; have f1 := y2.c1; have f2 := y2.c2; clear y0 y1 y2; go_simp
        first | done | with_reducible rfl
      refine wpAnyH_takeE (i := 21) (some 79) (v := ?_) rfl rfl (by as_aux_lemma => kernel_rfl) (by as_aux_lemma => kernel_rfl) (by as_aux_lemma => kernel_rfl) (fun _ _ _ h => h) (Or.inl ⟨by kernel_rfl, ?_⟩) hS ?_
      rotate_left
      · intro w hSw; obtain ⟨y0, y1, y2⟩ := HC.out _ hSw; have a0 := y0.c0; have a1 := y0.c1; have a2 := y0.c2; have e0 := y1.c0; have e1 := y1.c1; have e2 := y1.c2; have f0 := y2.c0; have f1 := y2.c1; have f2 := y2.c2; clear y0 y1 y2; go_simp
        first | done | with_reducible rfl
      refine wpAnyH_takeE (i := 22) (some 80) (v := ?_) rfl rfl (by as_aux_lemma => kernel_rfl) (by as_aux_lemma => kernel_rfl) (by as_aux_lemma => kernel_rfl) (fun _ _ _ h => h) (Or.inl ⟨by kernel_rfl, ?_⟩) hS ?_
      rotate_left
      · intro w hSw; obtain ⟨y0, y1, y2⟩ := HC.out _ hSw; have a0 := y0.c0; have a1 := y0.c1; have a2 := y0.c2; have e0 := y1.c0; have e1 := y1.c1; have e2 := y1.c2; have f0 := y2.c0; have f1 := y2.c1; have f2 := y2.c2; clear y0 y1 y2; go_simp
        first | done | with_reducible rfl
      refine wpAnyH_takeE (i := 23) (some 81) (v := ?_) rfl rfl (by as_aux_lemma => kernel_rfl) (by as_aux_lemma => kernel_rfl) (by as_aux_lemma => kernel_rfl) (fun _ _ _ h => h) (Or.inl ⟨by kernel_rfl, ?_⟩) hS ?_
      rotate_left
      · intro w hSw; obtain ⟨y0, y1, y2⟩ := HC.out _ hSw; have a0 := y0.c0; have a1 := y0.c1; have a2 := y0.c2; have e0 := y1.c0; have e1 := y1.c1; have e2 := y1.c2; have f0 := y2.c0; have f1 := y2.c1; have f2 := y2.c2; clear y0 y1 y2; go_simp
        first | done | with_reducible rfl
      refine wpAnyH_takeE (i := 24) (some 82) (v := ?_) rfl rfl (by as_aux_lemma => kernel_rfl) (by as_aux_lemma => kernel_rfl) (by as_aux_lemma => kernel_rfl) (fun _ _ _ h => h) (Or.inl ⟨by kernel_rfl, ?_⟩) hS ?_
      rotate_left
      · intro w hSw; obtain ⟨y0, y1, y2⟩ := HC.out _ hSw; have a0 := y0.c0; have a1 := y0.c1; have a2 := y0.c2; have e0 := y1.c0; have e1 := y1.c1; have e2 := y1.c2; have f0 := y2.c0; have f1 := y2.c1; have f2 := y2.c2; clear y0 y1 y2; go_simp
        first | done | with_reducible rfl
      refine wpAnyH_ready (rs := [25]) (by as_aux_lemma => kernel_rfl) (by simp) ?_
      refine AllReadyH.cons rfl (fun K hK => ?_) AllReadyH.nil
      go_simp
      go_wp2_with (go_at_call 15; refine (HAb.out _).mono ?_; rintro e vq3 ⟨rfl, q3⟩)
      refine hK.out _ _ ?_ (fun hS => ?_)
      · exact hS.trans (q3.mono hS.size)
      clear hK K
      refine wpAnyH_takeE (i := 26) (some 84) (v := ?_) rfl rfl (by as_aux_lemma => kernel_rfl) (by as_aux_lemma => kernel_rfl) (by as_aux_lemma => kernel_rfl) (fun _ _ _ h => h) (Or.inl ⟨by kernel_rfl, ?_⟩) hS ?_
      rotate_left
      · intro w hSw; obtain ⟨y0, y1, y2⟩ := HC.out _ hSw; have a0 := y0.c0; have a1 := y0.c1; have a2 := y0.c2; have e0 := y1.c0; have e1 := y1.c1; have e2 := y1.c2; have f0 := y2.c0; have f1 := y2.c1; have f2 := y2.c2; clear y0 y1 y2; go_simp
        first | done | with_reducible rfl
      refine wpAnyH_takeE (i := 27) (some 85) (v := ?_) rfl rfl (by as_aux_lemma => kernel_rfl) (by as_aux_lemma => kernel_rfl) (by as_aux_lemma => kernel_rfl) (fun _ _ _ h => h) (Or.inl ⟨by kernel_rfl, ?_⟩) hS ?_
      rotate_left
      · intro w hSw; obtain ⟨y0, y1, y2⟩ := HC.out _ hSw; have a0 := y0.c0; have a1 := y0.c1; have a2 := y0.c2; have e0 := y1.c0; have e1 := y1.c1; have e2 := y1.c2; have f0 := y2.c0; have f1 := y2.c1; have f2 := y2.c2; clear y0 y1 y2; go_simp
        first | done | with_reducible rfl
      refine wpAnyH_takeE (i := 28) (some 86) (v := ?_) rfl rfl (by as_aux_lemma => kernel_rfl) (by as_aux_lemma => kernel_rfl) (by as_aux_lemma => kernel_rfl) (fun _ _ _ h => h) (Or.inl ⟨by kernel_rfl, ?_⟩) hS ?_
      rotate_left
      · intro w hSw; obtain ⟨y0, y1, y2⟩ := HC.out _ hSw; have a0 := y0.c0; have a1 := y0.c1; have a2 := y0.c2; have e0 := y1.c0; have e1 := y1.c1; have e2 := y1.c2; have f0 := y2.c0; have f1 := y2.c1; have f2 := y2.c2; clear y0 y1 y2; go_simp
        first | done | with_reducible rfl
      refine wpAnyH_ready (rs := [29]) (by as_aux_lemma => kernel_rfl) (by simp) ?_
      refine AllReadyH.cons rfl (fun K hK => ?_) AllReadyH.nil
      go_simp
      go_wp2_with (go_at_call 9; refine (HAw.out _).mono ?_; rintro e vq4 ⟨rfl, q4⟩)
      refine hK.out _ _ ?_ (fun hS => ?_)
      · exact hS.trans (q4.mono hS.size)
      clear hK K
      refine wpAnyH_takeE (i := 30) (some 88) (v := ?_) rfl rfl (by as_aux_lemma => kernel_rfl) (by as_aux_lemma => kernel_rfl) (by as_aux_lemma => kernel_rfl) (fun _ _ _ h => h) (Or.inl ⟨by kernel_rfl, ?_⟩) hS ?_
      rotate_left
      · intro w hSw; obtain ⟨y0, y1, y2⟩ := HC.out _ hSw; have a0 := y0.c0; have a1 := y0.c1; have a2 := y0.c2; have e0 := y1.c0; have e1 := y1.c1; have e2 := y1.c2; have f0 := y2.c0; have f1 := y2.c1; have f2 := y2.c2; clear y0 y1 y2; go_simp
        first | done | with_reducible rfl
      refine wpAnyH_takeE (i := 31) (some 6) (v := ?_) rfl rfl (by as_aux_lemma => kernel_rfl) (by as_aux_lemma => kernel_rfl) (by as_aux_lemma => kernel_rfl) (fun _ _ _ h => h) (Or.inl ⟨by kernel_rfl, ?_⟩) hS ?_
      rotate_left
      · intro w hSw; obtain ⟨y0, y1, y2⟩ := HC.out _ hSw; have a0 := y0.c0; have a1 := y0.c1; have a2 := y0.c2; have e0 := y1.c0; have e1 := y1.c1; have e2 := y1.c2; have f0 := y2.c0; have f1 := y2.c1; have f2 := y2.c2; clear y0 y1 y2; go_simp
        first | done | with_reducible rfl
      refine wpAnyH_done (by kernel_rfl) ?_ _
      have HE := Lib.hid (HWb.out.trans (hS.mono HWb.out.size))
      go_simp
      go_wp2
      go_ret
      exact ⟨rfl, HE.out⟩
    | false =>
      refine wp_region_any (by kernel_rfl) ?_
      change wpAny _ _ _ _ _ _ _ (World.drew _)
      have hS : (fun w' : World => Below wb.heap.size wb w') wb.drew := (Below.refl _ wb).drew
      refine wpAny_of_held (S := fun w' => Below wb.heap.size wb w') _ _ _ _ ?_
      refine wpAnyH_takeE (i := 0) (some 58) (v := ?_) rfl rfl (by as_aux_lemma => kernel_rfl) (by as_aux_lemma => kernel_rfl) (by as_aux_lemma => kernel_rfl) (fun _ _ _ h => h) (Or.inl ⟨by kernel_rfl, ?_⟩) hS ?_
      rotate_left
      · intro w hSw; obtain ⟨y0, y1, y2⟩ := HC.out _ hSw; have a0 := y0.c0; have a1 := y0.c1; have a2 := y0.c2; have e0 := y1.c0; have e1 := y1.c1; have e2 := y1.c2; have f0 := y2.c0; have f1 := y2.c1; have f2 := y2.c2; clear y0 y1 y2; go_simp
        first | done | with_reducible rfl
      refine wpAnyH_takeE (i := 1) (some 59) (v := ?_) rfl rfl (by as_aux_lemma => kernel_rfl) (by as_aux_lemma => kernel_rfl) (by as_aux_lemma => kernel_rfl) (fun _ _ _ h => h) (Or.inl ⟨by kernel_rfl, ?_⟩) hS ?_
      rotate_left
      · intro w hSw; obtain ⟨y0, y1, y2⟩ := HC.out _ hSw; have a0 := y0.c0; have a1 := y0.c1; have a2 := y0.c2; have e0 := y1.c0; have e1 := y1.c1; have e2 := y1.c2; have f0 := y2.c0; have f1 := y2.c1; have f2 := y2.c2; clear y0 y1 y2; go_simp
        first | done | with_reducible rfl
      refine wpAnyH_takeE (i := 2) (some 60) (v := ?_) rfl rfl (by as_aux_lemma => kernel_rfl) (by as_aux_lemma => kernel_rfl) (by as_aux_lemma => kernel_rfl) (fun _ _ _ h => h) (Or.inl ⟨by kernel_rfl, ?_⟩) hS ?_
      rotate_left
      · intro w hSw; obtain ⟨y0, y1, y2⟩ := HC.out _ hSw; have a0 := y0.c0; have a1 := y0.c1; have a2 := y0.c2; have e0 := y1.c0; have e1 := y1.c1; have e2 := y1.c2; have f0 := y2.c0; have f1 := y2.c1; have f2 := y2.c2; clear y0 y1 y2; go_simp
        first | done | with_reducible rfl
      refine wpAnyH_takeE (i := 3) (some 61) (v := undef) rfl rfl (by as_aux_lemma => kernel_rfl) (by as_aux_lemma => kernel_rfl) (by as_aux_lemma => kernel_rfl) (fun _ _ _ h => h) (Or.inr ⟨by kernel_rfl, rfl⟩) hS ?_
      refine wpAnyH_takeE (i := 4) (some 62) (v := undef) rfl rfl (by as_aux_lemma => kernel_rfl) (by as_aux_lemma => kernel_rfl) (by as_aux_lemma => kernel_rfl) (fun _ _ _ h => h) (Or.inr ⟨by kernel_rfl, rfl⟩) hS ?_
      refine wpAnyH_takeE (i := 5) (some 63) (v := undef) rfl rfl (by as_aux_lemma => kernel_rfl) (by as_aux_lemma => kernel_rfl) (by as_aux_lemma => kernel_rfl) (fun _ _ _ h => h) (Or.inr ⟨by kernel_rfl, rfl⟩) hS ?_
      refine wpAnyH_takeE (i := 6) (some 64) (v := undef) rfl rfl (by as_aux_lemma => kernel_rfl) (by as_aux_lemma => kernel_rfl) (by as_aux_lemma => kernel_rfl) (fun _ _ _ h => h) (Or.inr ⟨by kernel_rfl, rfl⟩) hS ?_
      refine wpAnyH_takeE (i := 7) (some 65) (v := ?_) rfl rfl (by as_aux_lemma => kernel_rfl) (by as_aux_lemma => kernel_rfl) (by as_aux_lemma => kernel_rfl) (fun _ _ _ h => h) (Or.inl ⟨by kernel_rfl, ?_⟩) hS ?_
      rotate_left
      · intro w hSw; obtain ⟨y0, y1, y2⟩ := HC.out _ hSw; have a0 := y0.c0; have a1 := y0.c1; have a2 := y0.c2; have e0 := y1.c0; have e1 := y1.c1; have e2 := y1.c2; have f0 := y2.c0; have f1 := y2.c1; have f2 := y2.c2; clear y0 y1 y2; go_simp
        first | done | with_reducible rfl
      refine wpAnyH_takeE (i := 8) (some 66) (v := ?_) rfl rfl (by as_aux_lemma => kernel_rfl) (by as_aux_lemma => kernel_rfl) (by as_aux_lemma => kernel_rfl) (fun _ _ _ h => h) (Or.inl ⟨by kernel_rfl, ?_⟩) hS ?_
      rotate_left
      · intro w hSw; obtain ⟨y0, y1, y2⟩ := HC.out _ hSw; have a0 := y0.c0; have a1 := y0.c1; have a2 := y0.c2; have e0 := y1.c0; have e1 := y1.c1; have e2 := y1.c2; have f0 := y2.c0; have f1 := y2.c1; have f2 := y2.c2; clear y0 y1 y2; go_simp
        first | done | with_reducible rfl
      refine wpAnyH_takeE (i := 9) (some 67) (v := ?_) rfl rfl (by as_aux_lemma => kernel_rfl) (by as_aux_lemma => kernel_rfl) (by as_aux_lemma => kernel_rfl) (fun _ _ _ h => h) (Or.inl ⟨by kernel_rfl, ?_⟩) hS ?_
      rotate_left
      · intro w hSw; obtain ⟨y0, y1, y2⟩ := HC.out _ hSw; have a0 := y0.c0; have a1 := y0.c1; have a2 := y0.c2; have e0 := y1.c0; have e1 := y1.c1; have e2 := y1.c2; have f0 := y2.c0; have f1 := y2.c1; have f2 := y2.c2; clear y0 y1 y2; go_simp
        first | done | with_reducible rfl
      refine wpAnyH_takeE (i := 10) (some 68) (v := ?_) rfl rfl (by as_aux_lemma => kernel_rfl) (by as_aux_lemma => kernel_rfl) (by as_aux_lemma => kernel_rfl) (fun _ _ _ h => h) (Or.inl ⟨by kernel_rfl, ?_⟩) hS ?_
      rotate_left
      · intro w hSw; obtain ⟨y0, y1, y2⟩ := HC.out _ hSw; have a0 := y0.c0; have a1 := y0.c1; have a2 := y0.c2; have e0 := y1.c0; have e1 := y1.c1; have e2 := y1.c2; have f0 := y2.c0; have f1 := y2.c1; have f2 := y2.c2; clear y0 y1 y2; go_simp
        first | done | with_reducible rfl
      refine wpAnyH_takeE (i := 11) (some 69) (v := ?_) rfl rfl (by as_aux_lemma => kernel_rfl) (by as_aux_lemma => kernel_rfl) (by as_aux_lemma => kernel_rfl) (fun _ _ _ h => h) (Or.inl ⟨by kernel_rfl, ?_⟩) hS ?_
      rotate_left
      · intro w hSw; obtain ⟨y0, y1, y2⟩ := HC.out _ hSw; have a0 := y0.c0; have a1 := y0.c1; have a2 := y0.c2; have e0 := y1.c0; have e1 := y1.c1; have e2 := y1.c2; have f0 := y2.c0; have f1 := y2.c1; have f2 := y2.c2; clear y0 y1 y2; go_simp
        first | done | with_reducible rfl
      refine wpAnyH_takeE (i := 12) (some 70) (v := ?_) rfl rfl (by as_aux_lemma => kernel_rfl) (by as_aux_lemma => kernel_rfl) (by as_aux_lemma => kernel_rfl) (fun _ _ _ h => h) (Or.inl ⟨by kernel_rfl, ?_⟩) hS ?_
      rotate_left
      · intro w hSw; obtain ⟨y0, y1, y2⟩ := HC.out _ hSw; have a0 := y0.c0; have a1 := y0.c1; have a2 := y0.c2; have e0 := y1.c0; have e1 := y1.c1; have e2 := y1.c2; have f0 := y2.c0; have f1 := y2.c1; have f2 := y2.c2; clear y0 y1 y2; go_simp
        first | done | with_reducible rfl
      refine wpAnyH_takeE (i := 13) (some 71) (v := ?_) rfl rfl (by as_aux_lemma => kernel_rfl) (by as_aux_lemma => kernel_rfl) (by as_aux_lemma => kernel_rfl) (fun _ _ _ h => h) (Or.inl ⟨by kernel_rfl, ?_⟩) hS ?_
      rotate_left
      · intro w hSw; obtain ⟨y0, y1, y2⟩ := HC.out _ hSw; have a0 := y0.c0; have a1 := y0.c1; have a2 := y0.c2; have e0 := y1.c0; have e1 := y1.c1; have e2 := y1.c2; have f0 := y2.c0; have f1 := y2.c1; have f2 := y2.c2; clear y0 y1 y2; go_simp
        first | done | with_reducible rfl
      refine wpAnyH_ready (rs := [14]) (by as_aux_lemma => kernel_rfl) (by simp) ?_
      refine AllReadyH.cons rfl (fun K hK => ?_) AllReadyH.nil
      go_simp
      go_wp2_with (go_at_call 21; refine (HSx.out _ hS).mono ?_; rintro e vq2 ⟨rfl, q2⟩)
      refine hK.out _ _ ?_ (fun hS => ?_)
      · exact hS.trans (q2.mono hS.size)
      clear hK K
      refine wpAnyH_takeE (i := 15) (some 73) (v := ?_) rfl rfl (by as_aux_lemma => kernel_rfl) (by as_aux_lemma => kernel_rfl) (by as_aux_lemma => kernel_rfl) (fun _ _ _ h => h) (Or.inl ⟨by kernel_rfl, ?_⟩) hS ?_
      rotate_left
      · intro w hSw; obtain ⟨y0, y1, y2⟩ := HC.out _ hSw; have a0 := y0.c0; have a1 := y0.c1; have a2 := y0.c2; have e0 := y1.c0; have e1 := y1.c1; have e2 := y1.c2; have f0 := y2.c0; have f1 := y2.c1; have f2 := y2.c2; clear y0 y1 y2; go_simp
        first | done | with_reducible rfl
      refine wpAnyH_takeE (i := 16) (some 74) (v := ?_) rfl rfl (by as_aux_lemma => kernel_rfl) (by as_aux_lemma => kernel_rfl) (by as_aux_lemma => kernel_rfl) (fun _ _ _ h => h) (Or.inl ⟨by kernel_rfl, ?_⟩) hS ?_
      rotate_left
      · intro w hSw; obtain ⟨y0, y1, y2⟩ := HC.out _ hSw; have a0 := y0.c0; have a1 := y0.c1; have a2 := y0.c2; have e0 := y1.c0; have e1 := y1.c1; have e2 := y1.c2; have f0 := y2.c0; have f1 := y2.c1; have f2 := y2.c2; clear y0 y1 y2; go_simp
        first | done | with_reducible rfl
      refine wpAnyH_takeE (i := 17) (some 75) (v := ?_) rfl rfl (by as_aux_lemma => kernel_rfl) (by as_aux_lemma => kernel_rfl) (by as_aux_lemma => kernel_rfl) (fun _ _ _ h => h) (Or.inl ⟨by kernel_rfl, ?_⟩) hS ?_
      rotate_left
      · intro w hSw; obtain ⟨y0, y1, y2⟩ := HC.out _ hSw; have a0 := y0.c0; have a1 := y0.c1; have a2 := y0.c2; have e0 := y1.c0; have e1 := y1.c1; have e2 := y1.c2; have f0 := y2.c0; have f1 := y2.c1; have f2 := y2.c2; clear y0 y1 y2; go_simp
        first | done | with_reducible rfl
      refine wpAnyH_takeE (i := 18) (some 76) (v := ?_) rfl rfl (by as_aux_lemma => kernel_rfl) (by as_aux_lemma => kernel_rfl) (by as_aux_lemma => kernel_rfl) (fun _ _ _ h => h) (Or.inl ⟨by kernel_rfl, ?_⟩) hS ?_
      rotate_left
      · intro w hSw; obtain ⟨y0, y1, y2⟩ := HC.out _ hSw; have a0 := y0.c0; have a1 := y0.c1; have a2 := y0.c2; have e0 := y1.c0; have e1 := y1.c1; have e2 := y1.c2; have f0 := y2.c0; have f1 := y2.c1; have f2 := y2.c2; clear y0 y1 y2; go_simp
        first | done | with_reducible rfl
      refine wpAnyH_takeE (i := 19) (some 77) (v := ?_) rfl rfl (by as_aux_lemma => kernel_rfl) (by as_aux_lemma => kernel_rfl) (by as_aux_lemma => kernel_rfl) (fun _ _ _ h => h) (Or.inl ⟨by kernel_rfl, ?_⟩) hS ?_
      rotate_left
      · intro w hSw; obtain ⟨y0, y1, y2⟩ := HC.out _ hSw; have a0 := y0.c0; have a1 := y0.c1; have a2 := y0.c2; have e0 := y1.c0; have e1 := y1.c1; have e2 := y1.c2; have f0 := y2.c0; have f1 := y2.c1; have f2 := y2.c2; clear y0 y1 y2; go_simp
        first | done | with_reducible rfl
      refine wpAnyH_takeE (i := 20) (some 78) (v := ?_) rfl rfl (by as_aux_lemma => kernel_rfl) (by as_aux_lemma => kernel_rfl) (by as_aux_lemma => kernel_rfl) (fun _ _ _ h => h) (Or.inl ⟨by kernel_rfl, ?_⟩) hS ?_
      rotate_left
      · intro w hSw; obtain ⟨y0, y1, y2⟩ := HC.out _ hSw; have a0 := y0.c0; have a1 := y0.c1; have a2 := y0.c2; have e0 := y1.c0; have e1 := y1.c1; have e2 := y1.c2; have f0 := y2.c0; have f1 := y2.c1; have f2 := y2.c2; clear y0 y1 y2; go_simp
        first | done | with_reducible rfl
      refine wpAnyH_takeE (i := 21) (some 79) (v := ?_) rfl rfl (by as_aux_lemma => kernel_rfl) (by as_aux_lemma => kernel_rfl) (by as_aux_lemma => kernel_rfl) (fun _ _ _ h => h) (Or.inl ⟨by kernel_rfl, ?_⟩) hS ?_
      rotate_left
      · intro w hSw; obtain ⟨y0, y1, y2⟩ := HC.out _ hSw; have a0 := y0.c0; have a1 := y0.c1; have a2 := y0.c2; have e0 := y1.c0; have e1 := y1.c1; have e2 := y1.c2; have f0 := y2.c0; have f1 := y2.c1; have f2 := y2.c2; clear y0 y1 y2; go_simp
        first | done | with_reducible rfl
      refine wpAnyH_takeE (i := 22) (some 80) (v := ?_) rfl rfl (by as_aux_lemma => kernel_rfl) (by as_aux_lemma => kernel_rfl) (by as_aux_lemma => kernel_rfl) (fun _ _ _ h => h) (Or.inl ⟨by kernel_rfl, ?_⟩) hS ?_
      rotate_left
      · intro w hSw; obtain ⟨y0, y1, y2⟩ := HC.out _ hSw; have a0 := y0.c0; have a1 := y0.c1; have a2 := y0.c2; have e0 := y1.c0; have e1 := y1.c1; have e2 := y1.c2; have f0 := y2.c0; have f1 := y2.c1; have f2 := y2.c2; clear y0 y1 y2; go_simp
        first | done | with_reducible rfl
      refine wpAnyH_takeE (i := 23) (some 81) (v := ?_) rfl rfl (by as_aux_lemma => kernel_rfl) (by as_aux_lemma => kernel_rfl) (by as_aux_lemma => kernel_rfl) (fun _ _ _ h => h) (Or.inl ⟨by kernel_rfl, ?_⟩) hS ?_
      rotate_left
      · intro w hSw; obtain ⟨y0, y1, y2⟩ := HC.out _ hSw; have a0 := y0.c0; have a1 := y0.c1; have a2 := y0.c2; have e0 := y1.c0; have e1 := y1.c1; have e2 := y1.c2; have f0 := y2.c0; have f1 := y2.c1; have f2 := y2.c2; clear y0 y1 y2; go_simp
        first | done | with_reducible rfl
      refine wpAnyH_takeE (i := 24) (some 82) (v := ?_) rfl rfl (by as_aux_lemma => kernel_rfl) (by as_aux_lemma => kernel_rfl) (by as_aux_lemma => kernel_rfl) (fun _ _ _ h => h) (Or.inl ⟨by kernel_rfl, ?_⟩) hS ?_
      rotate_left
      · intro w hSw; obtain ⟨y0, y1, y2⟩ := HC.out _ hSw; have a0 := y0.c0; have a1 := y0.c1; have a2 := y0.c2; have e0 := y1.c0; have e1 := y1.c1; have e2 := y1.c2; have f0 := y2.c0; have f1 := y2.c1; have f2 := y2.c2; clear y0 y1 y2; go_simp
        first | done | with_reducible rfl
      refine wpAnyH_ready (rs := [25]) (by as_aux_lemma => kernel_rfl) (by simp) ?_
      refine AllReadyH.cons rfl (fun K hK => ?_) AllReadyH.nil
      go_simp
      go_wp2_with (go_at_call 15; refine (HAb.out _).mono ?_; rintro e vq3 ⟨rfl, q3⟩)
      refine hK.out _ _ ?_ (fun hS => ?_)
      · exact hS.trans (q3.mono hS.size)
      clear hK K
      refine wpAnyH_takeE (i := 26) (some 84) (v := ?_) rfl rfl (by as_aux_lemma => kernel_rfl) (by as_aux_lemma => kernel_rfl) (by as_aux_lemma => kernel_rfl) (fun _ _ _ h => h) (Or.inl ⟨by kernel_rfl, ?_⟩) hS ?_
      rotate_left
      · intro w hSw; obtain ⟨y0, y1, y2⟩ := HC.out _ hSw; have a0 := y0.c0; have a1 := y0.c1; have a2 := y0.c2; have e0 := y1.c0; have e1 := y1.c1; have e2 := y1.c2; have f0 := y2.c0; have f1 := y2.c1; have f2 := y2.c2; clear y0 y1 y2; go_simp
        first | done | with_reducible rfl
      refine wpAnyH_takeE (i := 27) (some 85) (v := ?_) rfl rfl (by as_aux_lemma => kernel_rfl) (by as_aux_lemma => kernel_rfl) (by as_aux_lemma => kernel_rfl) (fun _ _ _ h => h) (Or.inl ⟨by kernel_rfl, ?_⟩) hS ?_
      rotate_left
      · intro w hSw; obtain ⟨y0, y1, y2⟩ := HC.out _ hSw; have a0 := y0.c0; have a1 := y0.c1; have a2 := y0.c2; have e0 := y1.c0; have e1 := y1.c1; have e2 := y1.c2; have f0 := y2.c0; have f1 := y2.c1; have f2 := y2.c2; clear y0 y1 y2; go_simp
        first | done | with_reducible rfl
      refine wpAnyH_takeE (i := 28) (some 86) (v := ?_) rfl rfl (by as_aux_lemma => kernel_rfl) (by as_aux_lemma => kernel_rfl) (by as_aux_lemma => kernel_rfl) (fun _ _ _ h => h) (Or.inl ⟨by kernel_rfl, ?_⟩) hS ?_
      rotate_left
      · intro w hSw; obtain ⟨y0, y1, y2⟩ := HC.out _ hSw; have a0 := y0.c0; have a1 := y0.c1; have a2 := y0.c2; have e0 := y1.c0; have e1 := y1.c1; have e2 := y1.c2; have f0 := y2.c0; have f1 := y2.c1; have f2 := y2.c2; clear y0 y1 y2; go_simp
        first | done | with_reducible rfl
      refine wpAnyH_ready (rs := [29]) (by as_aux_lemma => kernel_rfl) (by simp) ?_
      refine AllReadyH.cons rfl (fun K hK => ?_) AllReadyH.nil
      go_simp
      go_wp2_with (go_at_call 9; refine (HAw.out _).mono ?_; rintro e vq4 ⟨rfl, q4⟩)
      refine hK.out _ _ ?_ (fun hS => ?_)
      · exact hS.trans (q4.mono hS.size)
      clear hK K
      refine wpAnyH_takeE (i := 30) (some 88) (v := ?_) rfl rfl (by as_aux_lemma => kernel_rfl) (by as_aux_lemma => kernel_rfl) (by as_aux_lemma => kernel_rfl) (fun _ _ _ h => h) (Or.inl ⟨by kernel_rfl, ?_⟩) hS ?_
      rotate_left
      · intro w hSw; obtain ⟨y0, y1, y2⟩ := HC.out _ hSw; have a0 := y0.c0; have a1 := y0.c1; have a2 := y0.c2; have e0 := y1.c0; have e1 := y1.c1; have e2 := y1.c2; have f0 := y2.c0; have f1 := y2.c1; have f2 := y2.c2; clear y0 y1 y2; go_simp
        first | done | with_reducible rfl
      refine wpAnyH_takeE (i := 31) (some 6) (v := ?_) rfl rfl (by as_aux_lemma => kernel_rfl) (by as_aux_lemma => kernel_rfl) (by as_aux_lemma => kernel_rfl) (fun _ _ _ h => h) (Or.inl ⟨by kernel_rfl, ?_⟩) hS ?_
      rotate_left
      · intro w hSw; obtain ⟨y0, y1, y2⟩ := HC.out _ hSw; have a0 := y0.c0; have a1 := y0.c1; have a2 := y0.c2; have e0 := y1.c0; have e1 := y1.c1; have e2 := y1.c2; have f0 := y2.c0; have f1 := y2.c1; have f2 := y2.c2; clear y0 y1 y2; go_simp
        first | done | with_reducible rfl
      refine wpAnyH_done (by kernel_rfl) ?_ _
      have HE := Lib.hid (HWb.out.trans (hS.mono HWb.out.size))
      go_simp
      go_wp2
      go_ret
      exact ⟨rfl, HE.out⟩

end Go.Proofs.Ytccldbophonloaa
