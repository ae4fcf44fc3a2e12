/-
  The walk of MemberOrder.
-/
import Derived.Test.YtccldbophonloaaBW
namespace Go.Proofs.Ytccldbophonloaa
open Go Go.RowKit

/-- Members of others. -/
def fltM (s : Nat) (l : List Mem) : List Mem := l.filter (fun m => !(m.n == (s : Int)))
theorem fltM_snoc (s : Nat) (l : List Mem) (m : Mem) : fltM s (l ++ [m]) = fltM s l ++ (if m.n = (s : Int) then [] else [m]) := by
  unfold fltM
  rw [List.filter_append]
  by_cases h : m.n = (s : Int) <;> simp [h]
theorem fltM_len (s : Nat) (l : List Mem) : (fltM s l).length ≤ l.length := List.length_filter_le _ _
theorem fltM_mem {s : Nat} {l : List Mem} (h : FitM l) : FitM (fltM s l) ∧ ∀ m ∈ fltM s l, 0 ≤ m.n ∧ m.n ≠ (s : Int) := by
  refine ⟨fun m hm => h m (List.mem_filter.1 hm).1, fun m hm => ⟨(h m (List.mem_filter.1 hm).1).1, ?_⟩⟩
  have := (List.mem_filter.1 hm).2
  simpa using this
/-- What is there while two tables hear two lists. -/
structure OSt (W w : World) (bt bu : Nat) (ax ay : Option Addr) (lx ly : List Mem) (T U : Tb) : Prop where
  tx : MemsAt w ax lx
  ty : MemsAt w ay ly
  nx : ∀ q, ax = some q → q.block < bt
  ny : ∀ q, ay = some q → q.block < bt
  lt : bt < bu
  le : W.heap.size ≤ bt
  t : TabBlk w bt T
  u : TabBlk w bu U
  below : Below W.heap.size W w
theorem OSt.on {W w v : World} {bt bu : Nat} {ax ay : Option Addr} {lx ly : List Mem} {T U : Tb} (h : OSt W w bt bu ax ay lx ly T U) (q : Below w.heap.size w v) : OSt W v bt bu ax ay lx ly T U :=
  ⟨h.tx.on q, h.ty.on q, h.nx, h.ny, h.lt, h.le, h.t.on q, h.u.on q, h.below.trans (q.mono h.below.size)⟩
theorem OSt.hearT {W w v : World} {bt bu : Nat} {ax ay : Option Addr} {lx ly : List Mem} {T U T' : Tb} (h : OSt W w bt bu ax ay lx ly T U) (g : w.grownBy v (some bt)) (ht : TabBlk v bt T') : OSt W v bt bu ax ay lx ly T' U :=
  ⟨h.tx.skip g (fun q e => Nat.ne_of_lt (h.nx q e)), h.ty.skip g (fun q e => Nat.ne_of_lt (h.ny q e)), h.nx, h.ny, h.lt, h.le, ht, h.u.kept g (by have := h.lt; simp; omega), h.below.grown g h.below.size (fun j e => by cases e; exact h.le)⟩
theorem OSt.hearU {W w v : World} {bt bu : Nat} {ax ay : Option Addr} {lx ly : List Mem} {T U U' : Tb} (h : OSt W w bt bu ax ay lx ly T U) (g : w.grownBy v (some bu)) (hu : TabBlk v bu U') : OSt W v bt bu ax ay lx ly T U' :=
  ⟨h.tx.skip g (fun q e => by have := h.nx q e; have := h.lt; omega), h.ty.skip g (fun q e => by have := h.ny q e; have := h.lt; omega), h.nx, h.ny, h.lt, h.le, h.t.kept g (by have := h.lt; simp; omega), hu, h.below.grown g h.below.size (fun j e => by cases e; have := h.lt; have := h.le; omega)⟩

set_option maxRecDepth 100000 in
set_option maxHeartbeats 16000000 in
theorem order_walk (me : Nat) (a : Option Addr) (c n : Nat) (l : List Mem) (b : Option Addr) (d m : Nat) (r : List Mem) (W : World) (hA : MemsAt W a l) (hB : MemsAt W b r) (hFa : FitM l) (hFb : FitM r) (hn : n = l.length) (hm : m = r.length) :
    Calls Try.prog 6 #[.int .u16 (me : Int), .slice a n c, .slice b m d] W fun e w' => e = .returned (.bool true) ∧ Below W.heap.size W w' := by
  have HAw := Lib.hid (fun u => bawake_any u)
  by_cases hna : n ≤ 100
  case neg =>
    have hgt : (100 : Int) < (n : Int) := by omega
    go_enter Try.func6, Try.ntmps6
    go_wp2_with (go_at_call 9; refine (HAw.out _).mono ?_; rintro e w1 ⟨rfl, q1⟩; replace q1 := Lib.hid q1; refine Hid.out ?_)
    refine Lib.hid ?_
    go_wp2
    go_ret
    exact ⟨rfl, q1.out⟩
  have hga : ¬ (100 : Int) < (n : Int) := by omega
  by_cases hnb : m ≤ 100
  case neg =>
    have hgt : (100 : Int) < (m : Int) := by omega
    go_enter Try.func6, Try.ntmps6
    go_wp2_with (go_at_call 9; refine (HAw.out _).mono ?_; rintro e w1 ⟨rfl, q1⟩; replace q1 := Lib.hid q1; refine Hid.out ?_)
    refine Lib.hid ?_
    go_wp2
    go_ret
    exact ⟨rfl, q1.out⟩
  have hgb : ¬ (100 : Int) < (m : Int) := by omega
  obtain ⟨s, hs, hs2⟩ : ∃ s : Nat, (me : Int) % 64 = (s : Int) ∧ me % 64 = s := ⟨me % 64, by omega, rfl⟩
  have hs64 : s < 64 := by omega
  have HS64 := Lib.hid hs64
  have HS2 := Lib.hid hs2
  clear hs2 hs64
  have HA := Lib.hid hA
  have HB := Lib.hid hB
  have HFa := Lib.hid hFa
  have HFb := Lib.hid hFb
  have HNa := Lib.hid hn
  have HNb := Lib.hid hm
  clear hA hB hFa hFb hn hm
  go_enter Try.func6, Try.ntmps6
  go_wp2
  go_loopw [8, 10] (fun v x wr => ∃ (k : Nat) (a8 : Option Addr) (n8 c8 : Nat), k ≤ n ∧ x = .int .i64 (k : Int) ∧ v = .slice a8 n8 c8 ∧ Hid (OwnMx wr W.heap.size (.slice a8 n8 c8) (fltM s (l.take k)) ∧ Below W.heap.size W wr)) (fun _ x _ => n - (intOf x).toNat)
  case atStart => exact ⟨0, none, 0, 0, Nat.zero_le _, rfl, rfl, Lib.hid ⟨OwnMx.nil _ _, Below.refl _ _⟩⟩
  case round =>
    obtain ⟨k, a8, n8, c8, hk, rfl, rfl, HS⟩ := hrel
    by_cases hlt : k < n
    case neg =>
      have hkl : ¬ (k : Int) < (n : Int) := by omega
      obtain ⟨w1, hw1⟩ : ∃ w1, w1 = wr := ⟨_, rfl⟩
      rw [← hw1] at HS ⊢
      clear hw1
      have HX : Hid (OwnMx w1 W.heap.size (.slice a8 n8 c8) (fltM s l)) := Lib.hid (by have := HS.out.1; rwa [List.take_of_length_le (by have := HNa.out; omega)] at this)
      have HB1 := Lib.hid HS.out.2
      clear HS hk hlt
      obtain ⟨a80, h80⟩ : ∃ z, z = a8 := ⟨_, rfl⟩
      obtain ⟨n80, i80⟩ : ∃ z, z = n8 := ⟨_, rfl⟩
      obtain ⟨c80, j80⟩ : ∃ z, z = c8 := ⟨_, rfl⟩
      rw [← h80, ← i80, ← j80] at HX
      subst h80 i80 j80
      go_wp2
      go_loopw [9, 11] (fun v x wr => ∃ (k : Nat) (a8 : Option Addr) (n8 c8 : Nat), k ≤ m ∧ x = .int .i64 (k : Int) ∧ v = .slice a8 n8 c8 ∧ Hid (OwnMx wr w1.heap.size (.slice a8 n8 c8) (fltM s (r.take k)) ∧ Below w1.heap.size w1 wr)) (fun _ x _ => m - (intOf x).toNat)
      case atStart => exact ⟨0, none, 0, 0, Nat.zero_le _, rfl, rfl, Lib.hid ⟨OwnMx.nil _ _, Below.refl _ _⟩⟩
      case round =>
        obtain ⟨k, a8, n8, c8, hk, rfl, rfl, HS⟩ := hrel
        by_cases hlt : k < m
        case neg =>
          have hkl : ¬ (k : Int) < (m : Int) := by omega
          obtain ⟨w2, hw2⟩ : ∃ w2, w2 = wr := ⟨_, rfl⟩
          rw [← hw2] at HS ⊢
          clear hw2
          have HY : Hid (OwnMx w2 w1.heap.size (.slice a8 n8 c8) (fltM s r)) := Lib.hid (by have := HS.out.1; rwa [List.take_of_length_le (by have := HNb.out; omega)] at this)
          have HX2 := Lib.hid (HX.out.on (HS.out.2.mono (Nat.le_refl _)))
          have HB2 := Lib.hid (HB1.out.trans (HS.out.2.mono HB1.out.size))
          have HLx : Hid ((fltM s l).length ≤ 100 ∧ (fltM s r).length ≤ 100) := Lib.hid ⟨by have := fltM_len s l; have := HNa.out; omega, by have := fltM_len s r; have := HNb.out; omega⟩
          obtain ⟨xx, xc, e1, -, x1, x2⟩ := HX2.out.form
          obtain ⟨yy, yc, e2, -, y1, y2⟩ := HY.out.form
          simp only [Value.slice.injEq] at e1 e2
          obtain ⟨rfl, hnx, rfl⟩ := e1
          obtain ⟨rfl, hny, rfl⟩ := e2
          replace hnx := Lib.hid hnx
          replace hny := Lib.hid hny
          have HXM := Lib.hid (And.intro x2 (fun q e => (x1 q e).2))
          have HYM := Lib.hid (And.intro y2 (fun q e => (y1 q e).2))
          have HFx := Lib.hid (fltM_mem (s := s) HFa.out)
          have HFy := Lib.hid (fltM_mem (s := s) HFb.out)
          clear x1 x2 y1 y2 HY HX2 HS HX HB1
          have HNw := Lib.hid (bNew_any me w2)
          rw [HS2.out] at HNw
          go_wp2_with (go_at_call 10; refine HNw.out.mono ?_; rintro e w3 ⟨rfl, t3, q3⟩; replace t3 := Lib.hid t3; replace q3 := Lib.hid q3; refine Hid.out ?_)
          refine Lib.hid ?_
          have HNv := Lib.hid (bNew_any me w3)
          rw [HS2.out] at HNv
          go_wp2_with (go_at_call 10; refine HNv.out.mono ?_; rintro e w4 ⟨rfl, t4, q4⟩; replace t4 := Lib.hid t4; replace q4 := Lib.hid q4; refine Hid.out ?_)
          refine Lib.hid ?_
          have HO : Hid (OSt W w4 w2.heap.size w3.heap.size a80 a8 (fltM s l) (fltM s r) (newB s) (newB s)) := Lib.hid ⟨(HXM.out.1.on q3.out).on q4.out, (HYM.out.1.on q3.out).on q4.out, HXM.out.2, HYM.out.2, t3.out.lt, HB2.out.size, t3.out.on q4.out, t4.out, HB2.out.trans ((q3.out.trans (q4.out.mono q3.out.size)).mono HB2.out.size)⟩
          clear HNw HNv t3 q3 t4 q4 HXM HYM HB2
          generalize w2.heap.size = bt at *
          generalize w3.heap.size = bu at *
          have HM0 := Lib.hid (bMerge_any bt (newB s) a80 c80 n80 (fltM s l) (fun m hm => (HFx.out.2 m hm).1) hnx.out (by have := HLx.out.1; omega) w4 HO.out.t HO.out.tx (fun _ q e => Nat.ne_of_lt (HO.out.nx q e)))
          go_wp2_with (go_at_call 17; refine HM0.out.mono ?_; rintro e w5 ⟨ga, gn, gc, rfl, -, gt, gg⟩; replace gt := Lib.hid gt; replace gg := Lib.hid gg; refine Hid.out ?_)
          refine Lib.hid ?_
          have HO0 := Lib.hid (HO.out.hearT gg.out gt.out)
          clear HM0 gt gg HO
          have HM1 := Lib.hid (bMerge_any bt (mergeB (newB s) (fltM s l)) a8 c8 n8 (fltM s r) (fun m hm => (HFy.out.2 m hm).1) hny.out (by have := HLx.out.2; omega) w5 HO0.out.t HO0.out.ty (fun _ q e => Nat.ne_of_lt (HO0.out.ny q e)))
          go_wp2_with (go_at_call 17; refine HM1.out.mono ?_; rintro e w6 ⟨ga, gn, gc, rfl, -, gt, gg⟩; replace gt := Lib.hid gt; replace gg := Lib.hid gg; refine Hid.out ?_)
          refine Lib.hid ?_
          have HO1 := Lib.hid (HO0.out.hearT gg.out gt.out)
          clear HM1 gt gg HO0
          have HM2 := Lib.hid (bMerge_any bu (newB s) a8 c8 n8 (fltM s r) (fun m hm => (HFy.out.2 m hm).1) hny.out (by have := HLx.out.2; omega) w6 HO1.out.u HO1.out.ty (fun _ q e => by have := HO1.out.ny q e; have := HO1.out.lt; omega))
          go_wp2_with (go_at_call 17; refine HM2.out.mono ?_; rintro e w7 ⟨ga, gn, gc, rfl, -, gt, gg⟩; replace gt := Lib.hid gt; replace gg := Lib.hid gg; refine Hid.out ?_)
          refine Lib.hid ?_
          have HO2 := Lib.hid (HO1.out.hearU gg.out gt.out)
          clear HM2 gt gg HO1
          have HM3 := Lib.hid (bMerge_any bu (mergeB (newB s) (fltM s r)) a80 c80 n80 (fltM s l) (fun m hm => (HFx.out.2 m hm).1) hnx.out (by have := HLx.out.1; omega) w7 HO2.out.u HO2.out.tx (fun _ q e => by have := HO2.out.nx q e; have := HO2.out.lt; omega))
          go_wp2_with (go_at_call 17; refine HM3.out.mono ?_; rintro e w8 ⟨ga, gn, gc, rfl, -, gt, gg⟩; replace gt := Lib.hid gt; replace gg := Lib.hid gg; refine Hid.out ?_)
          refine Lib.hid ?_
          have HO3 := Lib.hid (HO2.out.hearU gg.out gt.out)
          clear HM3 gt gg HO2
          have HM4 := Lib.hid (bMerge_any bu (mergeB (mergeB (newB s) (fltM s r)) (fltM s l)) a8 c8 n8 (fltM s r) (fun m hm => (HFy.out.2 m hm).1) hny.out (by have := HLx.out.2; omega) w8 HO3.out.u HO3.out.ty (fun _ q e => by have := HO3.out.ny q e; have := HO3.out.lt; omega))
          go_wp2_with (go_at_call 17; refine HM4.out.mono ?_; rintro e w9 ⟨ga, gn, gc, rfl, -, gt, gg⟩; replace gt := Lib.hid gt; replace gg := Lib.hid gg; refine Hid.out ?_)
          refine Lib.hid ?_
          have HO4 := Lib.hid (HO3.out.hearU gg.out gt.out)
          clear HM4 gt gg HO3
          have HEq : Hid (((mergeB (mergeB (mergeB (newB s) (fltM s r)) (fltM s l)) (fltM s r))).f = ((mergeB (mergeB (newB s) (fltM s l)) (fltM s r))).f) := Lib.hid (merge_order (s := s) HFx.out.2 HFy.out.2)
          have HTk : Hid (TbOk (mergeB (mergeB (newB s) (fltM s l)) (fltM s r))) := Lib.hid (mergeB_ok (mergeB_ok (newB_ok HS64.out) HFx.out.1) HFy.out.1)
          generalize (mergeB (mergeB (newB s) (fltM s l)) (fltM s r)) = TT at *
          generalize (mergeB (mergeB (mergeB (newB s) (fltM s r)) (fltM s l)) (fltM s r)) = UU at *
          have HEm : Hid (memsB TT = memsB UU) := Lib.hid (by unfold memsB; rw [HEq.out])
          have HL1 := Lib.hid (bList_any bt TT w9 HO4.out.t)
          go_wp2_with (go_at_call 22; refine HL1.out.mono ?_; rintro e wa ⟨aa, na, ca, rfl, hna1, hoa, qa⟩; replace hna1 := Lib.hid hna1; replace hoa := Lib.hid hoa; replace qa := Lib.hid qa; refine Hid.out ?_)
          refine Lib.hid ?_
          have HOa := Lib.hid (HO4.out.on qa.out)
          have HL2 := Lib.hid (bList_any bu UU wa HOa.out.u)
          clear HL1 qa HO4
          go_wp2_with (go_at_call 22; refine HL2.out.mono ?_; rintro e wb ⟨ab, nb, cb, rfl, hnb1, hob, qb⟩; replace hnb1 := Lib.hid hnb1; replace hob := Lib.hid hob; replace qb := Lib.hid qb; refine Hid.out ?_)
          refine Lib.hid ?_
          have HOb := Lib.hid (HOa.out.on qb.out)
          have HSM := Lib.hid (ySameM_any aa ab ca cb (memsB TT) (memsB UU) wb (hoa.out.on qb.out).mems hob.out.mems (by have := memsB_len TT; omega) na nb hna1.out hnb1.out)
          rw [(sameMs_iff _ _).2 HEm.out] at HSM
          clear HL2 qb HOa hoa hob
          go_wp2_with (go_at_call 25; refine HSM.out.mono ?_; rintro e wc ⟨rfl, qc⟩; replace qc := Lib.hid qc; refine Hid.out ?_)
          refine Lib.hid ?_
          have HOc := Lib.hid (HOb.out.on qc.out)
          have HL3 := Lib.hid (bList_any bt TT wc HOc.out.t)
          clear HSM qc HOb hna1 hnb1
          go_wp2_with (go_at_call 22; refine HL3.out.mono ?_; rintro e wd ⟨ad, nd, cd, rfl, hnd1, hod, qd⟩; replace hnd1 := Lib.hid hnd1; replace hod := Lib.hid hod; replace qd := Lib.hid qd; refine Hid.out ?_)
          refine Lib.hid ?_
          have HOd := Lib.hid (HOc.out.on qd.out)
          obtain ⟨hMd, hlod⟩ : Hid (MemsAt wd ad (memsB TT)) ∧ Hid (∀ q, ad = some q → wc.heap.size ≤ q.block) := by
            obtain ⟨x, y, e, -, h1, h2⟩ := hod.out.form
            simp only [Value.slice.injEq] at e
            obtain ⟨rfl, -⟩ := e
            exact ⟨Lib.hid h2, Lib.hid fun q e => (h1 q e).1⟩
          have HMz := Lib.hid (bMerge_any bu UU ad cd nd (memsB TT) (fun m hm => (HTk.out.fit m hm).1) hnd1.out (by have := memsB_len TT; omega) wd HOd.out.u hMd.out (fun _ q e => by have := hlod.out q e; have := HOc.out.u.lt; omega))
          go_wp2_with (go_at_call 17; refine HMz.out.mono ?_; rintro e we ⟨ae, ne, ce, rfl, oe, gt, gg⟩; replace oe := Lib.hid oe; replace gt := Lib.hid gt; replace gg := Lib.hid gg; refine Hid.out ?_)
          refine Lib.hid ?_
          have HOe := Lib.hid (HOd.out.hearU gg.out gt.out)
          obtain rfl : ne = 0 := by
            obtain ⟨x, y, e, -⟩ := oe.out.form
            simp only [Value.slice.injEq] at e
            rw [(news_none HTk.out HEq.out _ (fun m hm => hm)).1] at e
            exact e.2.1
          clear HMz hMd hlod oe gt gg HOd HOc hod qd hnd1 HL3
          go_wp2_with (go_at_call 9; refine (HAw.out _).mono ?_; rintro e wf ⟨rfl, qf⟩; replace qf := Lib.hid qf; refine Hid.out ?_)
          refine Lib.hid ?_
          have HE := Lib.hid (HOe.out.on qf.out).below
          clear HOe qf
          go_wp2
          go_ret
          exact ⟨rfl, HE.out⟩
        have hkl : (k : Int) < (m : Int) := by omega
        have hkx : k < r.length := by have := HNb.out; omega
        obtain ⟨ba, oa, rfl, hba, d0, d1, d2⟩ := ((HB.out.on (HB1.out.trans (HS.out.2.mono HB1.out.size)))).cells k hkx
        have HT1 : Hid (fltM s (r.take (k + 1)) = fltM s (r.take k) ++ (if r[k].n = (s : Int) then [] else [r[k]])) := Lib.hid (by rw [List.take_succ_eq_append_getElem hkx, fltM_snoc])
        generalize r[k] = x at *
        obtain ⟨xn, xs, xi⟩ := x
        dsimp only at d0 d1 d2 HT1
        by_cases hxs : xn = (s : Int)
        · subst hxs
          rw [if_pos rfl, List.append_nil] at HT1
          have HST : Hid (OwnMx wr w1.heap.size (.slice a8 n8 c8) (fltM s (r.take (k + 1))) ∧ Below w1.heap.size w1 wr) := Lib.hid (by rw [HT1.out]; exact HS.out)
          clear HS HT1
          go_wp2
          go_roundw
          case rel => exact ⟨k + 1, _, _, _, by omega, by go_num, rfl, HST⟩
          case measure => simp [intOf]; omega
        · rw [if_neg hxs] at HT1
          have hx1 : (xn == (s : Int)) = false := by simpa using hxs
          obtain ⟨i0, hi, hi0, hi1, hi2⟩ := infoM
          have hlen : (fltM s (r.take k)).length ≤ 100 := by
            have h1 := fltM_len s (r.take k)
            have h3 : (r.take k).length ≤ r.length := by rw [List.length_take]; omega
            have := HNb.out
            omega
          have hown3 : wr.ownsRow w1.heap.size 32 3 (.slice a8 n8 c8) (fltM s (r.take k)).length (cellsMx (fltM s (r.take k))) := HS.out.1
          generalize fltM s (r.take k) = acc at *
          have hszz := HS.out.2.size
          go_wp2_with (at_builtin; refine wpList_append_own _ rfl _ _ 23 rfl w1.heap.size 32 i0 _ 3 16 Try.underlying23 hi hi0 hi1 hi2 rfl (by decide) _ _ _ rfl (World.ownsRow.alloc hown3 _) ⟨wr.heap.size, 0, none⟩ 1 1 [.int .u16 xn, .int .u8 xs, .int .i64 xi] rfl rfl (World.news_of_block (cs := #[.int .u16 xn, .int .u8 xs, .int .i64 xi]) (newE _ _)) (by intro u' hu'; simp at hu'; rcases hu' with rfl | rfl | rfl <;> rfl) (by unfold maxLen; omega) (by omega) (by simp; omega) ?_; refine Hid.out ?_)
          refine Lib.hid ?_
          intro v7 w7 hown7 hg7 _
          have hA7 : OwnMx w7 w1.heap.size v7 (acc ++ [⟨xn, xs, xi⟩]) := OwnMx.push hown7
          obtain ⟨a7, c7, rfl, -, -, -⟩ := hA7.form
          have hbz : ∀ j, (Value.slice a8 n8 c8).ownBlock = some j → w1.heap.size ≤ j := fun j hj => (World.ownsRow.lt hown3 j hj).1
          have hb2 := (Below.refl wr.heap.size wr).alloc (Nat.le_refl _) (.cells #[.int .u16 xn, .int .u8 xs, .int .i64 xi] 32)
          have s7 : Below w1.heap.size wr w7 := (hb2.mono hszz).grown hg7 (by simp; omega) (fun j hj => hbz j hj)
          have HST : Hid (OwnMx w7 w1.heap.size (.slice a7 (acc ++ [(⟨xn, xs, xi⟩ : Mem)]).length c7) (fltM s (r.take (k + 1))) ∧ Below w1.heap.size w1 w7) := Lib.hid ⟨by rw [HT1.out]; exact hA7, HS.out.2.trans s7⟩
          clear hA7 s7 hb2 hbz hown7 hg7 hown3 hi hi0 hi1 hi2 hszz hlen HT1 HS d0 d1 d2
          generalize (acc ++ [(⟨xn, xs, xi⟩ : Mem)]).length = n7 at *
          go_wp2
          go_roundw
          case rel => exact ⟨k + 1, _, _, _, by omega, by go_num, rfl, HST⟩
          case measure => simp [intOf]; omega
    have hkl : (k : Int) < (n : Int) := by omega
    have hkx : k < l.length := by have := HNa.out; omega
    obtain ⟨ba, oa, rfl, hba, d0, d1, d2⟩ := ((HA.out.on HS.out.2)).cells k hkx
    have HT1 : Hid (fltM s (l.take (k + 1)) = fltM s (l.take k) ++ (if l[k].n = (s : Int) then [] else [l[k]])) := Lib.hid (by rw [List.take_succ_eq_append_getElem hkx, fltM_snoc])
    generalize l[k] = x at *
    obtain ⟨xn, xs, xi⟩ := x
    dsimp only at d0 d1 d2 HT1
    by_cases hxs : xn = (s : Int)
    · subst hxs
      rw [if_pos rfl, List.append_nil] at HT1
      have HST : Hid (OwnMx wr W.heap.size (.slice a8 n8 c8) (fltM s (l.take (k + 1))) ∧ Below W.heap.size W wr) := Lib.hid (by rw [HT1.out]; exact HS.out)
      clear HS HT1
      go_wp2
      go_roundw
      case rel => exact ⟨k + 1, _, _, _, by omega, by go_num, rfl, HST⟩
      case measure => simp [intOf]; omega
    · rw [if_neg hxs] at HT1
      have hx1 : (xn == (s : Int)) = false := by simpa using hxs
      obtain ⟨i0, hi, hi0, hi1, hi2⟩ := infoM
      have hlen : (fltM s (l.take k)).length ≤ 100 := by
        have h1 := fltM_len s (l.take k)
        have h3 : (l.take k).length ≤ l.length := by rw [List.length_take]; omega
        have := HNa.out
        omega
      have hown3 : wr.ownsRow W.heap.size 32 3 (.slice a8 n8 c8) (fltM s (l.take k)).length (cellsMx (fltM s (l.take k))) := HS.out.1
      generalize fltM s (l.take k) = acc at *
      have hszz := HS.out.2.size
      go_wp2_with (at_builtin; refine wpList_append_own _ rfl _ _ 23 rfl W.heap.size 32 i0 _ 3 16 Try.underlying23 hi hi0 hi1 hi2 rfl (by decide) _ _ _ rfl (World.ownsRow.alloc hown3 _) ⟨wr.heap.size, 0, none⟩ 1 1 [.int .u16 xn, .int .u8 xs, .int .i64 xi] rfl rfl (World.news_of_block (cs := #[.int .u16 xn, .int .u8 xs, .int .i64 xi]) (newE _ _)) (by intro u' hu'; simp at hu'; rcases hu' with rfl | rfl | rfl <;> rfl) (by unfold maxLen; omega) (by omega) (by simp; omega) ?_; refine Hid.out ?_)
      refine Lib.hid ?_
      intro v7 w7 hown7 hg7 _
      have hA7 : OwnMx w7 W.heap.size v7 (acc ++ [⟨xn, xs, xi⟩]) := OwnMx.push hown7
      obtain ⟨a7, c7, rfl, -, -, -⟩ := hA7.form
      have hbz : ∀ j, (Value.slice a8 n8 c8).ownBlock = some j → W.heap.size ≤ j := fun j hj => (World.ownsRow.lt hown3 j hj).1
      have hb2 := (Below.refl wr.heap.size wr).alloc (Nat.le_refl _) (.cells #[.int .u16 xn, .int .u8 xs, .int .i64 xi] 32)
      have s7 : Below W.heap.size wr w7 := (hb2.mono hszz).grown hg7 (by simp; omega) (fun j hj => hbz j hj)
      have HST : Hid (OwnMx w7 W.heap.size (.slice a7 (acc ++ [(⟨xn, xs, xi⟩ : Mem)]).length c7) (fltM s (l.take (k + 1))) ∧ Below W.heap.size W w7) := Lib.hid ⟨by rw [HT1.out]; exact hA7, HS.out.2.trans s7⟩
      clear hA7 s7 hb2 hbz hown7 hg7 hown3 hi hi0 hi1 hi2 hszz hlen HT1 HS d0 d1 d2
      generalize (acc ++ [(⟨xn, xs, xi⟩ : Mem)]).length = n7 at *
      go_wp2
      go_roundw
      case rel => exact ⟨k + 1, _, _, _, by omega, by go_num, rfl, HST⟩
      case measure => simp [intOf]; omega

end Go.Proofs.Ytccldbophonloaa
