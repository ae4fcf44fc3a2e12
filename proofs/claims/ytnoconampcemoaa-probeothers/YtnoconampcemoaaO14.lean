/-
  Watch of the reference of layer 16.
-/
import Derived.Test.YtnoconampcemoaaO13
import Derived.Deep.Cut
namespace Go.Proofs.Ytnoconampcemoaa
open Go Go.RowKit

def WatchRPost (a : Option Addr) (w : World) (e : Ending) (w' : World) (P' : Pb) : Prop :=
  ∃ a' n' c', e = .returned (.agg (rV P' a' n' c')) ∧ n' = (wdL P').length ∧ WdsAt w' a' (wdL P') ∧ (∀ q, a' = some q → a = some q ∨ w.heap.size ≤ q.block) ∧ Below w.heap.size w w'
theorem rqb3 (w : World) (P : Pb) (a : Option Addr) (n c : Nat) (m : Mem) (P' : Pb) (a' : Option Addr) (n' c' : Nat) :
    RqB (((w.alloc (.cells (rV P a n c) 32)).alloc (.cells #[.int .u16 m.n, .int .u8 m.s, .int .i64 m.i] 43)).alloc (.cells (rV P' a' n' c') 32)) (w.heap.size + 2) P' a' n' c' := by
  have h := RqB.new ((w.alloc (.cells (rV P a n c) 32)).alloc (.cells #[.int .u16 m.n, .int .u8 m.s, .int .i64 m.i] 43)) P' a' n' c'
  simpa using h
theorem below3 (w : World) (o1 o2 o3 : Obj) : Below w.heap.size w (((w.alloc o1).alloc o2).alloc o3) :=
  ((Below.refl w.heap.size w).alloc (Nat.le_refl _) o1).alloc (by simp) o2 |>.alloc (by simp; omega) o3
set_option maxRecDepth 20000 in
set_option maxHeartbeats 4000000 in
theorem pqWatch_no (P : Pb) (a : Option Addr) (n c : Nat) (k : Nat) (s i now : Int) (w : World) (hM : WdsAt w a (wdL P)) (hn : n = (wdL P).length)
    (hg : (s == 1) = false ∨ (s = 1 ∧ 64 ≤ k) ∨ (s = 1 ∧ k < 64 ∧ k = P.s) ∨ (s = 1 ∧ k < 64 ∧ k ≠ P.s ∧ now < 0) ∨ (s = 1 ∧ k < 64 ∧ k ≠ P.s ∧ 0 ≤ now ∧ 1099511627776 < now)) :
    Calls Try.prog 27 #[.agg (rV P a n c), .agg #[.int .u16 (k : Int), .int .u8 s, .int .i64 i], .int .i64 now] w fun e w' => WatchRPost a w e w' P := by
  obtain ⟨ps, pper, ptmo, pqn, pqs, pqt, pqo, pqh, pdue, pw⟩ := P
  have HR := Lib.hid (rqb3 w ⟨ps, pper, ptmo, pqn, pqs, pqt, pqo, pqh, pdue, pw⟩ a n c ⟨(k : Int), s, i⟩ ⟨ps, pper, ptmo, pqn, pqs, pqt, pqo, pqh, pdue, pw⟩ a n c)
  have HB := Lib.hid (below3 w (.cells (rV ⟨ps, pper, ptmo, pqn, pqs, pqt, pqo, pqh, pdue, pw⟩ a n c) 32) (.cells #[.int .u16 (k : Int), .int .u8 s, .int .i64 i] 43) (.cells (rV ⟨ps, pper, ptmo, pqn, pqs, pqt, pqo, pqh, pdue, pw⟩ a n c) 32))
  have HM := Lib.hid hM
  have HN := Lib.hid hn
  clear hM hn
  unfold rV
  dsimp only at hg ⊢
  rcases hg with hg | ⟨hg, h1⟩ | ⟨hg, h1, h2⟩ | ⟨hg, h1, h2, h3⟩ | ⟨hg, h1, h2, h3, h4⟩
  · have hgb : (s != 1) = true := by simp [bne, hg]
    go_enter Try.func27, Try.ntmps27
    go_wp2
    exact bodyPost_ret (results_rq1 rfl _ _ _ rfl HR.out) rfl ⟨a, n, c, rfl, HN.out, HM.out.on HB.out, fun q e => .inl e, HB.out⟩
  · subst hg
    have h1b : (64 : Int) ≤ (k : Int) := by omega
    clear h1
    go_enter Try.func27, Try.ntmps27
    go_wp2
    exact bodyPost_ret (results_rq1 rfl _ _ _ rfl HR.out) rfl ⟨a, n, c, rfl, HN.out, HM.out.on HB.out, fun q e => .inl e, HB.out⟩
  · subst hg
    have h1b : ¬ (64 : Int) ≤ (k : Int) := by omega
    have h2b : ((k : Int) == (ps : Int)) = true := by simp [h2]
    clear h1 h2
    go_enter Try.func27, Try.ntmps27
    go_wp2
    exact bodyPost_ret (results_rq1 rfl _ _ _ rfl HR.out) rfl ⟨a, n, c, rfl, HN.out, HM.out.on HB.out, fun q e => .inl e, HB.out⟩
  · subst hg
    have h1b : ¬ (64 : Int) ≤ (k : Int) := by omega
    have h2b : ((k : Int) == (ps : Int)) = false := by rw [beq_eq_false_iff_ne]; omega
    clear h1 h2
    go_enter Try.func27, Try.ntmps27
    go_wp2
    exact bodyPost_ret (results_rq1 rfl _ _ _ rfl HR.out) rfl ⟨a, n, c, rfl, HN.out, HM.out.on HB.out, fun q e => .inl e, HB.out⟩
  · subst hg
    have h1b : ¬ (64 : Int) ≤ (k : Int) := by omega
    have h2b : ((k : Int) == (ps : Int)) = false := by rw [beq_eq_false_iff_ne]; omega
    have h3b : ¬ now < 0 := by omega
    clear h1 h2 h3
    go_enter Try.func27, Try.ntmps27
    go_wp2
    exact bodyPost_ret (results_rq1 rfl _ _ _ rfl HR.out) rfl ⟨a, n, c, rfl, HN.out, HM.out.on HB.out, fun q e => .inl e, HB.out⟩
/-- Whether nobody of a list is watched as one is to be. -/
def FreeV (mn mi : Int) (l : List Mem) : Prop := ∀ x ∈ l, ¬ (x.n = mn ∧ mi ≤ x.s)
theorem FreeV.snoc {mn mi : Int} {l : List Mem} {x : Mem} (h : FreeV mn mi l) (hx : ¬ (x.n = mn ∧ mi ≤ x.s)) : FreeV mn mi (l ++ [x]) := fun y hy => by
  rcases List.mem_append.1 hy with hy | hy
  · exact h y hy
  · obtain rfl := List.mem_singleton.1 hy; exact hx
set_option maxRecDepth 20000 in
set_option maxHeartbeats 16000000 in
theorem pqWatch_go (P : Pb) (a : Option Addr) (n c : Nat) (k : Nat) (i now : Int) (w : World) (hM : WdsAt w a (wdL P)) (hn : n = (wdL P).length) (h1 : k < 64) (h2 : k ≠ P.s) (h3 : 0 ≤ now ∧ now ≤ 1099511627776) :
    Calls Try.prog 27 #[.agg (rV P a n c), .agg #[.int .u16 (k : Int), .int .u8 1, .int .i64 i], .int .i64 now] w fun e w' => WatchRPost a w e w' (watchP P ⟨(k : Int), 1, i⟩ now) := by
  have hz := wdL_len P
  have e3 := below3 w (.cells (rV P a n c) 32) (.cells #[.int .u16 (k : Int), .int .u8 1, .int .i64 i] 43) (.cells (rV noP none 0 0) 32)
  have r4 := rqb3 w P a n c ⟨(k : Int), 1, i⟩ noP none 0 0
  have b3 := (Mb.new2 w (.cells (rV P a n c) 32) ⟨(k : Int), 1, i⟩).on ((Below.refl _ _).alloc (Nat.le_refl _) (.cells (rV noP none 0 0) 32))
  have r2 := ((RqB.new w P a n c).on ((Below.refl _ _).alloc (Nat.le_refl _) (.cells #[.int .u16 (k : Int), .int .u8 1, .int .i64 i] 43))).on ((Below.refl _ _).alloc (Nat.le_refl _) (.cells (rV noP none 0 0) 32))
  have hsz : (((w.alloc (.cells (rV P a n c) 32)).alloc (.cells #[.int .u16 (k : Int), .int .u8 1, .int .i64 i] 43)).alloc (.cells (rV noP none 0 0) 32)).heap.size = w.heap.size + 3 := by simp
  have HN := Lib.hid hn
  have HM := Lib.hid (hM.on e3)
  have HQ := Lib.hid (And.intro e3 (And.intro r2 (And.intro b3 r4)))
  have HSz := Lib.hid hsz
  have hn1 : n ≤ 64 := by omega
  have k1 : ¬ (64 : Int) ≤ (k : Int) := by omega
  have k2 : ((k : Int) == (P.s : Int)) = false := by rw [beq_eq_false_iff_ne]; omega
  have k3 : ¬ now < 0 := by omega
  have k4 : ¬ 1099511627776 < now := by omega
  have HWs : Hid ((∃ x ∈ wdL P, x.n = (k : Int) ∧ i ≤ x.s) → watchP P ⟨(k : Int), 1, i⟩ now = P) := Lib.hid (by
    rintro ⟨x, hx, e1, e2⟩
    obtain ⟨j, hj, ho, rfl⟩ := mem_wdL hx
    dsimp only at e1 e2
    obtain rfl : j = k := by omega
    unfold watchP
    rw [if_neg]
    unfold watchB
    simp [ho, e2])
  have HWn : Hid (FreeV (k : Int) i (wdL P) → wdL (watchP P ⟨(k : Int), 1, i⟩ now) = setGo ⟨(k : Int), i, now⟩ (wdL P) false ∧ watchP P ⟨(k : Int), 1, i⟩ now = P.setW k ⟨true, i, now⟩) := Lib.hid (by
    intro hf
    have hb : watchB P ⟨(k : Int), 1, i⟩ now = true := by
      unfold watchB
      have hq : ((P.w k).on && decide (i ≤ (P.w k).i)) = false := by
        cases ho : (P.w k).on with
        | false => rfl
        | true =>
          rw [Bool.true_and]
          exact decide_eq_false (fun hi => hf _ (wdL_mem h1 ho) ⟨rfl, hi⟩)
      simp only [Int.toNat_natCast, hq]
      rw [(timeOk_iff now).2 h3, k2]
      simp
      omega
    have hw : watchP P ⟨(k : Int), 1, i⟩ now = P.setW k ⟨true, i, now⟩ := by unfold watchP; rw [if_pos hb]; rfl
    exact ⟨by rw [hw]; exact (wdL_set P k h1 i now).symm, hw⟩)
  have HML : Hid (∀ q, a = some q → 0 < (wdL P).length → q.block < w.heap.size) := Lib.hid (fun q e h0 => by
    obtain ⟨x, y, e2, hlt, -⟩ := hM h0
    rw [e] at e2
    obtain rfl := Option.some.inj e2
    exact hlt)
  clear hM hn e3 r4 b3 r2 hsz hz h1 h2 h3
  obtain ⟨L, hL⟩ : ∃ L, wdL P = L := ⟨_, rfl⟩
  rw [hL] at HN HM HWs HWn HML
  replace hL := Lib.hid hL
  generalize hWP : watchP P ⟨(k : Int), 1, i⟩ now = PW at *
  clear hWP
  obtain ⟨ps, pper, ptmo, pqn, pqs, pqt, pqo, pqh, pdue, pw⟩ := P
  unfold rV at HQ HSz ⊢
  dsimp only at HQ k2 HSz ⊢
  go_enter Try.func27, Try.ntmps27
  go_upto_region 6 with fail
  have HC0 : Hid (∃ W, W = (((w.alloc (.cells #[.int .u16 (ps : Int), .int .i64 pper, .int .i64 ptmo, .int .i64 pdue, .int .i64 pqs, .bool pqo, .bool pqh, .int .u16 (pqn : Int), .int .i64 pqt, .slice a n c] 32)).alloc (.cells #[.int .u16 (k : Int), .int .u8 1, .int .i64 i] 43)).alloc (.cells #[.int .u16 0, .int .i64 0, .int .i64 0, .int .i64 0, .int .i64 0, .bool false, .bool false, .int .u16 0, .int .i64 0, .slice none 0 0] 32)) ∧
      Below w.heap.size w W ∧ RqB W w.heap.size ⟨ps, pper, ptmo, pqn, pqs, pqt, pqo, pqh, pdue, pw⟩ a n c ∧ Mb W (w.heap.size + 1) ⟨(k : Int), 1, i⟩ ∧ RqB W (w.heap.size + 2) noP none 0 0 ∧ WdsAt W a L ∧ W.heap.size = w.heap.size + 3) := Lib.hid ⟨_, rfl, HQ.out.1, HQ.out.2.1, HQ.out.2.2.1, HQ.out.2.2.2, HM.out, HSz.out⟩
  clear HQ HM HSz
  obtain ⟨W, hW, HX⟩ := HC0.out
  clear HC0
  rw [← hW]
  clear hW
  have HC : Hid (∀ u, Below W.heap.size W u → RqB u w.heap.size ⟨ps, pper, ptmo, pqn, pqs, pqt, pqo, pqh, pdue, pw⟩ a n c ∧ Mb u (w.heap.size + 1) ⟨(k : Int), 1, i⟩ ∧ RqB u (w.heap.size + 2) noP none 0 0 ∧ WdsAt u a L ∧ Below w.heap.size w u) := Lib.hid (fun u hu => ⟨HX.2.1.on hu, HX.2.2.1.on hu, HX.2.2.2.1.on hu, HX.2.2.2.2.1.on hu, HX.1.trans (hu.mono HX.1.size)⟩)
  have HSW : Hid (W.heap.size = w.heap.size + 3) := Lib.hid HX.2.2.2.2.2
  clear HX
  go_loopw [7, 8, 9] (fun v dv x wr => ∃ (j : Nat) (a5 : Option Addr) (n5 c5 : Nat) (d : Bool), j ≤ n ∧ x = .int .i64 (j : Int) ∧ v = .slice a5 n5 c5 ∧ dv = .bool d ∧ Hid (OwnV wr W.heap.size (.slice a5 n5 c5) (setP ⟨(k : Int), i, now⟩ (L.take j) false) ∧ d = setD ⟨(k : Int), i, now⟩ (L.take j) false ∧ Below W.heap.size W wr ∧ FreeV (k : Int) i (L.take j))) (fun _ _ x _ => n - (intOf x).toNat)
  case atStart => exact ⟨0, none, 0, 0, false, Nat.zero_le _, rfl, rfl, rfl, Lib.hid ⟨OwnV.nil _ _, rfl, Below.refl _ _, fun x hx => by simp at hx⟩⟩
  case round =>
    obtain ⟨j, a5, n5, c5, d, hj, rfl, rfl, rfl, HS⟩ := hrel
    by_cases hlt : j < n
    case neg =>
      have hkl : ¬ (j : Int) < (n : Int) := by omega
      have HO : Hid (OwnV wr W.heap.size (.slice a5 n5 c5) (setP ⟨(k : Int), i, now⟩ L false) ∧ wdL PW = setP ⟨(k : Int), i, now⟩ L false ++ (if d = true then [] else [⟨(k : Int), i, now⟩]) ∧ PW = Pb.setW ⟨ps, pper, ptmo, pqn, pqs, pqt, pqo, pqh, pdue, pw⟩ k ⟨true, i, now⟩) := Lib.hid (by
        have e : L.take j = L := List.take_of_length_le (by have := HN.out; omega)
        obtain ⟨h1, h2, -, h4⟩ := HS.out
        rw [e] at h1 h2 h4
        obtain ⟨g1, g2⟩ := HWn.out h4
        exact ⟨h1, by rw [g1, h2]; exact setGo_eq _ _ _, g2⟩)
      have HB := Lib.hid HS.out.2.2.1
      have HLe : Hid ((setP ⟨(k : Int), i, now⟩ L false).length ≤ 200) := Lib.hid (by have h1 := setP_len ⟨(k : Int), i, now⟩ L false; have := HN.out; omega)
      clear HS HWn HWs hL HML
      obtain rfl := HO.out.2.2
      generalize setP ⟨(k : Int), i, now⟩ L false = acc at *
      have HFin : Hid (∀ (u : World) (a' : Option Addr) (n' c' : Nat) (X : List Mem), Below W.heap.size W u → OwnV u W.heap.size (.slice a' n' c') X → wdL (Pb.setW ⟨ps, pper, ptmo, pqn, pqs, pqt, pqo, pqh, pdue, pw⟩ k ⟨true, i, now⟩) = X →
          RqB (stV (u.setCell ⟨w.heap.size, 9, none⟩ (.slice a' n' c')) (w.heap.size + 2) ⟨ps, pper, ptmo, pqn, pqs, pqt, pqo, pqh, pdue, pw⟩ a' n' c') (w.heap.size + 2) ⟨ps, pper, ptmo, pqn, pqs, pqt, pqo, pqh, pdue, pw⟩ a' n' c' ∧
          n' = (wdL (Pb.setW ⟨ps, pper, ptmo, pqn, pqs, pqt, pqo, pqh, pdue, pw⟩ k ⟨true, i, now⟩)).length ∧ WdsAt (stV (u.setCell ⟨w.heap.size, 9, none⟩ (.slice a' n' c')) (w.heap.size + 2) ⟨ps, pper, ptmo, pqn, pqs, pqt, pqo, pqh, pdue, pw⟩ a' n' c') a' (wdL (Pb.setW ⟨ps, pper, ptmo, pqn, pqs, pqt, pqo, pqh, pdue, pw⟩ k ⟨true, i, now⟩)) ∧
          (∀ q, a' = some q → a = some q ∨ w.heap.size ≤ q.block) ∧ Below w.heap.size w (stV (u.setCell ⟨w.heap.size, 9, none⟩ (.slice a' n' c')) (w.heap.size + 2) ⟨ps, pper, ptmo, pqn, pqs, pqt, pqo, pqh, pdue, pw⟩ a' n' c')) := Lib.hid (by
        intro u a' n' c' X hu hX he
        obtain ⟨-, -, r6, -, hbw⟩ := HC.out u hu
        have hsw := HSW.out
        have g1 := grownBy_setCell u w.heap.size 9 (.slice a' n' c')
        have g2 := stV_grown (u.setCell ⟨w.heap.size, 9, none⟩ (.slice a' n' c')) (w.heap.size + 2) ⟨ps, pper, ptmo, pqn, pqs, pqt, pqo, pqh, pdue, pw⟩ a' n' c'
        have o2 := (hX.turn g1 (by omega)).turn g2 (by omega)
        have b1 : Below w.heap.size u (u.setCell ⟨w.heap.size, 9, none⟩ (.slice a' n' c')) := below_of_grownBy g1 (Nat.le_refl _) hbw.size
        have b2 : Below w.heap.size (u.setCell ⟨w.heap.size, 9, none⟩ (.slice a' n' c')) (stV (u.setCell ⟨w.heap.size, 9, none⟩ (.slice a' n' c')) (w.heap.size + 2) ⟨ps, pper, ptmo, pqn, pqs, pqt, pqo, pqh, pdue, pw⟩ a' n' c') := below_of_grownBy g2 (by omega) (Nat.le_trans hbw.size b1.size)
        refine ⟨(r6.kept g1 (by simp)).store _ _ _ _, ?_, ?_, ?_, (hbw.trans b1).trans b2⟩
        · obtain ⟨x, y, e, -⟩ := o2.form
          simp only [Value.slice.injEq] at e
          rw [he]
          exact e.2.1
        · rw [he]
          exact o2.mems
        · intro q hq
          obtain ⟨x, y, e, -, hge, -⟩ := o2.form
          simp only [Value.slice.injEq] at e
          obtain ⟨rfl, -⟩ := e
          exact .inr (by have := (hge q hq).1; omega))
      cases d with
      | true =>
        have HE : Hid (wdL (Pb.setW ⟨ps, pper, ptmo, pqn, pqs, pqt, pqo, pqh, pdue, pw⟩ k ⟨true, i, now⟩) = acc) := Lib.hid (by have := HO.out.2.1; simpa using this)
        have HF := Lib.hid (HFin.out wr a5 n5 c5 acc HB.out HO.out.1 HE.out)
        obtain ⟨r2, -, r6, -, -⟩ := HC.out _ HB.out
        obtain ⟨z0, z1, z2, z3, z4, z5, z6, z7, z8, z9⟩ := r2.at
        obtain ⟨y0, y1, y2, y3, y4, y5, y6, y7, y8, y9⟩ := r6.at
        have yf := r6.f
        have zf := r2.f
        clear r2 r6 HFin HO HE HB HLe
        go_wp2
        exact bodyPost_ret (results_rq1 rfl _ _ _ rfl HF.out.1) rfl ⟨a5, n5, c5, rfl, HF.out.2⟩
      | false =>
        obtain ⟨r3, b3, -⟩ := HC.out _ HB.out
        have m0 := b3.c0; have m2 := b3.c2
        have q9 := r3.at.c9
        dsimp only at m0 m2
        have hl := HLe.out
        have hbz1 : W.heap.size ≤ wr.heap.size := HB.out.size
        clear b3 r3
        obtain ⟨i1, hi1, hj1, hk1, hl1⟩ := infoV
        have hown1 : wr.ownsRow W.heap.size 111 3 (.slice a5 n5 c5) acc.length (cellsV acc) := HO.out.1
        go_wp2_with (at_builtin; refine wpList_append_own _ rfl _ _ 30 rfl W.heap.size 111 i1 _ 3 24 Try.underlying30 hi1 hj1 hk1 hl1 rfl (by decide) _ _ _ rfl (World.ownsRow.alloc hown1 _) ⟨wr.heap.size, 0, none⟩ 1 1 [.int .u16 (k : Int), .int .i64 i, .int .i64 now] rfl rfl (World.news_of_block (cs := #[.int .u16 (k : Int), .int .i64 i, .int .i64 now]) (newE _ _)) (by intro u' hu'; simp at hu'; rcases hu' with rfl | rfl | rfl <;> rfl) (by unfold maxLen; omega) (by omega) (by simp; omega) ?_; refine Hid.out ?_)
        refine Lib.hid ?_
        intro v1 w1 hw1 hg1 _
        have hA1 : OwnV w1 W.heap.size v1 (acc ++ [⟨(k : Int), i, now⟩]) := OwnV.push hw1
        obtain ⟨a1, c1, rfl, -, -, -⟩ := hA1.form
        have s1 : Below W.heap.size wr w1 := (((Below.refl wr.heap.size wr).alloc (Nat.le_refl _) (.cells #[.int .u16 (k : Int), .int .i64 i, .int .i64 now] 111)).mono hbz1).grown hg1 (by simp; omega) (fun j hj => (World.ownsRow.lt hown1 j hj).1)
        have HE : Hid (wdL (Pb.setW ⟨ps, pper, ptmo, pqn, pqs, pqt, pqo, pqh, pdue, pw⟩ k ⟨true, i, now⟩) = acc ++ [⟨(k : Int), i, now⟩]) := Lib.hid (by have := HO.out.2.1; simpa using this)
        have HF := Lib.hid (HFin.out w1 a1 (acc ++ [(⟨(k : Int), i, now⟩ : Mem)]).length c1 _ (HB.out.trans s1) hA1 HE.out)
        obtain ⟨r2, -, r6, -, -⟩ := HC.out _ (HB.out.trans s1)
        obtain ⟨z0, z1, z2, z3, z4, z5, z6, z7, z8, z9⟩ := r2.at
        obtain ⟨y0, y1, y2, y3, y4, y5, y6, y7, y8, y9⟩ := r6.at
        have yf := r6.f
        have zf := r2.f
        clear r2 r6 HFin HO HE HB HLe hA1 s1 hw1 hg1 hown1 hi1 hj1 hk1 hl1 m0 m2 q9
        generalize (acc ++ [(⟨(k : Int), i, now⟩ : Mem)]).length = n9 at *
        go_wp2
        exact bodyPost_ret (results_rq1 rfl _ _ _ rfl HF.out.1) rfl ⟨a1, n9, c1, rfl, HF.out.2⟩
    have hkl : (j : Int) < (n : Int) := by omega
    have hjx : j < L.length := by have := HN.out; omega
    obtain ⟨r2, b3, -, hm, -⟩ := HC.out _ HS.out.2.2.1
    have z9 := r2.at.c9
    obtain ⟨ba, oa, rfl, hba, d0, d1, d2⟩ := hm.cells j hjx
    have HP1 : Hid (setP ⟨(k : Int), i, now⟩ (L.take (j + 1)) false = setP ⟨(k : Int), i, now⟩ (L.take j) false ++ ((if d = false ∧ (k : Int) ≤ L[j].n then [⟨(k : Int), i, now⟩] else []) ++ (if L[j].n = (k : Int) then [] else [L[j]])) ∧ setD ⟨(k : Int), i, now⟩ (L.take (j + 1)) false = (d || decide ((k : Int) ≤ L[j].n))) := Lib.hid (by
      rw [List.take_succ_eq_append_getElem hjx, setP_snoc, setD_snoc, HS.out.2.1]
      exact ⟨rfl, rfl⟩)
    have HF1 : Hid (¬ (L[j].n = (k : Int) ∧ i ≤ L[j].s) → FreeV (k : Int) i (L.take (j + 1))) := Lib.hid (fun h => by
      rw [List.take_succ_eq_append_getElem hjx]
      exact HS.out.2.2.2.snoc h)
    have HIn := Lib.hid (List.getElem_mem hjx)
    have HLen : Hid ((setP ⟨(k : Int), i, now⟩ (L.take j) false).length ≤ 200) := Lib.hid (by
      have h1 := setP_len ⟨(k : Int), i, now⟩ (L.take j) false
      have h2 : (L.take j).length ≤ j := by rw [List.length_take]; omega
      omega)
    generalize L[j] = x at *
    obtain ⟨xn, xs, xi⟩ := x
    dsimp only at d0 d1 d2 HP1 HF1
    clear hjx
    go_upto_region 9 with fail
    have hb1 := (Below.refl wr.heap.size wr).alloc (Nat.le_refl _) (.cells #[.int .u16 xn, .int .i64 xs, .int .i64 xi] 111)
    have HXb : Hid ((wr.alloc (.cells #[.int .u16 xn, .int .i64 xs, .int .i64 xi] 111)).heap[wr.heap.size]? = some (.cells #[.int .u16 xn, .int .i64 xs, .int .i64 xi] 111 (0, 0))) := Lib.hid (newE wr _)
    have HO : Hid (OwnV (wr.alloc (.cells #[.int .u16 xn, .int .i64 xs, .int .i64 xi] 111)) W.heap.size (.slice a5 n5 c5) (setP ⟨(k : Int), i, now⟩ (L.take j) false)) := Lib.hid (HS.out.1.on hb1)
    have HOB : Hid (∀ q, (Value.slice a5 n5 c5).ownBlock = some q → W.heap.size ≤ q ∧ q < wr.heap.size) := Lib.hid (fun q hq => World.ownsRow.lt HS.out.1 q hq)
    have HB1 : Hid (Below W.heap.size W (wr.alloc (.cells #[.int .u16 xn, .int .i64 xs, .int .i64 xi] 111))) := Lib.hid (HS.out.2.2.1.trans (hb1.mono HS.out.2.2.1.size))
    have HBz : Hid (W.heap.size ≤ wr.heap.size) := Lib.hid HS.out.2.2.1.size
    clear HS r2 b3 hm z9 d0 d1 d2 hb1
    generalize wr.alloc (.cells #[.int .u16 xn, .int .i64 xs, .int .i64 xi] 111) = Wx at *
    generalize wr.heap.size = bx at *
    obtain ⟨r2, b3, r6, hm, hbw⟩ := HC.out _ HB1.out
    have m0 := b3.c0; have m2 := b3.c2
    have x0 : Wx.cell? ⟨bx, 0, none⟩ = some (.int .u16 xn) := cellE HXb.out
    have x1 : Wx.cell? ⟨bx, 1, none⟩ = some (.int .i64 xs) := cellE HXb.out
    have x2 : Wx.cell? ⟨bx, 2, none⟩ = some (.int .i64 xi) := cellE HXb.out
    dsimp only at m0 m2
    generalize setP ⟨(k : Int), i, now⟩ (L.take j) false = acc at *
    by_cases hA : xn = (k : Int) ∧ i ≤ xs
    case pos =>
      obtain ⟨rfl, hA2⟩ := hA
      obtain rfl : PW = ⟨ps, pper, ptmo, pqn, pqs, pqt, pqo, pqh, pdue, pw⟩ := HWs.out ⟨_, HIn.out, rfl, hA2⟩
      have HS4 := Lib.hid (And.intro (r6.store ⟨ps, pper, ptmo, pqn, pqs, pqt, pqo, pqh, pdue, pw⟩ (some ⟨ba, oa, none⟩) n c) (And.intro (stV_grown Wx (w.heap.size + 2) ⟨ps, pper, ptmo, pqn, pqs, pqt, pqo, pqh, pdue, pw⟩ (some ⟨ba, oa, none⟩) n c) hbw))
      have HM4 : Hid (WdsAt Wx (some ⟨ba, oa, none⟩) L) := Lib.hid hm
      obtain ⟨z0, z1, z2, z3, z4, z5, z6, z7, z8, z9⟩ := r2.at
      obtain ⟨y0, y1, y2, y3, y4, y5, y6, y7, y8, y9⟩ := r6.at
      have yf := r6.f
      clear r2 b3 r6 hm hbw HP1 HF1 HO HOB HXb HWn
      go_wp2
      exact bodyPost_ret (results_rq1 rfl _ _ _ rfl HS4.out.1) rfl ⟨_, n, c, rfl, by rw [hL.out]; exact HN.out, by rw [hL.out]; exact HM4.out.skip HS4.out.2.1 (fun q e => by have := HML.out q e (List.length_pos_of_mem HIn.out); omega), fun q e => .inl e, HS4.out.2.2.trans (below_of_grownBy HS4.out.2.1 (by omega) HS4.out.2.2.size)⟩
    have HF2 := Lib.hid (HF1.out hA)
    clear HF1 HWs r2 r6 hm hbw
    cases d with
    | true =>
      by_cases hxk : xn = (k : Int)
      case pos =>
        have hxk1 : (xn == (k : Int)) = true := by simpa using hxk
        have hxs : ¬ i ≤ xs := fun h => hA ⟨hxk, h⟩
        have HE : Hid (setP ⟨(k : Int), i, now⟩ (L.take (j + 1)) false = acc ∧ setD ⟨(k : Int), i, now⟩ (L.take (j + 1)) false = true) := Lib.hid (by
          obtain ⟨e1, e2⟩ := HP1.out
          rw [e1, e2]
          exact ⟨by simp [hxk], by simp⟩)
        have hl := HLen.out
        have hbz := HBz.out
        have HN1 : Hid (OwnV Wx W.heap.size (.slice a5 n5 c5) (setP ⟨(k : Int), i, now⟩ (L.take (j + 1)) false) ∧ true = setD ⟨(k : Int), i, now⟩ (L.take (j + 1)) false ∧ Below W.heap.size W Wx ∧ FreeV (k : Int) i (L.take (j + 1))) := Lib.hid ⟨by rw [HE.out.1]; exact HO.out, HE.out.2.symm, HB1.out, HF2.out⟩
        clear HE HO HB1 HF2 HP1 HXb HOB HIn HLen HBz HWn hL HML
        go_wp2
        go_roundw
        case rel => exact ⟨j + 1, _, _, _, _, by omega, by go_num, rfl, rfl, HN1⟩
        case measure => simp [intOf]; omega
      have hxk1 : (xn == (k : Int)) = false := by simpa using hxk
      have HE : Hid (setP ⟨(k : Int), i, now⟩ (L.take (j + 1)) false = acc ++ [⟨xn, xs, xi⟩] ∧ setD ⟨(k : Int), i, now⟩ (L.take (j + 1)) false = true) := Lib.hid (by
        obtain ⟨e1, e2⟩ := HP1.out
        rw [e1, e2]
        exact ⟨by simp [hxk], by simp⟩)
      have hl := HLen.out
      have hbz := HBz.out
      have hbz1 : W.heap.size ≤ Wx.heap.size := HB1.out.size
      obtain ⟨i1, hi1, hj1, hk1, hl1⟩ := infoV
      have hown1 : Wx.ownsRow W.heap.size 111 3 (.slice a5 n5 c5) acc.length (cellsV acc) := HO.out
      go_wp2_with (at_builtin; refine wpList_append_own _ rfl _ _ 30 rfl W.heap.size 111 i1 _ 3 24 Try.underlying30 hi1 hj1 hk1 hl1 rfl (by decide) _ _ _ rfl (World.ownsRow.alloc hown1 _) ⟨Wx.heap.size, 0, none⟩ 1 1 [.int .u16 xn, .int .i64 xs, .int .i64 xi] rfl rfl (World.news_of_block (cs := #[.int .u16 xn, .int .i64 xs, .int .i64 xi]) (newE _ _)) (by intro u' hu'; simp at hu'; rcases hu' with rfl | rfl | rfl <;> rfl) (by unfold maxLen; omega) (by omega) (by simp; omega) ?_; refine Hid.out ?_)
      refine Lib.hid ?_
      intro v1 w1 hw1 hg1 _
      have hA1 : OwnV w1 W.heap.size v1 (acc ++ [⟨xn, xs, xi⟩]) := OwnV.push hw1
      obtain ⟨a1, c1, rfl, -, -, -⟩ := hA1.form
      have s1 : Below W.heap.size Wx w1 := (((Below.refl Wx.heap.size Wx).alloc (Nat.le_refl _) (.cells #[.int .u16 xn, .int .i64 xs, .int .i64 xi] 111)).mono hbz1).grown hg1 (by simp; omega) (fun j hj => (World.ownsRow.lt hown1 j hj).1)
      have HN1 : Hid (OwnV w1 W.heap.size (.slice a1 (acc ++ [(⟨xn, xs, xi⟩ : Mem)]).length c1) (setP ⟨(k : Int), i, now⟩ (L.take (j + 1)) false) ∧ true = setD ⟨(k : Int), i, now⟩ (L.take (j + 1)) false ∧ Below W.heap.size W w1 ∧ FreeV (k : Int) i (L.take (j + 1))) := Lib.hid ⟨by rw [HE.out.1]; exact hA1, HE.out.2.symm, HB1.out.trans s1, HF2.out⟩
      clear hA1 s1 hw1 hg1 hown1 hi1 hj1 hk1 hl1 HE HO HB1 HF2 HP1 HXb HOB HIn HLen HBz HWn hL HML x0 x1 x2 m0 m2
      generalize (acc ++ [(⟨xn, xs, xi⟩ : Mem)]).length = n9 at *
      go_wp2
      go_roundw
      case rel => exact ⟨j + 1, _, _, _, _, by omega, by go_num, rfl, rfl, HN1⟩
      case measure => simp [intOf]; omega
    | false =>
      by_cases hle : (k : Int) ≤ xn
      case neg =>
        have hxk : ¬ xn = (k : Int) := by omega
        have hxk1 : (xn == (k : Int)) = false := by simpa using hxk
        have HE : Hid (setP ⟨(k : Int), i, now⟩ (L.take (j + 1)) false = acc ++ [⟨xn, xs, xi⟩] ∧ setD ⟨(k : Int), i, now⟩ (L.take (j + 1)) false = false) := Lib.hid (by
          obtain ⟨e1, e2⟩ := HP1.out
          rw [e1, e2]
          exact ⟨by simp [hle, hxk], by simp [hle]⟩)
        have hl := HLen.out
        have hbz := HBz.out
        have hbz1 : W.heap.size ≤ Wx.heap.size := HB1.out.size
        obtain ⟨i1, hi1, hj1, hk1, hl1⟩ := infoV
        have hown1 : Wx.ownsRow W.heap.size 111 3 (.slice a5 n5 c5) acc.length (cellsV acc) := HO.out
        go_wp2_with (at_builtin; refine wpList_append_own _ rfl _ _ 30 rfl W.heap.size 111 i1 _ 3 24 Try.underlying30 hi1 hj1 hk1 hl1 rfl (by decide) _ _ _ rfl (World.ownsRow.alloc hown1 _) ⟨Wx.heap.size, 0, none⟩ 1 1 [.int .u16 xn, .int .i64 xs, .int .i64 xi] rfl rfl (World.news_of_block (cs := #[.int .u16 xn, .int .i64 xs, .int .i64 xi]) (newE _ _)) (by intro u' hu'; simp at hu'; rcases hu' with rfl | rfl | rfl <;> rfl) (by unfold maxLen; omega) (by omega) (by simp; omega) ?_; refine Hid.out ?_)
        refine Lib.hid ?_
        intro v1 w1 hw1 hg1 _
        have hA1 : OwnV w1 W.heap.size v1 (acc ++ [⟨xn, xs, xi⟩]) := OwnV.push hw1
        obtain ⟨a1, c1, rfl, -, -, -⟩ := hA1.form
        have s1 : Below W.heap.size Wx w1 := (((Below.refl Wx.heap.size Wx).alloc (Nat.le_refl _) (.cells #[.int .u16 xn, .int .i64 xs, .int .i64 xi] 111)).mono hbz1).grown hg1 (by simp; omega) (fun j hj => (World.ownsRow.lt hown1 j hj).1)
        have HN1 : Hid (OwnV w1 W.heap.size (.slice a1 (acc ++ [(⟨xn, xs, xi⟩ : Mem)]).length c1) (setP ⟨(k : Int), i, now⟩ (L.take (j + 1)) false) ∧ false = setD ⟨(k : Int), i, now⟩ (L.take (j + 1)) false ∧ Below W.heap.size W w1 ∧ FreeV (k : Int) i (L.take (j + 1))) := Lib.hid ⟨by rw [HE.out.1]; exact hA1, HE.out.2.symm, HB1.out.trans s1, HF2.out⟩
        clear hA1 s1 hw1 hg1 hown1 hi1 hj1 hk1 hl1 HE HO HB1 HF2 HP1 HXb HOB HIn HLen HBz HWn hL HML x0 x1 x2 m0 m2
        generalize (acc ++ [(⟨xn, xs, xi⟩ : Mem)]).length = n9 at *
        go_wp2
        go_roundw
        case rel => exact ⟨j + 1, _, _, _, _, by omega, by go_num, rfl, rfl, HN1⟩
        case measure => simp [intOf]; omega
      by_cases hxk : xn = (k : Int)
      case pos =>
        have hxk1 : (xn == (k : Int)) = true := by simpa using hxk
        have hxs : ¬ i ≤ xs := fun h => hA ⟨hxk, h⟩
        have HE : Hid (setP ⟨(k : Int), i, now⟩ (L.take (j + 1)) false = acc ++ [⟨(k : Int), i, now⟩] ∧ setD ⟨(k : Int), i, now⟩ (L.take (j + 1)) false = true) := Lib.hid (by
          obtain ⟨e1, e2⟩ := HP1.out
          rw [e1, e2]
          exact ⟨by simp [hxk], by simp [hle]⟩)
        have hl := HLen.out
        have hbz := HBz.out
        have hbz1 : W.heap.size ≤ Wx.heap.size := HB1.out.size
        obtain ⟨i1, hi1, hj1, hk1, hl1⟩ := infoV
        have hown1 : Wx.ownsRow W.heap.size 111 3 (.slice a5 n5 c5) acc.length (cellsV acc) := HO.out
        go_wp2_with (at_builtin; refine wpList_append_own _ rfl _ _ 30 rfl W.heap.size 111 i1 _ 3 24 Try.underlying30 hi1 hj1 hk1 hl1 rfl (by decide) _ _ _ rfl (World.ownsRow.alloc hown1 _) ⟨Wx.heap.size, 0, none⟩ 1 1 [.int .u16 (k : Int), .int .i64 i, .int .i64 now] rfl rfl (World.news_of_block (cs := #[.int .u16 (k : Int), .int .i64 i, .int .i64 now]) (newE _ _)) (by intro u' hu'; simp at hu'; rcases hu' with rfl | rfl | rfl <;> rfl) (by unfold maxLen; omega) (by omega) (by simp; omega) ?_; refine Hid.out ?_)
        refine Lib.hid ?_
        intro v1 w1 hw1 hg1 _
        have hA1 : OwnV w1 W.heap.size v1 (acc ++ [⟨(k : Int), i, now⟩]) := OwnV.push hw1
        obtain ⟨a1, c1, rfl, -, -, -⟩ := hA1.form
        have s1 : Below W.heap.size Wx w1 := (((Below.refl Wx.heap.size Wx).alloc (Nat.le_refl _) (.cells #[.int .u16 (k : Int), .int .i64 i, .int .i64 now] 111)).mono hbz1).grown hg1 (by simp; omega) (fun j hj => (World.ownsRow.lt hown1 j hj).1)
        have HN1 : Hid (OwnV w1 W.heap.size (.slice a1 (acc ++ [(⟨(k : Int), i, now⟩ : Mem)]).length c1) (setP ⟨(k : Int), i, now⟩ (L.take (j + 1)) false) ∧ true = setD ⟨(k : Int), i, now⟩ (L.take (j + 1)) false ∧ Below W.heap.size W w1 ∧ FreeV (k : Int) i (L.take (j + 1))) := Lib.hid ⟨by rw [HE.out.1]; exact hA1, HE.out.2.symm, (HB1.out.trans s1), HF2.out⟩
        obtain ⟨-, b4, -⟩ := HC.out _ (HB1.out.trans s1)
        have n0 := b4.c0
        have hx1 : w1.heap[bx]? = some (.cells #[.int .u16 xn, .int .i64 xs, .int .i64 xi] 111 (0, 0)) := by
          have hlx := ltE HXb.out
          rw [hg1.block bx (by simp; omega) (fun e => by have := (HOB.out bx e.symm).2; omega), Below.heap_alloc _ _ _ hlx]
          exact HXb.out
        have y0 : w1.cell? ⟨bx, 0, none⟩ = some (.int .u16 xn) := cellE hx1
        dsimp only at n0
        clear hA1 s1 hw1 hg1 hown1 hi1 hj1 hk1 hl1 HE HO HB1 HF2 HP1 HXb HOB HIn HLen HBz HWn hL HML b4 hx1 x0 x1 x2 m0 m2
        generalize (acc ++ [(⟨(k : Int), i, now⟩ : Mem)]).length = n9 at *
        go_wp2
        go_roundw
        case rel => exact ⟨j + 1, _, _, _, _, by omega, by go_num, rfl, rfl, HN1⟩
        case measure => simp [intOf]; omega
      have hxk1 : (xn == (k : Int)) = false := by simpa using hxk
      have HE : Hid (setP ⟨(k : Int), i, now⟩ (L.take (j + 1)) false = acc ++ [⟨(k : Int), i, now⟩] ++ [⟨xn, xs, xi⟩] ∧ setD ⟨(k : Int), i, now⟩ (L.take (j + 1)) false = true) := Lib.hid (by
        obtain ⟨e1, e2⟩ := HP1.out
        rw [e1, e2]
        exact ⟨by simp [hle, hxk], by simp [hle]⟩)
      have hl := HLen.out
      have hbz := HBz.out
      have hbz1 : W.heap.size ≤ Wx.heap.size := HB1.out.size
      obtain ⟨i1, hi1, hj1, hk1, hl1⟩ := infoV
      have hown1 : Wx.ownsRow W.heap.size 111 3 (.slice a5 n5 c5) acc.length (cellsV acc) := HO.out
      go_wp2_with (at_builtin; refine wpList_append_own _ rfl _ _ 30 rfl W.heap.size 111 i1 _ 3 24 Try.underlying30 hi1 hj1 hk1 hl1 rfl (by decide) _ _ _ rfl (World.ownsRow.alloc hown1 _) ⟨Wx.heap.size, 0, none⟩ 1 1 [.int .u16 (k : Int), .int .i64 i, .int .i64 now] rfl rfl (World.news_of_block (cs := #[.int .u16 (k : Int), .int .i64 i, .int .i64 now]) (newE _ _)) (by intro u' hu'; simp at hu'; rcases hu' with rfl | rfl | rfl <;> rfl) (by unfold maxLen; omega) (by omega) (by simp; omega) ?_; refine Hid.out ?_)
      refine Lib.hid ?_
      intro v1 w1 hw1 hg1 _
      have hA1 : OwnV w1 W.heap.size v1 (acc ++ [⟨(k : Int), i, now⟩]) := OwnV.push hw1
      obtain ⟨a1, c1, rfl, -, -, -⟩ := hA1.form
      have s1 : Below W.heap.size Wx w1 := (((Below.refl Wx.heap.size Wx).alloc (Nat.le_refl _) (.cells #[.int .u16 (k : Int), .int .i64 i, .int .i64 now] 111)).mono hbz1).grown hg1 (by simp; omega) (fun j hj => (World.ownsRow.lt hown1 j hj).1)
      have hx1 : w1.heap[bx]? = some (.cells #[.int .u16 xn, .int .i64 xs, .int .i64 xi] 111 (0, 0)) := by
        have hlx := ltE HXb.out
        rw [hg1.block bx (by simp; omega) (fun e => by have := (HOB.out bx e.symm).2; omega), Below.heap_alloc _ _ _ hlx]
        exact HXb.out
      have y0 : w1.cell? ⟨bx, 0, none⟩ = some (.int .u16 xn) := cellE hx1
      have y1 : w1.cell? ⟨bx, 1, none⟩ = some (.int .i64 xs) := cellE hx1
      have y2 : w1.cell? ⟨bx, 2, none⟩ = some (.int .i64 xi) := cellE hx1
      obtain ⟨-, b4, -⟩ := HC.out _ (HB1.out.trans s1)
      have n0 := b4.c0
      dsimp only at n0
      replace hA1 := Lib.hid hA1
      replace s1 := Lib.hid s1
      have HB4 : Hid (W.heap.size ≤ w1.heap.size) := Lib.hid (Nat.le_trans hbz1 s1.out.size)
      clear hw1 hg1 hown1 hx1 b4 x0 x1 x2 m0 m2 hi1 hj1 hk1 hl1
      obtain ⟨acc1, hacc1⟩ : ∃ q, q = acc ++ [(⟨(k : Int), i, now⟩ : Mem)] := ⟨_, rfl⟩
      have hln1 : acc1.length ≤ 201 := by rw [hacc1, List.length_append]; simp; omega
      rw [← hacc1] at hA1 ⊢
      replace hacc1 := Lib.hid hacc1
      have hbz2 : W.heap.size ≤ w1.heap.size := HB4.out
      obtain ⟨i2, hi2, hj2, hk2, hl2⟩ := infoV
      have hown2 : w1.ownsRow W.heap.size 111 3 (.slice a1 acc1.length c1) acc1.length (cellsV acc1) := hA1.out
      go_wp2_with (at_builtin; refine wpList_append_own _ rfl _ _ 30 rfl W.heap.size 111 i2 _ 3 24 Try.underlying30 hi2 hj2 hk2 hl2 rfl (by decide) _ _ _ rfl (World.ownsRow.alloc hown2 _) ⟨w1.heap.size, 0, none⟩ 1 1 [.int .u16 xn, .int .i64 xs, .int .i64 xi] rfl rfl (World.news_of_block (cs := #[.int .u16 xn, .int .i64 xs, .int .i64 xi]) (newE _ _)) (by intro u' hu'; simp at hu'; rcases hu' with rfl | rfl | rfl <;> rfl) (by unfold maxLen; omega) (by omega) (by simp; omega) ?_; refine Hid.out ?_)
      refine Lib.hid ?_
      intro v2 w2 hw2 hg2 _
      have hA2 : OwnV w2 W.heap.size v2 (acc1 ++ [⟨xn, xs, xi⟩]) := OwnV.push hw2
      obtain ⟨a2, c2, rfl, -, -, -⟩ := hA2.form
      have s2 : Below W.heap.size w1 w2 := (((Below.refl w1.heap.size w1).alloc (Nat.le_refl _) (.cells #[.int .u16 xn, .int .i64 xs, .int .i64 xi] 111)).mono hbz2).grown hg2 (by simp; omega) (fun j hj => (World.ownsRow.lt hown2 j hj).1)
      have HN1 : Hid (OwnV w2 W.heap.size (.slice a2 (acc1 ++ [(⟨xn, xs, xi⟩ : Mem)]).length c2) (setP ⟨(k : Int), i, now⟩ (L.take (j + 1)) false) ∧ true = setD ⟨(k : Int), i, now⟩ (L.take (j + 1)) false ∧ Below W.heap.size W w2 ∧ FreeV (k : Int) i (L.take (j + 1))) := Lib.hid ⟨by rw [HE.out.1]; exact (by rw [← hacc1.out]; exact hA2), HE.out.2.symm, (HB1.out.trans s1.out).trans s2, HF2.out⟩
      clear hA2 s2 hw2 hg2 hown2 hi2 hj2 hk2 hl2 hA1 s1 HE HO HB1 HF2 HP1 HXb HOB HIn HLen HBz HWn hL HML hln1 hbz2 HB4 y0 y1 y2 n0
      generalize (acc1 ++ [(⟨xn, xs, xi⟩ : Mem)]).length = n9 at *
      go_wp2
      go_roundw
      case rel => exact ⟨j + 1, _, _, _, _, by omega, by go_num, rfl, rfl, HN1⟩
      case measure => simp [intOf]; omega
theorem pqWatch_any (P : Pb) (a : Option Addr) (n c : Nat) (m : Mem) (h0 : 0 ≤ m.n) (now : Int) (w : World) (hM : WdsAt w a (wdL P)) (hn : n = (wdL P).length) :
    Calls Try.prog 27 #[.agg (rV P a n c), .agg #[.int .u16 m.n, .int .u8 m.s, .int .i64 m.i], .int .i64 now] w fun e w' => WatchRPost a w e w' (watchP P m now) := by
  obtain ⟨mn, s, i⟩ := m
  dsimp only at h0 ⊢
  obtain ⟨k, rfl⟩ : ∃ k : Nat, mn = (k : Int) := ⟨mn.toNat, by omega⟩
  by_cases hs : s = 1
  case neg =>
    have e : watchP P ⟨(k : Int), s, i⟩ now = P := by unfold watchP watchB; rw [if_neg (by simp [hs])]
    rw [e]
    exact pqWatch_no P a n c k s i now w hM hn (.inl (by simpa using hs))
  subst hs
  by_cases h1 : k < 64
  case neg =>
    have e : watchP P ⟨(k : Int), 1, i⟩ now = P := by unfold watchP watchB; rw [if_neg (by simp; omega)]
    rw [e]
    exact pqWatch_no P a n c k 1 i now w hM hn (.inr (.inl ⟨rfl, by omega⟩))
  by_cases h2 : k = P.s
  case pos =>
    have e : watchP P ⟨(k : Int), 1, i⟩ now = P := by unfold watchP watchB; rw [if_neg (by simp [h2])]
    rw [e]
    exact pqWatch_no P a n c k 1 i now w hM hn (.inr (.inr (.inl ⟨rfl, h1, h2⟩)))
  by_cases h3 : 0 ≤ now ∧ now ≤ 1099511627776
  · exact pqWatch_go P a n c k i now w hM hn h1 h2 h3
  have ht : timeOk now = false := by
    cases h : timeOk now
    · rfl
    · exact absurd ((timeOk_iff now).1 h) h3
  have e : watchP P ⟨(k : Int), 1, i⟩ now = P := by unfold watchP watchB; rw [if_neg (by simp [ht])]
  rw [e]
  by_cases h4 : 0 ≤ now
  · exact pqWatch_no P a n c k 1 i now w hM hn (.inr (.inr (.inr (.inr ⟨rfl, h1, h2, h4, by omega⟩))))
  · exact pqWatch_no P a n c k 1 i now w hM hn (.inr (.inr (.inr (.inl ⟨rfl, h1, h2, by omega⟩))))

end Go.Proofs.Ytnoconampcemoaa
