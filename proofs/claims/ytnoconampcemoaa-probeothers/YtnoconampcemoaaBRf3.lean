/-
  The reference of layer 15: set.
-/
import Derived.Test.YtnoconampcemoaaBRf2
namespace Go.Proofs.Ytnoconampcemoaa
open Go Go.RowKit

/-- What set gathers of a list, and whether the member is in it then. -/
def setP (m : Mem) : List Mem → Bool → List Mem
  | [], _ => []
  | x :: r, d => (if d = false ∧ m.n ≤ x.n then [m] else []) ++ ((if x.n = m.n then [] else [x]) ++ setP m r (d || decide (m.n ≤ x.n)))
def setD (m : Mem) : List Mem → Bool → Bool
  | [], d => d
  | x :: r, d => setD m r (d || decide (m.n ≤ x.n))
theorem setD_snoc (m x : Mem) : ∀ (l : List Mem) (d : Bool), setD m (l ++ [x]) d = (setD m l d || decide (m.n ≤ x.n))
  | [], _ => rfl
  | y :: l, d => setD_snoc m x l (d || decide (m.n ≤ y.n))
theorem setP_snoc (m x : Mem) : ∀ (l : List Mem) (d : Bool), setP m (l ++ [x]) d = setP m l d ++ ((if setD m l d = false ∧ m.n ≤ x.n then [m] else []) ++ (if x.n = m.n then [] else [x]))
  | [], d => by simp [setP, setD]; rfl
  | y :: l, d => by
    simp only [List.cons_append, setP, setD]
    rw [setP_snoc m x l]
    simp only [List.append_assoc]
    rfl
theorem setGo_eq (m : Mem) : ∀ (l : List Mem) (d : Bool), setGo m l d = setP m l d ++ (if setD m l d = true then [] else [m])
  | [], d => by simp [setGo, setP, setD]; rfl
  | y :: l, d => by
    simp only [setGo, setP, setD]
    rw [setGo_eq m l]
    simp only [List.append_assoc]
    rfl
theorem setP_len (m : Mem) : ∀ (l : List Mem) (d : Bool), (setP m l d).length ≤ 2 * l.length
  | [], d => by simp [setP]
  | y :: l, d => by
    have := setP_len m l (d || decide (m.n ≤ y.n))
    simp only [setP, List.length_append, List.length_cons]
    split <;> split <;> simp <;> omega
def SetPost (s : Int) (m : Mem) (L : List Mem) (w : World) (e : Ending) (w' : World) : Prop :=
  ∃ a n c, e = .returned (.agg #[.int .u16 s, .slice a n c]) ∧ n = (setGo m L false).length ∧ OwnMx w' w.heap.size (.slice a n c) (setGo m L false) ∧ Below w.heap.size w w'

set_option maxRecDepth 20000 in
set_option maxHeartbeats 8000000 in
theorem brset_any (s : Int) (a : Option Addr) (n c : Nat) (L : List Mem) (m : Mem) (w : World) (hM : MemsAt w a L) (hn : n = L.length) (hl : L.length ≤ 10000) :
    Calls Try.prog 45 #[.agg #[.int .u16 s, .slice a n c], .agg #[.int .u16 m.n, .int .u8 m.s, .int .i64 m.i]] w (SetPost s m L w) := by
  have e1 := (Below.refl w.heap.size w).alloc (Nat.le_refl _) (.cells #[.int .u16 s, .slice a n c] 35)
  have e2 := e1.alloc (by simp) (.cells #[.int .u16 m.n, .int .u8 m.s, .int .i64 m.i] 43)
  have e3 := e2.alloc (by simp; omega) (.cells #[.int .u16 0, .slice none 0 0] 35)
  have r2 := ((RtB.new w s a n c).on ((Below.refl _ _).alloc (Nat.le_refl _) (.cells #[.int .u16 m.n, .int .u8 m.s, .int .i64 m.i] 43))).on ((Below.refl _ _).alloc (Nat.le_refl _) (.cells #[.int .u16 0, .slice none 0 0] 35))
  have b3 := (Mb.new2 w (.cells #[.int .u16 s, .slice a n c] 35) m).on ((Below.refl _ _).alloc (Nat.le_refl _) (.cells #[.int .u16 0, .slice none 0 0] 35))
  have r4 := RtB.new ((w.alloc (.cells #[.int .u16 s, .slice a n c] 35)).alloc (.cells #[.int .u16 m.n, .int .u8 m.s, .int .i64 m.i] 43)) 0 none 0 0
  have hn1 : n ≤ 10000 := by omega
  have HN := Lib.hid hn
  have HM := Lib.hid (hM.on e3)
  have HQ := Lib.hid (And.intro e3 (And.intro r2 (And.intro b3 r4)))
  clear hM hn hl e1 e2 e3 r2 b3 r4
  obtain ⟨mn, ms, mi⟩ := m
  dsimp only at HQ HM ⊢
  unfold SetPost
  obtain ⟨G, hG⟩ : ∃ G, G = setGo ⟨mn, ms, mi⟩ L false := ⟨_, rfl⟩
  rw [← hG]
  replace hG := Lib.hid hG
  simp only [World.size_alloc] at HQ
  go_enter Try.func45, Try.ntmps45
  go_wp2_with fail
  generalize ((w.alloc (.cells #[.int .u16 s, .slice a n c] 35)).alloc (.cells #[.int .u16 mn, .int .u8 ms, .int .i64 mi] 43)).alloc (.cells #[.int .u16 0, .slice none 0 0] 35) = W at *
  have HC : Hid (∀ u, Below W.heap.size W u → RtB u w.heap.size s a n c ∧ Mb u (w.heap.size + 1) ⟨mn, ms, mi⟩ ∧ RtB u (w.heap.size + 1 + 1) 0 none 0 0 ∧ MemsAt u a L ∧ Below w.heap.size w u) := Lib.hid (fun u hu => ⟨HQ.out.2.1.on hu, HQ.out.2.2.1.on hu, HQ.out.2.2.2.on hu, HM.out.on hu, HQ.out.1.trans (hu.mono HQ.out.1.size)⟩)
  have HSz2 : Hid (w.heap.size + 3 ≤ W.heap.size) := Lib.hid (by have := HQ.out.2.2.2.lt; omega)
  clear HQ HM
  go_wp2
  go_loopw [5, 6, 7] (fun v dv x wr => ∃ (i : Nat) (a5 : Option Addr) (n5 c5 : Nat) (d : Bool), i ≤ n ∧ x = .int .i64 (i : Int) ∧ v = .slice a5 n5 c5 ∧ dv = .bool d ∧ Hid (OwnMx wr W.heap.size (.slice a5 n5 c5) (setP ⟨mn, ms, mi⟩ (L.take i) false) ∧ d = setD ⟨mn, ms, mi⟩ (L.take i) false ∧ Below W.heap.size W wr)) (fun _ _ x _ => n - (intOf x).toNat)
  case atStart => exact ⟨0, none, 0, 0, false, Nat.zero_le _, rfl, rfl, rfl, Lib.hid ⟨OwnMx.nil _ _, rfl, Below.refl _ _⟩⟩
  case round =>
    obtain ⟨i, a5, n5, c5, d, hi, rfl, rfl, rfl, HS⟩ := hrel
    obtain ⟨r2, b3, -, hm, -⟩ := HC.out _ HS.out.2.2
    have c0 := r2.c0; have c1 := r2.c1
    have m0 := b3.c0; have m1 := b3.c1; have m2 := b3.c2
    dsimp only at m0 m1 m2
    by_cases hlt : i < n
    case neg =>
      have hkl : ¬ (i : Int) < (n : Int) := by omega
      have HO : Hid (OwnMx wr W.heap.size (.slice a5 n5 c5) (setP ⟨mn, ms, mi⟩ L false) ∧ G = setP ⟨mn, ms, mi⟩ L false ++ (if d = true then [] else [⟨mn, ms, mi⟩])) := Lib.hid (by
        have e : L.take i = L := List.take_of_length_le (by have := HN.out; omega)
        have h1 := HS.out.1
        have h2 := HS.out.2.1
        rw [e] at h1 h2
        exact ⟨h1, by rw [h2]; exact hG.out.trans (setGo_eq _ _ _)⟩)
      have HB := Lib.hid HS.out.2.2
      have hlen : (setP ⟨mn, ms, mi⟩ L false).length ≤ 20000 := by have := setP_len ⟨mn, ms, mi⟩ L false; have := HN.out; omega
      clear HS r2 b3 hm hi hlt
      clear hG
      generalize setP ⟨mn, ms, mi⟩ L false = acc at *

      cases d with
      | true =>
        rw [if_pos rfl, List.append_nil] at HO
        obtain ⟨r2, -, r4, -, hb4⟩ := HC.out _ HB.out
        have c0 := r2.c0
        have HS4 := Lib.hid (And.intro (r4.store s a5 n5 c5) (And.intro (stR_below (B := w.heap.size + 1 + 1) hb4 (by omega) s a5 n5 c5) (stR_grown wr (w.heap.size + 1 + 1) s a5 n5 c5)))
        have z0 := r4.c0; have z1 := r4.c1; have zf := r4.f
        have HNn : Hid (n5 = G.length ∧ OwnMx (stR wr (w.heap.size + 1 + 1) s a5 n5 c5) w.heap.size (.slice a5 n5 c5) G) := Lib.hid (by
          obtain ⟨x, y, e, -, -, -⟩ := HO.out.1.form
          simp only [Value.slice.injEq] at e
          refine ⟨by rw [HO.out.2]; exact e.2.1, ?_⟩
          rw [HO.out.2]
          exact (HO.out.1.turn HS4.out.2.2 (by have := HSz2.out; omega)).base (by have := HSz2.out; omega))
        clear r2 r4 hb4 HO
        go_wp2
        exact bodyPost_ret (results_rt1 rfl _ _ _ rfl HS4.out.1) rfl ⟨a5, n5, c5, rfl, HNn.out.1, HNn.out.2, HS4.out.2.1⟩
      | false =>
        rw [if_neg (by simp)] at HO
        have HSze : Hid (W.heap.size ≤ wr.heap.size) := Lib.hid HB.out.size
        have HLne : Hid (acc.length ≤ 20000) := Lib.hid hlen
        obtain ⟨ie, hie, hje, hke, hle⟩ := infoM
        have howne : wr.ownsRow W.heap.size 43 3 (.slice a5 n5 c5) acc.length (cellsMx acc) := HO.out.1
        have hsze : W.heap.size ≤ wr.heap.size := HSze.out
        have hlne := HLne.out
        go_wp2_with (at_builtin; refine wpList_append_own _ rfl _ _ 33 rfl W.heap.size 43 ie _ 3 16 Try.underlying33 hie hje hke hle rfl (by decide) _ _ _ rfl (World.ownsRow.alloc howne _) ⟨wr.heap.size, 0, none⟩ 1 1 [.int .u16 mn, .int .u8 ms, .int .i64 mi] rfl rfl (World.news_of_block (cs := #[.int .u16 mn, .int .u8 ms, .int .i64 mi]) (newE _ _)) (by intro u' hu'; simp at hu'; rcases hu' with rfl | rfl | rfl <;> rfl) (by unfold maxLen; omega) (by omega) (by simp; omega) ?_; refine Hid.out ?_)
        refine Lib.hid ?_
        intro ve we hwe hge _
        have hAe : OwnMx we W.heap.size ve (acc ++ [⟨mn, ms, mi⟩]) := OwnMx.push hwe
        obtain ⟨ae, cex, rfl, -, -, -⟩ := hAe.form
        have hbe : ∀ j, ((.slice a5 n5 c5) : Value).ownBlock = some j → W.heap.size ≤ j := fun j hj => (World.ownsRow.lt howne j hj).1
        have se : Below W.heap.size wr we := (((Below.refl wr.heap.size wr).alloc (Nat.le_refl _) (.cells #[.int .u16 mn, .int .u8 ms, .int .i64 mi] 43)).mono hsze).grown hge (by simp; omega) (fun j hj => hbe j hj)
        replace hAe := Lib.hid hAe
        replace se := Lib.hid se
        have HSzen : Hid (W.heap.size ≤ we.heap.size) := Lib.hid (Nat.le_trans hsze se.out.size)
        have HLnen : Hid ((acc ++ [(⟨mn, ms, mi⟩ : Mem)]).length ≤ 20003) := Lib.hid (by rw [List.length_append]; simp; omega)
        clear hbe hge hwe howne hie hje hke hle hsze hlne
        have HBe := Lib.hid (HB.out.trans se.out)
        have HGe : Hid (OwnMx we W.heap.size (.slice ae (acc ++ [(⟨mn, ms, mi⟩ : Mem)]).length cex) G ∧ (acc ++ [(⟨mn, ms, mi⟩ : Mem)]).length = G.length) := Lib.hid (by rw [HO.out.2]; exact ⟨hAe.out, rfl⟩)
        clear HO hAe HLnen
        generalize (acc ++ [(⟨mn, ms, mi⟩ : Mem)]).length = ne at *
        obtain ⟨r2, -, r4, -, hb4⟩ := HC.out _ HBe.out
        have c0 := r2.c0
        have HS4 := Lib.hid (And.intro (r4.store s ae ne cex) (And.intro (stR_below (B := w.heap.size + 1 + 1) hb4 (by omega) s ae ne cex) (stR_grown we (w.heap.size + 1 + 1) s ae ne cex)))
        have z0 := r4.c0; have z1 := r4.c1; have zf := r4.f
        have HNn : Hid (ne = G.length ∧ OwnMx (stR we (w.heap.size + 1 + 1) s ae ne cex) w.heap.size (.slice ae ne cex) G) := Lib.hid ⟨HGe.out.2, (HGe.out.1.turn HS4.out.2.2 (by have := HSz2.out; omega)).base (by have := HSz2.out; omega)⟩
        clear r2 r4 hb4
        go_wp2
        exact bodyPost_ret (results_rt1 rfl _ _ _ rfl HS4.out.1) rfl ⟨ae, ne, cex, rfl, HNn.out.1, HNn.out.2, HS4.out.2.1⟩
    have hkl : (i : Int) < (n : Int) := by omega
    have hkx : i < L.length := by have := HN.out; omega
    obtain ⟨ba, oa, rfl, hba, d0, d1, d2⟩ := hm.cells i hkx
    have HMx : Hid (∀ u, Below W.heap.size W u → u.cell? ⟨ba, oa + i * 3, none⟩ = some (.int .u16 L[i].n) ∧ u.cell? ⟨ba, oa + i * 3 + 1, none⟩ = some (.int .u8 L[i].s) ∧ u.cell? ⟨ba, oa + i * 3 + 2, none⟩ = some (.int .i64 L[i].i)) := Lib.hid (fun u hu => by
      obtain ⟨x, y, e, -, h1, h2, h3⟩ := (HC.out u hu).2.2.2.1.cells i hkx
      obtain ⟨rfl, rfl⟩ : ba = x ∧ oa = y := by cases e; exact ⟨rfl, rfl⟩
      exact ⟨h1, h2, h3⟩)
    have HT1 := Lib.hid (setP_snoc ⟨mn, ms, mi⟩ L[i] (L.take i) false)
    have HT2 := Lib.hid (setD_snoc ⟨mn, ms, mi⟩ L[i] (L.take i) false)
    rw [← List.take_succ_eq_append_getElem hkx, ← HS.out.2.1] at HT1 HT2
    have hlen : (setP ⟨mn, ms, mi⟩ (L.take i) false).length ≤ 20000 := by
      have h1 := setP_len ⟨mn, ms, mi⟩ (L.take i) false
      have h3 : (L.take i).length ≤ L.length := by rw [List.length_take]; omega
      have := HN.out
      omega
    generalize L[i] = x at *
    obtain ⟨xn, xs, xi⟩ := x
    dsimp only at d0 d1 d2 HMx HT1 HT2
    have HO := Lib.hid HS.out.1
    have HB := Lib.hid HS.out.2.2
    have HSzm : Hid (W.heap.size ≤ wr.heap.size) := Lib.hid HB.out.size
    have HLnm : Hid ((setP ⟨mn, ms, mi⟩ (L.take i) false).length ≤ 20000) := Lib.hid hlen
    generalize setP ⟨mn, ms, mi⟩ (L.take i) false = acc at *
    clear HS r2 b3 hm hkx hlen
    cases d with
    | true =>
      by_cases hxm : mn = xn
      · subst hxm
        rw [if_neg (by rintro ⟨h1, h2⟩; cases h1), if_pos rfl] at HT1
        have HDn : Hid (Bool.true = setD ⟨mn, ms, mi⟩ (L.take (i + 1)) false) := Lib.hid (by rw [HT2.out]; simp)
        clear HT2
        go_wp2_with fail
        go_quiet (fail)
        have hDwd := Lib.hid (below_drewM wr nq)
        generalize wr.drewN nq = wd at *
        replace HO := Lib.hid (HO.out.on hDwd.out)
        replace HB := Lib.hid (HB.out.trans (hDwd.out.mono HB.out.size))
        replace HSzm : Hid (W.heap.size ≤ wd.heap.size) := Lib.hid HB.out.size
        clear c0 c1 m0 m1 m2 d0 d1 d2
        obtain ⟨r2, b3, -, -, -⟩ := HC.out _ HB.out
        have c0 := r2.c0; have c1 := r2.c1
        have m0 := b3.c0; have m1 := b3.c1; have m2 := b3.c2
        obtain ⟨d0, d1, d2⟩ := HMx.out _ HB.out
        dsimp only at m0 m1 m2
        clear r2 b3
        replace HT1 := Lib.hid (HT1.out.trans (by simp : _ = acc ++ []))
        go_wp2_with fail
        go_quiet (fail)
        have hDwe := Lib.hid (below_drewM wd nq)
        generalize wd.drewN nq = we at *
        have HOe := Lib.hid ((HO.out).on hDwe.out)
        replace HB := Lib.hid (HB.out.trans (hDwe.out.mono HB.out.size))
        clear c0 c1 m0 m1 m2 d0 d1 d2
        obtain ⟨r2, b3, -, -, -⟩ := HC.out _ HB.out
        have c0 := r2.c0; have c1 := r2.c1
        have m0 := b3.c0; have m1 := b3.c1; have m2 := b3.c2
        obtain ⟨d0, d1, d2⟩ := HMx.out _ HB.out
        dsimp only at m0 m1 m2
        clear r2 b3
        have HST : Hid (OwnMx we W.heap.size (.slice a5 n5 c5) (setP ⟨mn, ms, mi⟩ (L.take (i + 1)) false) ∧ Bool.true = setD ⟨mn, ms, mi⟩ (L.take (i + 1)) false ∧ Below W.heap.size W we) := Lib.hid ⟨by rw [HT1.out, List.append_nil]; exact HOe.out, HDn.out, HB.out⟩
        clear HT1 HDn HB HOe c0 c1 m0 m1 m2 d0 d1 d2
        go_wp2
        go_roundw
        case rel => exact ⟨i + 1, _, _, _, _, by omega, by go_num, rfl, rfl, HST⟩
        case measure => simp [intOf]; omega
      · replace hxm : ¬ xn = mn := fun e => hxm e.symm
        have hxm1 : (xn == mn) = false := by simpa using hxm
        rw [if_neg (by rintro ⟨h1, h2⟩; cases h1), if_neg hxm] at HT1
        have HDn : Hid (Bool.true = setD ⟨mn, ms, mi⟩ (L.take (i + 1)) false) := Lib.hid (by rw [HT2.out]; simp)
        clear HT2
        go_wp2_with fail
        go_quiet (fail)
        have hDwd := Lib.hid (below_drewM wr nq)
        generalize wr.drewN nq = wd at *
        replace HO := Lib.hid (HO.out.on hDwd.out)
        replace HB := Lib.hid (HB.out.trans (hDwd.out.mono HB.out.size))
        replace HSzm : Hid (W.heap.size ≤ wd.heap.size) := Lib.hid HB.out.size
        clear c0 c1 m0 m1 m2 d0 d1 d2
        obtain ⟨r2, b3, -, -, -⟩ := HC.out _ HB.out
        have c0 := r2.c0; have c1 := r2.c1
        have m0 := b3.c0; have m1 := b3.c1; have m2 := b3.c2
        obtain ⟨d0, d1, d2⟩ := HMx.out _ HB.out
        dsimp only at m0 m1 m2
        clear r2 b3
        replace HT1 := Lib.hid (HT1.out.trans (by simp : _ = acc ++ [(⟨xn, xs, xi⟩ : Mem)]))
        go_wp2_with fail
        go_quiet (fail)
        have hDwe := Lib.hid (below_drewM wd nq)
        generalize wd.drewN nq = we at *
        have HOe := Lib.hid ((HO.out).on hDwe.out)
        replace HB := Lib.hid (HB.out.trans (hDwe.out.mono HB.out.size))
        clear c0 c1 m0 m1 m2 d0 d1 d2
        obtain ⟨r2, b3, -, -, -⟩ := HC.out _ HB.out
        have c0 := r2.c0; have c1 := r2.c1
        have m0 := b3.c0; have m1 := b3.c1; have m2 := b3.c2
        obtain ⟨d0, d1, d2⟩ := HMx.out _ HB.out
        dsimp only at m0 m1 m2
        clear r2 b3
        have HSzx : Hid (W.heap.size ≤ we.heap.size) := Lib.hid HB.out.size
        have HLnx := HLnm
        obtain ⟨ix, hix, hjx, hkx, hlx⟩ := infoM
        have hownx : we.ownsRow W.heap.size 43 3 (.slice a5 n5 c5) acc.length (cellsMx acc) := HOe.out
        have hszx : W.heap.size ≤ we.heap.size := HSzx.out
        have hlnx := HLnx.out
        go_wp2_with (at_builtin; refine wpList_append_own _ rfl _ _ 33 rfl W.heap.size 43 ix _ 3 16 Try.underlying33 hix hjx hkx hlx rfl (by decide) _ _ _ rfl (World.ownsRow.alloc hownx _) ⟨we.heap.size, 0, none⟩ 1 1 [.int .u16 xn, .int .u8 xs, .int .i64 xi] rfl rfl (World.news_of_block (cs := #[.int .u16 xn, .int .u8 xs, .int .i64 xi]) (newE _ _)) (by intro u' hu'; simp at hu'; rcases hu' with rfl | rfl | rfl <;> rfl) (by unfold maxLen; omega) (by omega) (by simp; omega) ?_; refine Hid.out ?_)
        refine Lib.hid ?_
        intro vx wx hwx hgx _
        have hAx : OwnMx wx W.heap.size vx (acc ++ [⟨xn, xs, xi⟩]) := OwnMx.push hwx
        obtain ⟨ax, cxx, rfl, -, -, -⟩ := hAx.form
        have hbx : ∀ j, ((.slice a5 n5 c5) : Value).ownBlock = some j → W.heap.size ≤ j := fun j hj => (World.ownsRow.lt hownx j hj).1
        have sx : Below W.heap.size we wx := (((Below.refl we.heap.size we).alloc (Nat.le_refl _) (.cells #[.int .u16 xn, .int .u8 xs, .int .i64 xi] 43)).mono hszx).grown hgx (by simp; omega) (fun j hj => hbx j hj)
        replace hAx := Lib.hid hAx
        replace sx := Lib.hid sx
        have HSzxn : Hid (W.heap.size ≤ wx.heap.size) := Lib.hid (Nat.le_trans hszx sx.out.size)
        have HLnxn : Hid ((acc ++ [(⟨xn, xs, xi⟩ : Mem)]).length ≤ 20003) := Lib.hid (by rw [List.length_append]; simp; omega)
        clear hbx hgx hwx hownx hix hjx hkx hlx hszx hlnx
        have HST : Hid (OwnMx wx W.heap.size (.slice ax (acc ++ [(⟨xn, xs, xi⟩ : Mem)]).length cxx) (setP ⟨mn, ms, mi⟩ (L.take (i + 1)) false) ∧ Bool.true = setD ⟨mn, ms, mi⟩ (L.take (i + 1)) false ∧ Below W.heap.size W wx) := Lib.hid ⟨by rw [HT1.out]; exact hAx.out, HDn.out, HB.out.trans sx.out⟩
        clear HT1 HDn hAx sx HB HOe HLnxn c0 c1 m0 m1 m2 d0 d1 d2
        generalize (acc ++ [(⟨xn, xs, xi⟩ : Mem)]).length = n9 at *
        go_wp2
        go_roundw
        case rel => exact ⟨i + 1, _, _, _, _, by omega, by go_num, rfl, rfl, HST⟩
        case measure => simp [intOf]; omega
    | false =>
      by_cases hle : mn ≤ xn
      · skip
        by_cases hxm : mn = xn
        · subst hxm
          rw [if_pos ⟨rfl, hle⟩, if_pos rfl] at HT1
          have HDn : Hid (Bool.true = setD ⟨mn, ms, mi⟩ (L.take (i + 1)) false) := Lib.hid (by rw [HT2.out]; first | (simp; done) | simp [hle])
          clear HT2
          go_wp2_with fail
          go_quiet (fail)
          have hDwd := Lib.hid (below_drewM wr nq)
          generalize wr.drewN nq = wd at *
          replace HO := Lib.hid (HO.out.on hDwd.out)
          replace HB := Lib.hid (HB.out.trans (hDwd.out.mono HB.out.size))
          replace HSzm : Hid (W.heap.size ≤ wd.heap.size) := Lib.hid HB.out.size
          clear c0 c1 m0 m1 m2 d0 d1 d2
          obtain ⟨r2, b3, -, -, -⟩ := HC.out _ HB.out
          have c0 := r2.c0; have c1 := r2.c1
          have m0 := b3.c0; have m1 := b3.c1; have m2 := b3.c2
          obtain ⟨d0, d1, d2⟩ := HMx.out _ HB.out
          dsimp only at m0 m1 m2
          clear r2 b3
          obtain ⟨im, him, hjm, hkm, hlm⟩ := infoM
          have hownm : wd.ownsRow W.heap.size 43 3 (.slice a5 n5 c5) acc.length (cellsMx acc) := HO.out
          have hszm : W.heap.size ≤ wd.heap.size := HSzm.out
          have hlnm := HLnm.out
          go_wp2_with (at_builtin; refine wpList_append_own _ rfl _ _ 33 rfl W.heap.size 43 im _ 3 16 Try.underlying33 him hjm hkm hlm rfl (by decide) _ _ _ rfl (World.ownsRow.alloc hownm _) ⟨wd.heap.size, 0, none⟩ 1 1 [.int .u16 mn, .int .u8 ms, .int .i64 mi] rfl rfl (World.news_of_block (cs := #[.int .u16 mn, .int .u8 ms, .int .i64 mi]) (newE _ _)) (by intro u' hu'; simp at hu'; rcases hu' with rfl | rfl | rfl <;> rfl) (by unfold maxLen; omega) (by omega) (by simp; omega) ?_; refine Hid.out ?_)
          refine Lib.hid ?_
          intro vm wm hwm hgm _
          have hAm : OwnMx wm W.heap.size vm (acc ++ [⟨mn, ms, mi⟩]) := OwnMx.push hwm
          obtain ⟨am, cmx, rfl, -, -, -⟩ := hAm.form
          have hbm : ∀ j, ((.slice a5 n5 c5) : Value).ownBlock = some j → W.heap.size ≤ j := fun j hj => (World.ownsRow.lt hownm j hj).1
          have sm : Below W.heap.size wd wm := (((Below.refl wd.heap.size wd).alloc (Nat.le_refl _) (.cells #[.int .u16 mn, .int .u8 ms, .int .i64 mi] 43)).mono hszm).grown hgm (by simp; omega) (fun j hj => hbm j hj)
          replace hAm := Lib.hid hAm
          replace sm := Lib.hid sm
          have HSzmn : Hid (W.heap.size ≤ wm.heap.size) := Lib.hid (Nat.le_trans hszm sm.out.size)
          have HLnmn : Hid ((acc ++ [(⟨mn, ms, mi⟩ : Mem)]).length ≤ 20003) := Lib.hid (by rw [List.length_append]; simp; omega)
          clear hbm hgm hwm hownm him hjm hkm hlm hszm hlnm
          replace HB := Lib.hid (HB.out.trans sm.out)
          clear c0 c1 m0 m1 m2 d0 d1 d2 HO sm
          obtain ⟨r2, b3, -, -, -⟩ := HC.out _ HB.out
          have c0 := r2.c0; have c1 := r2.c1
          have m0 := b3.c0; have m1 := b3.c1; have m2 := b3.c2
          obtain ⟨d0, d1, d2⟩ := HMx.out _ HB.out
          dsimp only at m0 m1 m2
          clear r2 b3
          replace HT1 := Lib.hid (HT1.out.trans (by simp : _ = (acc ++ [(⟨mn, ms, mi⟩ : Mem)]) ++ []))
          generalize acc ++ [(⟨mn, ms, mi⟩ : Mem)] = acc2 at *
          generalize hn2 : acc2.length = n2 at *
          replace hn2 := Lib.hid hn2
          go_wp2_with fail
          go_quiet (fail)
          have hDwe := Lib.hid (below_drewM wm nq)
          generalize wm.drewN nq = we at *
          have HOe := Lib.hid ((hAm.out).on hDwe.out)
          replace HB := Lib.hid (HB.out.trans (hDwe.out.mono HB.out.size))
          clear c0 c1 m0 m1 m2 d0 d1 d2
          obtain ⟨r2, b3, -, -, -⟩ := HC.out _ HB.out
          have c0 := r2.c0; have c1 := r2.c1
          have m0 := b3.c0; have m1 := b3.c1; have m2 := b3.c2
          obtain ⟨d0, d1, d2⟩ := HMx.out _ HB.out
          dsimp only at m0 m1 m2
          clear r2 b3
          have HST : Hid (OwnMx we W.heap.size (.slice am n2 cmx) (setP ⟨mn, ms, mi⟩ (L.take (i + 1)) false) ∧ Bool.true = setD ⟨mn, ms, mi⟩ (L.take (i + 1)) false ∧ Below W.heap.size W we) := Lib.hid ⟨by rw [HT1.out, List.append_nil]; exact HOe.out, HDn.out, HB.out⟩
          clear HT1 HDn HB HOe c0 c1 m0 m1 m2 d0 d1 d2
          go_wp2
          go_roundw
          case rel => exact ⟨i + 1, _, _, _, _, by omega, by go_num, rfl, rfl, HST⟩
          case measure => simp [intOf]; omega
        · replace hxm : ¬ xn = mn := fun e => hxm e.symm
          have hxm1 : (xn == mn) = false := by simpa using hxm
          rw [if_pos ⟨rfl, hle⟩, if_neg hxm] at HT1
          have HDn : Hid (Bool.true = setD ⟨mn, ms, mi⟩ (L.take (i + 1)) false) := Lib.hid (by rw [HT2.out]; first | (simp; done) | simp [hle])
          clear HT2
          go_wp2_with fail
          go_quiet (fail)
          have hDwd := Lib.hid (below_drewM wr nq)
          generalize wr.drewN nq = wd at *
          replace HO := Lib.hid (HO.out.on hDwd.out)
          replace HB := Lib.hid (HB.out.trans (hDwd.out.mono HB.out.size))
          replace HSzm : Hid (W.heap.size ≤ wd.heap.size) := Lib.hid HB.out.size
          clear c0 c1 m0 m1 m2 d0 d1 d2
          obtain ⟨r2, b3, -, -, -⟩ := HC.out _ HB.out
          have c0 := r2.c0; have c1 := r2.c1
          have m0 := b3.c0; have m1 := b3.c1; have m2 := b3.c2
          obtain ⟨d0, d1, d2⟩ := HMx.out _ HB.out
          dsimp only at m0 m1 m2
          clear r2 b3
          obtain ⟨im, him, hjm, hkm, hlm⟩ := infoM
          have hownm : wd.ownsRow W.heap.size 43 3 (.slice a5 n5 c5) acc.length (cellsMx acc) := HO.out
          have hszm : W.heap.size ≤ wd.heap.size := HSzm.out
          have hlnm := HLnm.out
          go_wp2_with (at_builtin; refine wpList_append_own _ rfl _ _ 33 rfl W.heap.size 43 im _ 3 16 Try.underlying33 him hjm hkm hlm rfl (by decide) _ _ _ rfl (World.ownsRow.alloc hownm _) ⟨wd.heap.size, 0, none⟩ 1 1 [.int .u16 mn, .int .u8 ms, .int .i64 mi] rfl rfl (World.news_of_block (cs := #[.int .u16 mn, .int .u8 ms, .int .i64 mi]) (newE _ _)) (by intro u' hu'; simp at hu'; rcases hu' with rfl | rfl | rfl <;> rfl) (by unfold maxLen; omega) (by omega) (by simp; omega) ?_; refine Hid.out ?_)
          refine Lib.hid ?_
          intro vm wm hwm hgm _
          have hAm : OwnMx wm W.heap.size vm (acc ++ [⟨mn, ms, mi⟩]) := OwnMx.push hwm
          obtain ⟨am, cmx, rfl, -, -, -⟩ := hAm.form
          have hbm : ∀ j, ((.slice a5 n5 c5) : Value).ownBlock = some j → W.heap.size ≤ j := fun j hj => (World.ownsRow.lt hownm j hj).1
          have sm : Below W.heap.size wd wm := (((Below.refl wd.heap.size wd).alloc (Nat.le_refl _) (.cells #[.int .u16 mn, .int .u8 ms, .int .i64 mi] 43)).mono hszm).grown hgm (by simp; omega) (fun j hj => hbm j hj)
          replace hAm := Lib.hid hAm
          replace sm := Lib.hid sm
          have HSzmn : Hid (W.heap.size ≤ wm.heap.size) := Lib.hid (Nat.le_trans hszm sm.out.size)
          have HLnmn : Hid ((acc ++ [(⟨mn, ms, mi⟩ : Mem)]).length ≤ 20003) := Lib.hid (by rw [List.length_append]; simp; omega)
          clear hbm hgm hwm hownm him hjm hkm hlm hszm hlnm
          replace HB := Lib.hid (HB.out.trans sm.out)
          clear c0 c1 m0 m1 m2 d0 d1 d2 HO sm
          obtain ⟨r2, b3, -, -, -⟩ := HC.out _ HB.out
          have c0 := r2.c0; have c1 := r2.c1
          have m0 := b3.c0; have m1 := b3.c1; have m2 := b3.c2
          obtain ⟨d0, d1, d2⟩ := HMx.out _ HB.out
          dsimp only at m0 m1 m2
          clear r2 b3
          replace HT1 := Lib.hid (HT1.out.trans (by simp : _ = (acc ++ [(⟨mn, ms, mi⟩ : Mem)]) ++ [(⟨xn, xs, xi⟩ : Mem)]))
          generalize acc ++ [(⟨mn, ms, mi⟩ : Mem)] = acc2 at *
          generalize hn2 : acc2.length = n2 at *
          replace hn2 := Lib.hid hn2
          go_wp2_with fail
          go_quiet (fail)
          have hDwe := Lib.hid (below_drewM wm nq)
          generalize wm.drewN nq = we at *
          have HOe := Lib.hid ((hAm.out).on hDwe.out)
          replace HB := Lib.hid (HB.out.trans (hDwe.out.mono HB.out.size))
          clear c0 c1 m0 m1 m2 d0 d1 d2
          obtain ⟨r2, b3, -, -, -⟩ := HC.out _ HB.out
          have c0 := r2.c0; have c1 := r2.c1
          have m0 := b3.c0; have m1 := b3.c1; have m2 := b3.c2
          obtain ⟨d0, d1, d2⟩ := HMx.out _ HB.out
          dsimp only at m0 m1 m2
          clear r2 b3
          have HSzx : Hid (W.heap.size ≤ we.heap.size) := Lib.hid HB.out.size
          have HLnx : Hid (acc2.length ≤ 20003) := Lib.hid (by have := HLnmn.out; have := hn2.out; omega)
          have HOe2 : Hid (we.ownsRow W.heap.size 43 3 (.slice am n2 cmx) acc2.length (cellsMx acc2)) := Lib.hid HOe.out
          obtain ⟨ix, hix, hjx, hkx, hlx⟩ := infoM
          have hownx : we.ownsRow W.heap.size 43 3 (.slice am n2 cmx) acc2.length (cellsMx acc2) := HOe.out
          have hszx : W.heap.size ≤ we.heap.size := HSzx.out
          have hlnx := HLnx.out
          go_wp2_with (at_builtin; refine wpList_append_own _ rfl _ _ 33 rfl W.heap.size 43 ix _ 3 16 Try.underlying33 hix hjx hkx hlx rfl (by decide) _ _ _ rfl (World.ownsRow.alloc hownx _) ⟨we.heap.size, 0, none⟩ 1 1 [.int .u16 xn, .int .u8 xs, .int .i64 xi] rfl rfl (World.news_of_block (cs := #[.int .u16 xn, .int .u8 xs, .int .i64 xi]) (newE _ _)) (by intro u' hu'; simp at hu'; rcases hu' with rfl | rfl | rfl <;> rfl) (by unfold maxLen; omega) (by omega) (by simp; omega) ?_; refine Hid.out ?_)
          refine Lib.hid ?_
          intro vx wx hwx hgx _
          have hAx : OwnMx wx W.heap.size vx (acc2 ++ [⟨xn, xs, xi⟩]) := OwnMx.push hwx
          obtain ⟨ax, cxx, rfl, -, -, -⟩ := hAx.form
          have hbx : ∀ j, ((.slice am n2 cmx) : Value).ownBlock = some j → W.heap.size ≤ j := fun j hj => (World.ownsRow.lt hownx j hj).1
          have sx : Below W.heap.size we wx := (((Below.refl we.heap.size we).alloc (Nat.le_refl _) (.cells #[.int .u16 xn, .int .u8 xs, .int .i64 xi] 43)).mono hszx).grown hgx (by simp; omega) (fun j hj => hbx j hj)
          replace hAx := Lib.hid hAx
          replace sx := Lib.hid sx
          have HSzxn : Hid (W.heap.size ≤ wx.heap.size) := Lib.hid (Nat.le_trans hszx sx.out.size)
          have HLnxn : Hid ((acc2 ++ [(⟨xn, xs, xi⟩ : Mem)]).length ≤ 20009) := Lib.hid (by rw [List.length_append]; simp; omega)
          clear hbx hgx hwx hownx hix hjx hkx hlx hszx hlnx
          have HST : Hid (OwnMx wx W.heap.size (.slice ax (acc2 ++ [(⟨xn, xs, xi⟩ : Mem)]).length cxx) (setP ⟨mn, ms, mi⟩ (L.take (i + 1)) false) ∧ Bool.true = setD ⟨mn, ms, mi⟩ (L.take (i + 1)) false ∧ Below W.heap.size W wx) := Lib.hid ⟨by rw [HT1.out]; exact hAx.out, HDn.out, HB.out.trans sx.out⟩
          clear HT1 HDn hAx sx HB HOe HLnxn c0 c1 m0 m1 m2 d0 d1 d2
          generalize (acc2 ++ [(⟨xn, xs, xi⟩ : Mem)]).length = n9 at *
          go_wp2
          go_roundw
          case rel => exact ⟨i + 1, _, _, _, _, by omega, by go_num, rfl, rfl, HST⟩
          case measure => simp [intOf]; omega
      · have hle2 : decide (mn ≤ xn) = false := decide_eq_false hle
        have hxm : ¬ xn = mn := by omega
        have hxm1 : (xn == mn) = false := by simpa using hxm
        rw [if_neg (by rintro ⟨h1, h2⟩; exact hle h2), if_neg hxm] at HT1
        have HDn : Hid (Bool.false = setD ⟨mn, ms, mi⟩ (L.take (i + 1)) false) := Lib.hid (by rw [HT2.out]; first | (simp; done) | simp [hle])
        clear HT2
        go_wp2_with fail
        go_quiet (fail)
        have hDwd := Lib.hid (below_drewM wr nq)
        generalize wr.drewN nq = wd at *
        replace HO := Lib.hid (HO.out.on hDwd.out)
        replace HB := Lib.hid (HB.out.trans (hDwd.out.mono HB.out.size))
        replace HSzm : Hid (W.heap.size ≤ wd.heap.size) := Lib.hid HB.out.size
        clear c0 c1 m0 m1 m2 d0 d1 d2
        obtain ⟨r2, b3, -, -, -⟩ := HC.out _ HB.out
        have c0 := r2.c0; have c1 := r2.c1
        have m0 := b3.c0; have m1 := b3.c1; have m2 := b3.c2
        obtain ⟨d0, d1, d2⟩ := HMx.out _ HB.out
        dsimp only at m0 m1 m2
        clear r2 b3
        replace HT1 := Lib.hid (HT1.out.trans (by simp : _ = acc ++ [(⟨xn, xs, xi⟩ : Mem)]))
        go_wp2_with fail
        go_quiet (fail)
        have hDwe := Lib.hid (below_drewM wd nq)
        generalize wd.drewN nq = we at *
        have HOe := Lib.hid ((HO.out).on hDwe.out)
        replace HB := Lib.hid (HB.out.trans (hDwe.out.mono HB.out.size))
        clear c0 c1 m0 m1 m2 d0 d1 d2
        obtain ⟨r2, b3, -, -, -⟩ := HC.out _ HB.out
        have c0 := r2.c0; have c1 := r2.c1
        have m0 := b3.c0; have m1 := b3.c1; have m2 := b3.c2
        obtain ⟨d0, d1, d2⟩ := HMx.out _ HB.out
        dsimp only at m0 m1 m2
        clear r2 b3
        have HSzx : Hid (W.heap.size ≤ we.heap.size) := Lib.hid HB.out.size
        have HLnx := HLnm
        obtain ⟨ix, hix, hjx, hkx, hlx⟩ := infoM
        have hownx : we.ownsRow W.heap.size 43 3 (.slice a5 n5 c5) acc.length (cellsMx acc) := HOe.out
        have hszx : W.heap.size ≤ we.heap.size := HSzx.out
        have hlnx := HLnx.out
        go_wp2_with (at_builtin; refine wpList_append_own _ rfl _ _ 33 rfl W.heap.size 43 ix _ 3 16 Try.underlying33 hix hjx hkx hlx rfl (by decide) _ _ _ rfl (World.ownsRow.alloc hownx _) ⟨we.heap.size, 0, none⟩ 1 1 [.int .u16 xn, .int .u8 xs, .int .i64 xi] rfl rfl (World.news_of_block (cs := #[.int .u16 xn, .int .u8 xs, .int .i64 xi]) (newE _ _)) (by intro u' hu'; simp at hu'; rcases hu' with rfl | rfl | rfl <;> rfl) (by unfold maxLen; omega) (by omega) (by simp; omega) ?_; refine Hid.out ?_)
        refine Lib.hid ?_
        intro vx wx hwx hgx _
        have hAx : OwnMx wx W.heap.size vx (acc ++ [⟨xn, xs, xi⟩]) := OwnMx.push hwx
        obtain ⟨ax, cxx, rfl, -, -, -⟩ := hAx.form
        have hbx : ∀ j, ((.slice a5 n5 c5) : Value).ownBlock = some j → W.heap.size ≤ j := fun j hj => (World.ownsRow.lt hownx j hj).1
        have sx : Below W.heap.size we wx := (((Below.refl we.heap.size we).alloc (Nat.le_refl _) (.cells #[.int .u16 xn, .int .u8 xs, .int .i64 xi] 43)).mono hszx).grown hgx (by simp; omega) (fun j hj => hbx j hj)
        replace hAx := Lib.hid hAx
        replace sx := Lib.hid sx
        have HSzxn : Hid (W.heap.size ≤ wx.heap.size) := Lib.hid (Nat.le_trans hszx sx.out.size)
        have HLnxn : Hid ((acc ++ [(⟨xn, xs, xi⟩ : Mem)]).length ≤ 20003) := Lib.hid (by rw [List.length_append]; simp; omega)
        clear hbx hgx hwx hownx hix hjx hkx hlx hszx hlnx
        have HST : Hid (OwnMx wx W.heap.size (.slice ax (acc ++ [(⟨xn, xs, xi⟩ : Mem)]).length cxx) (setP ⟨mn, ms, mi⟩ (L.take (i + 1)) false) ∧ Bool.false = setD ⟨mn, ms, mi⟩ (L.take (i + 1)) false ∧ Below W.heap.size W wx) := Lib.hid ⟨by rw [HT1.out]; exact hAx.out, HDn.out, HB.out.trans sx.out⟩
        clear HT1 HDn hAx sx HB HOe HLnxn c0 c1 m0 m1 m2 d0 d1 d2
        generalize (acc ++ [(⟨xn, xs, xi⟩ : Mem)]).length = n9 at *
        go_wp2
        go_roundw
        case rel => exact ⟨i + 1, _, _, _, _, by omega, by go_num, rfl, rfl, HST⟩
        case measure => simp [intOf]; omega

end Go.Proofs.Ytnoconampcemoaa
